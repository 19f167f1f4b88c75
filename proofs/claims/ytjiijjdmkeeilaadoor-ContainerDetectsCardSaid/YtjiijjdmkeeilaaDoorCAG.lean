/-
  The program's checksum, continued over the bytes of a slice, is that of the plain mathematics; so is the specification's.
  A block of bytes that is known whole: what is read of it, a byte stored into it, made anew, copied into.
  The checksum of bytes as a number; the program's functions of layer 1, and the document's, over bytes in memory.
  Plain mathematics of frames: four bytes of a number, a frame, what begins at an offset.
  The text that a slice of bytes converts to.
-/
import Derived.Test.YtjiijjdmkeeilaaDoorCAF
import Derived.Test.YtjiijjdmkeeilaaDoorCAC
import Derived.Laws.CopyOwn
import Derived.Laws.MakeOwn
import Derived.Test.YtjiijjdmkeeilaaDoorCAA
import Derived.Laws.IdiomStrings
namespace Go.Proofs.YtjiijjdmkeeilaaDoor
open Go.RowKit
theorem zero_u32 : Value.int .u32 0 = .int .u32 (iv 0#32) := by rw [iv_ofNat 0 (by decide)]; rfl

/-- the bytes xs lie in the cells of the address ad on -/
structure Lies (w : World) (ad : Option Addr) (xs : List (BitVec 32)) : Prop where
  byte : ∀ j, j < xs.length → iv (xs.getD j 0#32) < 256
  at_ : xs = [] ∨ ∃ b off, ad = some ⟨b, off, none⟩ ∧ b < w.heap.size ∧ ∀ j, j < xs.length → w.cell? ⟨b, off + j, none⟩ = some (.int .u8 (iv (xs.getD j 0#32)))

set_option maxRecDepth 100000 in
set_option maxHeartbeats 1000000 in
theorem upd_any (s : BitVec 32) (ad : Option Addr) (cap : Nat) (xs : List (BitVec 32)) (w : World) (hl : Lies w ad xs) (hm : xs.length ≤ 1152921504606846976) :
    Calls Tryd.prog 69 #[.int .u32 (iv s), .slice ad xs.length cap] w fun e w' => e = .returned (.int .u32 (iv (updB s xs))) ∧
      w' = ((w.alloc (.cells (cellsOf tabB) 113)).alloc (.cells (cellsOf tabB) 113)).alloc (.cells (cellsOf tabB) 113) := by
  have hz := zeroTab
  go_enter Tryd.func69, Tryd.ntmps69
  go_wp2_with fail
  refine (rem_any _).mono ?_
  rintro e w' ⟨rfl, rfl⟩
  go_wp2_with fail
  rw [run_storeCells_last (P := Tryd.prog) _ (w.heap.size + 1 + 1) (by simp) 113 (cellsOf fun _ => 0#32) (cellsOf tabB) (by rw [cellsOf_size, cellsOf_size]) (cellsOf_one _)]
  simp only [Result.andThen]
  rw [Oper.upon_skip]
  clear hz
  clear ‹(cellsOf tabB).size = 256›
  have hnot := bits_not s
  go_wp2
  go_loop [6, 14] (fun vr vk => ∃ k : Nat, k ≤ xs.length ∧ vk = .int .i64 k ∧ vr = .int .u32 (iv (regB (~~~ s) (xs.take k)))) (fun _ i => xs.length - (intOf i).toNat)
  case atStart => exact ⟨0, Nat.zero_le _, rfl, rfl⟩
  case round =>
    obtain ⟨k, hk, rfl, rfl⟩ := hrel
    by_cases hlt : k < xs.length
    · obtain ⟨b, off, rfl, hb, hc⟩ := hl.at_.resolve_left (by intro h; subst h; simp at hlt)
      have hx1 := hl.byte k hlt
      have hx0 := iv_lo (xs.getD k 0#32)
      have hcell := hc k hlt
      clear hc
      obtain ⟨x, hx⟩ : ∃ x, xs.getD k 0#32 = x := ⟨_, rfl⟩
      obtain ⟨R, hR⟩ : ∃ R, regB (~~~ s) (xs.take k) = R := ⟨_, rfl⟩
      rw [hx] at hcell hx0 hx1
      rw [hR]
      have HN : Hid (Value.int .u32 (iv (afterB R x)) = .int .u32 (iv (regB (~~~ s) (xs.take (k + 1))))) := Lib.hid (by rw [regB_take _ _ _ hlt, hR, hx])
      clear hx hR
      have hi := low_xor R x hx1
      have hi2 := lowI_lt R x
      have ht := cellsOf_get tabB (lowI R x) hi2
      have ha := tab_after R x hx1
      have hb1 : b < w.heap.size + 1 := by omega
      have hb2 : b < w.heap.size + 1 + 1 := by omega
      clear hl
      go_wp2
      go_round
      case rel => exact ⟨k + 1, by omega, by go_num, HN.out⟩
      case measure => simp [intOf]; omega
    · obtain rfl : k = xs.length := by omega
      rw [List.take_length]
      go_wp2
      go_ret
      exact ⟨ret_u32 (by rw [bits_not]; rfl), rfl⟩

set_option maxRecDepth 100000 in
set_option maxHeartbeats 1000000 in
theorem sum_any (ad : Option Addr) (cap : Nat) (xs : List (BitVec 32)) (w : World) (hl : Lies w ad xs) (hm : xs.length ≤ 1152921504606846976) :
    Calls Tryd.prog 31 #[.slice ad xs.length cap] w fun e w' => e = .returned (.int .u32 (iv (updB 0#32 xs))) ∧
      w' = ((w.alloc (.cells (cellsOf tabB) 113)).alloc (.cells (cellsOf tabB) 113)).alloc (.cells (cellsOf tabB) 113) := by
  go_enter Tryd.func31, Tryd.ntmps31
  go_wp2_with fail
  rw [zero_u32]
  refine (upd_any 0#32 ad cap xs w hl hm).mono ?_
  rintro e w' ⟨rfl, rfl⟩
  go_wp2
  go_ret
  exact ⟨rfl, rfl⟩

/-! The specification's own. -/
theorem steps_from (r : BitVec 32) (k : Nat) : stepB (stepsB k r) = stepsB (k + 1) r := (stepsB_succ' k r).symm
set_option maxRecDepth 100000 in
set_option maxHeartbeats 400000 in
theorem rafter_any (r x : BitVec 32) (w : World) (hx : iv x < 256) :
    Calls Tryd.prog 96 #[.int .u32 (iv r), .int .u8 (iv x)] w fun e w' => e = .returned (.int .u32 (iv (afterB r x))) ∧ w = w' := by
  have hb := bits_xor_iv r x
  have h0 := iv_lo x
  go_enter Tryd.func96, Tryd.ntmps96
  go_wp2
  go_loop [0, 5] (fun vr vk => ∃ k : Nat, k ≤ 8 ∧ vk = .int .i64 k ∧ vr = .int .u32 (iv (stepsB k (r ^^^ x)))) (fun _ i => 8 - (intOf i).toNat)
  case atStart => exact ⟨0, Nat.zero_le _, rfl, rfl⟩
  case round =>
    obtain ⟨k, hk, rfl, rfl⟩ := hrel
    by_cases hlt : k < 8
    · have HN := Lib.hid (steps_from (r ^^^ x) k)
      go_wp2_with fail
      refine (rstep_any _ _).mono ?_
      rintro e w' ⟨rfl, rfl⟩
      go_wp2
      go_round
      case rel => exact ⟨k + 1, by omega, by go_num, by rw [HN.out]⟩
      case measure => simp [intOf]; omega
    · obtain rfl : k = 8 := by omega
      go_wp2
      go_ret
      exact ⟨rfl, rfl⟩

set_option maxRecDepth 100000 in
set_option maxHeartbeats 1000000 in
theorem rupd_any (s : BitVec 32) (ad : Option Addr) (cap : Nat) (xs : List (BitVec 32)) (w : World) (hl : Lies w ad xs) (hm : xs.length ≤ 1152921504606846976) :
    Calls Tryd.prog 75 #[.int .u32 (iv s), .slice ad xs.length cap] w fun e w' => e = .returned (.int .u32 (iv (updB s xs))) ∧ w = w' := by
  have hnot := bits_not s
  go_enter Tryd.func75, Tryd.ntmps75
  go_wp2
  go_loop [5, 6] (fun vr vk => ∃ k : Nat, k ≤ xs.length ∧ vk = .int .i64 k ∧ vr = .int .u32 (iv (regB (~~~ s) (xs.take k)))) (fun _ i => xs.length - (intOf i).toNat)
  case atStart => exact ⟨0, Nat.zero_le _, rfl, rfl⟩
  case round =>
    obtain ⟨k, hk, rfl, rfl⟩ := hrel
    by_cases hlt : k < xs.length
    · obtain ⟨b, off, rfl, hb, hc⟩ := hl.at_.resolve_left (by intro h; subst h; simp at hlt)
      have hx1 := hl.byte k hlt
      have hx0 := iv_lo (xs.getD k 0#32)
      have hcell := hc k hlt
      clear hc
      obtain ⟨x, hx⟩ : ∃ x, xs.getD k 0#32 = x := ⟨_, rfl⟩
      obtain ⟨R, hR⟩ : ∃ R, regB (~~~ s) (xs.take k) = R := ⟨_, rfl⟩
      rw [hx] at hcell hx0 hx1
      rw [hR]
      have HN : Hid (Value.int .u32 (iv (afterB R x)) = .int .u32 (iv (regB (~~~ s) (xs.take (k + 1))))) := Lib.hid (by rw [regB_take _ _ _ hlt, hR, hx])
      clear hx hR hl
      go_wp2_with fail
      refine (rafter_any _ _ _ hx1).mono ?_
      rintro e w' ⟨rfl, rfl⟩
      go_wp2
      go_round
      case rel => exact ⟨k + 1, by omega, by go_num, HN.out⟩
      case measure => simp [intOf]; omega
    · obtain rfl : k = xs.length := by omega
      rw [List.take_length]
      go_wp2
      go_ret
      exact ⟨ret_u32 (by rw [bits_not]; rfl), rfl⟩

set_option maxRecDepth 100000 in
set_option maxHeartbeats 1000000 in
theorem rsum_any (ad : Option Addr) (cap : Nat) (xs : List (BitVec 32)) (w : World) (hl : Lies w ad xs) (hm : xs.length ≤ 1152921504606846976) :
    Calls Tryd.prog 41 #[.slice ad xs.length cap] w fun e w' => e = .returned (.int .u32 (iv (updB 0#32 xs))) ∧ w = w' := by
  go_enter Tryd.func41, Tryd.ntmps41
  go_wp2_with fail
  rw [zero_u32]
  refine (rupd_any 0#32 ad cap xs w hl hm).mono ?_
  rintro e w' ⟨rfl, rfl⟩
  go_wp2
  go_ret
  exact ⟨rfl, rfl⟩
end Go.Proofs.YtjiijjdmkeeilaaDoor
namespace Go.Proofs.YtjiijjdmkeeilaaDoor
open Go.RowKit

/-- Block g is the cells cs. -/
def Blkc (w : World) (g : Nat) (cs : Array Value) : Prop := w.heap[g]? = some (.cells cs 5 (0, 0))
theorem Blkc.lt {w : World} {g : Nat} {cs : Array Value} (h : Blkc w g cs) : g < w.heap.size := (Array.getElem?_eq_some_iff.1 h).1
theorem Blkc.cell {w : World} {g : Nat} {cs : Array Value} (h : Blkc w g cs) (i : Nat) : w.cell? ⟨g, i, none⟩ = cs[i]? := cell_of_row w g i cs 5 (0, 0) h
theorem Blkc.frozen {w : World} {g : Nat} {cs : Array Value} (h : Blkc w g cs) (i : Nat) : w.frozen? ⟨g, i, none⟩ = false := by
  unfold Blkc at h
  simp [World.frozen?, h]
theorem Blkc.set_ {w : World} {g : Nat} {cs : Array Value} (h : Blkc w g cs) (i : Nat) (u : Value) : Blkc (w.setCell ⟨g, i, none⟩ u) g (cs.setIfInBounds i u) := by
  unfold Blkc at h ⊢
  simp [World.setCell, Array.getElem?_modify, h]
theorem Blkc.below {w w' : World} {g B : Nat} {cs : Array Value} (h : Blkc w g cs) (hb : Below B w w') (hg : g < B) : Blkc w' g cs := (hb.block g hg).trans h

/-- Block g is the bytes R. -/
def Rowu (w : World) (g : Nat) (R : List UInt8) : Prop := Blkc w g (cellsU R).toArray
theorem Rowu.blk {w : World} {g : Nat} {R : List UInt8} (h : Rowu w g R) : Blkc w g (cellsU R).toArray := h
theorem Rowu.cell {w : World} {g : Nat} {R : List UInt8} (h : Rowu w g R) (i : Nat) (hi : i < R.length) : w.cell? ⟨g, i, none⟩ = some (.int .u8 ((R[i]'hi).toNat : Int)) := by
  rw [h.blk.cell i, List.getElem?_toArray]
  exact cellsU_get R i hi
theorem Rowu.set_ {w : World} {g : Nat} {R : List UInt8} (h : Rowu w g R) (i : Nat) (n : Int) (v : UInt8) (hn : n = (v.toNat : Int)) : Rowu (w.setCell ⟨g, i, none⟩ (.int .u8 n)) g (R.set i v) := by
  subst hn
  have := h.blk.set_ i (.int .u8 (v.toNat : Int))
  unfold Rowu
  rwa [List.setIfInBounds_toArray, show (cellsU R).set i (Value.int .u8 (v.toNat : Int)) = cellsU (R.set i v) by simp [cellsU, List.map_set]] at this
theorem Rowu.lie {w : World} {g : Nat} {R : List UInt8} (h : Rowu w g R) : Lie w (some ⟨g, 0, none⟩) R :=
  ⟨.inr ⟨g, 0, rfl, h.blk.lt, fun j hj => by rw [Nat.zero_add]; exact h.cell j hj⟩⟩
theorem Rowu.below {w w' : World} {g B : Nat} {R : List UInt8} (h : Rowu w g R) (hb : Below B w w') (hg : g < B) : Rowu w' g R := h.blk.below hb hg

theorem made_eq (n : Nat) : (madeCells (Value.int .u8 0).cells (n * 1)).toList = cellsU (List.replicate n 0) := by
  apply List.ext_getElem
  · simp [madeCells, cellsU]
  · intro i h1 h2
    simp [madeCells, cellsU, Value.cells, Nat.mod_one]

theorem wpList_make_row {w : World} {ops : Array Oper} {rest : List Oper} {o : Oper} {a : Act} {Q : Exit → Act → World → Prop} (hgd : o.guard = none) (l c : Operand) (hop : o.op = Op.makeSlice 26 l c)
    (L C : Int) (n : Nat) (hl : a.eval l = .int .i64 L) (hc : a.eval c = .int .i64 C) (hL : L = (n : Int)) (hC : C = (n : Int)) (hn : n ≤ 10000000)
    (h : ∀ g w', Rowu w' g (List.replicate n 0) → w.heap.size ≤ g → Below w.heap.size w w' → wpList Tryd.prog ops Q rest (a.put o.dst (.slice (some ⟨g, 0, none⟩) n n)) w') : wpList Tryd.prog ops Q (o :: rest) a w := by
  obtain ⟨i, hi, hz0, hz1, hz2⟩ := info_u
  refine wpList_make_full w hgd l c 26 hop w.heap.size 5 i (.int .u8 0) 1 Tryd.underlying26 hi hz0 hz1 .i64 .i64 L C n hl hc hL hC (by rw [hz2]; omega) (by unfold maxLen; omega) (Nat.le_refl _) (fun w' h2 h3 => ?_)
  refine h _ w' ?_ (Nat.le_refl _) ((Below.refl _ _).grown h3 (Nat.le_refl _) (by simp))
  rcases h2.2 with ⟨h4, _⟩ | ⟨g, cap, cur, h4, _, h5, _, _, h6, h7⟩
  · cases h4
  · cases h4
    rw [made_eq] at h7
    have : cur = (cellsU (List.replicate n 0)).toArray := by
      rw [← h7, List.take_of_length_le (by rw [Array.length_toList, h6]; exact Nat.le_refl _)]
    unfold Rowu Blkc
    rw [← this]
    exact h5

theorem wpList_copy_u {w : World} {ops : Array Oper} {rest : List Oper} {o : Oper} {a : Act} {Q : Exit → Act → World → Prop} (hgd : o.guard = none) (d s : Operand)
    (ho : o.op = .call { callee := .builtin .copy, args := #[d, s], argTypes := #[26, 26] })
    (g dLen dCap : Nat) (hd : a.eval d = .slice (some ⟨g, 0, none⟩) dLen dCap) (ad : Option Addr) (sLen sCap : Nat) (hs : a.eval s = .slice ad sLen sCap) (xs : List UInt8) (hsl : sLen = xs.length) (hl : Lie w ad xs)
    (R : List UInt8) (hR : Rowu w g R) (hdl : dLen = R.length) (hle : xs.length ≤ R.length) (w0 : World) (hb : Below w0.heap.size w0 w) (hBg : w0.heap.size ≤ g)
    (h : ∀ w', Rowu w' g (xs ++ R.drop xs.length) → Below w0.heap.size w0 w' → wpList Tryd.prog ops Q rest (a.put o.dst (goInt xs.length)) w') : wpList Tryd.prog ops Q (o :: rest) a w := by
  subst hsl hdl
  obtain ⟨i, hi, hz0, hz1, hz2⟩ := info_u
  have h1 : (cellsU xs).length = xs.length := cellsU_length xs
  refine wpList_copy_splice hgd d s 26 26 ho 5 Tryd.underlying26 (by rw [hi]; simp [hz1]) _ _ _ _ _ _ hd hs g 0 (cellsU R) 5 hR (cellsU xs)
    (by rw [h1]; exact (Nat.min_eq_left hle).symm) (fun hp => ⟨rfl, ?_⟩) (by rw [h1, cellsU_length]; omega) (cellsU_one xs) w0.heap.size w0 hb hBg (fun w' h2 h3 => ?_)
  · rcases hl.at_ with rfl | ⟨b, off, rfl, _, hc⟩
    · simp [cellsU] at hp
    · refine ⟨_, rfl, fun j v hj => ?_⟩
      have hjx : j < xs.length := by
        have := (List.getElem?_eq_some_iff.1 hj).1
        rwa [h1] at this
      rw [Go.WideShapes.add_plain, hc j hjx]
      rw [cellsU_get xs j hjx] at hj
      exact hj
  · rw [h1]
    refine h w' ?_ h3
    have := h2.out
    unfold Rowu Blkc
    rw [this]
    simp [splice, cellsU, List.map_drop]
end Go.Proofs.YtjiijjdmkeeilaaDoor
namespace Go.Proofs.YtjiijjdmkeeilaaDoor
open Go.RowKit

/-- Bytes as words. -/
def wd (l : List UInt8) : List (BitVec 32) := l.map fun x => BitVec.ofNat 32 x.toNat
theorem wd_length (l : List UInt8) : (wd l).length = l.length := by simp [wd]
theorem wd_append (l m : List UInt8) : wd (l ++ m) = wd l ++ wd m := by simp [wd]
theorem wd_getD (l : List UInt8) (j : Nat) (h : j < l.length) : iv ((wd l).getD j 0#32) = ((l[j]'h).toNat : Int) := by
  have e : (wd l).getD j 0#32 = BitVec.ofNat 32 (l[j]'h).toNat := by simp [wd, h]
  have := (l[j]'h).toNat_lt
  rw [e, iv_ofNat _ (by omega)]
theorem Lie.lies {w : World} {ad : Option Addr} {xs : List UInt8} (h : Lie w ad xs) : Lies w ad (wd xs) := by
  refine ⟨fun j hj => ?_, ?_⟩
  · rw [wd_length] at hj
    rw [wd_getD xs j hj]
    have := (xs[j]'hj).toNat_lt
    omega
  · rcases h.at_ with rfl | ⟨b, off, rfl, hb, hc⟩
    · exact .inl rfl
    · refine .inr ⟨b, off, rfl, hb, fun j hj => ?_⟩
      rw [wd_length] at hj
      rw [wd_getD xs j hj]
      exact hc j hj

/-- The checksum of bytes. -/
@[irreducible] def crc (l : List UInt8) : Nat := (updB 0#32 (wd l)).toNat
theorem crc_iv (l : List UInt8) : iv (updB 0#32 (wd l)) = (crc l : Int) := by unfold iv crc; rfl
theorem crc_lt (l : List UInt8) : crc l < 4294967296 := by unfold crc; exact (updB 0#32 (wd l)).isLt
theorem regB_append (r : BitVec 32) (l m : List (BitVec 32)) : regB r (l ++ m) = regB (regB r l) m := by simp [regB, List.foldl_append]
theorem updB_append (s : BitVec 32) (l m : List (BitVec 32)) : updB (updB s l) m = updB s (l ++ m) := by
  unfold updB
  rw [regB_append, BitVec.not_not]
theorem below3 (w : World) (a b c : Obj) : Below w.heap.size w (((w.alloc a).alloc b).alloc c) :=
  (((Below.refl _ w).alloc (Nat.le_refl _) a).alloc (by simp) b).alloc (by simp; omega) c

theorem csum_any (ad : Option Addr) (n cap : Nat) (xs : List UInt8) (w : World) (hl : Lie w ad xs) (hn : n = xs.length) (hm : xs.length ≤ 10000000) :
    Calls Tryd.prog 31 #[.slice ad n cap] w fun e w' => e = .returned (.int .u32 (crc xs : Int)) ∧ Below w.heap.size w w' := by
  subst hn
  have h := sum_any ad cap (wd xs) w hl.lies (by rw [wd_length]; omega)
  rw [wd_length] at h
  refine h.mono ?_
  rintro e w' ⟨rfl, rfl⟩
  exact ⟨by rw [crc_iv], below3 _ _ _ _⟩
theorem cupd_any (ad : Option Addr) (n cap : Nat) (l xs : List UInt8) (w : World) (hl : Lie w ad xs) (hn : n = xs.length) (hm : xs.length ≤ 10000000) :
    Calls Tryd.prog 69 #[.int .u32 (crc l : Int), .slice ad n cap] w fun e w' => e = .returned (.int .u32 (crc (l ++ xs) : Int)) ∧ Below w.heap.size w w' := by
  subst hn
  have h := upd_any (updB 0#32 (wd l)) ad cap (wd xs) w hl.lies (by rw [wd_length]; omega)
  rw [wd_length, crc_iv] at h
  refine h.mono ?_
  rintro e w' ⟨rfl, rfl⟩
  exact ⟨by rw [updB_append, ← wd_append, crc_iv], below3 _ _ _ _⟩
theorem rcsum_any (ad : Option Addr) (n cap : Nat) (xs : List UInt8) (w : World) (hl : Lie w ad xs) (hn : n = xs.length) (hm : xs.length ≤ 10000000) :
    Calls Tryd.prog 41 #[.slice ad n cap] w fun e w' => e = .returned (.int .u32 (crc xs : Int)) ∧ w = w' := by
  subst hn
  have h := rsum_any ad cap (wd xs) w hl.lies (by rw [wd_length]; omega)
  rw [wd_length] at h
  refine h.mono ?_
  rintro e w' ⟨rfl, rfl⟩
  exact ⟨by rw [crc_iv], rfl⟩
end Go.Proofs.YtjiijjdmkeeilaaDoor
namespace Go.Proofs.YtjiijjdmkeeilaaDoor

/-- A number in four bytes, the greatest first. -/
def be4 (n : Nat) : List UInt8 := [UInt8.ofNat (n / 16777216), UInt8.ofNat (n / 65536 % 256), UInt8.ofNat (n / 256 % 256), UInt8.ofNat (n % 256)]
theorem be4_length (n : Nat) : (be4 n).length = 4 := rfl
/-- The number of the first four bytes. -/
def num4 : List UInt8 → Nat
  | a :: b :: c :: d :: _ => a.toNat * 16777216 + b.toNat * 65536 + c.toNat * 256 + d.toNat
  | _ => 0
theorem num4_lt (l : List UInt8) : num4 l < 4294967296 := by
  unfold num4
  split
  · rename_i a b c d _
    have := a.toNat_lt; have := b.toNat_lt; have := c.toNat_lt; have := d.toNat_lt
    omega
  · omega
theorem toNat8' (n : Nat) (h : n < 256) : (UInt8.ofNat n).toNat = n := toNat_ofNat8 n h
theorem num4_be4 (n : Nat) (h : n < 4294967296) (l : List UInt8) : num4 (be4 n ++ l) = n := by
  unfold be4
  simp only [List.cons_append, List.nil_append, num4]
  rw [toNat8' _ (by omega), toNat8' _ (by omega), toNat8' _ (by omega), toNat8' _ (by omega)]
  omega
theorem ofNat_toNat8 (x : UInt8) : UInt8.ofNat x.toNat = x := by simp
theorem be4_num4 (l : List UInt8) (h : 4 ≤ l.length) : be4 (num4 l) = l.take 4 := by
  match l, h with
  | a :: b :: c :: d :: r, _ =>
    have ha := a.toNat_lt; have hb := b.toNat_lt; have hc := c.toNat_lt; have hd := d.toNat_lt
    simp only [num4, be4, List.take_succ_cons, List.take_zero]
    have e1 : (a.toNat * 16777216 + b.toNat * 65536 + c.toNat * 256 + d.toNat) / 16777216 = a.toNat := by omega
    have e2 : (a.toNat * 16777216 + b.toNat * 65536 + c.toNat * 256 + d.toNat) / 65536 % 256 = b.toNat := by omega
    have e3 : (a.toNat * 16777216 + b.toNat * 65536 + c.toNat * 256 + d.toNat) / 256 % 256 = c.toNat := by omega
    have e4 : (a.toNat * 16777216 + b.toNat * 65536 + c.toNat * 256 + d.toNat) % 256 = d.toNat := by omega
    rw [e1, e2, e3, e4, ofNat_toNat8, ofNat_toNat8, ofNat_toNat8, ofNat_toNat8]
theorem num4_take (l : List UInt8) : num4 (l.take 4) = num4 l := by
  match l with
  | [] => rfl
  | [_] => rfl
  | [_, _] => rfl
  | [_, _, _] => rfl
  | a :: b :: c :: d :: r => rfl
theorem num4_take' (l : List UInt8) (k : Nat) (h : 4 ≤ k) : num4 (l.take k) = num4 l := by
  rw [← num4_take (l.take k), List.take_take, Nat.min_eq_left h, num4_take]
/-- Four bytes and a number: equal just if. -/
theorem be4_eq_iff (n : Nat) (h : n < 4294967296) (l : List UInt8) (hl : 4 ≤ l.length) : be4 n = l.take 4 ↔ n = num4 l := by
  constructor
  · intro e
    have := num4_be4 n h []
    rw [List.append_nil, e, num4_take] at this
    exact this.symm
  · rintro rfl
    exact be4_num4 l hl

/-- The frame with a body. -/
def frm (body : List UInt8) : List UInt8 := [167, 60] ++ be4 body.length ++ be4 (crc (be4 body.length ++ body)) ++ body
theorem frm_length (body : List UInt8) : (frm body).length = body.length + 10 := by
  simp only [frm, be4, List.length_append, List.length_cons, List.length_nil]; omega

/-- Len. -/
def lenF (n : Int) : Int := if n < 0 ∨ 65536 < n then 0 else n + 10

/-- What begins the bytes r: an error, or the number of bytes of the body. -/
def hd (r : List UInt8) : Nat × Nat :=
  if r.length < 10 then (0, 2)
  else if r.take 2 ≠ [167, 60] then (0, 1)
  else if 65536 < num4 (r.drop 2) then (0, 6)
  else if r.length < num4 (r.drop 2) + 10 then (0, 2)
  else if num4 (r.drop 6) ≠ crc ((r.drop 2).take 4 ++ (r.drop 10).take (num4 (r.drop 2))) then (0, 4)
  else (num4 (r.drop 2), 0)
/-- What begins at an offset: the number of bytes of the body, the offset behind, the error. -/
def chk (xs : List UInt8) (at_ : Int) : Int × Int :=
  if at_ < 0 ∨ xs.length < at_ then (0, 7)
  else if (hd (xs.drop at_.toNat)).2 = 0 then (at_ + (hd (xs.drop at_.toNat)).1 + 10, 0) else (0, (hd (xs.drop at_.toNat)).2)
/-- The body that begins at an offset. -/
def bodyAt (xs : List UInt8) (at_ : Int) : List UInt8 :=
  if (chk xs at_).2 = 0 then (xs.drop (at_.toNat + 10)).take (hd (xs.drop at_.toNat)).1 else []

theorem hd_len (r : List UInt8) (h : (hd r).2 = 0) : (hd r).1 + 10 ≤ r.length ∧ (hd r).1 ≤ 65536 ∧ (hd r).1 = num4 (r.drop 2) := by
  revert h
  unfold hd
  repeat' split
  all_goals simp
  all_goals omega
theorem hd_err (r : List UInt8) : (hd r).2 = 0 ∨ ((hd r).2 ≤ 7 ∧ 1 ≤ (hd r).2) := by
  unfold hd
  repeat' split
  all_goals simp
theorem chk_nat (xs : List UInt8) (a : Nat) (h : a ≤ xs.length) : chk xs a = if (hd (xs.drop a)).2 = 0 then ((a : Int) + (hd (xs.drop a)).1 + 10, 0) else (0, ((hd (xs.drop a)).2 : Int)) := by
  unfold chk
  rw [if_neg (by omega), Int.toNat_natCast]
theorem chk_out (xs : List UInt8) (a : Int) (h : a < 0 ∨ xs.length < a) : chk xs a = (0, 7) := by unfold chk; rw [if_pos h]
theorem chk_ok {xs : List UInt8} {a : Int} (h : (chk xs a).2 = 0) : ∃ n : Nat, a = n ∧ n + (hd (xs.drop n)).1 + 10 ≤ xs.length ∧ (hd (xs.drop n)).2 = 0 ∧ chk xs a = (((n + (hd (xs.drop n)).1 + 10 : Nat) : Int), 0)
    ∧ bodyAt xs a = (xs.drop (n + 10)).take (hd (xs.drop n)).1 ∧ (bodyAt xs a).length = (hd (xs.drop n)).1 := by
  by_cases ho : a < 0 ∨ xs.length < a
  · rw [chk_out xs a ho] at h; simp at h
  obtain ⟨n, rfl⟩ : ∃ n : Nat, a = n := ⟨a.toNat, by omega⟩
  have hc := chk_nat xs n (by omega)
  by_cases h0 : (hd (xs.drop n)).2 = 0
  · rw [if_pos h0] at hc
    have hl := (hd_len _ h0).1
    rw [List.length_drop] at hl
    have hb : bodyAt xs n = (xs.drop (n + 10)).take (hd (xs.drop n)).1 := by
      unfold bodyAt
      rw [if_pos h, Int.toNat_natCast]
    refine ⟨n, rfl, by omega, h0, by rw [hc]; exact Prod.ext (by dsimp only; omega) rfl, hb, ?_⟩
    rw [hb, List.length_take, List.length_drop]
    omega
  · rw [if_neg h0] at hc
    rw [hc] at h
    simp at h
    omega
theorem chk_bad {xs : List UInt8} {a : Int} (h : (chk xs a).2 ≠ 0) : (chk xs a).1 = 0 ∧ bodyAt xs a = [] := by
  refine ⟨?_, by unfold bodyAt; rw [if_neg h]⟩
  revert h
  unfold chk
  repeat' split
  all_goals simp
theorem chk_bounds (xs : List UInt8) (a : Int) : 0 ≤ (chk xs a).1 ∧ (chk xs a).1 ≤ xs.length ∧ 0 ≤ (chk xs a).2 ∧ (chk xs a).2 ≤ 7 := by
  by_cases h : (chk xs a).2 = 0
  · obtain ⟨n, rfl, h1, _, h2, _⟩ := chk_ok h
    rw [h2]
    dsimp only
    omega
  · rw [(chk_bad h).1]
    unfold chk
    split
    · simp
    · split
      · simp
      · rcases hd_err (xs.drop a.toNat) with h0 | h0
        · contradiction
        · dsimp only; omega
end Go.Proofs.YtjiijjdmkeeilaaDoor
namespace Go.Proofs.YtjiijjdmkeeilaaDoor
open Go.RowKit

theorem conv_lie {w : World} {ad : Option Addr} {l : List UInt8} (c : Nat) (h : Lie w ad l) : (convert 26 9 (.slice ad l.length c)).run Tryd.prog w = .ok (.string ⟨l.toArray⟩) w := by
  rcases h.at_ with rfl | ⟨b, off, rfl, _, hc⟩
  · rw [run_convert_bytes_string w _ _ 5 ad _ c Tryd.underlying26 Tryd.underlying5 Tryd.underlying9]
    cases ad with
    | none => simp [Conv.bytesToString]; rfl
    | some a =>
      have hl := run_loadCells_list (P := Tryd.prog) w a [] (fun j v hj => by simp at hj)
      have := run_bytesToString (P := Tryd.prog) w a 0 c [] (by simpa using hl)
      simp only [List.foldl_nil] at this
      exact this
  · refine run_convert_bytes_back w _ _ 5 _ c l Tryd.underlying26 Tryd.underlying5 Tryd.underlying9 fun j hj => ?_
    rw [Go.WideShapes.add_plain]
    exact hc j hj
end Go.Proofs.YtjiijjdmkeeilaaDoor
