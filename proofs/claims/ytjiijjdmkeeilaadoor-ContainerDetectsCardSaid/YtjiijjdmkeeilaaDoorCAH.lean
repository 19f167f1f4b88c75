/-
  Small functions of the program: the length of a frame, a number in four bytes, four bytes as a number, a copy; and the document's own.
  The checksum of a frame, and what begins at an offset: the program's functions.
  What begins at an offset: the program's function where a whole frame fits.
-/
import Derived.Test.YtjiijjdmkeeilaaDoorCAG
import Derived.Test.YtjiijjdmkeeilaaDoorCAA
import Derived.BigQuiet
import Derived.Lib.SliceRun
import Derived.Deep.QuietTactic
import Derived.Deep.RegionWith
import Derived.Deep.MidRow
import Derived.Laws.StructEq
import Derived.Laws.Cover3
namespace Go.Proofs.YtjiijjdmkeeilaaDoor
open Go.RowKit

theorem ret_i64 {a b : Int} (h : a = b) : Ending.returned (.int .i64 a) = .returned (.int .i64 b) := by rw [h]

set_option maxRecDepth 100000 in
set_option maxHeartbeats 400000 in
theorem len_any (n : Int) (w : World) (h0 : -9223372036854775808 ≤ n) (h1 : n ≤ 9223372036854775807) :
    Calls Tryd.prog 53 #[.int .i64 n] w fun e w' => e = .returned (.int .i64 (lenF n)) ∧ w = w' := by
  unfold lenF
  by_cases h : n < 0 ∨ 65536 < n
  · rw [if_pos h]
    rcases (show n < 0 ∨ (0 ≤ n ∧ 65536 < n) by omega) with h2 | ⟨h2, h3⟩
    all_goals
      clear h
      go_enter Tryd.func53, Tryd.ntmps53
      go_wp2
      go_ret
      exact ⟨rfl, rfl⟩
  · rw [if_neg h]
    have h2 : 0 ≤ n := by omega
    have h3 : n ≤ 65536 := by omega
    clear h
    go_enter Tryd.func53, Tryd.ntmps53
    go_wp2
    go_ret
    exact ⟨rfl, rfl⟩
/-- Bytes written out in a new block. -/
theorem Lie.lits (w : World) (cs : Array Value) (xs : List UInt8) (h : cs.toList = cellsU xs) : Lie (w.alloc (.cells cs 5)) (some ⟨w.heap.size, 0, none⟩) xs := by
  refine ⟨.inr ⟨w.heap.size, 0, rfl, by simp, fun j hj => ?_⟩⟩
  rw [World.cell?_alloc_mark, Nat.zero_add]
  obtain ⟨l⟩ := cs
  have := cellsU_get xs j hj
  simp only at h
  rw [← h] at this
  simpa using this
theorem four_cells (n : Nat) (h : n < 4294967296) (a b c d : Int) (ha : a = n / 16777216) (hb : b = n / 65536 % 256) (hc : c = n / 256 % 256) (hd : d = n % 256) :
    (#[.int .u8 a, .int .u8 b, .int .u8 c, .int .u8 d] : Array Value).toList = cellsU (be4 n) := by
  subst ha hb hc hd
  unfold be4 cellsU
  simp only [List.map_cons, List.map_nil]
  rw [toNat8' _ (by omega), toNat8' _ (by omega), toNat8' _ (by omega), toNat8' _ (by omega)]
  simp

theorem Own.lits (w : World) (cs : Array Value) (xs : List UInt8) (h : cs.toList = cellsU xs) (hm : xs.length ≤ 10000000) : Own (w.alloc (.cells cs 5)) w.heap.size (.slice (some ⟨w.heap.size, 0, none⟩) xs.length xs.length) xs := by
  have hs : cs.size = xs.length := by rw [← Array.length_toList, h, cellsU_length]
  refine ⟨by rw [cellsU_length]; omega, .inr ⟨w.heap.size, xs.length, cs, rfl, Nat.le_refl _, heap_new w _, Nat.le_refl _, by unfold maxLen; omega, by omega, ?_⟩⟩
  rw [h, List.take_of_length_le (by rw [cellsU_length]; omega)]
theorem or24 (a b : Nat) (h : b < 16777216) : a * 16777216 ||| b = a * 16777216 + b := by
  have := Nat.two_pow_add_eq_or_of_lt (i := 24) (b := b) h a
  rw [Nat.mul_comm]
  exact this.symm
theorem or16 (a b : Nat) (h : b < 65536) : a * 65536 ||| b = a * 65536 + b := by
  have := Nat.two_pow_add_eq_or_of_lt (i := 16) (b := b) h a
  rw [Nat.mul_comm]
  exact this.symm
theorem or8 (a b : Nat) (h : b < 256) : a * 256 ||| b = a * 256 + b := by
  have := Nat.two_pow_add_eq_or_of_lt (i := 8) (b := b) h a
  rw [Nat.mul_comm]
  exact this.symm
theorem or_four (v0 v1 v2 v3 : Nat) (h0 : v0 < 2 ^ 8) (h1 : v1 < 2 ^ 8) (h2 : v2 < 2 ^ 8) (h3 : v3 < 2 ^ 8) :
    bits .or .u32 (bits .or .u32 (bits .or .u32 ((v0 : Int) * 16777216) ((v1 : Int) * 65536)) ((v2 : Int) * 256)) (v3 : Int) = ((v0 * 16777216 + v1 * 65536 + v2 * 256 + v3 : Nat) : Int) := by
  simp only [Nat.reducePow] at h0 h1 h2 h3
  rw [show (v0 : Int) * 16777216 = ((v0 * 16777216 : Nat) : Int) by omega, show (v1 : Int) * 65536 = ((v1 * 65536 : Nat) : Int) by omega, show (v2 : Int) * 256 = ((v2 * 256 : Nat) : Int) by omega]
  have e1 : v0 * 16777216 ||| v1 * 65536 = (v0 * 256 + v1) * 65536 := by
    rw [or24 _ _ (by omega)]; omega
  have e2 : (v0 * 256 + v1) * 65536 ||| v2 * 256 = (v0 * 65536 + v1 * 256 + v2) * 256 := by
    rw [or16 _ _ (by omega)]; omega
  have e3 : (v0 * 65536 + v1 * 256 + v2) * 256 ||| v3 = v0 * 16777216 + v1 * 65536 + v2 * 256 + v3 := by
    rw [or8 _ _ (by omega)]; omega
  rw [u32_or_nat _ _ (by omega) (by omega), e1, u32_or_nat _ _ (by omega) (by omega), e2, u32_or_nat _ _ (by omega) (by omega), e3]

/-- A call gives the slice v back, appended to: what lay below B is as it was. -/
def Adds (w : World) (B : Nat) (l : List UInt8) (e : Ending) (w' : World) : Prop := ∃ v, e = .returned v ∧ Own w' B v l ∧ Below B w w'
theorem Own.alloc {w : World} {B : Nat} {v : Value} {l : List UInt8} (h : Own w B v l) (o : Obj) : Own (w.alloc o) B v l := h.below ((Below.refl _ _).alloc (Nat.le_refl _) o)
theorem Lie.alloc {w : World} {ad : Option Addr} {l : List UInt8} (h : Lie w ad l) (o : Obj) : Lie (w.alloc o) ad l := h.below ((Below.refl _ _).alloc (Nat.le_refl _) o) rfl
theorem below_add {w w1 : World} {B : Nat} {o : Obj} {v : Value} {l : List UInt8} (hown : Own w B v l) (hB : B ≤ w.heap.size) (hg : (w.alloc o).grownBy w1 v.ownBlock) : Below B w w1 :=
  ((Below.refl _ _).alloc hB o).grown hg (by simp; omega) (fun k hk => (hown.lt k hk).1)
theorem below_app {w w1 : World} {B : Nat} {v : Value} {l : List UInt8} (hown : Own w B v l) (hB : B ≤ w.heap.size) (hg : w.grownBy w1 v.ownBlock) : Below B w w1 :=
  (Below.refl _ _).grown hg hB (fun k hk => (hown.lt k hk).1)

set_option maxRecDepth 100000 in
set_option maxHeartbeats 600000 in
theorem putn_any (v : Value) (ys : List UInt8) (B n : Nat) (w : World) (hn : n < 4294967296) (hown : Own w B v ys) (hB : B ≤ w.heap.size) (hlen : ys.length ≤ 5000000) :
    Calls Tryd.prog 70 #[v, .int .u32 n] w (Adds w B (ys ++ be4 n)) := by
  have HO := Lib.hid hown
  clear hown
  go_enter Tryd.func70, Tryd.ntmps70
  go_wp2_with (at_builtin; refine wpList_append_u rfl (.tmp 5) (.tmp 17) rfl B _ ys rfl (HO.out.alloc _) _ 4 4 (be4 n) (fun h => by cases h) (Lie.lits w _ (be4 n) (four_cells n hn _ _ _ _ (by omega) (by omega) (by omega) (by omega))) rfl rfl (by omega) (by simp; omega) ?_; intro v1 w1 hown1 hgrow1)
  go_ret
  exact ⟨v1, rfl, hown1, below_add HO.out hB hgrow1⟩

set_option maxRecDepth 100000 in
set_option maxHeartbeats 600000 in
theorem four_any (n : Nat) (w : World) (hn : n < 4294967296) :
    Calls Tryd.prog 97 #[.int .i64 n] w fun e w' => e = .returned (.slice (some ⟨w.heap.size, 0, none⟩) 4 4) ∧ Lie w' (some ⟨w.heap.size, 0, none⟩) (be4 n) ∧ Own w' w.heap.size (.slice (some ⟨w.heap.size, 0, none⟩) 4 4) (be4 n) ∧ Below w.heap.size w w' := by
  go_enter Tryd.func97, Tryd.ntmps97
  go_wp2
  go_ret
  have hf := four_cells n hn ((n : Int) / 16777216) ((n : Int) / 65536 % 256) ((n : Int) / 256 % 256) ((n : Int) % 256) rfl rfl rfl rfl
  exact ⟨rfl, Lie.lits w _ _ hf, Own.lits w _ _ hf (by rw [be4_length]; decide), (Below.refl _ _).alloc (Nat.le_refl _) _⟩

set_option maxRecDepth 100000 in
set_option maxHeartbeats 1000000 in
theorem num_any (ad : Option Addr) (n cap : Nat) (xs : List UInt8) (w : World) (hl : Lie w ad xs) (hn : n = xs.length) (h4 : 4 ≤ xs.length) (hm : xs.length ≤ 10000000) :
    Calls Tryd.prog 103 #[.slice ad n cap] w fun e w' => e = .returned (.int .u32 (num4 xs : Int)) ∧ ∃ k, w' = w.drewN k := by
  rcases hl.at_ with rfl | ⟨b, off, rfl, hb, hc⟩
  · simp at h4
  match xs, h4 with
  | x0 :: x1 :: x2 :: x3 :: r, _ =>
    have c0 := hc 0 (by simp)
    have c1 := hc 1 (by simp)
    have c2 := hc 2 (by simp)
    have c3 := hc 3 (by simp)
    simp only [List.getElem_cons_zero, List.getElem_cons_succ, Nat.add_zero] at c0 c1 c2 c3
    have b0 := x0.toNat_lt
    have b1 := x1.toNat_lt
    have b2 := x2.toNat_lt
    have b3 := x3.toNat_lt
    simp only [num4]
    generalize x0.toNat = v0 at *
    generalize x1.toNat = v1 at *
    generalize x2.toNat = v2 at *
    generalize x3.toNat = v3 at *
    have hn4 : 4 ≤ n := by simp at hn; omega
    have hnm : n ≤ 10000000 := by omega
    clear hc hl hn hm
    go_enter Tryd.func103, Tryd.ntmps103
    go_wp2
    go_quiet (fail)
    go_wp2
    go_ret
    exact ⟨by rw [or_four v0 v1 v2 v3 b0 b1 b2 b3]; rfl, nq, rfl⟩

set_option maxRecDepth 100000 in
set_option maxHeartbeats 1000000 in
theorem clone_any (a : Addr) (n cap : Nat) (xs : List UInt8) (w : World) (hl : Lie w (some a) xs) (hn : n = xs.length) (hm : xs.length ≤ 5000000) :
    Calls Tryd.prog 83 #[.slice (some a) n cap] w (Adds w w.heap.size xs) := by
  have hl1 := Lib.hid (hl.alloc (.cells #[] 5))
  have HN := Lib.hid hn
  clear hl hn
  have he : ∀ W, (binOp .eql 26 (.slice (some a) n cap) (.slice none 0 0)).run Tryd.prog W = .ok (.bool false) W := fun W => Lib.run_eql_slice_nil W _ _ (some a) n cap 0 0 Tryd.underlying26
  go_enter Tryd.func83, Tryd.ntmps83
  go_wp2_with (at_builtin; refine wpList_append_u rfl (.tmp 5) (.tmp 6) rfl w.heap.size _ [] rfl (Own.made w) _ n cap xs (fun h => by cases h) hl1.out HN.out rfl (by have := HN.out; simp; omega) (by simp) ?_; intro v1 w1 hown1 hgrow1)
  go_ret
  exact ⟨v1, rfl, hown1, below_new hgrow1 (fun k hk => ((Own.made w).lt k hk).1)⟩
end Go.Proofs.YtjiijjdmkeeilaaDoor
namespace Go.Proofs.YtjiijjdmkeeilaaDoor
open Go.RowKit
set_option linter.unusedVariables false

theorem Lie.drop {w : World} {b off : Nat} {xs : List UInt8} (h : Lie w (some ⟨b, off, none⟩) xs) (k : Nat) : Lie w (some ⟨b, off + k, none⟩) (xs.drop k) := by
  rcases h.at_ with rfl | ⟨b', off', h0, hb, hc⟩
  · exact ⟨.inl (by simp)⟩
  · cases h0
    refine ⟨.inr ⟨b, off + k, rfl, hb, fun j hj => ?_⟩⟩
    rw [List.length_drop] at hj
    rw [Nat.add_assoc, hc (k + j) (by omega), List.getElem_drop]
theorem Lie.take {w : World} {ad : Option Addr} {xs : List UInt8} (h : Lie w ad xs) (k : Nat) : Lie w ad (xs.take k) := by
  rcases h.at_ with rfl | ⟨b, off, h0, hb, hc⟩
  · exact ⟨.inl (by simp)⟩
  · refine ⟨.inr ⟨b, off, h0, hb, fun j hj => ?_⟩⟩
    rw [List.length_take] at hj
    rw [hc j (by omega), List.getElem_take]

/-- The program's two magic bytes lie in their variable. -/
structure Mag (w : World) : Prop where
  c0 : w.cell? ⟨0, 0, none⟩ = some (.int .u8 167)
  c1 : w.cell? ⟨0, 1, none⟩ = some (.int .u8 60)
theorem Mag.pos {w : World} (h : Mag w) : 0 < w.heap.size := by
  rcases Nat.lt_or_ge 0 w.heap.size with h' | h'
  · exact h'
  · have := h.c0
    simp [World.cell?, Array.getElem?_eq_none h'] at this
theorem Mag.below {w w' : World} {B : Nat} (h : Mag w) (hb : Below B w w') (hB : 0 < B) : Mag w' :=
  ⟨(hb.cell (p := ⟨0, 0, none⟩) hB).trans h.c0, (hb.cell (p := ⟨0, 1, none⟩) hB).trans h.c1⟩
theorem Mag.step {w w' : World} (h : Mag w) (hb : Below w.heap.size w w') : Mag w' := h.below hb h.pos

set_option maxRecDepth 100000 in
set_option maxHeartbeats 400000 in
theorem fsum_any (ad1 ad2 : Option Addr) (n1 c1 n2 c2 : Nat) (l xs : List UInt8) (w : World) (h1 : Lie w ad1 l) (h2 : Lie w ad2 xs) (e1 : n1 = l.length) (e2 : n2 = xs.length) (m1 : l.length ≤ 10000000) (m2 : xs.length ≤ 10000000) :
    Calls Tryd.prog 71 #[.slice ad1 n1 c1, .slice ad2 n2 c2] w fun e w' => e = .returned (.int .u32 (crc (l ++ xs) : Int)) ∧ Below w.heap.size w w' := by
  have E1 := Lib.hid e1
  have E2 := Lib.hid e2
  clear e1 e2
  go_enter Tryd.func71, Tryd.ntmps71
  go_wp2_with fail
  refine (csum_any ad1 n1 c1 l _ h1 E1.out m1).mono ?_
  rintro e w1 ⟨rfl, hb1⟩
  have HB1 := Lib.hid hb1
  clear hb1
  have H2 := Lib.hid (h2.below HB1.out rfl)
  go_wp2_with fail
  refine (cupd_any ad2 n2 c2 l xs _ H2.out E2.out m2).mono ?_
  rintro e w2 ⟨rfl, hb2⟩
  have HB2 := Lib.hid hb2
  clear hb2
  go_wp2
  go_ret
  exact ⟨rfl, HB1.out.trans (HB2.out.mono HB1.out.size)⟩

theorem eqMag (a b c d : Int) (w : World) : (Op.equalIn 10000 90 (.agg #[.int .u8 a, .int .u8 b]) (.agg #[.int .u8 c, .int .u8 d])).run Tryd.prog w = .ok (a == c && b == d) w := by
  have u3 := Tryd.underlying5
  have a3 : ∀ w, (isAgg 5).run Tryd.prog w = .ok false w := fun w => by unfold isAgg; rw [Sem.run_bind, run_underlying u3 w]; rfl
  have z3 : ∀ w, (sizeOf 5).run Tryd.prog w = .ok 1 w := fun w => by kernel_rfl
  rw [show (10000 : Nat) = 9999 + 1 from rfl, Op.equalIn]
  simp only [Sem.run_bind, run_underlying Tryd.underlying90, Result.andThen_ok]
  simp only [Std.Legacy.Range.forIn_eq_forIn_range', Std.Legacy.Range.size, Nat.sub_zero, Nat.add_sub_cancel, Nat.div_one, List.range'_succ, List.range'_zero, List.forIn_cons, List.forIn_nil]
  go_simp
  by_cases h1 : a = c <;> by_cases h2 : b = d <;> simp [h1, h2]
theorem neqMag (a b c d : Int) (w : World) : (binOp .neq 90 (.agg #[.int .u8 a, .int .u8 b]) (.agg #[.int .u8 c, .int .u8 d])).run Tryd.prog w = .ok (.bool (!(a == c && b == d))) w := by
  rw [run_neq_struct, eqMag]
  rfl
theorem infoM : (Tryd.prog.info? 90).map (·.size) = some 2 := by kernel_rfl
theorem arrMag (w : World) (a : Option Addr) (n c : Nat) (h : 2 ≤ n) : (Instr.arrayAt 90 (.slice a n c)).run Tryd.prog w = .ok (.pointer a) w := run_arrayAt w _ _ 2 a n c Tryd.underlying90 h
theorem loadMag (w : World) (b o : Nat) (x y : Int) (h0 : w.cell? ⟨b, o, none⟩ = some (.int .u8 x)) (h1 : w.cell? ⟨b, o + 1, none⟩ = some (.int .u8 y)) :
    (Instr.loadAt 90 (.pointer (some ⟨b, o, none⟩))).run Tryd.prog w = .ok (.agg #[.int .u8 x, .int .u8 y]) w := by
  refine run_loadAt_mid w b o 90 [.int .u8 x, .int .u8 y] _ ?_ Tryd.underlying90 rfl infoM
  intro j v hj
  match j, hj with
  | 0, hj => cases hj; exact h0
  | 1, hj => cases hj; exact h1

theorem below_drewN {B : Nat} {a w : World} (h : Below B a w) (n : Nat) : Below B a (w.drewN n) := ⟨h.os, h.tape, h.output, h.size, h.block⟩
/-- What check answers. -/
def ChkP (w : World) (x e : Int) (en : Ending) (w' : World) : Prop := en = .returned (.tuple #[.int .i64 x, .int .i64 e]) ∧ Below w.heap.size w w'

set_option maxRecDepth 100000 in
set_option maxHeartbeats 400000 in
theorem chk_range (ad : Option Addr) (n cap : Nat) (at_ : Int) (w : World) (h : at_ < 0 ∨ n < at_) (hn : n ≤ 10000000) :
    Calls Tryd.prog 82 #[.slice ad n cap, .int .i64 at_] w (ChkP w 0 7) := by
  rcases (show at_ < 0 ∨ (0 ≤ at_ ∧ n < at_) by omega) with h1 | ⟨h1, h2⟩
  all_goals
    clear h
    go_enter Tryd.func82, Tryd.ntmps82
    go_wp2
    go_ret2
    exact ⟨rfl, .refl _ _⟩
set_option maxRecDepth 100000 in
set_option maxHeartbeats 400000 in
theorem chk_short (ad : Option Addr) (n cap a : Nat) (w : World) (h1 : a ≤ n) (h2 : n < a + 10) (hn : n ≤ 10000000) (hc : n ≤ cap) (hcm : cap ≤ maxLen) (had : ad = none → cap = 0) :
    Calls Tryd.prog 82 #[.slice ad n cap, .int .i64 a] w (ChkP w 0 2) := by
  have h3 : n - a < 10 := by omega
  unfold maxLen at hcm
  cases ad with
  | none =>
    obtain rfl := had rfl
    obtain rfl : n = 0 := by omega
    obtain rfl : a = 0 := by omega
    go_enter Tryd.func82, Tryd.ntmps82
    go_wp2
    go_ret2
    exact ⟨rfl, .refl _ _⟩
  | some x =>
    clear had
    by_cases hca : cap = a
    · subst hca
      obtain rfl : n = cap := by omega
      clear h1 h2 hc
      go_enter Tryd.func82, Tryd.ntmps82
      go_wp2
      go_ret2
      exact ⟨rfl, .refl _ _⟩
    · go_enter Tryd.func82, Tryd.ntmps82
      go_wp2
      go_ret2
      exact ⟨rfl, .refl _ _⟩
set_option maxRecDepth 100000 in
set_option maxHeartbeats 1000000 in
theorem chk_magic (b off n cap a : Nat) (x0 x1 : Nat) (w : World) (hm : Mag w) (h10 : a + 10 ≤ n) (hnc : n ≤ cap) (hcm : cap ≤ maxLen) (hn : n ≤ 10000000)
   (hc0 : w.cell? ⟨b, off + a, none⟩ = some (.int .u8 x0)) (hc1 : w.cell? ⟨b, off + a + 1, none⟩ = some (.int .u8 x1)) (hx : ¬ (x0 = 167 ∧ x1 = 60)) :
    Calls Tryd.prog 82 #[.slice (some ⟨b, off, none⟩) n cap, .int .i64 a] w (ChkP w 0 1) := by
  have hA := fun W : World => arrMag W (some ⟨b, off + a, none⟩) (n - a) (cap - a) (by omega)
  have hL1 : ∀ nq, _ := fun nq => loadMag (w.drewN nq) b (off + a) x0 x1 hc0 hc1
  have hg0 := hm.c0
  have hg1 := hm.c1
  have hN := fun W : World => neqMag x0 x1 167 60 W
  have hX : (!((x0 : Int) == 167 && (x1 : Int) == 60)) = true := by
    rw [Bool.not_eq_true', Bool.and_eq_false_iff]
    simp only [beq_eq_false_iff_ne]
    omega
  rw [hX] at hN
  clear hX hx
  unfold maxLen at hcm
  have h3 : 10 ≤ n - a := by omega
  have h4 : ¬ n < a := by omega
  go_enter Tryd.func82, Tryd.ntmps82
  go_wp2_with fail
  go_quiet (fail)
  go_wp2
  go_ret2
  exact ⟨rfl, below_drewN (.refl _ _) _⟩
set_option maxRecDepth 100000 in
set_option maxHeartbeats 1000000 in
theorem chk_long (b off n cap a N : Nat) (r : List UInt8) (w : World) (hm : Mag w) (h10 : a + 10 ≤ n) (hnc : n ≤ cap) (hcm : cap ≤ maxLen) (hn : n ≤ 10000000)
   (hc0 : w.cell? ⟨b, off + a, none⟩ = some (.int .u8 167)) (hc1 : w.cell? ⟨b, off + a + 1, none⟩ = some (.int .u8 60)) (hl : Lie w (some ⟨b, off + a + 2, none⟩) r) (hr : r.length = 4) (hN : num4 r = N) (hbig : 65536 < N) :
    Calls Tryd.prog 82 #[.slice (some ⟨b, off, none⟩) n cap, .int .i64 a] w (ChkP w 0 6) := by
  have hA := fun W : World => arrMag W (some ⟨b, off + a, none⟩) (n - a) (cap - a) (by omega)
  have hL1 : ∀ nq, _ := fun nq => loadMag (w.drewN nq) b (off + a) 167 60 hc0 hc1
  have hg0 := hm.c0
  have hg1 := hm.c1
  have hQ := fun W : World => neqMag 167 60 167 60 W
  have hNl := num4_lt r
  rw [hN] at hNl
  have HN := Lib.hid hN
  have HR := Lib.hid hr
  clear hN hr
  unfold maxLen at hcm
  have h3 : 10 ≤ n - a := by omega
  have h4 : ¬ n < a := by omega
  go_enter Tryd.func82, Tryd.ntmps82
  go_wp2_with fail
  go_quiet (fail)
  go_wp2_with fail
  refine (num_any _ _ _ r _ (hl.drewN _) HR.out.symm (by rw [HR.out]; decide) (by rw [HR.out]; decide)).mono ?_
  rintro e w' ⟨rfl, k, rfl⟩
  rw [HN.out]
  go_wp2
  go_ret2
  exact ⟨rfl, below_drewN (.refl _ _) _⟩
set_option maxRecDepth 100000 in
set_option maxHeartbeats 1000000 in
theorem chk_cut (b off n cap a N : Nat) (r : List UInt8) (w : World) (hm : Mag w) (h10 : a + 10 ≤ n) (hnc : n ≤ cap) (hcm : cap ≤ maxLen) (hn : n ≤ 10000000)
   (hc0 : w.cell? ⟨b, off + a, none⟩ = some (.int .u8 167)) (hc1 : w.cell? ⟨b, off + a + 1, none⟩ = some (.int .u8 60)) (hl : Lie w (some ⟨b, off + a + 2, none⟩) r) (hr : r.length = 4) (hN : num4 r = N) (hbig : N ≤ 65536) (hcut : n < a + N + 10) :
    Calls Tryd.prog 82 #[.slice (some ⟨b, off, none⟩) n cap, .int .i64 a] w (ChkP w 0 2) := by
  have hA := fun W : World => arrMag W (some ⟨b, off + a, none⟩) (n - a) (cap - a) (by omega)
  have hL1 : ∀ nq, _ := fun nq => loadMag (w.drewN nq) b (off + a) 167 60 hc0 hc1
  have hg0 := hm.c0
  have hg1 := hm.c1
  have hQ := fun W : World => neqMag 167 60 167 60 W
  have hNl := num4_lt r
  rw [hN] at hNl
  have HN := Lib.hid hN
  have HR := Lib.hid hr
  clear hN hr
  unfold maxLen at hcm
  have h3 : 10 ≤ n - a := by omega
  have h4 : ¬ n < a := by omega
  go_enter Tryd.func82, Tryd.ntmps82
  go_wp2_with fail
  go_quiet (fail)
  go_wp2_with fail
  refine (num_any _ _ _ r _ (hl.drewN _) HR.out.symm (by rw [HR.out]; decide) (by rw [HR.out]; decide)).mono ?_
  rintro e w' ⟨rfl, k, rfl⟩
  rw [HN.out]
  have hlen : lenF (N : Int) = (N : Int) + 10 := by unfold lenF; rw [if_neg (by omega)]
  have HL := Lib.hid hlen
  clear hlen
  go_wp2_with fail
  refine (len_any (N : Int) _ (by omega) (by omega)).mono ?_
  rintro e w' ⟨rfl, rfl⟩
  rw [HL.out]
  have h5 : n - a < N + 10 := by omega
  go_wp2
  go_ret2
  exact ⟨rfl, below_drewN (.refl _ _) _⟩
end Go.Proofs.YtjiijjdmkeeilaaDoor
namespace Go.Proofs.YtjiijjdmkeeilaaDoor
open Go.RowKit
set_option linter.unusedVariables false

theorem tup2 {a b c d : Int} (h : a = c) (h' : b = d) : Ending.returned (.tuple #[.int .i64 a, .int .i64 b]) = .returned (.tuple #[.int .i64 c, .int .i64 d]) := by rw [h, h']
/-- What check answers where a whole frame fits. -/
def ChkQ (w : World) (a N x y : Nat) (en : Ending) (w' : World) : Prop := ChkP w (if x = y then (a : Int) + N + 10 else 0) (if x = y then 0 else 4) en w'
theorem chkQ_yes {w w' : World} {a N x y : Nat} {A : Int} (h : x = y) (hA : A = (a : Int) + N + 10) (hb : Below w.heap.size w w') : ChkQ w a N x y (.returned (.tuple #[.int .i64 A, .int .i64 0])) w' := by
  unfold ChkQ
  rw [if_pos h, if_pos h, hA]
  exact ⟨rfl, hb⟩
theorem chkQ_no {w w' : World} {a N x y : Nat} (h : x ≠ y) (hb : Below w.heap.size w w') : ChkQ w a N x y (.returned (.tuple #[.int .i64 0, .int .i64 4])) w' := by
  unfold ChkQ
  rw [if_neg h, if_neg h]
  exact ⟨rfl, hb⟩
set_option maxRecDepth 100000 in
set_option maxHeartbeats 1000000 in
theorem chk_sum (b off n cap a N : Nat) (r : List UInt8) (w : World) (hm : Mag w) (h10 : a + 10 ≤ n) (hnc : n ≤ cap) (hcm : cap ≤ maxLen) (hn : n ≤ 10000000)
   (hc0 : w.cell? ⟨b, off + a, none⟩ = some (.int .u8 167)) (hc1 : w.cell? ⟨b, off + a + 1, none⟩ = some (.int .u8 60)) (hl : Lie w (some ⟨b, off + a + 2, none⟩) r) (hr : r.length = 4) (hN : num4 r = N) (hbig : N ≤ 65536) (hfit : a + N + 10 ≤ n)
   (s6 : List UInt8) (h6 : Lie w (some ⟨b, off + a + 6, none⟩) s6) (l6 : s6.length = n - a - 6) (s10 : List UInt8) (h10' : Lie w (some ⟨b, off + a + 10, none⟩) s10) (l10 : s10.length = N) (x y : Nat) (hx : num4 s6 = x) (hy : crc (r ++ s10) = y) :
    Calls Tryd.prog 82 #[.slice (some ⟨b, off, none⟩) n cap, .int .i64 a] w (ChkQ w a N x y) := by
  have HX := Lib.hid hx
  have HY := Lib.hid hy
  have L6 := Lib.hid l6
  have L10 := Lib.hid l10
  clear hx hy l6 l10
  have hA := fun W : World => arrMag W (some ⟨b, off + a, none⟩) (n - a) (cap - a) (by omega)
  have hL1 : ∀ nq, _ := fun nq => loadMag (w.drewN nq) b (off + a) 167 60 hc0 hc1
  have hg0 := hm.c0
  have hg1 := hm.c1
  have hQ := fun W : World => neqMag 167 60 167 60 W
  have hNl := num4_lt r
  rw [hN] at hNl
  have HN := Lib.hid hN
  have HR := Lib.hid hr
  clear hN hr
  unfold maxLen at hcm
  have h3 : 10 ≤ n - a := by omega
  have h4 : ¬ n < a := by omega
  go_enter Tryd.func82, Tryd.ntmps82
  go_wp2_with fail
  go_quiet (fail)
  go_wp2_with fail
  refine (num_any _ _ _ r _ (hl.drewN _) HR.out.symm (by rw [HR.out]; decide) (by rw [HR.out]; decide)).mono ?_
  rintro e w' ⟨rfl, k, rfl⟩
  rw [HN.out]
  have hlen : lenF (N : Int) = (N : Int) + 10 := by unfold lenF; rw [if_neg (by omega)]
  have HL := Lib.hid hlen
  clear hlen
  go_wp2_with fail
  refine (len_any (N : Int) _ (by omega) (by omega)).mono ?_
  rintro e w' ⟨rfl, rfl⟩
  rw [HL.out]
  have h5 : ¬ n - a < N + 10 := by omega
  go_wp2_with fail
  by_cases hca : cap - a = 10
  · have hN0 : N = 0 := by omega
    have H0 : ∀ ad W, Lie W ad s10 := fun ad W => by
      have : s10 = [] := List.eq_nil_of_length_eq_zero (by rw [L10.out]; exact hN0)
      rw [this]; exact .nil _ _
    go_region_with (first
      | (go_at_call 103; refine (num_any _ _ _ s6 _ (by first | exact h6.drewN _ | exact (h6.drewN _).below HB rfl) L6.out.symm (by rw [L6.out]; omega) (by rw [L6.out]; omega)).mono ?_; rintro e w' ⟨rfl, k2, rfl⟩; rw [HX.out])
      | (go_at_call 71; refine (fsum_any _ _ _ _ _ _ r s10 _ (by exact hl.drewN _) (H0 _ _) HR.out.symm (by have := L10.out; omega) (by rw [HR.out]; decide) (by rw [L10.out]; omega)).mono ?_; rintro e w' ⟨rfl, HB⟩; rw [HY.out]))
    all_goals
      by_cases hxy : x = y
      · have hd1 : ((x : Int) != (y : Int)) = false := by rw [bne_eq_false_iff_eq]; omega
        go_wp2
        go_ret2
        refine chkQ_yes hxy (by omega) ?_
        first | exact (below_drewN (.refl _ _) _).trans (HB.mono (Nat.le_refl _)) | exact below_drewN ((below_drewN (.refl _ _) _).trans (HB.mono (Nat.le_refl _))) _
      · have hd1 : ((x : Int) != (y : Int)) = true := by rw [bne_iff_ne]; omega
        go_wp2
        go_ret2
        refine chkQ_no hxy ?_
        first | exact (below_drewN (.refl _ _) _).trans (HB.mono (Nat.le_refl _)) | exact below_drewN ((below_drewN (.refl _ _) _).trans (HB.mono (Nat.le_refl _))) _
  · go_region_with (first
      | (go_at_call 103; refine (num_any _ _ _ s6 _ (by first | exact h6.drewN _ | exact (h6.drewN _).below HB rfl) L6.out.symm (by rw [L6.out]; omega) (by rw [L6.out]; omega)).mono ?_; rintro e w' ⟨rfl, k2, rfl⟩; rw [HX.out])
      | (go_at_call 71; refine (fsum_any _ _ _ _ _ _ r s10 _ (by exact hl.drewN _) (by exact h10'.drewN _) HR.out.symm (by have := L10.out; omega) (by rw [HR.out]; decide) (by rw [L10.out]; omega)).mono ?_; rintro e w' ⟨rfl, HB⟩; rw [HY.out]))
    all_goals
      by_cases hxy : x = y
      · have hd1 : ((x : Int) != (y : Int)) = false := by rw [bne_eq_false_iff_eq]; omega
        go_wp2
        go_ret2
        refine chkQ_yes hxy (by omega) ?_
        first | exact (below_drewN (.refl _ _) _).trans (HB.mono (Nat.le_refl _)) | exact below_drewN ((below_drewN (.refl _ _) _).trans (HB.mono (Nat.le_refl _))) _
      · have hd1 : ((x : Int) != (y : Int)) = true := by rw [bne_iff_ne]; omega
        go_wp2
        go_ret2
        refine chkQ_no hxy ?_
        first | exact (below_drewN (.refl _ _) _).trans (HB.mono (Nat.le_refl _)) | exact below_drewN ((below_drewN (.refl _ _) _).trans (HB.mono (Nat.le_refl _))) _
end Go.Proofs.YtjiijjdmkeeilaaDoor
