/-
  Small functions of the program: the length of a frame, a number in four bytes, four bytes as a number, a copy; and the document's own.
-/
import Derived.Test.YtbbdkghkdmaolaaDoorFMath
import Derived.Test.YtbbdkghkdmaolaaDoorConv
import Derived.BigQuiet
import Derived.Lib.SliceRun
import Derived.Deep.QuietTactic
namespace Go.Proofs.YtbbdkghkdmaolaaDoor
open Go.RowKit

theorem ret_i64 {a b : Int} (h : a = b) : Ending.returned (.int .i64 a) = .returned (.int .i64 b) := by rw [h]

set_option maxRecDepth 100000 in
set_option maxHeartbeats 400000 in
theorem len_any (n : Int) (w : World) (h0 : -9223372036854775808 ≤ n) (h1 : n ≤ 9223372036854775807) :
    Calls Tryd.prog 12 #[.int .i64 n] w fun e w' => e = .returned (.int .i64 (lenF n)) ∧ w = w' := by
  unfold lenF
  by_cases h : n < 0 ∨ 65536 < n
  · rw [if_pos h]
    rcases (show n < 0 ∨ (0 ≤ n ∧ 65536 < n) by omega) with h2 | ⟨h2, h3⟩
    all_goals
      clear h
      go_enter Tryd.func12, Tryd.ntmps12
      go_wp2
      go_ret
      exact ⟨rfl, rfl⟩
  · rw [if_neg h]
    have h2 : 0 ≤ n := by omega
    have h3 : n ≤ 65536 := by omega
    clear h
    go_enter Tryd.func12, Tryd.ntmps12
    go_wp2
    go_ret
    exact ⟨rfl, rfl⟩
set_option maxRecDepth 100000 in
set_option maxHeartbeats 400000 in
theorem rlen_any (n : Int) (w : World) (h0 : -9223372036854775808 ≤ n) (h1 : n ≤ 9223372036854775807) :
    Calls Tryd.prog 13 #[.int .i64 n] w fun e w' => e = .returned (.int .i64 (lenF n)) ∧ w = w' := by
  unfold lenF
  by_cases h : n < 0 ∨ 65536 < n
  · rw [if_pos h]
    rcases (show n < 0 ∨ (0 ≤ n ∧ 65536 < n) by omega) with h2 | ⟨h2, h3⟩
    all_goals
      clear h
      go_enter Tryd.func13, Tryd.ntmps13
      go_wp2
      go_ret
      exact ⟨rfl, rfl⟩
  · rw [if_neg h]
    have h2 : 0 ≤ n := by omega
    have h3 : n ≤ 65536 := by omega
    clear h
    go_enter Tryd.func13, Tryd.ntmps13
    go_wp2
    go_ret
    exact ⟨rfl, rfl⟩

/-- Bytes written out in a new block. -/
theorem Lie.lits (w : World) (cs : Array Value) (xs : List UInt8) (h : cs.toList = cellsU xs) : Lie (w.alloc (.cells cs 5)) (some ⟨w.heap.size, 0, none⟩) xs := by
  refine ⟨.inr ⟨w.heap.size, 0, rfl, by simp, fun j hj => ?_⟩⟩
  rw [World.cell?_alloc_mark, Nat.zero_add]
  obtain ⟨l⟩ := cs
  have := cellsU_get xs j hj
  simp only at h
  rw [← h] at this
  simpa using this
theorem four_cells (n : Nat) (h : n < 4294967296) (a b c d : Int) (ha : a = n / 16777216) (hb : b = n / 65536 % 256) (hc : c = n / 256 % 256) (hd : d = n % 256) :
    (#[.int .u8 a, .int .u8 b, .int .u8 c, .int .u8 d] : Array Value).toList = cellsU (be4 n) := by
  subst ha hb hc hd
  unfold be4 cellsU
  simp only [List.map_cons, List.map_nil]
  rw [toNat8' _ (by omega), toNat8' _ (by omega), toNat8' _ (by omega), toNat8' _ (by omega)]
  simp

theorem heap_new (w : World) (o : Obj) : (w.alloc o).heap[w.heap.size]? = some o := by
  show (w.heap.push o)[w.heap.size]? = some o
  simp
theorem Own.lits (w : World) (cs : Array Value) (xs : List UInt8) (h : cs.toList = cellsU xs) (hm : xs.length ≤ 10000000) : Own (w.alloc (.cells cs 5)) w.heap.size (.slice (some ⟨w.heap.size, 0, none⟩) xs.length xs.length) xs := by
  have hs : cs.size = xs.length := by rw [← Array.length_toList, h, cellsU_length]
  refine ⟨by rw [cellsU_length]; omega, .inr ⟨w.heap.size, xs.length, cs, rfl, Nat.le_refl _, heap_new w _, Nat.le_refl _, by unfold maxLen; omega, by omega, ?_⟩⟩
  rw [h, List.take_of_length_le (by rw [cellsU_length]; omega)]
theorem or24 (a b : Nat) (h : b < 16777216) : a * 16777216 ||| b = a * 16777216 + b := by
  have := Nat.two_pow_add_eq_or_of_lt (i := 24) (b := b) h a
  rw [Nat.mul_comm]
  exact this.symm
theorem or16 (a b : Nat) (h : b < 65536) : a * 65536 ||| b = a * 65536 + b := by
  have := Nat.two_pow_add_eq_or_of_lt (i := 16) (b := b) h a
  rw [Nat.mul_comm]
  exact this.symm
theorem or8 (a b : Nat) (h : b < 256) : a * 256 ||| b = a * 256 + b := by
  have := Nat.two_pow_add_eq_or_of_lt (i := 8) (b := b) h a
  rw [Nat.mul_comm]
  exact this.symm
theorem or_four (v0 v1 v2 v3 : Nat) (h0 : v0 < 2 ^ 8) (h1 : v1 < 2 ^ 8) (h2 : v2 < 2 ^ 8) (h3 : v3 < 2 ^ 8) :
    bits .or .u32 (bits .or .u32 (bits .or .u32 ((v0 : Int) * 16777216) ((v1 : Int) * 65536)) ((v2 : Int) * 256)) (v3 : Int) = ((v0 * 16777216 + v1 * 65536 + v2 * 256 + v3 : Nat) : Int) := by
  simp only [Nat.reducePow] at h0 h1 h2 h3
  rw [show (v0 : Int) * 16777216 = ((v0 * 16777216 : Nat) : Int) by omega, show (v1 : Int) * 65536 = ((v1 * 65536 : Nat) : Int) by omega, show (v2 : Int) * 256 = ((v2 * 256 : Nat) : Int) by omega]
  have e1 : v0 * 16777216 ||| v1 * 65536 = (v0 * 256 + v1) * 65536 := by
    rw [or24 _ _ (by omega)]; omega
  have e2 : (v0 * 256 + v1) * 65536 ||| v2 * 256 = (v0 * 65536 + v1 * 256 + v2) * 256 := by
    rw [or16 _ _ (by omega)]; omega
  have e3 : (v0 * 65536 + v1 * 256 + v2) * 256 ||| v3 = v0 * 16777216 + v1 * 65536 + v2 * 256 + v3 := by
    rw [or8 _ _ (by omega)]; omega
  rw [u32_or_nat _ _ (by omega) (by omega), e1, u32_or_nat _ _ (by omega) (by omega), e2, u32_or_nat _ _ (by omega) (by omega), e3]

/-- A call gives the slice v back, appended to: what lay below B is as it was. -/
def Adds (w : World) (B : Nat) (l : List UInt8) (e : Ending) (w' : World) : Prop := ∃ v, e = .returned v ∧ Own w' B v l ∧ Below B w w'
theorem Own.alloc {w : World} {B : Nat} {v : Value} {l : List UInt8} (h : Own w B v l) (o : Obj) : Own (w.alloc o) B v l := h.below ((Below.refl _ _).alloc (Nat.le_refl _) o)
theorem Lie.alloc {w : World} {ad : Option Addr} {l : List UInt8} (h : Lie w ad l) (o : Obj) : Lie (w.alloc o) ad l := h.below ((Below.refl _ _).alloc (Nat.le_refl _) o) rfl
theorem below_add {w w1 : World} {B : Nat} {o : Obj} {v : Value} {l : List UInt8} (hown : Own w B v l) (hB : B ≤ w.heap.size) (hg : (w.alloc o).grownBy w1 v.ownBlock) : Below B w w1 :=
  ((Below.refl _ _).alloc hB o).grown hg (by simp; omega) (fun k hk => (hown.lt k hk).1)
theorem below_app {w w1 : World} {B : Nat} {v : Value} {l : List UInt8} (hown : Own w B v l) (hB : B ≤ w.heap.size) (hg : w.grownBy w1 v.ownBlock) : Below B w w1 :=
  (Below.refl _ _).grown hg hB (fun k hk => (hown.lt k hk).1)

set_option maxRecDepth 100000 in
set_option maxHeartbeats 600000 in
theorem putn_any (v : Value) (ys : List UInt8) (B n : Nat) (w : World) (hn : n < 4294967296) (hown : Own w B v ys) (hB : B ≤ w.heap.size) (hlen : ys.length ≤ 5000000) :
    Calls Tryd.prog 25 #[v, .int .u32 n] w (Adds w B (ys ++ be4 n)) := by
  have HO := Lib.hid hown
  clear hown
  go_enter Tryd.func25, Tryd.ntmps25
  go_wp2_with (at_builtin; refine wpList_append_u rfl (.tmp 5) (.tmp 17) rfl B _ ys rfl (HO.out.alloc _) _ 4 4 (be4 n) (fun h => by cases h) (Lie.lits w _ (be4 n) (four_cells n hn _ _ _ _ (by omega) (by omega) (by omega) (by omega))) rfl rfl (by omega) (by simp; omega) ?_; intro v1 w1 hown1 hgrow1)
  go_ret
  exact ⟨v1, rfl, hown1, below_add HO.out hB hgrow1⟩

set_option maxRecDepth 100000 in
set_option maxHeartbeats 600000 in
theorem four_any (n : Nat) (w : World) (hn : n < 4294967296) :
    Calls Tryd.prog 27 #[.int .i64 n] w fun e w' => e = .returned (.slice (some ⟨w.heap.size, 0, none⟩) 4 4) ∧ Lie w' (some ⟨w.heap.size, 0, none⟩) (be4 n) ∧ Own w' w.heap.size (.slice (some ⟨w.heap.size, 0, none⟩) 4 4) (be4 n) ∧ Below w.heap.size w w' := by
  go_enter Tryd.func27, Tryd.ntmps27
  go_wp2
  go_ret
  have hf := four_cells n hn ((n : Int) / 16777216) ((n : Int) / 65536 % 256) ((n : Int) / 256 % 256) ((n : Int) % 256) rfl rfl rfl rfl
  exact ⟨rfl, Lie.lits w _ _ hf, Own.lits w _ _ hf (by rw [be4_length]; decide), (Below.refl _ _).alloc (Nat.le_refl _) _⟩

set_option maxRecDepth 100000 in
set_option maxHeartbeats 1000000 in
theorem num_any (ad : Option Addr) (n cap : Nat) (xs : List UInt8) (w : World) (hl : Lie w ad xs) (hn : n = xs.length) (h4 : 4 ≤ xs.length) (hm : xs.length ≤ 10000000) :
    Calls Tryd.prog 36 #[.slice ad n cap] w fun e w' => e = .returned (.int .u32 (num4 xs : Int)) ∧ ∃ k, w' = w.drewN k := by
  rcases hl.at_ with rfl | ⟨b, off, rfl, hb, hc⟩
  · simp at h4
  match xs, h4 with
  | x0 :: x1 :: x2 :: x3 :: r, _ =>
    have c0 := hc 0 (by simp)
    have c1 := hc 1 (by simp)
    have c2 := hc 2 (by simp)
    have c3 := hc 3 (by simp)
    simp only [List.getElem_cons_zero, List.getElem_cons_succ, Nat.add_zero] at c0 c1 c2 c3
    have b0 := x0.toNat_lt
    have b1 := x1.toNat_lt
    have b2 := x2.toNat_lt
    have b3 := x3.toNat_lt
    simp only [num4]
    generalize x0.toNat = v0 at *
    generalize x1.toNat = v1 at *
    generalize x2.toNat = v2 at *
    generalize x3.toNat = v3 at *
    have hn4 : 4 ≤ n := by simp at hn; omega
    have hnm : n ≤ 10000000 := by omega
    clear hc hl hn hm
    go_enter Tryd.func36, Tryd.ntmps36
    go_wp2
    go_quiet (fail)
    go_wp2
    go_ret
    exact ⟨by rw [or_four v0 v1 v2 v3 b0 b1 b2 b3]; rfl, nq, rfl⟩

set_option maxRecDepth 100000 in
set_option maxHeartbeats 1000000 in
theorem clone_any (a : Addr) (n cap : Nat) (xs : List UInt8) (w : World) (hl : Lie w (some a) xs) (hn : n = xs.length) (hm : xs.length ≤ 5000000) :
    Calls Tryd.prog 30 #[.slice (some a) n cap] w (Adds w w.heap.size xs) := by
  have hl1 := Lib.hid (hl.alloc (.cells #[] 5))
  have HN := Lib.hid hn
  clear hl hn
  have he : ∀ W, (binOp .eql 22 (.slice (some a) n cap) (.slice none 0 0)).run Tryd.prog W = .ok (.bool false) W := fun W => Lib.run_eql_slice_nil W _ _ (some a) n cap 0 0 Tryd.underlying22
  go_enter Tryd.func30, Tryd.ntmps30
  go_wp2_with (at_builtin; refine wpList_append_u rfl (.tmp 5) (.tmp 6) rfl w.heap.size _ [] rfl (Own.made w) _ n cap xs (fun h => by cases h) hl1.out HN.out rfl (by have := HN.out; simp; omega) (by simp) ?_; intro v1 w1 hown1 hgrow1)
  go_ret
  exact ⟨v1, rfl, hown1, below_new hgrow1 (fun k hk => ((Own.made w).lt k hk).1)⟩
end Go.Proofs.YtbbdkghkdmaolaaDoor
