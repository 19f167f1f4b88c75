/-
  The walk of the statement ChecksumCombines: true for every two slices of bytes, and nothing that was there is written.
-/
import Derived.Test.YtheoklpgnchmcaaAppend
namespace Go.Proofs.Ytheoklpgnchmcaa
open Go.RowKit

theorem regB_append (r : BitVec 32) (xs ys : List (BitVec 32)) : regB r (xs ++ ys) = regB (regB r xs) ys := by unfold regB; rw [List.foldl_append]
theorem regB_linear (r : BitVec 32) (l : List (BitVec 32)) : regB r l = stepsB (8 * l.length) r ^^^ regB 0#32 l := by
  induction l generalizing r with
  | nil => show r = r ^^^ 0#32; simp
  | cons x l ih =>
    show regB (afterB r x) l = _ ^^^ regB (afterB 0#32 x) l
    rw [ih (afterB r x), ih (afterB 0#32 x)]
    unfold afterB
    rw [BitVec.zero_xor, stepsB_xor 8 r x, stepsB_xor (8 * l.length), ← stepsB_add, show 8 * (x :: l).length = 8 * l.length + 8 by simp; omega]
    ac_rfl
theorem not_xor (v : BitVec 32) : ~~~ v = v ^^^ ~~~ 0#32 := by rw [BitVec.not_zero, BitVec.xor_allOnes]
theorem upd_upd (s : BitVec 32) (xs ys : List (BitVec 32)) : updB (updB s xs) ys = updB s (xs ++ ys) := by
  unfold updB
  rw [regB_append, BitVec.not_not]
theorem comb_eq (xs ys : List (BitVec 32)) : updB 0#32 ys ^^^ stepsB (8 * ys.length) (updB 0#32 xs) = updB 0#32 (xs ++ ys) := by
  unfold updB
  rw [regB_append, regB_linear (~~~ 0#32) ys, regB_linear (regB (~~~ 0#32) xs) ys]
  generalize regB (~~~ 0#32) xs = Q
  generalize regB 0#32 ys = T
  rw [not_xor Q, stepsB_xor]
  generalize stepsB (8 * ys.length) Q = q
  generalize stepsB (8 * ys.length) (~~~ 0#32) = p
  rw [not_xor (p ^^^ T), not_xor (q ^^^ T)]
  generalize ~~~ 0#32 = o
  rw [show p ^^^ T ^^^ o ^^^ (q ^^^ p) = (q ^^^ T ^^^ o) ^^^ (p ^^^ p) by ac_rfl]
  simp
attribute [local irreducible] stepB stepsB updB regB afterB cellsB

set_option maxRecDepth 100000 in
set_option maxHeartbeats 2000000 in
theorem law_comb (ad bd : Option Addr) (ac bc : Nat) (xs ys : List (BitVec 32)) (w : World) (hl : Lies w ad xs) (hm : Lies w bd ys) (hac : ad = none → ac = 0) (hbc : bd = none → bc = 0) (hx : xs.length ≤ 4096) (hy : ys.length ≤ 4096) :
    Calls Try.prog 4 #[.slice ad xs.length ac, .slice bd ys.length bc] w fun e w' => e = .returned (.bool true) ∧ Below w.heap.size w w' := by
  have hown0 : (w.alloc (.cells #[] 5)).ownsRow w.heap.size 5 1 (.slice (some ⟨w.heap.size, 0, none⟩) 0 0) 0 [] := World.ownsRow_made w #[] 0 (Nat.le_refl _) (by decide) rfl
  have hl0 : Lies (w.alloc (.cells #[] 5)) ad xs := lies_below hl ((Below.refl _ _).alloc (Nat.le_refl _) _)
  go_enter Try.func4, Try.ntmps4
  go_wp2_with (first
    | (at_builtin; refine wpList_append_bytes rfl (.tmp 18) (.tmp 19) rfl w.heap.size _ 0 [] rfl hown0 ad ac xs hac hl0 rfl (by omega) (by simp) ?_; intro v1 w1 hown1 hgrow1)
    | (at_builtin; refine wpList_append_bytes rfl (.tmp 21) (.tmp 22) rfl w.heap.size _ _ _ rfl hown1 bd bc ys hbc (lies_below hm (below_own hgrow1 (fun k hk => (hown0.lt k hk).1))) rfl (by omega) (Nat.le_of_lt (by have := hgrow1.size; simp at this; omega)) ?_; intro v2 w2 hown2 hgrow2))
  simp only [Nat.zero_add, List.nil_append, cellsB_append] at hown2
  obtain ⟨zd, zc, rfl, hz⟩ := lies_own hown2 (by simp) (bytes_append hl.byte hm.byte)
  have hb1 : Below w.heap.size w w1 := below_own hgrow1 (fun k hk => (hown0.lt k hk).1)
  have hb2 : Below w.heap.size w w2 := hb1.grown hgrow2 hb1.size (fun k hk => (hown1.lt k hk).1)
  have HZ := Lib.hid hz
  have HB2 := Lib.hid hb2
  have HC := Lib.hid (comb_eq xs ys)
  have HU := Lib.hid (upd_upd 0#32 xs ys)
  clear hown0 hown1 hown2 hgrow1 hgrow2 hz hb1 hb2 hl0
  go_wp2_with fail
  refine (sum_below zd zc (xs ++ ys) _ HZ.out (by simp; omega)).mono ?_
  rintro e w3 ⟨rfl, hb3⟩
  have HB3 : Hid (Below w.heap.size w w3) := Lib.hid (HB2.out.trans (hb3.mono HB2.out.size))
  clear hb3
  go_wp2_with fail
  refine (sum_below ad ac xs _ (lies_below hl HB3.out) (by omega)).mono ?_
  rintro e w4 ⟨rfl, hb4⟩
  have HB4 : Hid (Below w.heap.size w w4) := Lib.hid (HB3.out.trans (hb4.mono HB3.out.size))
  clear hb4
  go_wp2_with fail
  refine (sum_below bd bc ys _ (lies_below hm HB4.out) (by omega)).mono ?_
  rintro e w5 ⟨rfl, hb5⟩
  have HB5 : Hid (Below w.heap.size w w5) := Lib.hid (HB4.out.trans (hb5.mono HB4.out.size))
  clear hb5
  go_wp2_with fail
  refine (combine_any _ _ ys.length (by omega) _).mono ?_
  rintro e w' ⟨rfl, rfl⟩
  rw [HC.out]
  go_wp2_with fail
  refine (upd_below _ bd bc ys _ (lies_below hm HB5.out) (by omega)).mono ?_
  rintro e w6 ⟨rfl, hb6⟩
  have HB6 : Hid (Below w.heap.size w w6) := Lib.hid (HB5.out.trans (hb6.mono HB5.out.size))
  clear hb6
  rw [HU.out]
  go_wp2_with fail
  refine (awake_any _).mono ?_
  rintro e w7 ⟨rfl, hb7⟩
  have HB7 : Hid (Below w.heap.size w w7) := Lib.hid (HB6.out.trans (hb7.mono HB6.out.size))
  clear hb7
  go_wp2
  go_ret
  exact ⟨rfl, HB7.out⟩

set_option maxRecDepth 100000 in
set_option maxHeartbeats 2000000 in
theorem law_comb_out (ad bd : Option Addr) (ac bc n m : Nat) (w : World) (h : 4096 < n ∨ n ≤ 4096 ∧ 4096 < m) :
    Calls Try.prog 4 #[.slice ad n ac, .slice bd m bc] w fun e w' => e = .returned (.bool true) ∧ Below w.heap.size w w' := by
  rcases h with h | ⟨h1, h⟩
  all_goals
    go_enter Try.func4, Try.ntmps4
    go_wp2_with fail
    refine (awake_any _).mono ?_
    rintro e w7 ⟨rfl, hb7⟩
    have HB7 := Lib.hid hb7
    clear hb7
    go_wp2
    go_ret
    exact ⟨rfl, HB7.out⟩
end Go.Proofs.Ytheoklpgnchmcaa
