/-
  Valid and Capacity of the specification.
-/
import Derived.Test.YtlbnjojafaieoaaSGeo
namespace Go.Proofs.Ytlbnjojafaieoaa
open Go.RowKit
set_option linter.unusedVariables false
set_option maxRecDepth 100000 in
set_option maxHeartbeats 400000 in
theorem rtime_any (a : Int) (w : World) :
    Calls Try.prog 50 #[.int .i64 a] w fun e w' => e = .returned (.bool (tim a)) ∧ w' = w := by
  go_enter Try.func50, Try.ntmps50
  go_wp2
  all_goals go_ret
  · rename_i h
    exact ⟨ret_bools (by unfold tim; rw [decide_eq_true h]; rfl), rfl⟩
  · rename_i h
    exact ⟨ret_bools (by unfold tim; rw [decide_eq_false (by omega)]; rfl), rfl⟩
attribute [local irreducible] tim vld
set_option maxRecDepth 100000 in
set_option maxHeartbeats 1000000 in
theorem rvalid_any (W L S T J R : Int) (w : World) :
    Calls Try.prog 35 #[geV W L S T J R] w fun e w' => e = .returned (.bool (vld W L S T J R)) ∧ Below w.heap.size w w' := by
  have HB0 := Lib.hid (below_box1 w (.cells #[.int .i64 W, .int .i64 L, .int .i64 S, .int .i64 T, .int .i64 J, .int .i64 R] 23))
  by_cases hW : W < 1
  · rw [vld_no (by omega)]
    go_enter Try.func35, Try.ntmps35
    go_wp2
    go_ret
    exact ⟨rfl, HB0.out⟩
  by_cases hW2 : 32 < W
  · rw [vld_no (by omega)]
    go_enter Try.func35, Try.ntmps35
    go_wp2
    go_ret
    exact ⟨rfl, HB0.out⟩
  by_cases hL : L < 1
  · rw [vld_no (by omega)]
    go_enter Try.func35, Try.ntmps35
    go_wp2
    go_ret
    exact ⟨rfl, HB0.out⟩
  by_cases hL2 : 4096 < L
  · rw [vld_no (by intro h; have := cap_pos h.1 h.2.2.1; omega)]
    go_enter Try.func35, Try.ntmps35
    go_wp2
    go_ret
    exact ⟨rfl, HB0.out⟩
  have hm0 : 0 ≤ W * L := Int.mul_nonneg (by omega) (by omega)
  have hm1 : W * L ≤ 32 * L := Int.mul_le_mul_of_nonneg_right (by omega) (by omega)
  by_cases hc : 4096 < W * L
  · rw [vld_no (by omega)]
    go_enter Try.func35, Try.ntmps35
    go_wp2
    go_ret
    exact ⟨rfl, HB0.out⟩
  rw [vld_eq (by omega) (by omega) (by omega) (by omega)]
  go_enter Try.func35, Try.ntmps35
  go_wp2_with fail
  refine (rtime_any S _).mono ?_
  rintro e w1 ⟨rfl, rfl⟩
  cases hS : tim S
  · go_wp2
    go_ret
    exact ⟨by simp [hS], HB0.out⟩
  go_wp2_with fail
  refine (rtime_any T _).mono ?_
  rintro e w1 ⟨rfl, rfl⟩
  cases hT : tim T
  · go_wp2
    go_ret
    exact ⟨by simp [hS, hT], HB0.out⟩
  go_wp2_with fail
  refine (rtime_any J _).mono ?_
  rintro e w1 ⟨rfl, rfl⟩
  cases hJ : tim J
  · go_wp2
    go_ret
    exact ⟨by simp [hS, hT, hJ], HB0.out⟩
  go_wp2_with fail
  refine (rtime_any R _).mono ?_
  rintro e w1 ⟨rfl, rfl⟩
  go_wp2
  go_ret
  exact ⟨by simp [hS, hT, hJ], HB0.out⟩
set_option maxRecDepth 100000 in
set_option maxHeartbeats 1000000 in
theorem rcapacity_any (W L S T J R : Int) (w : World) :
    Calls Try.prog 40 #[geV W L S T J R] w fun e w' => e = .returned (.int .i64 (capU W L S T J R)) ∧ Below w.heap.size w w' := by
  have HB0 := Lib.hid (below_box1 w (.cells #[.int .i64 W, .int .i64 L, .int .i64 S, .int .i64 T, .int .i64 J, .int .i64 R] 23))
  have HG := Lib.hid (GeoAt.new w W L S T J R 23)
  by_cases hv : Vld W L S T J R
  · rw [capU_yes hv]
    have h0 : 0 ≤ W * L := Int.mul_nonneg (by have := hv.w0; omega) (by have := hv.l0; omega)
    have h1 := hv.c1
    have HV := Lib.hid (vld_iff.2 hv)
    clear hv
    go_enter Try.func40, Try.ntmps40
    go_wp2_with fail
    refine (rvalid_any W L S T J R _).mono ?_
    rw [HV.out]
    rintro e w1 ⟨rfl, hb⟩
    have HB := Lib.hid (HB0.out.trans (hb.mono HB0.out.size))
    obtain ⟨_, g0, g1, _, _, _, _⟩ := HG.out.below hb (by simp)
    clear hb
    go_wp2
    go_ret
    exact ⟨rfl, HB.out⟩
  · rw [capU_no hv]
    have HV := Lib.hid (vld_not.2 hv)
    clear hv
    go_enter Try.func40, Try.ntmps40
    go_wp2_with fail
    refine (rvalid_any W L S T J R _).mono ?_
    rw [HV.out]
    rintro e w1 ⟨rfl, hb⟩
    have HB := Lib.hid (HB0.out.trans (hb.mono HB0.out.size))
    clear hb
    go_wp2
    go_ret
    exact ⟨rfl, HB.out⟩
end Go.Proofs.Ytlbnjojafaieoaa
