/-
  The specification's in, model and rail.
-/
import Derived.Test.YtmhaeipklifhcaaRbBox
namespace Go.Proofs.Ytmhaeipklifhcaa
open Go.RowKit
set_option linter.unusedVariables false
theorem inn_yes {a lo hi : Int} (h0 : lo ≤ a) (h1 : a ≤ hi) : inn a lo hi = true := inn_iff.2 ⟨h0, h1⟩
set_option maxRecDepth 100000 in
set_option maxHeartbeats 1000000 in
theorem rin_any (a lo hi : Int) (w : World) : Calls Try.prog 31 #[.int .i64 a, .int .i64 lo, .int .i64 hi] w fun e w' => e = .returned (.bool (inn a lo hi)) ∧ w' = w := by
  by_cases h0 : lo ≤ a
  · by_cases h1 : a ≤ hi
    · have HR := Lib.hid (inn_yes h0 h1)
      go_enter Try.func31, Try.ntmps31
      go_wp2
      go_ret
      exact ⟨by rw [HR.out]; rfl, rfl⟩
    · have HR := Lib.hid (inn_no (n := a) (lo := lo) (hi := hi) (fun h => h1 h.2))
      go_enter Try.func31, Try.ntmps31
      go_wp2
      go_ret
      exact ⟨by rw [HR.out]; rfl, rfl⟩
  · have HR := Lib.hid (inn_no (n := a) (lo := lo) (hi := hi) (fun h => h0 h.1))
    go_enter Try.func31, Try.ntmps31
    go_wp2
    go_ret
    exact ⟨by rw [HR.out]; rfl, rfl⟩
attribute [local irreducible] inn
set_option maxRecDepth 100000 in
set_option maxHeartbeats 1000000 in
theorem rmodel_any (m : Rmd) (w : World) : Calls Try.prog 38 #[rmV m] w fun e w' => e = .returned (.bool (mdlR m)) ∧ Below w.heap.size w w' := by
  have HB := Lib.hid (below_box1 w (boxM m))
  have HR := Lib.hid (show mdlR m = _ from rfl)
  unfold mdlR at HR
  obtain ⟨s, d, da, pa, mv, pk, pt⟩ := m
  generalize hres : mdlR ⟨s, d, da, pa, mv, pk, pt⟩ = res
  replace HR := Lib.hid (show (inn s 1 64 && (inn d 1 8 && (inn da 0 1000 && (inn pa 0 1000 && (inn mv 0 1000000 && (inn pk 0 1000000 && inn pt 0 1000000)))))) = res from by rw [← hres]; rfl)
  clear hres
  show Calls Try.prog 38 #[.agg #[.int .i64 s, .int .i64 d, .int .i64 da, .int .i64 pa, .int .i64 mv, .int .i64 pk, .int .i64 pt]] w _
  go_enter Try.func38, Try.ntmps38
  go_wp2_with fail
  refine (rin_any s 1 64 _).mono ?_
  rintro e w1 ⟨rfl, rfl⟩
  cases h0 : inn s 1 64
  · rw [h0] at HR
    go_wp2
    go_ret
    exact ⟨by rw [← HR.out]; simp, HB.out⟩
  rw [h0] at HR
  go_wp2_with fail
  refine (rin_any d 1 8 _).mono ?_
  rintro e w1 ⟨rfl, rfl⟩
  cases h1 : inn d 1 8
  · rw [h1] at HR
    go_wp2
    go_ret
    exact ⟨by rw [← HR.out]; simp, HB.out⟩
  rw [h1] at HR
  go_wp2_with fail
  refine (rin_any da 0 1000 _).mono ?_
  rintro e w1 ⟨rfl, rfl⟩
  cases h2 : inn da 0 1000
  · rw [h2] at HR
    go_wp2
    go_ret
    exact ⟨by rw [← HR.out]; simp, HB.out⟩
  rw [h2] at HR
  go_wp2_with fail
  refine (rin_any pa 0 1000 _).mono ?_
  rintro e w1 ⟨rfl, rfl⟩
  cases h3 : inn pa 0 1000
  · rw [h3] at HR
    go_wp2
    go_ret
    exact ⟨by rw [← HR.out]; simp, HB.out⟩
  rw [h3] at HR
  go_wp2_with fail
  refine (rin_any mv 0 1000000 _).mono ?_
  rintro e w1 ⟨rfl, rfl⟩
  cases h4 : inn mv 0 1000000
  · rw [h4] at HR
    go_wp2
    go_ret
    exact ⟨by rw [← HR.out]; simp, HB.out⟩
  rw [h4] at HR
  go_wp2_with fail
  refine (rin_any pk 0 1000000 _).mono ?_
  rintro e w1 ⟨rfl, rfl⟩
  cases h5 : inn pk 0 1000000
  · rw [h5] at HR
    go_wp2
    go_ret
    exact ⟨by rw [← HR.out]; simp, HB.out⟩
  rw [h5] at HR
  go_wp2_with fail
  refine (rin_any pt 0 1000000 _).mono ?_
  rintro e w1 ⟨rfl, rfl⟩
  cases h6 : inn pt 0 1000000
  · rw [h6] at HR
    go_wp2
    go_ret
    exact ⟨by rw [← HR.out]; simp, HB.out⟩
  rw [h6] at HR
  go_wp2
  go_ret
  exact ⟨by rw [← HR.out]; simp, HB.out⟩
set_option maxRecDepth 100000 in
set_option maxHeartbeats 1000000 in
theorem rrail_any (m : Rmd) (w : World) (hm : MdlR m) : Calls Try.prog 39 #[rmV m] w fun e w' => e = .returned (.int .i64 (rail m)) ∧ Below w.heap.size w w' := by
  have HB := Lib.hid (below_box1 w (boxM m))
  obtain ⟨h1, h2, h3, h4, h5, h6, h7, h8, _, _, _, _, _, _⟩ := hm
  obtain ⟨s, d, da, pa, mv, pk, pt⟩ := m
  simp only at h1 h2 h3 h4 h5 h6 h7 h8
  by_cases hc : s - 1 < da + d - 1
  · by_cases hd : da + d - 1 < pa
    · have HR := Lib.hid (show rail ⟨s, d, da, pa, mv, pk, pt⟩ = pa by unfold rail; simp only; rw [if_neg (by omega), if_neg (by omega)])
      go_enter Try.func39, Try.ntmps39
      go_wp2
      go_ret
      exact ⟨by rw [HR.out]; rfl, HB.out⟩
    · have HR := Lib.hid (show rail ⟨s, d, da, pa, mv, pk, pt⟩ = da + d - 1 by unfold rail; simp only; rw [if_neg (by omega), if_pos (by omega)])
      go_enter Try.func39, Try.ntmps39
      go_wp2
      go_ret
      exact ⟨by rw [HR.out]; rfl, HB.out⟩
  · by_cases hd : s - 1 < pa
    · have HR := Lib.hid (show rail ⟨s, d, da, pa, mv, pk, pt⟩ = pa by unfold rail; simp only; rw [if_neg (by omega), if_neg (by omega)])
      go_enter Try.func39, Try.ntmps39
      go_wp2
      go_ret
      exact ⟨by rw [HR.out]; rfl, HB.out⟩
    · have HR := Lib.hid (show rail ⟨s, d, da, pa, mv, pk, pt⟩ = s - 1 by unfold rail; simp only; rw [if_pos (by omega)])
      go_enter Try.func39, Try.ntmps39
      go_wp2
      go_ret
      exact ⟨by rw [HR.out]; rfl, HB.out⟩
end Go.Proofs.Ytmhaeipklifhcaa
