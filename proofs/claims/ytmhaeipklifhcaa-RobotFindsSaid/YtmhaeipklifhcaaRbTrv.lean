/-
  Travel and Farthest, by both sides.
-/
import Derived.Test.YtmhaeipklifhcaaRbPos
namespace Go.Proofs.Ytmhaeipklifhcaa
open Go.RowKit
set_option linter.unusedVariables false
theorem mul_le {a b A B : Int} (a0 : 0 ≤ a) (a1 : a ≤ A) (b0 : 0 ≤ b) (b1 : b ≤ B) : 0 ≤ a * b ∧ a * b ≤ A * B :=
  ⟨Int.mul_nonneg a0 b0, Int.le_trans (Int.mul_le_mul_of_nonneg_right a1 b0) (Int.mul_le_mul_of_nonneg_left b1 (Int.le_trans a0 a1))⟩
theorem trv_no1 {m : Rmd} {a b : Int} (h : mdlR m = false) : trvR m a b = 0 := if_neg fun h2 => by rw [h] at h2; cases h2.1
theorem trv_no2 {m : Rmd} {a b : Int} (h : inn a 0 (rail m) = false) : trvR m a b = 0 := if_neg fun h2 => by rw [h] at h2; cases h2.2.1
theorem trv_no3 {m : Rmd} {a b : Int} (h : inn b 0 (rail m) = false) : trvR m a b = 0 := if_neg fun h2 => by rw [h] at h2; cases h2.2.2
theorem trv_yes {m : Rmd} {a b : Int} (h1 : mdlR m = true) (h2 : inn a 0 (rail m) = true) (h3 : inn b 0 (rail m) = true) : trvR m a b = m.mv * (if b < a then a - b else b - a) := if_pos ⟨h1, h2, h3⟩
theorem trv_bd (m : Rmd) (a b : Int) : 0 ≤ trvR m a b ∧ trvR m a b ≤ 1007000000 := by
  by_cases h : mdlR m = true ∧ inn a 0 (rail m) = true ∧ inn b 0 (rail m) = true
  · have hm := mdl_iff.1 h.1
    have h2 := inn_iff.1 h.2.1
    have h3 := inn_iff.1 h.2.2
    have hr := rail_le hm
    rw [trv_yes h.1 h.2.1 h.2.2]
    have := mul_le (B := 1007) hm.m0 hm.m1 (b := if b < a then a - b else b - a) (by split <;> omega) (by split <;> omega)
    omega
  · rw [show trvR m a b = 0 from if_neg h]; omega
theorem far_yes {m : Rmd} (h : mdlR m = true) : farR m = 2 * m.mv * rail m + m.pk + m.pt := if_pos h
theorem far_no {m : Rmd} (h : mdlR m = false) : farR m = 0 := if_neg (by rw [h]; decide)
attribute [local irreducible] inn mdlR rail dst vldR trvR
set_option maxRecDepth 100000 in
set_option maxHeartbeats 2000000 in
theorem travel_any (m : Rmd) (a b : Int) (w : World) (ha : I64 a) (hb : I64 b) :
    Calls Try.prog 18 #[rmV m, .int .i64 a, .int .i64 b] w fun e w' => e = .returned (.int .i64 (trvR m a b)) ∧ Below w.heap.size w w' := by
  obtain ⟨hB, hM⟩ := box_m w m
  have HB := Lib.hid hB
  have HM := Lib.hid hM
  clear hB hM ha hb
  go_enter Try.func18, Try.ntmps18
  go_wp2_with fail
  generalize World.alloc _ _ = X0 at *
  refine (model_any m _).mono ?_
  rintro e w1 ⟨rfl, hb1⟩
  have HB1 := Lib.hid (HB.out.trans (hb1.mono HB.out.size))
  have HM1 := Lib.hid (HM.out.step hb1)
  clear hb1
  cases hmd : mdlR m
  · have HT := Lib.hid (trv_no1 (a := a) (b := b) hmd)
    clear hmd
    go_wp2
    go_ret
    exact ⟨by rw [HT.out]; rfl, HB1.out⟩
  have HMD := Lib.hid hmd
  have HMR := Lib.hid (mdl_iff.1 hmd)
  clear hmd
  obtain ⟨_, g0, g1, g2, g3, g4, g5, g6⟩ := HM1.out
  go_wp2_with fail
  refine (end_any m _ HMR.out).mono ?_
  rintro e w2 ⟨rfl, hb2⟩
  have HB2 := Lib.hid (HB1.out.trans (hb2.mono HB1.out.size))
  have HM2 := Lib.hid (HM1.out.step hb2)
  clear hb2 g0 g1 g2 g3 g4 g5 g6
  go_wp2_with fail
  refine (within_2 0 (rail m) a b w2 _ rfl).mono ?_
  have HB3 := Lib.hid (HB2.out.alloc HB2.out.size (.cells #[.int .i64 a, .int .i64 b] 3))
  have HM3 := Lib.hid (HM2.out.step (below_box1 w2 (.cells #[.int .i64 a, .int .i64 b] 3)))
  rintro e w3 ⟨rfl, rfl⟩
  generalize World.alloc _ _ = X3 at *
  cases hab : (inn a 0 (rail m) && inn b 0 (rail m))
  · have HT := Lib.hid (show trvR m a b = 0 by
      rw [Bool.and_eq_false_iff] at hab
      rcases hab with h | h
      · exact trv_no2 h
      · exact trv_no3 h)
    clear hab
    go_wp2
    go_ret
    exact ⟨by rw [HT.out]; rfl, HB3.out⟩
  have HAB := Lib.hid ((Bool.and_eq_true _ _).mp hab)
  clear hab
  obtain ⟨ha, hb⟩ : inn a 0 (rail m) = true ∧ inn b 0 (rail m) = true := HAB.out
  have hm := HMR.out
  have hr := rail_le hm
  obtain ⟨ia, ib⟩ := inn_iff.1 ha
  obtain ⟨ic, id⟩ := inn_iff.1 hb
  have HT := Lib.hid (trv_yes HMD.out ha hb)
  obtain ⟨_, g0, g1, g2, g3, g4, g5, g6⟩ := HM3.out
  have m0 := hm.m0
  have m1 := hm.m1
  clear hm ha hb
  by_cases hc : b < a
  · rw [if_pos hc] at HT
    obtain ⟨e1, e2⟩ := mul_le (B := 1007) m0 m1 (b := a - b) (by omega) (by omega)
    go_wp2
    all_goals go_ret
    all_goals first | exact ⟨by rw [HT.out]; rfl, HB3.out⟩ | (exfalso; omega)
  · rw [if_neg hc] at HT
    obtain ⟨e1, e2⟩ := mul_le (B := 1007) m0 m1 (b := b - a) (by omega) (by omega)
    go_wp2
    all_goals go_ret
    all_goals first | exact ⟨by rw [HT.out]; rfl, HB3.out⟩ | (refine ⟨?_, HB3.out⟩; rw [HT.out]; show Ending.returned (.int .i64 (wrap64 (m.mv * (b - a)))) = _; exact ret_i64s (by unfold wrap64; omega)) | (refine ⟨?_, HB3.out⟩; rw [HT.out]; show Ending.returned (.int .i64 (wrap64 (m.mv * (a - b)))) = _; rw [show a - b = b - a from (by omega)]; exact ret_i64s (by unfold wrap64; omega)) | (exfalso; omega)
set_option maxRecDepth 100000 in
set_option maxHeartbeats 2000000 in
theorem rtravel_any (m : Rmd) (a b : Int) (w : World) (ha : I64 a) (hb : I64 b) :
    Calls Try.prog 19 #[rmV m, .int .i64 a, .int .i64 b] w fun e w' => e = .returned (.int .i64 (trvR m a b)) ∧ Below w.heap.size w w' := by
  obtain ⟨hB, hM⟩ := box_m w m
  have HB := Lib.hid hB
  have HM := Lib.hid hM
  clear hB hM ha hb
  go_enter Try.func19, Try.ntmps19
  go_wp2_with fail
  generalize World.alloc _ _ = X0 at *
  refine (rmodel_any m _).mono ?_
  rintro e w1 ⟨rfl, hb1⟩
  have HB1 := Lib.hid (HB.out.trans (hb1.mono HB.out.size))
  have HM1 := Lib.hid (HM.out.step hb1)
  clear hb1
  cases hmd : mdlR m
  · have HT := Lib.hid (trv_no1 (a := a) (b := b) hmd)
    clear hmd
    go_wp2
    go_ret
    exact ⟨by rw [HT.out]; rfl, HB1.out⟩
  have HMD := Lib.hid hmd
  have HMR := Lib.hid (mdl_iff.1 hmd)
  clear hmd
  obtain ⟨_, g0, g1, g2, g3, g4, g5, g6⟩ := HM1.out
  go_wp2_with fail
  refine (rrail_any m _ HMR.out).mono ?_
  rintro e w2 ⟨rfl, hb2⟩
  have HB2 := Lib.hid (HB1.out.trans (hb2.mono HB1.out.size))
  have HM2 := Lib.hid (HM1.out.step hb2)
  clear hb2 g0 g1 g2 g3 g4 g5 g6
  go_wp2_with fail
  refine (rin_any a 0 (rail m) _).mono ?_
  rintro e w3 ⟨rfl, rfl⟩
  cases hia : inn a 0 (rail m)
  · have HT := Lib.hid (trv_no2 (b := b) hia)
    clear hia
    go_wp2
    go_ret
    exact ⟨by rw [HT.out]; rfl, HB2.out⟩
  obtain ⟨_, g0, g1, g2, g3, g4, g5, g6⟩ := HM2.out
  go_wp2_with fail
  refine (rrail_any m _ HMR.out).mono ?_
  rintro e w2 ⟨rfl, hb2⟩
  have HB3 := Lib.hid (HB2.out.trans (hb2.mono HB2.out.size))
  have HM3 := Lib.hid (HM2.out.step hb2)
  clear hb2 g0 g1 g2 g3 g4 g5 g6
  go_wp2_with fail
  refine (rin_any b 0 (rail m) _).mono ?_
  rintro e w3 ⟨rfl, rfl⟩
  cases hib : inn b 0 (rail m)
  · have HT := Lib.hid (trv_no3 (a := a) hib)
    clear hib
    go_wp2
    go_ret
    exact ⟨by rw [HT.out]; rfl, HB3.out⟩
  have HAB := Lib.hid (And.intro hia hib)
  clear hia hib
  obtain ⟨ha, hb⟩ : inn a 0 (rail m) = true ∧ inn b 0 (rail m) = true := HAB.out
  have hm := HMR.out
  have hr := rail_le hm
  obtain ⟨ia, ib⟩ := inn_iff.1 ha
  obtain ⟨ic, id⟩ := inn_iff.1 hb
  have HT := Lib.hid (trv_yes HMD.out ha hb)
  obtain ⟨_, g0, g1, g2, g3, g4, g5, g6⟩ := HM3.out
  have m0 := hm.m0
  have m1 := hm.m1
  clear hm ha hb
  by_cases hc : b < a
  · rw [if_pos hc] at HT
    obtain ⟨e1, e2⟩ := mul_le (B := 1007) m0 m1 (b := a - b) (by omega) (by omega)
    go_wp2
    all_goals go_ret
    all_goals first | exact ⟨by rw [HT.out]; rfl, HB3.out⟩ | (exfalso; omega)
  · rw [if_neg hc] at HT
    obtain ⟨e1, e2⟩ := mul_le (B := 1007) m0 m1 (b := b - a) (by omega) (by omega)
    go_wp2
    all_goals go_ret
    all_goals first | exact ⟨by rw [HT.out]; rfl, HB3.out⟩ | (refine ⟨?_, HB3.out⟩; rw [HT.out]; show Ending.returned (.int .i64 (wrap64 (m.mv * (b - a)))) = _; exact ret_i64s (by unfold wrap64; omega)) | (refine ⟨?_, HB3.out⟩; rw [HT.out]; show Ending.returned (.int .i64 (wrap64 (m.mv * (a - b)))) = _; rw [show a - b = b - a from (by omega)]; exact ret_i64s (by unfold wrap64; omega)) | (exfalso; omega)
set_option maxRecDepth 100000 in
set_option maxHeartbeats 2000000 in
theorem farthest_any (m : Rmd) (w : World) :
    Calls Try.prog 20 #[rmV m] w fun e w' => e = .returned (.int .i64 (farR m)) ∧ Below w.heap.size w w' := by
  obtain ⟨hB, hM⟩ := box_m w m
  have HB := Lib.hid hB
  have HM := Lib.hid hM
  clear hB hM
  go_enter Try.func20, Try.ntmps20
  go_wp2_with fail
  generalize World.alloc _ _ = X0 at *
  refine (model_any m _).mono ?_
  rintro e w1 ⟨rfl, hb1⟩
  have HB1 := Lib.hid (HB.out.trans (hb1.mono HB.out.size))
  have HM1 := Lib.hid (HM.out.step hb1)
  clear hb1
  cases hmd : mdlR m
  · have HT := Lib.hid (far_no hmd)
    clear hmd
    go_wp2
    go_ret
    exact ⟨by rw [HT.out]; rfl, HB1.out⟩
  have HT := Lib.hid (far_yes hmd)
  have hm := mdl_iff.1 hmd
  have HMR := Lib.hid hm
  have hr := rail_le hm
  have m0 := hm.m0
  have m1 := hm.m1
  have p0 := hm.k0
  have p1 := hm.k1
  have t0 := hm.t0
  have t1 := hm.t1
  obtain ⟨e1, e2⟩ := mul_le (A := 2000000) (B := 1007) (a := 2 * m.mv) (by omega) (by omega) hr.1 hr.2
  have W1 := Lib.hid (show IntKind.i64.wrap (2 * m.mv) = 2 * m.mv by rw [IntKind.wrap_i64]; omega)
  have W2 := Lib.hid (show IntKind.i64.wrap (2 * m.mv * rail m) = 2 * m.mv * rail m by rw [IntKind.wrap_i64]; omega)
  have W3 := Lib.hid (show IntKind.i64.wrap (2 * m.mv * rail m + m.pk) = 2 * m.mv * rail m + m.pk by rw [IntKind.wrap_i64]; omega)
  have W4 := Lib.hid (show IntKind.i64.wrap (2 * m.mv * rail m + m.pk + m.pt) = 2 * m.mv * rail m + m.pk + m.pt by rw [IntKind.wrap_i64]; omega)
  clear hmd hm hr m0 m1 p0 p1 t0 t1 e1 e2
  go_wp2_with fail
  have HBX := Lib.hid (Below.refl w1.heap.size w1).drew
  refine wp_region_noPanic ?_
  refine wp_region_held_drew (S := fun X => Below w1.heap.size w1 X) (by kernel_rfl) (HBX.out) (fun hS0 => ?_)
  refine held_take (i := 0) (v := ?_) rfl (by kernel_rfl) (by kernel_rfl) (by kernel_rfl) (fun _ _ _ h => h) (by rfl) ?_ (by assumption) ?_
  rotate_left
  · intro X hSX
    try dsimp only at hSX
    obtain ⟨_, g0, g1, g2, g3, g4, g5, g6⟩ := HM1.out.step hSX
    go_simp <;> with_reducible rfl
  simp only [Act.put, List.setIfInBounds_toArray, List.set_cons_zero, List.set_cons_succ]
  refine held_take (i := 1) (v := ?_) rfl (by kernel_rfl) (by kernel_rfl) (by kernel_rfl) (fun _ _ _ h => h) (by rfl) ?_ (by assumption) ?_
  rotate_left
  · intro X hSX
    try dsimp only at hSX
    obtain ⟨_, g0, g1, g2, g3, g4, g5, g6⟩ := HM1.out.step hSX
    go_simp <;> with_reducible rfl
  simp only [Act.put, List.setIfInBounds_toArray, List.set_cons_zero, List.set_cons_succ]
  refine held_take (i := 3) (v := ?_) rfl (by kernel_rfl) (by kernel_rfl) (by kernel_rfl) (fun _ _ _ h => h) (by rfl) ?_ (by assumption) ?_
  rotate_left
  · intro X hSX
    try dsimp only at hSX
    obtain ⟨_, g0, g1, g2, g3, g4, g5, g6⟩ := HM1.out.step hSX
    go_simp <;> with_reducible rfl
  simp only [Act.put, List.setIfInBounds_toArray, List.set_cons_zero, List.set_cons_succ]
  refine held_take (i := 6) (v := ?_) rfl (by kernel_rfl) (by kernel_rfl) (by kernel_rfl) (fun _ _ _ h => h) (by rfl) ?_ (by assumption) ?_
  rotate_left
  · intro X hSX
    try dsimp only at hSX
    obtain ⟨_, g0, g1, g2, g3, g4, g5, g6⟩ := HM1.out.step hSX
    go_simp <;> with_reducible rfl
  simp only [Act.put, List.setIfInBounds_toArray, List.set_cons_zero, List.set_cons_succ]
  refine held_take (i := 7) (v := ?_) rfl (by kernel_rfl) (by kernel_rfl) (by kernel_rfl) (fun _ _ _ h => h) (by rfl) ?_ (by assumption) ?_
  rotate_left
  · intro X hSX
    try dsimp only at hSX
    obtain ⟨_, g0, g1, g2, g3, g4, g5, g6⟩ := HM1.out.step hSX
    go_simp <;> with_reducible rfl
  simp only [Act.put, List.setIfInBounds_toArray, List.set_cons_zero, List.set_cons_succ]
  refine held_take (i := 9) (v := ?_) rfl (by kernel_rfl) (by kernel_rfl) (by kernel_rfl) (fun _ _ _ h => h) (by rfl) ?_ (by assumption) ?_
  rotate_left
  · intro X hSX
    try dsimp only at hSX
    obtain ⟨_, g0, g1, g2, g3, g4, g5, g6⟩ := HM1.out.step hSX
    go_simp <;> with_reducible rfl
  simp only [Act.put, List.setIfInBounds_toArray, List.set_cons_zero, List.set_cons_succ]
  refine held_take (i := 10) (v := ?_) rfl (by kernel_rfl) (by kernel_rfl) (by kernel_rfl) (fun _ _ _ h => h) (by rfl) ?_ (by assumption) ?_
  rotate_left
  · intro X hSX
    try dsimp only at hSX
    obtain ⟨_, g0, g1, g2, g3, g4, g5, g6⟩ := HM1.out.step hSX
    go_simp <;> with_reducible rfl
  simp only [Act.put, List.setIfInBounds_toArray, List.set_cons_zero, List.set_cons_succ]
  refine held_take (i := 2) (v := ?_) rfl (by kernel_rfl) (by kernel_rfl) (by kernel_rfl) (fun _ _ _ h => h) (by rfl) ?_ (by assumption) ?_
  rotate_left
  · intro X hSX
    try dsimp only at hSX
    have h1 := W1.out
    go_simp <;> with_reducible rfl
  simp only [Act.put, List.setIfInBounds_toArray, List.set_cons_zero, List.set_cons_succ]
  refine held_call (i := 4) rfl (by kernel_rfl) (by rfl) (fun K' hK' => ?_)
  go_simp
  refine (end_any m _ HMR.out).mono ?_
  rintro e w3 ⟨rfl, hb3⟩
  replace HBX := Lib.hid (HBX.out.trans (hb3.mono HBX.out.size))
  refine held_go hK' (HBX.out) ?_
  try simp only [Act.put, List.setIfInBounds_toArray, List.set_cons_zero, List.set_cons_succ]
  refine held_take (i := 5) (v := ?_) rfl (by kernel_rfl) (by kernel_rfl) (by kernel_rfl) (fun _ _ _ h => h) (by rfl) ?_ (by assumption) ?_
  rotate_left
  · intro X hSX
    try dsimp only at hSX
    have h1 := W2.out
    go_simp <;> with_reducible rfl
  simp only [Act.put, List.setIfInBounds_toArray, List.set_cons_zero, List.set_cons_succ]
  refine held_take (i := 8) (v := ?_) rfl (by kernel_rfl) (by kernel_rfl) (by kernel_rfl) (fun _ _ _ h => h) (by rfl) ?_ (by assumption) ?_
  rotate_left
  · intro X hSX
    try dsimp only at hSX
    have h1 := W3.out
    go_simp <;> with_reducible rfl
  simp only [Act.put, List.setIfInBounds_toArray, List.set_cons_zero, List.set_cons_succ]
  refine held_take (i := 11) (v := ?_) rfl (by kernel_rfl) (by kernel_rfl) (by kernel_rfl) (fun _ _ _ h => h) (by rfl) ?_ (by assumption) ?_
  rotate_left
  · intro X hSX
    try dsimp only at hSX
    have h1 := W4.out
    go_simp <;> with_reducible rfl
  simp only [Act.put, List.setIfInBounds_toArray, List.set_cons_zero, List.set_cons_succ]
  refine held_take (i := 12) (v := ?_) rfl (by kernel_rfl) (by kernel_rfl) (by kernel_rfl) (fun _ _ _ h => h) (by rfl) ?_ (by assumption) ?_
  rotate_left
  · intro X hSX
    try dsimp only at hSX
    go_simp <;> with_reducible rfl
  simp only [Act.put, List.setIfInBounds_toArray, List.set_cons_zero, List.set_cons_succ]
  refine wpAnyH_done (by kernel_rfl) ?_ _
  refine NoPanic.normal ?_
  have HB2 := Lib.hid (HB1.out.trans (HBX.out.mono HB1.out.size))
  go_wp2
  go_ret
  exact ⟨by rw [HT.out]; rfl, HB2.out⟩
set_option maxRecDepth 100000 in
set_option maxHeartbeats 2000000 in
theorem rfarthest_any (m : Rmd) (w : World) :
    Calls Try.prog 21 #[rmV m] w fun e w' => e = .returned (.int .i64 (farR m)) ∧ Below w.heap.size w w' := by
  obtain ⟨hB, hM⟩ := box_m w m
  have HB := Lib.hid hB
  have HM := Lib.hid hM
  clear hB hM
  go_enter Try.func21, Try.ntmps21
  go_wp2_with fail
  generalize World.alloc _ _ = X0 at *
  refine (rmodel_any m _).mono ?_
  rintro e w1 ⟨rfl, hb1⟩
  have HB1 := Lib.hid (HB.out.trans (hb1.mono HB.out.size))
  have HM1 := Lib.hid (HM.out.step hb1)
  clear hb1
  cases hmd : mdlR m
  · have HT := Lib.hid (far_no hmd)
    clear hmd
    go_wp2
    go_ret
    exact ⟨by rw [HT.out]; rfl, HB1.out⟩
  have HT := Lib.hid (far_yes hmd)
  have hm := mdl_iff.1 hmd
  have HMR := Lib.hid hm
  have hr := rail_le hm
  have m0 := hm.m0
  have m1 := hm.m1
  have p0 := hm.k0
  have p1 := hm.k1
  have t0 := hm.t0
  have t1 := hm.t1
  obtain ⟨e1, e2⟩ := mul_le (A := 2000000) (B := 1007) (a := 2 * m.mv) (by omega) (by omega) hr.1 hr.2
  have W1 := Lib.hid (show IntKind.i64.wrap (2 * m.mv) = 2 * m.mv by rw [IntKind.wrap_i64]; omega)
  have W2 := Lib.hid (show IntKind.i64.wrap (2 * m.mv * rail m) = 2 * m.mv * rail m by rw [IntKind.wrap_i64]; omega)
  have W3 := Lib.hid (show IntKind.i64.wrap (2 * m.mv * rail m + m.pk) = 2 * m.mv * rail m + m.pk by rw [IntKind.wrap_i64]; omega)
  have W4 := Lib.hid (show IntKind.i64.wrap (2 * m.mv * rail m + m.pk + m.pt) = 2 * m.mv * rail m + m.pk + m.pt by rw [IntKind.wrap_i64]; omega)
  clear hmd hm hr m0 m1 p0 p1 t0 t1 e1 e2
  go_wp2_with fail
  have HBX := Lib.hid (Below.refl w1.heap.size w1).drew
  refine wp_region_noPanic ?_
  refine wp_region_held_drew (S := fun X => Below w1.heap.size w1 X) (by kernel_rfl) (HBX.out) (fun hS0 => ?_)
  refine held_take (i := 0) (v := ?_) rfl (by kernel_rfl) (by kernel_rfl) (by kernel_rfl) (fun _ _ _ h => h) (by rfl) ?_ (by assumption) ?_
  rotate_left
  · intro X hSX
    try dsimp only at hSX
    obtain ⟨_, g0, g1, g2, g3, g4, g5, g6⟩ := HM1.out.step hSX
    go_simp <;> with_reducible rfl
  simp only [Act.put, List.setIfInBounds_toArray, List.set_cons_zero, List.set_cons_succ]
  refine held_take (i := 1) (v := ?_) rfl (by kernel_rfl) (by kernel_rfl) (by kernel_rfl) (fun _ _ _ h => h) (by rfl) ?_ (by assumption) ?_
  rotate_left
  · intro X hSX
    try dsimp only at hSX
    obtain ⟨_, g0, g1, g2, g3, g4, g5, g6⟩ := HM1.out.step hSX
    go_simp <;> with_reducible rfl
  simp only [Act.put, List.setIfInBounds_toArray, List.set_cons_zero, List.set_cons_succ]
  refine held_take (i := 3) (v := ?_) rfl (by kernel_rfl) (by kernel_rfl) (by kernel_rfl) (fun _ _ _ h => h) (by rfl) ?_ (by assumption) ?_
  rotate_left
  · intro X hSX
    try dsimp only at hSX
    obtain ⟨_, g0, g1, g2, g3, g4, g5, g6⟩ := HM1.out.step hSX
    go_simp <;> with_reducible rfl
  simp only [Act.put, List.setIfInBounds_toArray, List.set_cons_zero, List.set_cons_succ]
  refine held_take (i := 6) (v := ?_) rfl (by kernel_rfl) (by kernel_rfl) (by kernel_rfl) (fun _ _ _ h => h) (by rfl) ?_ (by assumption) ?_
  rotate_left
  · intro X hSX
    try dsimp only at hSX
    obtain ⟨_, g0, g1, g2, g3, g4, g5, g6⟩ := HM1.out.step hSX
    go_simp <;> with_reducible rfl
  simp only [Act.put, List.setIfInBounds_toArray, List.set_cons_zero, List.set_cons_succ]
  refine held_take (i := 7) (v := ?_) rfl (by kernel_rfl) (by kernel_rfl) (by kernel_rfl) (fun _ _ _ h => h) (by rfl) ?_ (by assumption) ?_
  rotate_left
  · intro X hSX
    try dsimp only at hSX
    obtain ⟨_, g0, g1, g2, g3, g4, g5, g6⟩ := HM1.out.step hSX
    go_simp <;> with_reducible rfl
  simp only [Act.put, List.setIfInBounds_toArray, List.set_cons_zero, List.set_cons_succ]
  refine held_take (i := 9) (v := ?_) rfl (by kernel_rfl) (by kernel_rfl) (by kernel_rfl) (fun _ _ _ h => h) (by rfl) ?_ (by assumption) ?_
  rotate_left
  · intro X hSX
    try dsimp only at hSX
    obtain ⟨_, g0, g1, g2, g3, g4, g5, g6⟩ := HM1.out.step hSX
    go_simp <;> with_reducible rfl
  simp only [Act.put, List.setIfInBounds_toArray, List.set_cons_zero, List.set_cons_succ]
  refine held_take (i := 10) (v := ?_) rfl (by kernel_rfl) (by kernel_rfl) (by kernel_rfl) (fun _ _ _ h => h) (by rfl) ?_ (by assumption) ?_
  rotate_left
  · intro X hSX
    try dsimp only at hSX
    obtain ⟨_, g0, g1, g2, g3, g4, g5, g6⟩ := HM1.out.step hSX
    go_simp <;> with_reducible rfl
  simp only [Act.put, List.setIfInBounds_toArray, List.set_cons_zero, List.set_cons_succ]
  refine held_take (i := 2) (v := ?_) rfl (by kernel_rfl) (by kernel_rfl) (by kernel_rfl) (fun _ _ _ h => h) (by rfl) ?_ (by assumption) ?_
  rotate_left
  · intro X hSX
    try dsimp only at hSX
    have h1 := W1.out
    go_simp <;> with_reducible rfl
  simp only [Act.put, List.setIfInBounds_toArray, List.set_cons_zero, List.set_cons_succ]
  refine held_call (i := 4) rfl (by kernel_rfl) (by rfl) (fun K' hK' => ?_)
  go_simp
  refine (rrail_any m _ HMR.out).mono ?_
  rintro e w3 ⟨rfl, hb3⟩
  replace HBX := Lib.hid (HBX.out.trans (hb3.mono HBX.out.size))
  refine held_go hK' (HBX.out) ?_
  try simp only [Act.put, List.setIfInBounds_toArray, List.set_cons_zero, List.set_cons_succ]
  refine held_take (i := 5) (v := ?_) rfl (by kernel_rfl) (by kernel_rfl) (by kernel_rfl) (fun _ _ _ h => h) (by rfl) ?_ (by assumption) ?_
  rotate_left
  · intro X hSX
    try dsimp only at hSX
    have h1 := W2.out
    go_simp <;> with_reducible rfl
  simp only [Act.put, List.setIfInBounds_toArray, List.set_cons_zero, List.set_cons_succ]
  refine held_take (i := 8) (v := ?_) rfl (by kernel_rfl) (by kernel_rfl) (by kernel_rfl) (fun _ _ _ h => h) (by rfl) ?_ (by assumption) ?_
  rotate_left
  · intro X hSX
    try dsimp only at hSX
    have h1 := W3.out
    go_simp <;> with_reducible rfl
  simp only [Act.put, List.setIfInBounds_toArray, List.set_cons_zero, List.set_cons_succ]
  refine held_take (i := 11) (v := ?_) rfl (by kernel_rfl) (by kernel_rfl) (by kernel_rfl) (fun _ _ _ h => h) (by rfl) ?_ (by assumption) ?_
  rotate_left
  · intro X hSX
    try dsimp only at hSX
    have h1 := W4.out
    go_simp <;> with_reducible rfl
  simp only [Act.put, List.setIfInBounds_toArray, List.set_cons_zero, List.set_cons_succ]
  refine held_take (i := 12) (v := ?_) rfl (by kernel_rfl) (by kernel_rfl) (by kernel_rfl) (fun _ _ _ h => h) (by rfl) ?_ (by assumption) ?_
  rotate_left
  · intro X hSX
    try dsimp only at hSX
    go_simp <;> with_reducible rfl
  simp only [Act.put, List.setIfInBounds_toArray, List.set_cons_zero, List.set_cons_succ]
  refine wpAnyH_done (by kernel_rfl) ?_ _
  refine NoPanic.normal ?_
  have HB2 := Lib.hid (HB1.out.trans (HBX.out.mono HB1.out.size))
  go_wp2
  go_ret
  exact ⟨by rw [HT.out]; rfl, HB2.out⟩
end Go.Proofs.Ytmhaeipklifhcaa
