/-
  Locate and Passes of the program.
-/
import Derived.Test.YtcoijhemnfnghaaSPlace
import Derived.Test.YtcoijhemnfnghaaNHeld
namespace Go.Proofs.Ytcoijhemnfnghaa
open Go.RowKit
set_option linter.unusedVariables false
/-- the time of the motion between two blocks; 0 if one of them has no place -/
noncomputable def loc (W L S T J R a b : Int) : Int := if (hav W L S T J R a && hav W L S T J R b) = true then mo W L S T J a b else 0
theorem loc_yes {W L S T J R a b : Int} (h : (hav W L S T J R a && hav W L S T J R b) = true) : loc W L S T J R a b = mo W L S T J a b := if_pos h
theorem loc_no {W L S T J R a b : Int} (h : (hav W L S T J R a && hav W L S T J R b) = false) : loc W L S T J R a b = 0 := if_neg (by rw [h]; simp)
/-- the passes in parts of 1000 -/
noncomputable def pas (W L S T J R a b : Int) : Int := if (hav W L S T J R a && hav W L S T J R b) = true then (1000 * dis (po W L a) (po W L b) + L - 1) / L else 0
theorem pas_yes {W L S T J R a b : Int} (h : (hav W L S T J R a && hav W L S T J R b) = true) : pas W L S T J R a b = (1000 * dis (po W L a) (po W L b) + L - 1) / L := if_pos h
theorem pas_no {W L S T J R a b : Int} (h : (hav W L S T J R a && hav W L S T J R b) = false) : pas W L S T J R a b = 0 := if_neg (by rw [h]; simp)
theorem loc_start (W L S T J R a b : Int) (w : World) : Below w.heap.size w ((w.alloc (boxG W L S T J R)).alloc (.cells #[.int .i64 a, .int .i64 b] 3)) ∧
    GeoAt ((w.alloc (boxG W L S T J R)).alloc (.cells #[.int .i64 a, .int .i64 b] 3)) w.heap.size W L S T J R ∧
    Lii ((w.alloc (boxG W L S T J R)).alloc (.cells #[.int .i64 a, .int .i64 b] 3)) (w.heap.size + 1) 0 [a, b] := by
  refine ⟨below_box2 _ _ _, (GeoAt.new w W L S T J R _).alloc _, ?_⟩
  have := Lii.two (w.alloc (boxG W L S T J R)) a b 3
  rwa [World.size_alloc] at this
theorem run_fieldPl (p q : Int) (k : Bool) (X : World) : (Instr.field 25 (plV p q k) 1).run Try.prog X = .ok (.int .i64 q) X := by with_unfolding_all rfl
attribute [local irreducible] tim vld hav wr po bk mov
set_option maxRecDepth 100000 in
set_option maxHeartbeats 2000000 in
theorem locate_any (W L S T J R a b : Int) (w : World) :
    Calls Try.prog 18 #[geV W L S T J R, .int .i64 a, .int .i64 b] w fun e w' => e = .returned (.int .i64 (loc W L S T J R a b)) ∧ Below w.heap.size w w' := by
  obtain ⟨hb0, hg0, hl0⟩ := loc_start W L S T J R a b w
  have HB0 := Lib.hid hb0
  have HG := Lib.hid hg0
  have HL := Lib.hid hl0
  clear hb0 hg0 hl0
  have HH := Lib.hid (hasU_two W L S T J R a b)
  cases hv : (hav W L S T J R a && hav W L S T J R b)
  · have HR := Lib.hid (loc_no hv)
    have HV := Lib.hid hv
    clear hv
    go_enter Try.func18, Try.ntmps18
    go_wp2_with fail
    generalize World.alloc _ _ = X0 at HB0 HG HL ⊢
    refine (has_any W L S T J R (w.heap.size + 1) 2 2 [a, b] X0 HL.out rfl (by omega)).mono ?_
    rw [HH.out, HV.out]
    rintro e w1 ⟨rfl, hb⟩
    have HB := Lib.hid (HB0.out.trans (hb.mono HB0.out.size))
    clear hb
    go_wp2
    go_ret
    exact ⟨by rw [HR.out]; rfl, HB.out⟩
  have HR := Lib.hid (loc_yes hv)
  have HV := Lib.hid hv
  rw [Bool.and_eq_true] at hv
  obtain ⟨v, a0, a1⟩ := hav_iff.1 hv.1
  obtain ⟨_, b0, b1⟩ := hav_iff.1 hv.2
  have HPa := Lib.hid (fun X => placeOf_any W L S T J R a X v.w0 v.w1 v.l0 v.l1 v.c1 a0 a1)
  have HPb := Lib.hid (fun X => placeOf_any W L S T J R b X v.w0 v.w1 v.l0 v.l1 v.c1 b0 b1)
  have ra := wr_bd v.w0 v.l0 a0 a1
  have rb := wr_bd v.w0 v.l0 b0 b1
  have qa := po_bd v.w0 v.l0 a0 a1
  have qb := po_bd v.w0 v.l0 b0 b1
  have HM := Lib.hid (fun X => motion_any W L S T J R (wr W L a) (po W L a) (bk W L a) (wr W L b) (po W L b) (bk W L b) X v.s0 v.s1 v.t0 v.t1 v.j0 v.j1 ra.1 (by have := v.w1; omega) rb.1 (by have := v.w1; omega) qa.1 (by have := v.l1; omega) qb.1 (by have := v.l1; omega))
  clear hv v a0 a1 b0 b1 ra rb qa qb
  go_enter Try.func18, Try.ntmps18
  go_wp2_with fail
  generalize World.alloc _ _ = X0 at HB0 HG HL ⊢
  refine (has_any W L S T J R (w.heap.size + 1) 2 2 [a, b] X0 HL.out rfl (by omega)).mono ?_
  rw [HH.out, HV.out]
  rintro e w1 ⟨rfl, hb⟩
  have HB := Lib.hid (HB0.out.trans (hb.mono HB0.out.size))
  have HG1 := Lib.hid (HG.out.below hb HG.out.lt)
  have HBX := Lib.hid ((Below.refl w1.heap.size w1).drew)
  clear hb
  go_wp2_with fail
  refine wp_region_noPanic ?_
  refine wp_region_held_drew (S := fun X => Below w1.heap.size w1 X) (by kernel_rfl) (HBX.out) (fun hS0 => ?_)
  refine held_take (i := 0) (v := ?_) rfl (by kernel_rfl) (by kernel_rfl) (by kernel_rfl) (fun _ _ _ h => h) (by rfl) ?_ (by assumption) ?_
  rotate_left
  · intro X hSX
    try dsimp only at hSX
    obtain ⟨_, g0, g1, g2, g3, g4, g5⟩ := HG1.out.below hSX HG1.out.lt
    go_simp <;> with_reducible rfl
  simp only [Act.put, List.setIfInBounds_toArray, List.set_cons_zero, List.set_cons_succ]
  refine held_take (i := 1) (v := ?_) rfl (by kernel_rfl) (by kernel_rfl) (by kernel_rfl) (fun _ _ _ h => h) (by rfl) ?_ (by assumption) ?_
  rotate_left
  · intro X hSX
    try dsimp only at hSX
    obtain ⟨_, g0, g1, g2, g3, g4, g5⟩ := HG1.out.below hSX HG1.out.lt
    go_simp <;> with_reducible rfl
  simp only [Act.put, List.setIfInBounds_toArray, List.set_cons_zero, List.set_cons_succ]
  refine held_take (i := 2) (v := ?_) rfl (by kernel_rfl) (by kernel_rfl) (by kernel_rfl) (fun _ _ _ h => h) (by rfl) ?_ (by assumption) ?_
  rotate_left
  · intro X hSX
    try dsimp only at hSX
    go_simp <;> with_reducible rfl
  simp only [Act.put, List.setIfInBounds_toArray, List.set_cons_zero, List.set_cons_succ]
  refine held_take (i := 4) (v := ?_) rfl (by kernel_rfl) (by kernel_rfl) (by kernel_rfl) (fun _ _ _ h => h) (by rfl) ?_ (by assumption) ?_
  rotate_left
  · intro X hSX
    try dsimp only at hSX
    obtain ⟨_, g0, g1, g2, g3, g4, g5⟩ := HG1.out.below hSX HG1.out.lt
    go_simp <;> with_reducible rfl
  simp only [Act.put, List.setIfInBounds_toArray, List.set_cons_zero, List.set_cons_succ]
  refine held_take (i := 5) (v := ?_) rfl (by kernel_rfl) (by kernel_rfl) (by kernel_rfl) (fun _ _ _ h => h) (by rfl) ?_ (by assumption) ?_
  rotate_left
  · intro X hSX
    try dsimp only at hSX
    go_simp <;> with_reducible rfl
  simp only [Act.put, List.setIfInBounds_toArray, List.set_cons_zero, List.set_cons_succ]
  refine held_call (i := 3) rfl (by kernel_rfl) (by rfl) (fun K' hK' => ?_)
  go_simp
  refine (HPa.out _).mono ?_
  rintro e w5 ⟨rfl, hb⟩
  replace HBX := Lib.hid (HBX.out.trans (hb.mono HBX.out.size))
  have hS5 := HBX.out
  clear hb
  refine held_go hK' (HBX.out) ?_
  try simp only [Act.put, List.setIfInBounds_toArray, List.set_cons_zero, List.set_cons_succ]
  refine held_call (i := 6) rfl (by kernel_rfl) (by rfl) (fun K' hK' => ?_)
  go_simp
  refine (HPb.out _).mono ?_
  rintro e w6 ⟨rfl, hb⟩
  replace HBX := Lib.hid (HBX.out.trans (hb.mono HBX.out.size))
  have hS6 := HBX.out
  clear hb
  refine held_go hK' (HBX.out) ?_
  try simp only [Act.put, List.setIfInBounds_toArray, List.set_cons_zero, List.set_cons_succ]
  refine held_call (i := 7) rfl (by kernel_rfl) (by rfl) (fun K' hK' => ?_)
  go_simp
  refine (HM.out _).mono ?_
  rintro e w7 ⟨rfl, hb⟩
  replace HBX := Lib.hid (HBX.out.trans (hb.mono HBX.out.size))
  have hS7 := HBX.out
  clear hb
  refine held_go hK' (HBX.out) ?_
  try simp only [Act.put, List.setIfInBounds_toArray, List.set_cons_zero, List.set_cons_succ]
  refine held_take (i := 8) (v := ?_) rfl (by kernel_rfl) (by kernel_rfl) (by kernel_rfl) (fun _ _ _ h => h) (by rfl) ?_ (by assumption) ?_
  rotate_left
  · intro X hSX
    try dsimp only at hSX
    go_simp <;> with_reducible rfl
  simp only [Act.put, List.setIfInBounds_toArray, List.set_cons_zero, List.set_cons_succ]
  refine wpAnyH_done (by kernel_rfl) ?_ _
  refine NoPanic.normal ?_
  go_wp2
  go_ret
  exact ⟨by rw [HR.out]; rfl, HB.out.trans (HBX.out.mono HB.out.size)⟩
set_option maxRecDepth 100000 in
set_option maxHeartbeats 2000000 in
theorem passes_any (W L S T J R a b : Int) (w : World) :
    Calls Try.prog 22 #[geV W L S T J R, .int .i64 a, .int .i64 b] w fun e w' => e = .returned (.int .i64 (pas W L S T J R a b)) ∧ Below w.heap.size w w' := by
  obtain ⟨hb0, hg0, hl0⟩ := loc_start W L S T J R a b w
  have HB0 := Lib.hid hb0
  have HG := Lib.hid hg0
  have HL := Lib.hid hl0
  clear hb0 hg0 hl0
  have HH := Lib.hid (hasU_two W L S T J R a b)
  cases hv : (hav W L S T J R a && hav W L S T J R b)
  · have HR := Lib.hid (pas_no hv)
    have HV := Lib.hid hv
    clear hv
    go_enter Try.func22, Try.ntmps22
    go_wp2_with fail
    generalize World.alloc _ _ = X0 at HB0 HG HL ⊢
    refine (has_any W L S T J R (w.heap.size + 1) 2 2 [a, b] X0 HL.out rfl (by omega)).mono ?_
    rw [HH.out, HV.out]
    rintro e w1 ⟨rfl, hb⟩
    have HB := Lib.hid (HB0.out.trans (hb.mono HB0.out.size))
    clear hb
    go_wp2
    go_ret
    exact ⟨by rw [HR.out]; rfl, HB.out⟩
  have HR := Lib.hid (pas_yes hv)
  have HV := Lib.hid hv
  rw [Bool.and_eq_true] at hv
  obtain ⟨v, a0, a1⟩ := hav_iff.1 hv.1
  obtain ⟨_, b0, b1⟩ := hav_iff.1 hv.2
  have HPa := Lib.hid (fun X => placeOf_any W L S T J R a X v.w0 v.w1 v.l0 v.l1 v.c1 a0 a1)
  have HPb := Lib.hid (fun X => placeOf_any W L S T J R b X v.w0 v.w1 v.l0 v.l1 v.c1 b0 b1)
  have qa := po_bd v.w0 v.l0 a0 a1
  have qb := po_bd v.w0 v.l0 b0 b1
  have HM := Lib.hid (fun X => distance_any (po W L a) (po W L b) X (by have := v.l1; omega) (by have := v.l1; omega) (by have := v.l1; omega) (by have := v.l1; omega))
  have d0 := dis_nonneg (po W L a) (po W L b)
  have d1 := (dis_bd v.w0 v.l0 v.l1 a0 a1 b0 b1).1
  have l0 := v.l0
  have l1 := v.l1
  have lne : L ≠ 0 := by omega
  clear hv v a0 a1 b0 b1 qa qb
  go_enter Try.func22, Try.ntmps22
  go_wp2_with fail
  generalize World.alloc _ _ = X0 at HB0 HG HL ⊢
  refine (has_any W L S T J R (w.heap.size + 1) 2 2 [a, b] X0 HL.out rfl (by omega)).mono ?_
  rw [HH.out, HV.out]
  rintro e w1 ⟨rfl, hb⟩
  have HB := Lib.hid (HB0.out.trans (hb.mono HB0.out.size))
  have HG1 := Lib.hid (HG.out.below hb HG.out.lt)
  have HBX := Lib.hid ((Below.refl w1.heap.size w1).drew)
  clear hb
  go_wp2_with fail
  refine wp_region_noPanic ?_
  refine wp_region_held_drew (S := fun X => Below w1.heap.size w1 X) (by kernel_rfl) (HBX.out) (fun hS0 => ?_)
  refine held_take (i := 0) (v := ?_) rfl (by kernel_rfl) (by kernel_rfl) (by kernel_rfl) (fun _ _ _ h => h) (by rfl) ?_ (by assumption) ?_
  rotate_left
  · intro X hSX
    try dsimp only at hSX
    obtain ⟨_, g0, g1, g2, g3, g4, g5⟩ := HG1.out.below hSX HG1.out.lt
    go_simp <;> with_reducible rfl
  simp only [Act.put, List.setIfInBounds_toArray, List.set_cons_zero, List.set_cons_succ]
  refine held_take (i := 1) (v := ?_) rfl (by kernel_rfl) (by kernel_rfl) (by kernel_rfl) (fun _ _ _ h => h) (by rfl) ?_ (by assumption) ?_
  rotate_left
  · intro X hSX
    try dsimp only at hSX
    go_simp <;> with_reducible rfl
  simp only [Act.put, List.setIfInBounds_toArray, List.set_cons_zero, List.set_cons_succ]
  refine held_take (i := 4) (v := ?_) rfl (by kernel_rfl) (by kernel_rfl) (by kernel_rfl) (fun _ _ _ h => h) (by rfl) ?_ (by assumption) ?_
  rotate_left
  · intro X hSX
    try dsimp only at hSX
    obtain ⟨_, g0, g1, g2, g3, g4, g5⟩ := HG1.out.below hSX HG1.out.lt
    go_simp <;> with_reducible rfl
  simp only [Act.put, List.setIfInBounds_toArray, List.set_cons_zero, List.set_cons_succ]
  refine held_take (i := 5) (v := ?_) rfl (by kernel_rfl) (by kernel_rfl) (by kernel_rfl) (fun _ _ _ h => h) (by rfl) ?_ (by assumption) ?_
  rotate_left
  · intro X hSX
    try dsimp only at hSX
    go_simp <;> with_reducible rfl
  simp only [Act.put, List.setIfInBounds_toArray, List.set_cons_zero, List.set_cons_succ]
  refine held_call (i := 2) rfl (by kernel_rfl) (by rfl) (fun K' hK' => ?_)
  go_simp
  refine (HPa.out _).mono ?_
  rintro e w5 ⟨rfl, hb⟩
  replace HBX := Lib.hid (HBX.out.trans (hb.mono HBX.out.size))
  have hS5 := HBX.out
  clear hb
  refine held_go hK' (HBX.out) ?_
  try simp only [Act.put, List.setIfInBounds_toArray, List.set_cons_zero, List.set_cons_succ]
  refine held_take (i := 3) (v := ?_) rfl (by kernel_rfl) (by kernel_rfl) (by kernel_rfl) (fun _ _ _ h => h) (by rfl) ?_ (by assumption) ?_
  rotate_left
  · intro X hSX
    try dsimp only at hSX
    have hf := run_fieldPl (wr W L a) (po W L a) (bk W L a) X
    go_simp <;> with_reducible rfl
  simp only [Act.put, List.setIfInBounds_toArray, List.set_cons_zero, List.set_cons_succ]
  refine held_call (i := 6) rfl (by kernel_rfl) (by rfl) (fun K' hK' => ?_)
  go_simp
  refine (HPb.out _).mono ?_
  rintro e w6 ⟨rfl, hb⟩
  replace HBX := Lib.hid (HBX.out.trans (hb.mono HBX.out.size))
  have hS6 := HBX.out
  clear hb
  refine held_go hK' (HBX.out) ?_
  try simp only [Act.put, List.setIfInBounds_toArray, List.set_cons_zero, List.set_cons_succ]
  refine held_take (i := 7) (v := ?_) rfl (by kernel_rfl) (by kernel_rfl) (by kernel_rfl) (fun _ _ _ h => h) (by rfl) ?_ (by assumption) ?_
  rotate_left
  · intro X hSX
    try dsimp only at hSX
    have hf := run_fieldPl (wr W L b) (po W L b) (bk W L b) X
    go_simp <;> with_reducible rfl
  simp only [Act.put, List.setIfInBounds_toArray, List.set_cons_zero, List.set_cons_succ]
  refine held_call (i := 8) rfl (by kernel_rfl) (by rfl) (fun K' hK' => ?_)
  go_simp
  refine (HM.out _).mono ?_
  rintro e w7 ⟨rfl, rfl⟩
  refine held_go hK' (HBX.out) ?_
  try simp only [Act.put, List.setIfInBounds_toArray, List.set_cons_zero, List.set_cons_succ]
  generalize dis (po W L a) (po W L b) = D at *
  refine held_take (i := 9) (v := ?_) rfl (by kernel_rfl) (by kernel_rfl) (by kernel_rfl) (fun _ _ _ h => h) (by rfl) ?_ (by assumption) ?_
  rotate_left
  · intro X hSX
    try dsimp only at hSX
    go_simp <;> with_reducible rfl
  simp only [Act.put, List.setIfInBounds_toArray, List.set_cons_zero, List.set_cons_succ]
  refine held_take (i := 10) (v := ?_) rfl (by kernel_rfl) (by kernel_rfl) (by kernel_rfl) (fun _ _ _ h => h) (by rfl) ?_ (by assumption) ?_
  rotate_left
  · intro X hSX
    try dsimp only at hSX
    go_simp <;> with_reducible rfl
  simp only [Act.put, List.setIfInBounds_toArray, List.set_cons_zero, List.set_cons_succ]
  refine wpAnyH_done (by kernel_rfl) ?_ _
  refine NoPanic.normal ?_
  have HB2 := Lib.hid (HB.out.trans (HBX.out.mono HB.out.size))
  obtain ⟨_, g0, g1, g2, g3, g4, g5⟩ := HG1.out.below HBX.out HG1.out.lt
  go_wp2
  go_ret
  exact ⟨by rw [HR.out]; rfl, HB2.out⟩
end Go.Proofs.Ytcoijhemnfnghaa
