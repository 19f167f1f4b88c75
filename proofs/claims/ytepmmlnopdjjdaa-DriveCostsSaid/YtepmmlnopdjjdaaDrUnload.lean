/-
  Unload of the specification.
-/
import Derived.Test.YtepmmlnopdjjdaaDrSeek
namespace Go.Proofs.Ytepmmlnopdjjdaa
open Go.RowKit
set_option linter.unusedVariables false
set_option linter.unusedSimpArgs false
theorem loc_bd (W L S T J R a b : Int) : 0 ≤ loc W L S T J R a b ∧ loc W L S T J R a b ≤ 5000000000 := by
  cases h : (hav W L S T J R a && hav W L S T J R b)
  · rw [loc_no h]; omega
  rw [loc_yes h]
  rw [Bool.and_eq_true] at h
  obtain ⟨v, a0, a1⟩ := hav_iff.1 h.1
  obtain ⟨_, b0, b1⟩ := hav_iff.1 h.2
  exact mo_bd v a0 a1 b0 b1
theorem mdlU_bd {m : Mdl} (h : mdlU m = true) : (0 ≤ m.ld ∧ m.ld ≤ 1000000) ∧ (0 ≤ m.ul ∧ m.ul ≤ 1000000) ∧ (0 ≤ m.cl ∧ m.cl ≤ 1000000) ∧ (0 ≤ m.ce ∧ m.ce ≤ 1125899906842624) ∧ (0 ≤ m.cf ∧ m.cf ≤ 1125899906842624) := by
  unfold mdlU at h
  simp only [Bool.and_eq_true] at h
  obtain ⟨h1, h2, h3, h4, h5⟩ := h
  exact ⟨tim_iff.1 h1, tim_iff.1 h2, tim_iff.1 h3, cnt_iff.1 h4, cnt_iff.1 h5⟩
noncomputable def ulD (d : Drv) (c : Crt) : Drv := ⟨0, ⟨#[]⟩, (mvD d c 0).hd, (mvD d c 0).lo, (mvD d c 0).pa, (mvD d c 0).si⟩
noncomputable def ulU (m : Mdl) (d : Drv) (c : Crt) : Drv × Crt × Int × Int :=
  if fstU m d c = 0 then (ulD d c, mvC d c 0, loc c.W c.L c.S c.T c.J c.R d.hd 0 + m.ul, 0) else (drZ, crZ, 0, fstU m d c)
theorem ulD_set (d : Drv) (c : Crt) : (((drK (mvD d c 0)).setIfInBounds 0 (.int .i64 0)).setIfInBounds 1 (.string ⟨#[]⟩)) = drK (ulD d c) := rfl
attribute [local irreducible] tim vld bar cnt okB capU allB vldC mdlU drvU due inc pas loc fstU mvD mvC
set_option maxRecDepth 100000 in
set_option maxHeartbeats 4000000 in
theorem runload_any (m : Mdl) (d : Drv) (c : Crt) (ad : Option Addr) (cap : Nat) (w : World) (hin : CrIn w c ad cap) :
    Calls Try.prog 28 #[mdV m, drV d, crV c ad cap] w fun e w' => RetDC w ad c.l (ulU m d c) e w' := by
  have HF := Lib.hid (show ulU m d c = if fstU m d c = 0 then (ulD d c, mvC d c 0, loc c.W c.L c.S c.T c.J c.R d.hd 0 + m.ul, 0) else (drZ, crZ, 0, fstU m d c) from rfl)
  have HPT := Lib.hid (fun h => fst_ok (m := m) (d := d) (c := c) h)
  have HFI := Lib.hid (fun X (h : CrIn X c ad cap) => rfirst_any m d c ad cap X h)
  generalize ulU m d c = res at *
  generalize fstU m d c = f at *
  obtain ⟨W1, hb1, hm1, hs1, hf1⟩ := Fo.five w m d c ad cap
  have HB1 := Lib.hid hb1
  have HM1 := Lib.hid hm1
  have HS1 := Lib.hid hs1
  have HT := Lib.hid hf1
  have HIN := Lib.hid hin
  have hcap : (c.l.length : Int) ≤ 9223372036854775807 := by have := hin.le; have := hin.mx; unfold maxLen at this; omega
  clear hin hb1 hm1 hs1 hf1
  go_enter Try.func28, Try.ntmps28
  go_wp2_with fail
  generalize World.alloc _ _ = X0 at *
  obtain ⟨_, m0, m1, m2, m3, m4⟩ := HM1.out.on HT.out.b
  obtain ⟨_, d0, d1, d2, d3, d4, d5⟩ := HT.out.dat
  obtain ⟨_, k0, k1, k2, k3, k4, k5, k6, k7, k8, k9, k10, k11, k12⟩ := HT.out.cat
  go_wp2_with fail
  refine (HFI.out X0 (HIN.out.below (HB1.out.trans (HT.out.b.mono HB1.out.size)))).mono ?_
  rintro e w1 ⟨rfl, hb⟩
  replace HT := Lib.hid (HT.out.next hb)
  clear hb HFI m0 m1 m2 m3 m4 d0 d1 d2 d3 d4 d5 k0 k1 k2 k3 k4 k5 k6 k7 k8 k9 k10 k11 k12
  by_cases hf : f = 0
  rotate_left
  · have HR := Lib.hid (show res = (drZ, crZ, 0, f) by rw [HF.out, if_neg hf])
    go_wp2_with (first
      | (with_reducible refine wpList_store_dr rfl (.tmp 6) (.tmp 18) rfl (w.heap.size + 1 + 2) rfl _ _ _ _ _ _ rfl drZ HT.out.x ?_)
      | (with_reducible refine wpList_store_cr rfl (.tmp 7) (.tmp 19) rfl (w.heap.size + 1 + 3) rfl _ _ _ _ _ _ _ _ _ _ _ _ _ _ _ rfl _ _ _ _ _ _ _ _ _ _ _ _ _ _ _ (HT.out.rowx drZ).y ?_))
    refine post_cells2 rfl rfl ((HT.out.rowx drZ).rowy crZ none 0).x Try.underlying25 rfl infoD rfl ((HT.out.rowx drZ).rowy crZ none 0).y Try.underlying30 rfl infoC rfl rfl rfl ?_
    rw [HR.out]
    exact ret_dcZ (HB1.out.trans (((HT.out.rowx drZ).rowy crZ none 0).b.mono HB1.out.size))
  obtain ⟨hmd, hdv, hcv, -, -, -, hhd⟩ := HPT.out hf
  subst hf
  have HR := Lib.hid (show res = (ulD d c, mvC d c 0, loc c.W c.L c.S c.T c.J c.R d.hd 0 + m.ul, 0) by rw [HF.out, if_pos rfl])
  clear HF HPT
  obtain ⟨-, hpa, hsi, -⟩ := drvU_cnt hdv
  have hcp := (vldC_cnt hcv).2
  have hul := (mdlU_bd hmd).2.1
  have hlo := loc_bd c.W c.L c.S c.T c.J c.R d.hd 0
  have hw1 : IntKind.i64.wrap (loc c.W c.L c.S c.T c.J c.R d.hd 0 + m.ul) = loc c.W c.L c.S c.T c.J c.R d.hd 0 + m.ul := by rw [IntKind.wrap_i64]; omega
  clear hdv hcv hmd
  go_wp2_with fail
  replace HT := Lib.hid (HT.out.next (Below.refl w1.heap.size w1).drew)
  refine wp_region_noPanic ?_
  refine wp_region_held_drew (S := fun X => DrAt X (w.heap.size + 1) d.st d.bc d.hd d.lo d.pa d.si ∧ CrAt X (w.heap.size + 1 + 1) c.bc c.W c.L c.S c.T c.J c.R c.wo c.lk ad c.l.length cap c.ep c.lo c.pa ∧ MdAt X w.heap.size m.ld m.ul m.cl m.ce m.cf) (by kernel_rfl) (⟨HT.out.dat, HT.out.cat, HM1.out.on HT.out.b⟩) (fun hS0 => ?_)
  generalize World.drew w1 = X4 at *
  refine held_take (i := 0) (v := ?_) rfl (by kernel_rfl) (by kernel_rfl) (by kernel_rfl) (fun _ _ _ h => h) (by rfl) ?_ (by assumption) ?_
  rotate_left
  · intro X hSX
    try dsimp only at hSX
    go_simp <;> with_reducible rfl
  simp only [Act.put, List.setIfInBounds_toArray, List.set_cons_zero, List.set_cons_succ]
  refine held_take (i := 1) (v := ?_) rfl (by kernel_rfl) (by kernel_rfl) (by kernel_rfl) (fun _ _ _ h => h) (by rfl) ?_ (by assumption) ?_
  rotate_left
  · intro X hSX
    try dsimp only at hSX
    obtain ⟨-, ⟨_, k0, k1, k2, k3, k4, k5, k6, k7, k8, k9, k10, k11, k12⟩, -⟩ := hSX
    go_simp <;> with_reducible rfl
  simp only [Act.put, List.setIfInBounds_toArray, List.set_cons_zero, List.set_cons_succ]
  refine held_take (i := 2) (v := ?_) rfl (by kernel_rfl) (by kernel_rfl) (by kernel_rfl) (fun _ _ _ h => h) (by rfl) ?_ (by assumption) ?_
  rotate_left
  · intro X hSX
    try dsimp only at hSX
    go_simp <;> with_reducible rfl
  simp only [Act.put, List.setIfInBounds_toArray, List.set_cons_zero, List.set_cons_succ]
  refine held_take (i := 3) (v := ?_) rfl (by kernel_rfl) (by kernel_rfl) (by kernel_rfl) (fun _ _ _ h => h) (by rfl) ?_ (by assumption) ?_
  rotate_left
  · intro X hSX
    try dsimp only at hSX
    obtain ⟨⟨_, d0, d1, d2, d3, d4, d5⟩, -, -⟩ := hSX
    go_simp <;> with_reducible rfl
  simp only [Act.put, List.setIfInBounds_toArray, List.set_cons_zero, List.set_cons_succ]
  refine held_take (i := 5) (v := ?_) rfl (by kernel_rfl) (by kernel_rfl) (by kernel_rfl) (fun _ _ _ h => h) (by rfl) ?_ (by assumption) ?_
  rotate_left
  · intro X hSX
    try dsimp only at hSX
    go_simp <;> with_reducible rfl
  simp only [Act.put, List.setIfInBounds_toArray, List.set_cons_zero, List.set_cons_succ]
  refine held_take (i := 6) (v := ?_) rfl (by kernel_rfl) (by kernel_rfl) (by kernel_rfl) (fun _ _ _ h => h) (by rfl) ?_ (by assumption) ?_
  rotate_left
  · intro X hSX
    try dsimp only at hSX
    obtain ⟨-, -, ⟨_, m0, m1, m2, m3, m4⟩⟩ := hSX
    go_simp <;> with_reducible rfl
  simp only [Act.put, List.setIfInBounds_toArray, List.set_cons_zero, List.set_cons_succ]
  refine held_call (i := 4) rfl (by kernel_rfl) (by rfl) (fun K' hK' => ?_)
  go_simp
  refine (rlocate_any c.W c.L c.S c.T c.J c.R d.hd 0 X4).mono ?_
  rintro e w2 ⟨rfl, hb⟩
  replace HT := Lib.hid (HT.out.next hb)
  clear hb hS0
  refine held_go hK' (⟨HT.out.dat, HT.out.cat, HM1.out.on HT.out.b⟩) ?_
  try simp only [Act.put, List.setIfInBounds_toArray, List.set_cons_zero, List.set_cons_succ]
  have hS0 := (⟨HT.out.dat, HT.out.cat, HM1.out.on HT.out.b⟩ : DrAt w2 (w.heap.size + 1) d.st d.bc d.hd d.lo d.pa d.si ∧ CrAt w2 (w.heap.size + 1 + 1) c.bc c.W c.L c.S c.T c.J c.R c.wo c.lk ad c.l.length cap c.ep c.lo c.pa ∧ MdAt w2 w.heap.size m.ld m.ul m.cl m.ce m.cf)
  refine held_take (i := 7) (v := ?_) rfl (by kernel_rfl) (by kernel_rfl) (by kernel_rfl) (fun _ _ _ h => h) (by rfl) ?_ (by assumption) ?_
  rotate_left
  · intro X hSX
    try dsimp only at hSX
    go_simp <;> with_reducible rfl
  simp only [Act.put, List.setIfInBounds_toArray, List.set_cons_zero, List.set_cons_succ]
  refine held_take (i := 8) (v := ?_) rfl (by kernel_rfl) (by kernel_rfl) (by kernel_rfl) (fun _ _ _ h => h) (by rfl) ?_ (by assumption) ?_
  rotate_left
  · intro X hSX
    try dsimp only at hSX
    go_simp <;> with_reducible rfl
  simp only [Act.put, List.setIfInBounds_toArray, List.set_cons_zero, List.set_cons_succ]
  refine wpAnyH_done (by kernel_rfl) ?_ _
  refine NoPanic.normal ?_
  obtain ⟨_, d0, d1, d2, d3, d4, d5⟩ := HT.out.dat
  obtain ⟨_, k0, k1, k2, k3, k4, k5, k6, k7, k8, k9, k10, k11, k12⟩ := HT.out.cat
  go_wp2_with fail
  refine (rmove_any d c ad cap 0 w2 hpa hsi hcp).mono ?_
  rintro e w3 ⟨rfl, hb⟩
  replace HT := Lib.hid (HT.out.next hb)
  clear hb d0 d1 d2 d3 d4 d5 k0 k1 k2 k3 k4 k5 k6 k7 k8 k9 k10 k11 k12
  have HT2 := Lib.hid ((HT.out.rowd (mvD d c 0)).rowc (mvC d c 0) ad cap)
  generalize hY : World.setRow (World.setRow w3 (w.heap.size + 1) (drK (mvD d c 0))) (w.heap.size + 1 + 1) (crQ (mvC d c 0) ad cap) = Y at HT2
  have f0 := froz_of HT2.out.d 0
  have f1 := froz_of HT2.out.d 1
  obtain ⟨_, d0, d1, d2, d3, d4, d5⟩ := HT2.out.dat
  go_wp2_with (first
    | (with_reducible refine wpList_store_dr rfl (.tmp 4) (.tmp 33) rfl (w.heap.size + 1) rfl _ _ _ _ _ _ rfl d HT.out.d ?_)
    | (with_reducible refine wpList_store_cr rfl (.tmp 5) (.tmp 34) rfl (w.heap.size + 1 + 1) rfl _ _ _ _ _ _ _ _ _ _ _ _ _ _ _ rfl _ _ _ _ _ _ _ _ _ _ _ _ _ _ _ (HT.out.rowd (mvD d c 0)).c ?_; rw [hY]))
  replace HT := Lib.hid ((HT2.out.setd 0 (.int .i64 0) ⟨0, (mvD d c 0).bc, (mvD d c 0).hd, (mvD d c 0).lo, (mvD d c 0).pa, (mvD d c 0).si⟩ rfl).setd 1 (.string ⟨#[]⟩) (ulD d c) rfl)
  clear d0 d1 d2 d3 d4 d5 f0 f1 HT2 hY
  generalize World.setCell (World.setCell Y _ _) _ _ = Y0 at *
  replace HT := Lib.hid (HT.out.next (Below.refl Y0.heap.size Y0).drew)
  refine wp_region_noPanic ?_
  refine wp_region_held_drew (S := fun X => DrAt X (w.heap.size + 1) (ulD d c).st (ulD d c).bc (ulD d c).hd (ulD d c).lo (ulD d c).pa (ulD d c).si ∧ CrAt X (w.heap.size + 1 + 1) (mvC d c 0).bc (mvC d c 0).W (mvC d c 0).L (mvC d c 0).S (mvC d c 0).T (mvC d c 0).J (mvC d c 0).R (mvC d c 0).wo (mvC d c 0).lk ad (mvC d c 0).l.length cap (mvC d c 0).ep (mvC d c 0).lo (mvC d c 0).pa) (by kernel_rfl) (⟨HT.out.dat, HT.out.cat⟩) (fun hS0 => ?_)
  generalize World.drew Y0 = X9 at *
  refine held_take (i := 0) (v := ?_) rfl (by kernel_rfl) (by kernel_rfl) (by kernel_rfl) (fun _ _ _ h => h) (by rfl) ?_ (by assumption) ?_
  rotate_left
  · intro X hSX
    try dsimp only at hSX
    obtain ⟨⟨_, d0, d1, d2, d3, d4, d5⟩, -⟩ := hSX
    go_simp <;> with_reducible rfl
  simp only [Act.put, List.setIfInBounds_toArray, List.set_cons_zero, List.set_cons_succ]
  refine held_take (i := 1) (v := ?_) rfl (by kernel_rfl) (by kernel_rfl) (by kernel_rfl) (fun _ _ _ h => h) (by rfl) ?_ (by assumption) ?_
  rotate_left
  · intro X hSX
    try dsimp only at hSX
    obtain ⟨-, ⟨_, k0, k1, k2, k3, k4, k5, k6, k7, k8, k9, k10, k11, k12⟩⟩ := hSX
    go_simp <;> with_reducible rfl
  simp only [Act.put, List.setIfInBounds_toArray, List.set_cons_zero, List.set_cons_succ]
  refine held_take (i := 2) (v := ?_) rfl (by kernel_rfl) (by kernel_rfl) (by kernel_rfl) (fun _ _ _ h => h) (by rfl) ?_ (by assumption) ?_
  rotate_left
  · intro X hSX
    try dsimp only at hSX
    go_simp <;> with_reducible rfl
  simp only [Act.put, List.setIfInBounds_toArray, List.set_cons_zero, List.set_cons_succ]
  refine held_call (i := 3) rfl (by kernel_rfl) (by rfl) (fun K' hK' => ?_)
  refine oper_store_dr (.tmp 6) (.tmp 37) rfl (w.heap.size + 1 + 2) rfl (ulD d c) rfl drZ HT.out.x ?_
  replace HT := Lib.hid (HT.out.rowx (ulD d c))
  refine held_go hK' (⟨HT.out.dat, HT.out.cat⟩) ?_
  try simp only [Act.put, List.setIfInBounds_toArray, List.set_cons_zero, List.set_cons_succ]
  generalize World.setRow X9 _ _ = X10 at *
  refine held_call (i := 4) rfl (by kernel_rfl) (by rfl) (fun K' hK' => ?_)
  refine oper_store_cq (.tmp 7) (.tmp 38) rfl (w.heap.size + 1 + 3) rfl (mvC d c 0) ad cap rfl crZ none 0 HT.out.y ?_
  replace HT := Lib.hid (HT.out.rowy (mvC d c 0) ad cap)
  refine held_go hK' (⟨HT.out.dat, HT.out.cat⟩) ?_
  try simp only [Act.put, List.setIfInBounds_toArray, List.set_cons_zero, List.set_cons_succ]
  generalize World.setRow X10 _ _ = X11 at *
  clear hS0
  have hS0 := (⟨HT.out.dat, HT.out.cat⟩ : DrAt X11 (w.heap.size + 1) (ulD d c).st (ulD d c).bc (ulD d c).hd (ulD d c).lo (ulD d c).pa (ulD d c).si ∧ CrAt X11 (w.heap.size + 1 + 1) (mvC d c 0).bc (mvC d c 0).W (mvC d c 0).L (mvC d c 0).S (mvC d c 0).T (mvC d c 0).J (mvC d c 0).R (mvC d c 0).wo (mvC d c 0).lk ad (mvC d c 0).l.length cap (mvC d c 0).ep (mvC d c 0).lo (mvC d c 0).pa)
  refine held_take (i := 5) (v := ?_) rfl (by kernel_rfl) (by kernel_rfl) (by kernel_rfl) (fun _ _ _ h => h) (by rfl) ?_ (by assumption) ?_
  rotate_left
  · intro X hSX
    try dsimp only at hSX
    go_simp <;> with_reducible rfl
  simp only [Act.put, List.setIfInBounds_toArray, List.set_cons_zero, List.set_cons_succ]
  refine held_take (i := 6) (v := ?_) rfl (by kernel_rfl) (by kernel_rfl) (by kernel_rfl) (fun _ _ _ h => h) (by rfl) ?_ (by assumption) ?_
  rotate_left
  · intro X hSX
    try dsimp only at hSX
    go_simp <;> with_reducible rfl
  simp only [Act.put, List.setIfInBounds_toArray, List.set_cons_zero, List.set_cons_succ]
  refine wpAnyH_done (by kernel_rfl) ?_ _
  refine NoPanic.normal ?_
  have HBX := Lib.hid (HB1.out.trans (HT.out.b.mono HB1.out.size))
  have HI2 := Lib.hid (HIN.out.below HBX.out)
  go_wp2_with fail
  refine post_cells2 rfl rfl HT.out.x Try.underlying25 rfl infoD rfl HT.out.y Try.underlying30 rfl infoC rfl rfl rfl ?_
  rw [HR.out]
  exact ⟨ad, cap, rfl, mvC_in HI2.out, mvC_kp HBX.out, HBX.out⟩
end Go.Proofs.Ytepmmlnopdjjdaa
