/-
  Seek of the specification.
-/
import Derived.Test.YtepmmlnopdjjdaaQMov
namespace Go.Proofs.Ytepmmlnopdjjdaa
open Go.RowKit
set_option linter.unusedVariables false
set_option linter.unusedSimpArgs false
theorem fst_ok {m : Mdl} {d : Drv} {c : Crt} (h : fstU m d c = 0) : mdlU m = true ∧ drvU d = true ∧ vldC c = true ∧ ¬ d.st = 2 ∧ ¬ d.st = 0 ∧ d.bc.toList = c.bc.toList ∧ d.hd ≤ (c.l.length : Int) := by
  unfold fstU at h
  by_cases h1 : (mdlU m && (drvU d && vldC c)) = true
  · rw [if_pos h1] at h
    by_cases h2 : d.st = 2
    · rw [if_pos h2] at h; omega
    rw [if_neg h2] at h
    by_cases h0 : d.st = 0
    · rw [if_pos h0] at h; omega
    rw [if_neg h0] at h
    by_cases h3 : d.bc.toList = c.bc.toList
    · rw [if_pos h3] at h
      by_cases h4 : (c.l.length : Int) < d.hd
      · rw [if_pos h4] at h; omega
      simp only [Bool.and_eq_true] at h1
      exact ⟨h1.1, h1.2.1, h1.2.2, h2, h0, h3, by omega⟩
    · rw [if_neg h3] at h; omega
  · rw [if_neg h1] at h; omega
theorem mvC_in {X : World} {d : Drv} {c : Crt} {t : Int} {ad : Option Addr} {cap : Nat} (h : CrIn X c ad cap) : CrIn X (mvC d c t) ad cap := ⟨h.ki, h.le, h.mx, h.nn, h.bs⟩
theorem mvC_kp {w X : World} {d : Drv} {c : Crt} {t : Int} {ad : Option Addr} (h : Below w.heap.size w X) : KpS w ad c.l X ad (mvC d c t).l := KpS.same h
noncomputable def skU (m : Mdl) (d : Drv) (c : Crt) (t : Int) : Drv × Crt × Int × Int :=
  if fstU m d c = 0 then (if 0 ≤ t ∧ t ≤ (c.l.length : Int) then (mvD d c t, mvC d c t, loc c.W c.L c.S c.T c.J c.R d.hd t, 0) else (drZ, crZ, 0, 7)) else (drZ, crZ, 0, fstU m d c)
attribute [local irreducible] tim vld bar cnt okB capU allB vldC mdlU drvU due inc pas loc fstU mvD mvC
set_option maxRecDepth 100000 in
set_option maxHeartbeats 4000000 in
theorem rseek_any (m : Mdl) (d : Drv) (c : Crt) (ad : Option Addr) (cap : Nat) (t : Int) (w : World) (hin : CrIn w c ad cap) :
    Calls Try.prog 29 #[mdV m, drV d, crV c ad cap, .int .i64 t] w fun e w' => RetDC w ad c.l (skU m d c t) e w' := by
  have HF := Lib.hid (show skU m d c t = if fstU m d c = 0 then (if 0 ≤ t ∧ t ≤ (c.l.length : Int) then (mvD d c t, mvC d c t, loc c.W c.L c.S c.T c.J c.R d.hd t, 0) else (drZ, crZ, 0, 7)) else (drZ, crZ, 0, fstU m d c) from rfl)
  have HPT := Lib.hid (fun h => fst_ok (m := m) (d := d) (c := c) h)
  have HFI := Lib.hid (fun X (h : CrIn X c ad cap) => rfirst_any m d c ad cap X h)
  generalize skU m d c t = res at *
  generalize fstU m d c = f at *
  obtain ⟨W1, hb1, hm1, hs1, hf1⟩ := Fo.five w m d c ad cap
  have HB1 := Lib.hid hb1
  have HM1 := Lib.hid hm1
  have HS1 := Lib.hid hs1
  have HT := Lib.hid hf1
  have HIN := Lib.hid hin
  have hcap : (c.l.length : Int) ≤ 9223372036854775807 := by have := hin.le; have := hin.mx; unfold maxLen at this; omega
  clear hin hb1 hm1 hs1 hf1
  go_enter Try.func29, Try.ntmps29
  go_wp2_with fail
  generalize World.alloc _ _ = X0 at *
  obtain ⟨_, m0, m1, m2, m3, m4⟩ := HM1.out.on HT.out.b
  obtain ⟨_, d0, d1, d2, d3, d4, d5⟩ := HT.out.dat
  obtain ⟨_, k0, k1, k2, k3, k4, k5, k6, k7, k8, k9, k10, k11, k12⟩ := HT.out.cat
  go_wp2_with fail
  refine (HFI.out X0 (HIN.out.below (HB1.out.trans (HT.out.b.mono HB1.out.size)))).mono ?_
  rintro e w1 ⟨rfl, hb⟩
  replace HT := Lib.hid (HT.out.next hb)
  clear hb HFI m0 m1 m2 m3 m4 d0 d1 d2 d3 d4 d5 k0 k1 k2 k3 k4 k5 k6 k7 k8 k9 k10 k11 k12
  obtain ⟨_, k0, k1, k2, k3, k4, k5, k6, k7, k8, k9, k10, k11, k12⟩ := HT.out.cat
  by_cases hf : f = 0
  rotate_left
  · have HR := Lib.hid (show res = (drZ, crZ, 0, f) by rw [HF.out, if_neg hf])
    go_wp2_with (first
      | (with_reducible refine wpList_store_dr rfl (.tmp 8) (.tmp 33) rfl (w.heap.size + 1 + 2) rfl _ _ _ _ _ _ rfl drZ HT.out.x ?_)
      | (with_reducible refine wpList_store_cr rfl (.tmp 9) (.tmp 34) rfl (w.heap.size + 1 + 3) rfl _ _ _ _ _ _ _ _ _ _ _ _ _ _ _ rfl _ _ _ _ _ _ _ _ _ _ _ _ _ _ _ (HT.out.rowx drZ).y ?_))
    refine post_cells2 rfl rfl ((HT.out.rowx drZ).rowy crZ none 0).x Try.underlying25 rfl infoD rfl ((HT.out.rowx drZ).rowy crZ none 0).y Try.underlying30 rfl infoC rfl rfl rfl ?_
    rw [HR.out]
    exact ret_dcZ (HB1.out.trans (((HT.out.rowx drZ).rowy crZ none 0).b.mono HB1.out.size))
  obtain ⟨-, hdv, hcv, -, -, -, hhd⟩ := HPT.out hf
  subst hf
  replace HF := Lib.hid (show res = if 0 ≤ t ∧ t ≤ (c.l.length : Int) then (mvD d c t, mvC d c t, loc c.W c.L c.S c.T c.J c.R d.hd t, 0) else (drZ, crZ, 0, 7) by rw [HF.out, if_pos rfl])
  by_cases ht0 : t < 0
  · have HR := Lib.hid (show res = (drZ, crZ, 0, 7) by rw [HF.out, if_neg (by omega)])
    go_wp2_with (first
      | (with_reducible refine wpList_store_dr rfl (.tmp 8) (.tmp 33) rfl (w.heap.size + 1 + 2) rfl _ _ _ _ _ _ rfl drZ HT.out.x ?_)
      | (with_reducible refine wpList_store_cr rfl (.tmp 9) (.tmp 34) rfl (w.heap.size + 1 + 3) rfl _ _ _ _ _ _ _ _ _ _ _ _ _ _ _ rfl _ _ _ _ _ _ _ _ _ _ _ _ _ _ _ (HT.out.rowx drZ).y ?_))
    refine post_cells2 rfl rfl ((HT.out.rowx drZ).rowy crZ none 0).x Try.underlying25 rfl infoD rfl ((HT.out.rowx drZ).rowy crZ none 0).y Try.underlying30 rfl infoC rfl rfl rfl ?_
    rw [HR.out]
    exact ret_dcZ (HB1.out.trans (((HT.out.rowx drZ).rowy crZ none 0).b.mono HB1.out.size))
  by_cases ht1 : (c.l.length : Int) < t
  · have HR := Lib.hid (show res = (drZ, crZ, 0, 7) by rw [HF.out, if_neg (by omega)])
    go_wp2_with (first
      | (with_reducible refine wpList_store_dr rfl (.tmp 8) (.tmp 33) rfl (w.heap.size + 1 + 2) rfl _ _ _ _ _ _ rfl drZ HT.out.x ?_)
      | (with_reducible refine wpList_store_cr rfl (.tmp 9) (.tmp 34) rfl (w.heap.size + 1 + 3) rfl _ _ _ _ _ _ _ _ _ _ _ _ _ _ _ rfl _ _ _ _ _ _ _ _ _ _ _ _ _ _ _ (HT.out.rowx drZ).y ?_))
    refine post_cells2 rfl rfl ((HT.out.rowx drZ).rowy crZ none 0).x Try.underlying25 rfl infoD rfl ((HT.out.rowx drZ).rowy crZ none 0).y Try.underlying30 rfl infoC rfl rfl rfl ?_
    rw [HR.out]
    exact ret_dcZ (HB1.out.trans (((HT.out.rowx drZ).rowy crZ none 0).b.mono HB1.out.size))
  have HR := Lib.hid (show res = (mvD d c t, mvC d c t, loc c.W c.L c.S c.T c.J c.R d.hd t, 0) by rw [HF.out, if_pos (by omega)])
  clear HF HPT
  obtain ⟨-, hpa, hsi, -⟩ := drvU_cnt hdv
  have hcp := (vldC_cnt hcv).2
  clear hdv hcv
  obtain ⟨_, d0, d1, d2, d3, d4, d5⟩ := HT.out.dat
  go_wp2_with fail
  refine (rlocate_any c.W c.L c.S c.T c.J c.R d.hd t w1).mono ?_
  rintro e w2 ⟨rfl, hb⟩
  replace HT := Lib.hid (HT.out.next hb)
  clear hb d0 d1 d2 d3 d4 d5 k0 k1 k2 k3 k4 k5 k6 k7 k8 k9 k10 k11 k12
  obtain ⟨_, d0, d1, d2, d3, d4, d5⟩ := HT.out.dat
  obtain ⟨_, k0, k1, k2, k3, k4, k5, k6, k7, k8, k9, k10, k11, k12⟩ := HT.out.cat
  go_wp2_with fail
  refine (rmove_any d c ad cap t w2 hpa hsi hcp).mono ?_
  rintro e w3 ⟨rfl, hb⟩
  replace HT := Lib.hid (HT.out.next hb)
  clear hb d0 d1 d2 d3 d4 d5 k0 k1 k2 k3 k4 k5 k6 k7 k8 k9 k10 k11 k12
  go_wp2_with (first
    | (with_reducible refine wpList_store_dr rfl (.tmp 5) (.tmp 47) rfl (w.heap.size + 1) rfl _ _ _ _ _ _ rfl d HT.out.d ?_)
    | (with_reducible refine wpList_store_cr rfl (.tmp 6) (.tmp 48) rfl (w.heap.size + 1 + 1) rfl _ _ _ _ _ _ _ _ _ _ _ _ _ _ _ rfl _ _ _ _ _ _ _ _ _ _ _ _ _ _ _ (HT.out.rowd (mvD d c t)).c ?_))
  replace HT := Lib.hid ((HT.out.rowd (mvD d c t)).rowc (mvC d c t) ad cap)
  generalize World.setRow (World.setRow w3 _ _) _ _ = Y0 at *
  replace HT := Lib.hid (HT.out.next (Below.refl Y0.heap.size Y0).drew)
  refine wp_region_noPanic ?_
  refine wp_region_held_drew (S := fun X => DrAt X (w.heap.size + 1) (mvD d c t).st (mvD d c t).bc (mvD d c t).hd (mvD d c t).lo (mvD d c t).pa (mvD d c t).si ∧ CrAt X (w.heap.size + 1 + 1) (mvC d c t).bc (mvC d c t).W (mvC d c t).L (mvC d c t).S (mvC d c t).T (mvC d c t).J (mvC d c t).R (mvC d c t).wo (mvC d c t).lk ad (mvC d c t).l.length cap (mvC d c t).ep (mvC d c t).lo (mvC d c t).pa) (by kernel_rfl) (⟨HT.out.dat, HT.out.cat⟩) (fun hS0 => ?_)
  generalize World.drew Y0 = X9 at *
  refine held_take (i := 0) (v := ?_) rfl (by kernel_rfl) (by kernel_rfl) (by kernel_rfl) (fun _ _ _ h => h) (by rfl) ?_ (by assumption) ?_
  rotate_left
  · intro X hSX
    try dsimp only at hSX
    obtain ⟨⟨_, d0, d1, d2, d3, d4, d5⟩, -⟩ := hSX
    go_simp <;> with_reducible rfl
  simp only [Act.put, List.setIfInBounds_toArray, List.set_cons_zero, List.set_cons_succ]
  refine held_take (i := 1) (v := ?_) rfl (by kernel_rfl) (by kernel_rfl) (by kernel_rfl) (fun _ _ _ h => h) (by rfl) ?_ (by assumption) ?_
  rotate_left
  · intro X hSX
    try dsimp only at hSX
    obtain ⟨-, ⟨_, k0, k1, k2, k3, k4, k5, k6, k7, k8, k9, k10, k11, k12⟩⟩ := hSX
    go_simp <;> with_reducible rfl
  simp only [Act.put, List.setIfInBounds_toArray, List.set_cons_zero, List.set_cons_succ]
  refine held_take (i := 2) (v := ?_) rfl (by kernel_rfl) (by kernel_rfl) (by kernel_rfl) (fun _ _ _ h => h) (by rfl) ?_ (by assumption) ?_
  rotate_left
  · intro X hSX
    try dsimp only at hSX
    go_simp <;> with_reducible rfl
  simp only [Act.put, List.setIfInBounds_toArray, List.set_cons_zero, List.set_cons_succ]
  refine held_call (i := 3) rfl (by kernel_rfl) (by rfl) (fun K' hK' => ?_)
  refine oper_store_dr (.tmp 8) (.tmp 49) rfl (w.heap.size + 1 + 2) rfl (mvD d c t) rfl drZ HT.out.x ?_
  replace HT := Lib.hid (HT.out.rowx (mvD d c t))
  refine held_go hK' (⟨HT.out.dat, HT.out.cat⟩) ?_
  try simp only [Act.put, List.setIfInBounds_toArray, List.set_cons_zero, List.set_cons_succ]
  generalize World.setRow X9 _ _ = X10 at *
  refine held_call (i := 4) rfl (by kernel_rfl) (by rfl) (fun K' hK' => ?_)
  refine oper_store_cq (.tmp 9) (.tmp 50) rfl (w.heap.size + 1 + 3) rfl (mvC d c t) ad cap rfl crZ none 0 HT.out.y ?_
  replace HT := Lib.hid (HT.out.rowy (mvC d c t) ad cap)
  refine held_go hK' (⟨HT.out.dat, HT.out.cat⟩) ?_
  try simp only [Act.put, List.setIfInBounds_toArray, List.set_cons_zero, List.set_cons_succ]
  generalize World.setRow X10 _ _ = X11 at *
  clear hS0
  have hS0 := (⟨HT.out.dat, HT.out.cat⟩ : DrAt X11 (w.heap.size + 1) (mvD d c t).st (mvD d c t).bc (mvD d c t).hd (mvD d c t).lo (mvD d c t).pa (mvD d c t).si ∧ CrAt X11 (w.heap.size + 1 + 1) (mvC d c t).bc (mvC d c t).W (mvC d c t).L (mvC d c t).S (mvC d c t).T (mvC d c t).J (mvC d c t).R (mvC d c t).wo (mvC d c t).lk ad (mvC d c t).l.length cap (mvC d c t).ep (mvC d c t).lo (mvC d c t).pa)
  refine held_take (i := 5) (v := ?_) rfl (by kernel_rfl) (by kernel_rfl) (by kernel_rfl) (fun _ _ _ h => h) (by rfl) ?_ (by assumption) ?_
  rotate_left
  · intro X hSX
    try dsimp only at hSX
    go_simp <;> with_reducible rfl
  simp only [Act.put, List.setIfInBounds_toArray, List.set_cons_zero, List.set_cons_succ]
  refine held_take (i := 6) (v := ?_) rfl (by kernel_rfl) (by kernel_rfl) (by kernel_rfl) (fun _ _ _ h => h) (by rfl) ?_ (by assumption) ?_
  rotate_left
  · intro X hSX
    try dsimp only at hSX
    go_simp <;> with_reducible rfl
  simp only [Act.put, List.setIfInBounds_toArray, List.set_cons_zero, List.set_cons_succ]
  refine wpAnyH_done (by kernel_rfl) ?_ _
  refine NoPanic.normal ?_
  have HBX := Lib.hid (HB1.out.trans (HT.out.b.mono HB1.out.size))
  have HI2 := Lib.hid (HIN.out.below HBX.out)
  go_wp2_with fail
  refine post_cells2 rfl rfl HT.out.x Try.underlying25 rfl infoD rfl HT.out.y Try.underlying30 rfl infoC rfl rfl rfl ?_
  rw [HR.out]
  exact ⟨ad, cap, rfl, mvC_in HI2.out, mvC_kp HBX.out, HBX.out⟩
end Go.Proofs.Ytepmmlnopdjjdaa
