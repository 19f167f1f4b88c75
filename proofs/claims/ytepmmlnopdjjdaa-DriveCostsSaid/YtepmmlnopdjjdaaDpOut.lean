/-
  The program's Unload, Seek and Write.
-/
import Derived.Test.YtepmmlnopdjjdaaDpRun2
import Derived.Test.YtepmmlnopdjjdaaUntil
namespace Go.Proofs.Ytepmmlnopdjjdaa
open Go.RowKit
set_option linter.unusedVariables false
set_option linter.unusedSimpArgs false
set_option maxRecDepth 100000
theorem outer_end {w X1 w2 W : World} {ad0 ad' : Option Addr} {cap' : Nat} {l0 : List Blk} {d1 : Drv} {y1 : Crt} {t1 e1 : Int} (hi : CrIn w2 y1 ad' cap') (hkf : Kfr w2 X1.heap.size ad' y1.l) (hX1 : w.heap.size ≤ X1.heap.size) (hsm : Sm X1.heap.size w2 W) (hb : Below w.heap.size w W) :
    RetDC w ad0 l0 (d1, y1, t1, e1) (.returned (.tuple #[.agg (drK d1), .agg (crQ y1 ad' cap'), .int .i64 t1, .int .i64 e1])) W :=
  ⟨ad', cap', rfl, ⟨hkf W hsm.k hsm.s, hi.le, hi.mx, hi.nn, hi.bs⟩, KpS.new (fun X hX hs => hkf X (fun k h1 h2 => (hX k (by omega) (Nat.lt_of_lt_of_le h2 hsm.s)).trans (hsm.k k h1 h2)) (Nat.le_trans hsm.s hs)), hb⟩
theorem fstU_parts {m : Mdl} {d : Drv} {c : Crt} (h : fstU m d c = 0) : mdlU m = true ∧ vldC c = true ∧ (0 ≤ d.lo ∧ d.lo ≤ 1125899906842624) ∧ (0 ≤ d.pa ∧ d.pa ≤ 1125899906842624) ∧ (0 ≤ d.si ∧ d.si ≤ 1125899906842624) ∧ (0 ≤ d.hd ∧ d.hd ≤ 4096) ∧ (0 ≤ c.lo ∧ c.lo ≤ 1125899906842624) ∧ (0 ≤ c.pa ∧ c.pa ≤ 1125899906842624) ∧ c.l.length ≤ 4096 ∧ (∀ b ∈ c.l, b.d.length ≤ 10000) ∧ d.hd ≤ (c.l.length : Int) ∧ d.st ≠ 0 := by
  obtain ⟨h1, h2, h3, _, h0, _, h4⟩ := fst_ok h
  obtain ⟨k1, k2, k3, k4⟩ := drvU_cnt h2
  obtain ⟨l1, l2⟩ := vldC_cnt h3
  have hp := vldC_parts h3
  have hc := hp.1.c1
  exact ⟨h1, h3, k1, k2, k3, k4, l1, l2, by have := hp.2.1; omega, allB_small hp.2.2.1, h4, h0⟩
theorem wrR_res {m : Mdl} {d : Drv} {c : Crt} {z : List Blk} : (wrR m d c z).2.2.2 ≠ 0 → wrR m d c z = (drZ, crZ, 0, (wrR m d c z).2.2.2) := by
  unfold wrR
  intro h
  by_cases h1 : worn m c = true
  · rw [if_pos h1]
  · rw [if_neg h1] at h ⊢
    by_cases h2 : z = []
    · rw [if_pos h2]
    · rw [if_neg h2] at h ⊢
      by_cases h3 : (wriC (vldC c) c d.hd z).2 = 0
      · rw [if_pos h3] at h; exact absurd rfl h
      · rw [if_neg h3]
theorem wrR_small {m : Mdl} {d : Drv} {c : Crt} {z : List Blk} (hv : vldC c = true) : (wrR m d c z).2.2.2 = 0 → (wrR m d c z).2.1.l.length ≤ 4096 ∧ ∀ b ∈ (wrR m d c z).2.1.l, b.d.length ≤ 10000 := by
  unfold wrR
  intro h
  by_cases h1 : worn m c = true
  · rw [if_pos h1] at h; exact absurd h (by simp)
  · rw [if_neg h1] at h ⊢
    by_cases h2 : z = []
    · rw [if_pos h2] at h; exact absurd h (by simp)
    · rw [if_neg h2] at h ⊢
      by_cases h3 : (wriC (vldC c) c d.hd z).2 = 0
      · rw [if_pos h3]; exact wri_small hv h3
      · rw [if_neg h3] at h; exact absurd h h3
theorem mvC_l (d : Drv) (c : Crt) (t : Int) : (mvC d c t).l = c.l := rfl
theorem mdK_row {w : World} {g : Nat} {m : Mdl} (h : w.heap[g]? = some (.cells (mdK m) 23 (0, 0))) : w.cell? ⟨g, 0, none⟩ = some (.int .i64 m.ld) ∧ w.cell? ⟨g, 1, none⟩ = some (.int .i64 m.ul) := ⟨by rw [row_cell h]; rfl, by rw [row_cell h]; rfl⟩
attribute [local irreducible] tim vld bar cnt okB capU allB vldC mdlU drvU due worn inc pas loc rd frs fstU mvD mvC wriC wrR skR ulD
set_option maxHeartbeats 8000000 in
theorem unload_any (m : Mdl) (d : Drv) (c : Crt) (ad : Option Addr) (cap : Nat) (w : World) (hin : CrIn w c ad cap) :
    Calls Try.prog 25 #[mdV m, drV d, crV c ad cap] w fun e w' => RetDC w ad c.l (ulU m d c) e w' := by
  have HF := Lib.hid (show ulU m d c = if fstU m d c = 0 then (ulD d c, mvC d c 0, loc c.W c.L c.S c.T c.J c.R d.hd 0 + m.ul, 0) else (drZ, crZ, 0, fstU m d c) from (by unfold ulU; rfl))
  have HPT := Lib.hid (fun h => fstU_parts (m := m) (d := d) (c := c) h)
  have HFC := Lib.hid (fun X h => firstchecks_any m d c ad cap X h)
  generalize ulU m d c = res at *
  generalize fstU m d c = fq at *
  have HIN := Lib.hid hin
  have HT := Lib.hid (show Bx w (((((w.alloc (boxMx m)).alloc (boxDr d)).alloc (boxCx c ad cap)).alloc (.cells #[.int .i64 0, .string ⟨#[]⟩, .int .i64 0, .int .i64 0, .int .i64 0, .int .i64 0] 25)).alloc (boxK ⟨#[]⟩ 0 0 0 0 0 0 false false none 0 0 0 0 0)) ([(mdK m, 23), (drK d, 25), (crQ c ad cap, 30)] ++ [(drK drZ, 25), (crQ crZ none 0, 30)]) from Bx.start w [(mdK m, 23), (drK d, 25), (crQ c ad cap, 30), (drK drZ, 25), (crQ crZ none 0, 30)])
  clear hin
  go_enter Try.func25, Try.ntmps25
  go_wp2_with fail
  generalize World.alloc _ _ = Y0 at *
  replace HT := Lib.hid (HT.out.next (Below.refl Y0.heap.size Y0).drew)
  refine wp_region_noPanic ?_
  refine wp_region_held_drew (S := (fun X => Bx w X [(mdK m, 23), (drK d, 25), (crQ c ad cap, 30)])) (by kernel_rfl) (HT.out.pre) (fun hS0 => ?_)
  generalize World.drew Y0 = X0 at *
  refine held_take (i := 0) (v := ?_) rfl (by kernel_rfl) (by kernel_rfl) (by kernel_rfl) (fun _ _ _ h => h) (by rfl) ?_ (by assumption) ?_
  rotate_left
  · intro X hSX
    try dsimp only at hSX
    obtain ⟨_, m0, m1, m2, m3, m4⟩ := hSX.m
    go_simp <;> with_reducible rfl
  simp only [Act.put, List.setIfInBounds_toArray, List.set_cons_zero, List.set_cons_succ]
  refine held_take (i := 1) (v := ?_) rfl (by kernel_rfl) (by kernel_rfl) (by kernel_rfl) (fun _ _ _ h => h) (by rfl) ?_ (by assumption) ?_
  rotate_left
  · intro X hSX
    try dsimp only at hSX
    obtain ⟨_, d0, d1, d2, d3, d4, d5⟩ := hSX.d
    go_simp <;> with_reducible rfl
  simp only [Act.put, List.setIfInBounds_toArray, List.set_cons_zero, List.set_cons_succ]
  refine held_take (i := 4) (v := ?_) rfl (by kernel_rfl) (by kernel_rfl) (by kernel_rfl) (fun _ _ _ h => h) (by rfl) ?_ (by assumption) ?_
  rotate_left
  · intro X hSX
    try dsimp only at hSX
    obtain ⟨_, d0, d1, d2, d3, d4, d5⟩ := hSX.d
    go_simp <;> with_reducible rfl
  simp only [Act.put, List.setIfInBounds_toArray, List.set_cons_zero, List.set_cons_succ]
  refine held_take (i := 2) (v := ?_) rfl (by kernel_rfl) (by kernel_rfl) (by kernel_rfl) (fun _ _ _ h => h) (by rfl) ?_ (by assumption) ?_
  rotate_left
  · intro X hSX
    try dsimp only at hSX
    obtain ⟨_, k0, k1, k2, k3, k4, k5, k6, k7, k8, k9, k10, k11, k12⟩ := hSX.c
    go_simp <;> with_reducible rfl
  simp only [Act.put, List.setIfInBounds_toArray, List.set_cons_zero, List.set_cons_succ]
  refine held_take (i := 5) (v := ?_) rfl (by kernel_rfl) (by kernel_rfl) (by kernel_rfl) (fun _ _ _ h => h) (by rfl) ?_ (by assumption) ?_
  rotate_left
  · intro X hSX
    try dsimp only at hSX
    obtain ⟨_, k0, k1, k2, k3, k4, k5, k6, k7, k8, k9, k10, k11, k12⟩ := hSX.c
    go_simp <;> with_reducible rfl
  simp only [Act.put, List.setIfInBounds_toArray, List.set_cons_zero, List.set_cons_succ]
  refine held_take (i := 6) (v := ?_) rfl (by kernel_rfl) (by kernel_rfl) (by kernel_rfl) (fun _ _ _ h => h) (by rfl) ?_ (by assumption) ?_
  rotate_left
  · intro X hSX
    try dsimp only at hSX
    go_simp <;> with_reducible rfl
  simp only [Act.put, List.setIfInBounds_toArray, List.set_cons_zero, List.set_cons_succ]
  refine held_call (i := 3) rfl (by kernel_rfl) (by rfl) (fun K' hK' => ?_)
  go_simp
  refine (HFC.out X0 (HIN.out.below HT.out.b)).mono ?_
  rintro e X1 ⟨ca, cb, cc, cd, ce, cf, cg, rfl, hfr, hb⟩
  replace HT := Lib.hid (HT.out.next hb)
  refine held_go hK' (HT.out.pre) ?_
  try simp only [Act.put, List.setIfInBounds_toArray, List.set_cons_zero, List.set_cons_succ]
  clear hb hS0 HFC
  have hS0 := HT.out.pre
  have HSZ := Lib.hid (show w.heap.size + 5 ≤ X1.heap.size from HT.out.size)
  have HLT := Lib.hid (show w.heap.size + 3 < X1.heap.size ∧ w.heap.size + 4 < X1.heap.size by have h1 := HSZ.out; omega)
  have HFR := Lib.hid hfr
  clear hfr
  by_cases hf0 : fq = 0
  rotate_left
  · have HR := Lib.hid (show res = (drZ, crZ, 0, fq) by rw [HF.out, if_neg hf0])
    refine held_call (i := 7) rfl (by kernel_rfl) (by rfl) (fun K' hK' => ?_)
    go_simp
    refine (perform_no ca cb cc cd ce cf cg d c ad cap _ fq X1 HFR.out hf0).mono ?_
    rintro e w2 ⟨rfl, hb⟩
    have HSM := Lib.hid (Sm.refl X1.heap.size w2)
    replace HT := Lib.hid (HT.out.next hb)
    refine held_go hK' (HT.out.pre) ?_
    try simp only [Act.put, List.setIfInBounds_toArray, List.set_cons_zero, List.set_cons_succ]
    clear hb hS0
    have hS0 := HT.out.pre
    refine held_take (i := 8) (v := ?_) rfl (by kernel_rfl) (by kernel_rfl) (by kernel_rfl) (fun _ _ _ h => h) (by rfl) ?_ (by assumption) ?_
    rotate_left
    · intro X hSX
      try dsimp only at hSX
      go_simp <;> with_reducible rfl
    simp only [Act.put, List.setIfInBounds_toArray, List.set_cons_zero, List.set_cons_succ]
    refine held_take (i := 9) (v := ?_) rfl (by kernel_rfl) (by kernel_rfl) (by kernel_rfl) (fun _ _ _ h => h) (by rfl) ?_ (by assumption) ?_
    rotate_left
    · intro X hSX
      try dsimp only at hSX
      go_simp <;> with_reducible rfl
    simp only [Act.put, List.setIfInBounds_toArray, List.set_cons_zero, List.set_cons_succ]
    refine held_take (i := 10) (v := ?_) rfl (by kernel_rfl) (by kernel_rfl) (by kernel_rfl) (fun _ _ _ h => h) (by rfl) ?_ (by assumption) ?_
    rotate_left
    · intro X hSX
      try dsimp only at hSX
      go_simp <;> with_reducible rfl
    simp only [Act.put, List.setIfInBounds_toArray, List.set_cons_zero, List.set_cons_succ]
    refine held_take (i := 11) (v := ?_) rfl (by kernel_rfl) (by kernel_rfl) (by kernel_rfl) (fun _ _ _ h => h) (by rfl) ?_ (by assumption) ?_
    rotate_left
    · intro X hSX
      try dsimp only at hSX
      go_simp <;> with_reducible rfl
    simp only [Act.put, List.setIfInBounds_toArray, List.set_cons_zero, List.set_cons_succ]
    refine held_call (i := 12) rfl (by kernel_rfl) (by rfl) (fun K' hK' => ?_)
    refine oper_store_dr (.tmp 6) (.tmp 18) rfl (w.heap.size + 3) rfl drZ rfl drZ (HT.out.at_ 3 _ rfl) ?_
    have HT2 := Lib.hid (HT.out.row 3 _ _ (drK drZ) rfl)
    have HS2 := Lib.hid (HSM.out.row (g := w.heap.size + 3) (cs := drK drZ) (.inl HLT.out.1))
    refine held_go hK' ((show Bx w _ ([(mdK m, 23), (drK d, 25), (crQ c ad cap, 30)] ++ _) from HT2.out).pre) ?_
    try simp only [Act.put, List.setIfInBounds_toArray, List.set_cons_zero, List.set_cons_succ]
    generalize World.setRow w2 _ _ = w3 at *
    clear hS0 HT HSM
    have hS0 := (show Bx w w3 ([(mdK m, 23), (drK d, 25), (crQ c ad cap, 30)] ++ _) from HT2.out).pre
    refine held_call (i := 13) rfl (by kernel_rfl) (by rfl) (fun K' hK' => ?_)
    refine oper_store_cq (.tmp 7) (.tmp 19) rfl (w.heap.size + 4) rfl crZ none 0 rfl crZ none 0 (HT2.out.at_ 4 _ rfl) ?_
    have HT3 := Lib.hid (HT2.out.row 4 _ _ (crQ crZ none 0) rfl)
    have HS3 := Lib.hid (HS2.out.row (g := w.heap.size + 4) (cs := crQ crZ none 0) (.inl HLT.out.2))
    refine held_go hK' ((show Bx w _ ([(mdK m, 23), (drK d, 25), (crQ c ad cap, 30)] ++ _) from HT3.out).pre) ?_
    try simp only [Act.put, List.setIfInBounds_toArray, List.set_cons_zero, List.set_cons_succ]
    generalize World.setRow w3 _ _ = w4 at *
    clear hS0 HT2 HS2
    have hS0 := (show Bx w w4 ([(mdK m, 23), (drK d, 25), (crQ c ad cap, 30)] ++ _) from HT3.out).pre
    refine held_take (i := 14) (v := ?_) rfl (by kernel_rfl) (by kernel_rfl) (by kernel_rfl) (fun _ _ _ h => h) (by rfl) ?_ (by assumption) ?_
    rotate_left
    · intro X hSX
      try dsimp only at hSX
      go_simp <;> with_reducible rfl
    simp only [Act.put, List.setIfInBounds_toArray, List.set_cons_zero, List.set_cons_succ]
    refine held_take (i := 15) (v := ?_) rfl (by kernel_rfl) (by kernel_rfl) (by kernel_rfl) (fun _ _ _ h => h) (by rfl) ?_ (by assumption) ?_
    rotate_left
    · intro X hSX
      try dsimp only at hSX
      go_simp <;> with_reducible rfl
    simp only [Act.put, List.setIfInBounds_toArray, List.set_cons_zero, List.set_cons_succ]
    refine wpAnyH_done (by kernel_rfl) ?_ _
    refine NoPanic.normal ?_
    clear hS0
    go_wp2_with fail
    refine post_cells2 rfl rfl (show w4.heap[w.heap.size + 3]? = some (.cells (drK drZ) 25 (0, 0)) from HT3.out.at_ 3 _ rfl) Try.underlying25 rfl infoD rfl (show w4.heap[w.heap.size + 4]? = some (.cells (crQ crZ none 0) 30 (0, 0)) from HT3.out.at_ 4 _ rfl) Try.underlying30 rfl infoC rfl rfl rfl ?_
    rw [HR.out]
    exact ret_dcZ HT3.out.b
  subst hf0
  have hp := HPT.out rfl
  have HR := Lib.hid (show res = (ulD d c, mvC d c 0, loc c.W c.L c.S c.T c.J c.R d.hd 0 + m.ul, (0 : Int)) by rw [HF.out, if_pos rfl])
  clear HF HPT
  have HRUN := Lib.hid (fun X (hX : Bx X1 X (pfL ca cb cc cd ce cf cg d c ad cap)) => run_unload w.heap.size m ca cb cc cd ce cf cg d c ad cap X1 (by have h1 := HSZ.out; omega) (mdK_row (HT.out.at_ 0 _ rfl)).2 (mdlU_bd hp.1).2.1 (HIN.out.below HT.out.b) hp.2.2.2.1 hp.2.2.2.2.1 hp.2.2.2.2.2.2.2.1 X hX)
  have HZ : Hid (((ulD d c, mvC d c 0, loc c.W c.L c.S c.T c.J c.R d.hd 0 + m.ul, (0 : Int))).2.2.2 ≠ 0 → (ulD d c, mvC d c 0, loc c.W c.L c.S c.T c.J c.R d.hd 0 + m.ul, (0 : Int)) = (drZ, crZ, 0, ((ulD d c, mvC d c 0, loc c.W c.L c.S c.T c.J c.R d.hd 0 + m.ul, (0 : Int))).2.2.2)) := Lib.hid (fun h => absurd rfl h)
  have HSL : Hid (((ulD d c, mvC d c 0, loc c.W c.L c.S c.T c.J c.R d.hd 0 + m.ul, (0 : Int))).2.2.2 = 0 → ((ulD d c, mvC d c 0, loc c.W c.L c.S c.T c.J c.R d.hd 0 + m.ul, (0 : Int))).2.1.l.length ≤ 4096 ∧ ∀ b ∈ ((ulD d c, mvC d c 0, loc c.W c.L c.S c.T c.J c.R d.hd 0 + m.ul, (0 : Int))).2.1.l, b.d.length ≤ 10000) := Lib.hid (fun _ => (show (mvC d c 0).l.length ≤ 4096 ∧ ∀ b ∈ (mvC d c 0).l, b.d.length ≤ 10000 from (mvC_l d c 0).symm ▸ ⟨hp.2.2.2.2.2.2.2.2.1, hp.2.2.2.2.2.2.2.2.2.1⟩))
  clear hp
  generalize (ulD d c, mvC d c 0, loc c.W c.L c.S c.T c.J c.R d.hd 0 + m.ul, (0 : Int)) = rr at *
  refine held_call (i := 7) rfl (by kernel_rfl) (by rfl) (fun K' hK' => ?_)
  go_simp
  refine (perform_unload (w.heap.size) ca cb cc cd ce cf cg d c ad cap X1 rr X1.heap.size (fun _ => True) HFR.out (Nat.le_refl _) HZ.out HSL.out (fun _ _ _ _ _ => trivial) HRUN.out).mono ?_
  rintro e w2 ⟨ad', cap', rfl, hi, hkf, hb, -⟩
  have HI := Lib.hid hi
  have HKF := Lib.hid hkf
  have HSM := Lib.hid (Sm.refl X1.heap.size w2)
  have HX1 := Lib.hid HT.out.b.size
  replace HT := Lib.hid (HT.out.next hb)
  refine held_go hK' (HT.out.pre) ?_
  try simp only [Act.put, List.setIfInBounds_toArray, List.set_cons_zero, List.set_cons_succ]
  clear hb hS0 hi hkf HRUN HZ HSL HFR
  have hS0 := HT.out.pre
  obtain ⟨d1, y1, t1, e1⟩ := rr
  simp only at HR HI HKF
  refine held_take (i := 8) (v := ?_) rfl (by kernel_rfl) (by kernel_rfl) (by kernel_rfl) (fun _ _ _ h => h) (by rfl) ?_ (by assumption) ?_
  rotate_left
  · intro X hSX
    try dsimp only at hSX
    go_simp <;> with_reducible rfl
  simp only [Act.put, List.setIfInBounds_toArray, List.set_cons_zero, List.set_cons_succ]
  refine held_take (i := 9) (v := ?_) rfl (by kernel_rfl) (by kernel_rfl) (by kernel_rfl) (fun _ _ _ h => h) (by rfl) ?_ (by assumption) ?_
  rotate_left
  · intro X hSX
    try dsimp only at hSX
    go_simp <;> with_reducible rfl
  simp only [Act.put, List.setIfInBounds_toArray, List.set_cons_zero, List.set_cons_succ]
  refine held_take (i := 10) (v := ?_) rfl (by kernel_rfl) (by kernel_rfl) (by kernel_rfl) (fun _ _ _ h => h) (by rfl) ?_ (by assumption) ?_
  rotate_left
  · intro X hSX
    try dsimp only at hSX
    go_simp <;> with_reducible rfl
  simp only [Act.put, List.setIfInBounds_toArray, List.set_cons_zero, List.set_cons_succ]
  refine held_take (i := 11) (v := ?_) rfl (by kernel_rfl) (by kernel_rfl) (by kernel_rfl) (fun _ _ _ h => h) (by rfl) ?_ (by assumption) ?_
  rotate_left
  · intro X hSX
    try dsimp only at hSX
    go_simp <;> with_reducible rfl
  simp only [Act.put, List.setIfInBounds_toArray, List.set_cons_zero, List.set_cons_succ]
  refine held_call (i := 12) rfl (by kernel_rfl) (by rfl) (fun K' hK' => ?_)
  refine oper_store_dr (.tmp 6) (.tmp 18) rfl (w.heap.size + 3) rfl d1 rfl drZ (HT.out.at_ 3 _ rfl) ?_
  have HT2 := Lib.hid (HT.out.row 3 _ _ (drK d1) rfl)
  have HS2 := Lib.hid (HSM.out.row (g := w.heap.size + 3) (cs := drK d1) (.inl HLT.out.1))
  refine held_go hK' ((show Bx w _ ([(mdK m, 23), (drK d, 25), (crQ c ad cap, 30)] ++ _) from HT2.out).pre) ?_
  try simp only [Act.put, List.setIfInBounds_toArray, List.set_cons_zero, List.set_cons_succ]
  generalize World.setRow w2 _ _ = w3 at *
  clear hS0 HT HSM
  have hS0 := (show Bx w w3 ([(mdK m, 23), (drK d, 25), (crQ c ad cap, 30)] ++ _) from HT2.out).pre
  refine held_call (i := 13) rfl (by kernel_rfl) (by rfl) (fun K' hK' => ?_)
  refine oper_store_cq (.tmp 7) (.tmp 19) rfl (w.heap.size + 4) rfl y1 ad' cap' rfl crZ none 0 (HT2.out.at_ 4 _ rfl) ?_
  have HT3 := Lib.hid (HT2.out.row 4 _ _ (crQ y1 ad' cap') rfl)
  have HS3 := Lib.hid (HS2.out.row (g := w.heap.size + 4) (cs := crQ y1 ad' cap') (.inl HLT.out.2))
  refine held_go hK' ((show Bx w _ ([(mdK m, 23), (drK d, 25), (crQ c ad cap, 30)] ++ _) from HT3.out).pre) ?_
  try simp only [Act.put, List.setIfInBounds_toArray, List.set_cons_zero, List.set_cons_succ]
  generalize World.setRow w3 _ _ = w4 at *
  clear hS0 HT2 HS2
  have hS0 := (show Bx w w4 ([(mdK m, 23), (drK d, 25), (crQ c ad cap, 30)] ++ _) from HT3.out).pre
  refine held_take (i := 14) (v := ?_) rfl (by kernel_rfl) (by kernel_rfl) (by kernel_rfl) (fun _ _ _ h => h) (by rfl) ?_ (by assumption) ?_
  rotate_left
  · intro X hSX
    try dsimp only at hSX
    go_simp <;> with_reducible rfl
  simp only [Act.put, List.setIfInBounds_toArray, List.set_cons_zero, List.set_cons_succ]
  refine held_take (i := 15) (v := ?_) rfl (by kernel_rfl) (by kernel_rfl) (by kernel_rfl) (fun _ _ _ h => h) (by rfl) ?_ (by assumption) ?_
  rotate_left
  · intro X hSX
    try dsimp only at hSX
    go_simp <;> with_reducible rfl
  simp only [Act.put, List.setIfInBounds_toArray, List.set_cons_zero, List.set_cons_succ]
  refine wpAnyH_done (by kernel_rfl) ?_ _
  refine NoPanic.normal ?_
  clear hS0
  go_wp2_with fail
  refine post_cells2 rfl rfl (show w4.heap[w.heap.size + 3]? = some (.cells (drK d1) 25 (0, 0)) from HT3.out.at_ 3 _ rfl) Try.underlying25 rfl infoD rfl (show w4.heap[w.heap.size + 4]? = some (.cells (crQ y1 ad' cap') 30 (0, 0)) from HT3.out.at_ 4 _ rfl) Try.underlying30 rfl infoC rfl rfl rfl ?_
  rw [HR.out]
  exact outer_end HI.out HKF.out HX1.out HS3.out HT3.out.b
set_option maxHeartbeats 8000000 in
theorem seek_any (m : Mdl) (d : Drv) (c : Crt) (ad : Option Addr) (cap : Nat) (t : Int) (w : World) (hin : CrIn w c ad cap) :
    Calls Try.prog 21 #[mdV m, drV d, crV c ad cap, .int .i64 t] w fun e w' => RetDC w ad c.l (skU m d c t) e w' := by
  have HF := Lib.hid (show skU m d c t = if fstU m d c = 0 then (skR d c t) else (drZ, crZ, 0, fstU m d c) from (by unfold skU skR; rfl))
  have HPT := Lib.hid (fun h => fstU_parts (m := m) (d := d) (c := c) h)
  have HFC := Lib.hid (fun X h => firstchecks_any m d c ad cap X h)
  generalize skU m d c t = res at *
  generalize fstU m d c = fq at *
  have HIN := Lib.hid hin
  have HT := Lib.hid (show Bx w ((((((w.alloc (boxMx m)).alloc (boxDr d)).alloc (boxCx c ad cap)).alloc (.cells #[.int .i64 t] 3)).alloc (.cells #[.int .i64 0, .string ⟨#[]⟩, .int .i64 0, .int .i64 0, .int .i64 0, .int .i64 0] 25)).alloc (boxK ⟨#[]⟩ 0 0 0 0 0 0 false false none 0 0 0 0 0)) ([(mdK m, 23), (drK d, 25), (crQ c ad cap, 30)] ++ [(#[.int .i64 t], 3), (drK drZ, 25), (crQ crZ none 0, 30)]) from Bx.start w [(mdK m, 23), (drK d, 25), (crQ c ad cap, 30), (#[.int .i64 t], 3), (drK drZ, 25), (crQ crZ none 0, 30)])
  clear hin
  go_enter Try.func21, Try.ntmps21
  go_wp2_with fail
  generalize World.alloc _ _ = Y0 at *
  replace HT := Lib.hid (HT.out.next (Below.refl Y0.heap.size Y0).drew)
  refine wp_region_noPanic ?_
  refine wp_region_held_drew (S := (fun X => Bx w X [(mdK m, 23), (drK d, 25), (crQ c ad cap, 30)])) (by kernel_rfl) (HT.out.pre) (fun hS0 => ?_)
  generalize World.drew Y0 = X0 at *
  refine held_take (i := 0) (v := ?_) rfl (by kernel_rfl) (by kernel_rfl) (by kernel_rfl) (fun _ _ _ h => h) (by rfl) ?_ (by assumption) ?_
  rotate_left
  · intro X hSX
    try dsimp only at hSX
    obtain ⟨_, m0, m1, m2, m3, m4⟩ := hSX.m
    go_simp <;> with_reducible rfl
  simp only [Act.put, List.setIfInBounds_toArray, List.set_cons_zero, List.set_cons_succ]
  refine held_take (i := 1) (v := ?_) rfl (by kernel_rfl) (by kernel_rfl) (by kernel_rfl) (fun _ _ _ h => h) (by rfl) ?_ (by assumption) ?_
  rotate_left
  · intro X hSX
    try dsimp only at hSX
    obtain ⟨_, d0, d1, d2, d3, d4, d5⟩ := hSX.d
    go_simp <;> with_reducible rfl
  simp only [Act.put, List.setIfInBounds_toArray, List.set_cons_zero, List.set_cons_succ]
  refine held_take (i := 4) (v := ?_) rfl (by kernel_rfl) (by kernel_rfl) (by kernel_rfl) (fun _ _ _ h => h) (by rfl) ?_ (by assumption) ?_
  rotate_left
  · intro X hSX
    try dsimp only at hSX
    obtain ⟨_, d0, d1, d2, d3, d4, d5⟩ := hSX.d
    go_simp <;> with_reducible rfl
  simp only [Act.put, List.setIfInBounds_toArray, List.set_cons_zero, List.set_cons_succ]
  refine held_take (i := 2) (v := ?_) rfl (by kernel_rfl) (by kernel_rfl) (by kernel_rfl) (fun _ _ _ h => h) (by rfl) ?_ (by assumption) ?_
  rotate_left
  · intro X hSX
    try dsimp only at hSX
    obtain ⟨_, k0, k1, k2, k3, k4, k5, k6, k7, k8, k9, k10, k11, k12⟩ := hSX.c
    go_simp <;> with_reducible rfl
  simp only [Act.put, List.setIfInBounds_toArray, List.set_cons_zero, List.set_cons_succ]
  refine held_take (i := 5) (v := ?_) rfl (by kernel_rfl) (by kernel_rfl) (by kernel_rfl) (fun _ _ _ h => h) (by rfl) ?_ (by assumption) ?_
  rotate_left
  · intro X hSX
    try dsimp only at hSX
    obtain ⟨_, k0, k1, k2, k3, k4, k5, k6, k7, k8, k9, k10, k11, k12⟩ := hSX.c
    go_simp <;> with_reducible rfl
  simp only [Act.put, List.setIfInBounds_toArray, List.set_cons_zero, List.set_cons_succ]
  refine held_take (i := 6) (v := ?_) rfl (by kernel_rfl) (by kernel_rfl) (by kernel_rfl) (fun _ _ _ h => h) (by rfl) ?_ (by assumption) ?_
  rotate_left
  · intro X hSX
    try dsimp only at hSX
    go_simp <;> with_reducible rfl
  simp only [Act.put, List.setIfInBounds_toArray, List.set_cons_zero, List.set_cons_succ]
  refine held_call (i := 3) rfl (by kernel_rfl) (by rfl) (fun K' hK' => ?_)
  go_simp
  refine (HFC.out X0 (HIN.out.below HT.out.b)).mono ?_
  rintro e X1 ⟨ca, cb, cc, cd, ce, cf, cg, rfl, hfr, hb⟩
  replace HT := Lib.hid (HT.out.next hb)
  refine held_go hK' (HT.out.pre) ?_
  try simp only [Act.put, List.setIfInBounds_toArray, List.set_cons_zero, List.set_cons_succ]
  clear hb hS0 HFC
  have hS0 := HT.out.pre
  have HSZ := Lib.hid (show w.heap.size + 6 ≤ X1.heap.size from HT.out.size)
  have HLT := Lib.hid (show w.heap.size + 4 < X1.heap.size ∧ w.heap.size + 5 < X1.heap.size by have h1 := HSZ.out; omega)
  have HFR := Lib.hid hfr
  clear hfr
  by_cases hf0 : fq = 0
  rotate_left
  · have HR := Lib.hid (show res = (drZ, crZ, 0, fq) by rw [HF.out, if_neg hf0])
    refine held_call (i := 7) rfl (by kernel_rfl) (by rfl) (fun K' hK' => ?_)
    go_simp
    refine (perform_no ca cb cc cd ce cf cg d c ad cap _ fq X1 HFR.out hf0).mono ?_
    rintro e w2 ⟨rfl, hb⟩
    have HSM := Lib.hid (Sm.refl X1.heap.size w2)
    replace HT := Lib.hid (HT.out.next hb)
    refine held_go hK' (HT.out.pre) ?_
    try simp only [Act.put, List.setIfInBounds_toArray, List.set_cons_zero, List.set_cons_succ]
    clear hb hS0
    have hS0 := HT.out.pre
    refine held_take (i := 8) (v := ?_) rfl (by kernel_rfl) (by kernel_rfl) (by kernel_rfl) (fun _ _ _ h => h) (by rfl) ?_ (by assumption) ?_
    rotate_left
    · intro X hSX
      try dsimp only at hSX
      go_simp <;> with_reducible rfl
    simp only [Act.put, List.setIfInBounds_toArray, List.set_cons_zero, List.set_cons_succ]
    refine held_take (i := 9) (v := ?_) rfl (by kernel_rfl) (by kernel_rfl) (by kernel_rfl) (fun _ _ _ h => h) (by rfl) ?_ (by assumption) ?_
    rotate_left
    · intro X hSX
      try dsimp only at hSX
      go_simp <;> with_reducible rfl
    simp only [Act.put, List.setIfInBounds_toArray, List.set_cons_zero, List.set_cons_succ]
    refine held_take (i := 10) (v := ?_) rfl (by kernel_rfl) (by kernel_rfl) (by kernel_rfl) (fun _ _ _ h => h) (by rfl) ?_ (by assumption) ?_
    rotate_left
    · intro X hSX
      try dsimp only at hSX
      go_simp <;> with_reducible rfl
    simp only [Act.put, List.setIfInBounds_toArray, List.set_cons_zero, List.set_cons_succ]
    refine held_take (i := 11) (v := ?_) rfl (by kernel_rfl) (by kernel_rfl) (by kernel_rfl) (fun _ _ _ h => h) (by rfl) ?_ (by assumption) ?_
    rotate_left
    · intro X hSX
      try dsimp only at hSX
      go_simp <;> with_reducible rfl
    simp only [Act.put, List.setIfInBounds_toArray, List.set_cons_zero, List.set_cons_succ]
    refine held_call (i := 12) rfl (by kernel_rfl) (by rfl) (fun K' hK' => ?_)
    refine oper_store_dr (.tmp 8) (.tmp 20) rfl (w.heap.size + 4) rfl drZ rfl drZ (HT.out.at_ 4 _ rfl) ?_
    have HT2 := Lib.hid (HT.out.row 4 _ _ (drK drZ) rfl)
    have HS2 := Lib.hid (HSM.out.row (g := w.heap.size + 4) (cs := drK drZ) (.inl HLT.out.1))
    refine held_go hK' ((show Bx w _ ([(mdK m, 23), (drK d, 25), (crQ c ad cap, 30)] ++ _) from HT2.out).pre) ?_
    try simp only [Act.put, List.setIfInBounds_toArray, List.set_cons_zero, List.set_cons_succ]
    generalize World.setRow w2 _ _ = w3 at *
    clear hS0 HT HSM
    have hS0 := (show Bx w w3 ([(mdK m, 23), (drK d, 25), (crQ c ad cap, 30)] ++ _) from HT2.out).pre
    refine held_call (i := 13) rfl (by kernel_rfl) (by rfl) (fun K' hK' => ?_)
    refine oper_store_cq (.tmp 9) (.tmp 21) rfl (w.heap.size + 5) rfl crZ none 0 rfl crZ none 0 (HT2.out.at_ 5 _ rfl) ?_
    have HT3 := Lib.hid (HT2.out.row 5 _ _ (crQ crZ none 0) rfl)
    have HS3 := Lib.hid (HS2.out.row (g := w.heap.size + 5) (cs := crQ crZ none 0) (.inl HLT.out.2))
    refine held_go hK' ((show Bx w _ ([(mdK m, 23), (drK d, 25), (crQ c ad cap, 30)] ++ _) from HT3.out).pre) ?_
    try simp only [Act.put, List.setIfInBounds_toArray, List.set_cons_zero, List.set_cons_succ]
    generalize World.setRow w3 _ _ = w4 at *
    clear hS0 HT2 HS2
    have hS0 := (show Bx w w4 ([(mdK m, 23), (drK d, 25), (crQ c ad cap, 30)] ++ _) from HT3.out).pre
    refine held_take (i := 14) (v := ?_) rfl (by kernel_rfl) (by kernel_rfl) (by kernel_rfl) (fun _ _ _ h => h) (by rfl) ?_ (by assumption) ?_
    rotate_left
    · intro X hSX
      try dsimp only at hSX
      go_simp <;> with_reducible rfl
    simp only [Act.put, List.setIfInBounds_toArray, List.set_cons_zero, List.set_cons_succ]
    refine held_take (i := 15) (v := ?_) rfl (by kernel_rfl) (by kernel_rfl) (by kernel_rfl) (fun _ _ _ h => h) (by rfl) ?_ (by assumption) ?_
    rotate_left
    · intro X hSX
      try dsimp only at hSX
      go_simp <;> with_reducible rfl
    simp only [Act.put, List.setIfInBounds_toArray, List.set_cons_zero, List.set_cons_succ]
    refine wpAnyH_done (by kernel_rfl) ?_ _
    refine NoPanic.normal ?_
    clear hS0
    go_wp2_with fail
    refine post_cells2 rfl rfl (show w4.heap[w.heap.size + 4]? = some (.cells (drK drZ) 25 (0, 0)) from HT3.out.at_ 4 _ rfl) Try.underlying25 rfl infoD rfl (show w4.heap[w.heap.size + 5]? = some (.cells (crQ crZ none 0) 30 (0, 0)) from HT3.out.at_ 5 _ rfl) Try.underlying30 rfl infoC rfl rfl rfl ?_
    rw [HR.out]
    exact ret_dcZ HT3.out.b
  subst hf0
  have hp := HPT.out rfl
  have HR := Lib.hid (show res = (skR d c t) by rw [HF.out, if_pos rfl])
  clear HF HPT
  have HRUN := Lib.hid (fun X (hX : Bx X1 X (pfL ca cb cc cd ce cf cg d c ad cap)) => run_seek (w.heap.size + 3) t ca cb cc cd ce cf cg d c ad cap X1 (by have h1 := HSZ.out; omega) (row_cell (HT.out.at_ 3 _ rfl) 0) (HIN.out.below HT.out.b) hp.2.2.2.1 hp.2.2.2.2.1 hp.2.2.2.2.2.2.2.1 X hX)
  have HZ : Hid (((skR d c t)).2.2.2 ≠ 0 → (skR d c t) = (drZ, crZ, 0, ((skR d c t)).2.2.2)) := Lib.hid (skR_res)
  have HSL : Hid (((skR d c t)).2.2.2 = 0 → ((skR d c t)).2.1.l.length ≤ 4096 ∧ ∀ b ∈ ((skR d c t)).2.1.l, b.d.length ≤ 10000) := Lib.hid (skR_small hp.2.2.2.2.2.2.2.2.1 hp.2.2.2.2.2.2.2.2.2.1)
  clear hp
  generalize (skR d c t) = rr at *
  refine held_call (i := 7) rfl (by kernel_rfl) (by rfl) (fun K' hK' => ?_)
  go_simp
  refine (perform_seek (w.heap.size + 3) ca cb cc cd ce cf cg d c ad cap X1 rr X1.heap.size (fun _ => True) HFR.out (Nat.le_refl _) HZ.out HSL.out (fun _ _ _ _ _ => trivial) HRUN.out).mono ?_
  rintro e w2 ⟨ad', cap', rfl, hi, hkf, hb, -⟩
  have HI := Lib.hid hi
  have HKF := Lib.hid hkf
  have HSM := Lib.hid (Sm.refl X1.heap.size w2)
  have HX1 := Lib.hid HT.out.b.size
  replace HT := Lib.hid (HT.out.next hb)
  refine held_go hK' (HT.out.pre) ?_
  try simp only [Act.put, List.setIfInBounds_toArray, List.set_cons_zero, List.set_cons_succ]
  clear hb hS0 hi hkf HRUN HZ HSL HFR
  have hS0 := HT.out.pre
  obtain ⟨d1, y1, t1, e1⟩ := rr
  simp only at HR HI HKF
  refine held_take (i := 8) (v := ?_) rfl (by kernel_rfl) (by kernel_rfl) (by kernel_rfl) (fun _ _ _ h => h) (by rfl) ?_ (by assumption) ?_
  rotate_left
  · intro X hSX
    try dsimp only at hSX
    go_simp <;> with_reducible rfl
  simp only [Act.put, List.setIfInBounds_toArray, List.set_cons_zero, List.set_cons_succ]
  refine held_take (i := 9) (v := ?_) rfl (by kernel_rfl) (by kernel_rfl) (by kernel_rfl) (fun _ _ _ h => h) (by rfl) ?_ (by assumption) ?_
  rotate_left
  · intro X hSX
    try dsimp only at hSX
    go_simp <;> with_reducible rfl
  simp only [Act.put, List.setIfInBounds_toArray, List.set_cons_zero, List.set_cons_succ]
  refine held_take (i := 10) (v := ?_) rfl (by kernel_rfl) (by kernel_rfl) (by kernel_rfl) (fun _ _ _ h => h) (by rfl) ?_ (by assumption) ?_
  rotate_left
  · intro X hSX
    try dsimp only at hSX
    go_simp <;> with_reducible rfl
  simp only [Act.put, List.setIfInBounds_toArray, List.set_cons_zero, List.set_cons_succ]
  refine held_take (i := 11) (v := ?_) rfl (by kernel_rfl) (by kernel_rfl) (by kernel_rfl) (fun _ _ _ h => h) (by rfl) ?_ (by assumption) ?_
  rotate_left
  · intro X hSX
    try dsimp only at hSX
    go_simp <;> with_reducible rfl
  simp only [Act.put, List.setIfInBounds_toArray, List.set_cons_zero, List.set_cons_succ]
  refine held_call (i := 12) rfl (by kernel_rfl) (by rfl) (fun K' hK' => ?_)
  refine oper_store_dr (.tmp 8) (.tmp 20) rfl (w.heap.size + 4) rfl d1 rfl drZ (HT.out.at_ 4 _ rfl) ?_
  have HT2 := Lib.hid (HT.out.row 4 _ _ (drK d1) rfl)
  have HS2 := Lib.hid (HSM.out.row (g := w.heap.size + 4) (cs := drK d1) (.inl HLT.out.1))
  refine held_go hK' ((show Bx w _ ([(mdK m, 23), (drK d, 25), (crQ c ad cap, 30)] ++ _) from HT2.out).pre) ?_
  try simp only [Act.put, List.setIfInBounds_toArray, List.set_cons_zero, List.set_cons_succ]
  generalize World.setRow w2 _ _ = w3 at *
  clear hS0 HT HSM
  have hS0 := (show Bx w w3 ([(mdK m, 23), (drK d, 25), (crQ c ad cap, 30)] ++ _) from HT2.out).pre
  refine held_call (i := 13) rfl (by kernel_rfl) (by rfl) (fun K' hK' => ?_)
  refine oper_store_cq (.tmp 9) (.tmp 21) rfl (w.heap.size + 5) rfl y1 ad' cap' rfl crZ none 0 (HT2.out.at_ 5 _ rfl) ?_
  have HT3 := Lib.hid (HT2.out.row 5 _ _ (crQ y1 ad' cap') rfl)
  have HS3 := Lib.hid (HS2.out.row (g := w.heap.size + 5) (cs := crQ y1 ad' cap') (.inl HLT.out.2))
  refine held_go hK' ((show Bx w _ ([(mdK m, 23), (drK d, 25), (crQ c ad cap, 30)] ++ _) from HT3.out).pre) ?_
  try simp only [Act.put, List.setIfInBounds_toArray, List.set_cons_zero, List.set_cons_succ]
  generalize World.setRow w3 _ _ = w4 at *
  clear hS0 HT2 HS2
  have hS0 := (show Bx w w4 ([(mdK m, 23), (drK d, 25), (crQ c ad cap, 30)] ++ _) from HT3.out).pre
  refine held_take (i := 14) (v := ?_) rfl (by kernel_rfl) (by kernel_rfl) (by kernel_rfl) (fun _ _ _ h => h) (by rfl) ?_ (by assumption) ?_
  rotate_left
  · intro X hSX
    try dsimp only at hSX
    go_simp <;> with_reducible rfl
  simp only [Act.put, List.setIfInBounds_toArray, List.set_cons_zero, List.set_cons_succ]
  refine held_take (i := 15) (v := ?_) rfl (by kernel_rfl) (by kernel_rfl) (by kernel_rfl) (fun _ _ _ h => h) (by rfl) ?_ (by assumption) ?_
  rotate_left
  · intro X hSX
    try dsimp only at hSX
    go_simp <;> with_reducible rfl
  simp only [Act.put, List.setIfInBounds_toArray, List.set_cons_zero, List.set_cons_succ]
  refine wpAnyH_done (by kernel_rfl) ?_ _
  refine NoPanic.normal ?_
  clear hS0
  go_wp2_with fail
  refine post_cells2 rfl rfl (show w4.heap[w.heap.size + 4]? = some (.cells (drK d1) 25 (0, 0)) from HT3.out.at_ 4 _ rfl) Try.underlying25 rfl infoD rfl (show w4.heap[w.heap.size + 5]? = some (.cells (crQ y1 ad' cap') 30 (0, 0)) from HT3.out.at_ 5 _ rfl) Try.underlying30 rfl infoC rfl rfl rfl ?_
  rw [HR.out]
  exact outer_end HI.out HKF.out HX1.out HS3.out HT3.out.b
set_option maxHeartbeats 8000000 in
theorem dwrite_any (m : Mdl) (d : Drv) (c : Crt) (ad : Option Addr) (cap : Nat) (zd : Option Addr) (zn zc : Nat) (z : List Blk) (w : World) (hin : CrIn w c ad cap) (hz : Ki w zd z) (hzn : zn = z.length) (hzs : zn ≤ 100000) (hznil : zd = none → zc = 0) :
    Calls Try.prog 22 #[mdV m, drV d, crV c ad cap, .slice zd zn zc] w fun e w' => RetDC w ad c.l (wrU m d c z) e w' := by
  have HF := Lib.hid (show wrU m d c z = if fstU m d c = 0 then wrR m d c z else (drZ, crZ, 0, fstU m d c) from (by unfold wrU wrR; rfl))
  have HPT := Lib.hid (fun h => fstU_parts (m := m) (d := d) (c := c) h)
  have HFC := Lib.hid (fun X h => firstchecks_any m d c ad cap X h)
  generalize wrU m d c z = res at *
  generalize fstU m d c = fq at *
  have HIN := Lib.hid hin
  have HKI := Lib.hid hz
  have HZN := Lib.hid hzn
  have HZL := Lib.hid hznil
  clear hz hzn hznil
  have HT := Lib.hid (show Bx w ((((((w.alloc (boxMx m)).alloc (boxDr d)).alloc (boxCx c ad cap)).alloc (.cells #[.slice zd zn zc] 28)).alloc (.cells #[.int .i64 0, .string ⟨#[]⟩, .int .i64 0, .int .i64 0, .int .i64 0, .int .i64 0] 25)).alloc (boxK ⟨#[]⟩ 0 0 0 0 0 0 false false none 0 0 0 0 0)) ([(mdK m, 23), (drK d, 25), (crQ c ad cap, 30)] ++ [(#[.slice zd zn zc], 28), (drK drZ, 25), (crQ crZ none 0, 30)]) from Bx.start w [(mdK m, 23), (drK d, 25), (crQ c ad cap, 30), (#[.slice zd zn zc], 28), (drK drZ, 25), (crQ crZ none 0, 30)])
  clear hin
  go_enter Try.func22, Try.ntmps22
  go_wp2_with fail
  generalize World.alloc _ _ = Y0 at *
  replace HT := Lib.hid (HT.out.next (Below.refl Y0.heap.size Y0).drew)
  refine wp_region_noPanic ?_
  refine wp_region_held_drew (S := (fun X => Bx w X [(mdK m, 23), (drK d, 25), (crQ c ad cap, 30)])) (by kernel_rfl) (HT.out.pre) (fun hS0 => ?_)
  generalize World.drew Y0 = X0 at *
  refine held_take (i := 0) (v := ?_) rfl (by kernel_rfl) (by kernel_rfl) (by kernel_rfl) (fun _ _ _ h => h) (by rfl) ?_ (by assumption) ?_
  rotate_left
  · intro X hSX
    try dsimp only at hSX
    obtain ⟨_, m0, m1, m2, m3, m4⟩ := hSX.m
    go_simp <;> with_reducible rfl
  simp only [Act.put, List.setIfInBounds_toArray, List.set_cons_zero, List.set_cons_succ]
  refine held_take (i := 1) (v := ?_) rfl (by kernel_rfl) (by kernel_rfl) (by kernel_rfl) (fun _ _ _ h => h) (by rfl) ?_ (by assumption) ?_
  rotate_left
  · intro X hSX
    try dsimp only at hSX
    obtain ⟨_, d0, d1, d2, d3, d4, d5⟩ := hSX.d
    go_simp <;> with_reducible rfl
  simp only [Act.put, List.setIfInBounds_toArray, List.set_cons_zero, List.set_cons_succ]
  refine held_take (i := 4) (v := ?_) rfl (by kernel_rfl) (by kernel_rfl) (by kernel_rfl) (fun _ _ _ h => h) (by rfl) ?_ (by assumption) ?_
  rotate_left
  · intro X hSX
    try dsimp only at hSX
    obtain ⟨_, d0, d1, d2, d3, d4, d5⟩ := hSX.d
    go_simp <;> with_reducible rfl
  simp only [Act.put, List.setIfInBounds_toArray, List.set_cons_zero, List.set_cons_succ]
  refine held_take (i := 2) (v := ?_) rfl (by kernel_rfl) (by kernel_rfl) (by kernel_rfl) (fun _ _ _ h => h) (by rfl) ?_ (by assumption) ?_
  rotate_left
  · intro X hSX
    try dsimp only at hSX
    obtain ⟨_, k0, k1, k2, k3, k4, k5, k6, k7, k8, k9, k10, k11, k12⟩ := hSX.c
    go_simp <;> with_reducible rfl
  simp only [Act.put, List.setIfInBounds_toArray, List.set_cons_zero, List.set_cons_succ]
  refine held_take (i := 5) (v := ?_) rfl (by kernel_rfl) (by kernel_rfl) (by kernel_rfl) (fun _ _ _ h => h) (by rfl) ?_ (by assumption) ?_
  rotate_left
  · intro X hSX
    try dsimp only at hSX
    obtain ⟨_, k0, k1, k2, k3, k4, k5, k6, k7, k8, k9, k10, k11, k12⟩ := hSX.c
    go_simp <;> with_reducible rfl
  simp only [Act.put, List.setIfInBounds_toArray, List.set_cons_zero, List.set_cons_succ]
  refine held_take (i := 6) (v := ?_) rfl (by kernel_rfl) (by kernel_rfl) (by kernel_rfl) (fun _ _ _ h => h) (by rfl) ?_ (by assumption) ?_
  rotate_left
  · intro X hSX
    try dsimp only at hSX
    go_simp <;> with_reducible rfl
  simp only [Act.put, List.setIfInBounds_toArray, List.set_cons_zero, List.set_cons_succ]
  refine held_call (i := 3) rfl (by kernel_rfl) (by rfl) (fun K' hK' => ?_)
  go_simp
  refine (HFC.out X0 (HIN.out.below HT.out.b)).mono ?_
  rintro e X1 ⟨ca, cb, cc, cd, ce, cf, cg, rfl, hfr, hb⟩
  replace HT := Lib.hid (HT.out.next hb)
  refine held_go hK' (HT.out.pre) ?_
  try simp only [Act.put, List.setIfInBounds_toArray, List.set_cons_zero, List.set_cons_succ]
  clear hb hS0 HFC
  have hS0 := HT.out.pre
  have HSZ := Lib.hid (show w.heap.size + 6 ≤ X1.heap.size from HT.out.size)
  have HLT := Lib.hid (show w.heap.size + 4 < X1.heap.size ∧ w.heap.size + 5 < X1.heap.size by have h1 := HSZ.out; omega)
  have HFR := Lib.hid hfr
  clear hfr
  by_cases hf0 : fq = 0
  rotate_left
  · have HR := Lib.hid (show res = (drZ, crZ, 0, fq) by rw [HF.out, if_neg hf0])
    refine held_call (i := 7) rfl (by kernel_rfl) (by rfl) (fun K' hK' => ?_)
    go_simp
    refine (perform_no ca cb cc cd ce cf cg d c ad cap _ fq X1 HFR.out hf0).mono ?_
    rintro e w2 ⟨rfl, hb⟩
    have HSM := Lib.hid (Sm.refl X1.heap.size w2)
    replace HT := Lib.hid (HT.out.next hb)
    refine held_go hK' (HT.out.pre) ?_
    try simp only [Act.put, List.setIfInBounds_toArray, List.set_cons_zero, List.set_cons_succ]
    clear hb hS0
    have hS0 := HT.out.pre
    refine held_take (i := 8) (v := ?_) rfl (by kernel_rfl) (by kernel_rfl) (by kernel_rfl) (fun _ _ _ h => h) (by rfl) ?_ (by assumption) ?_
    rotate_left
    · intro X hSX
      try dsimp only at hSX
      go_simp <;> with_reducible rfl
    simp only [Act.put, List.setIfInBounds_toArray, List.set_cons_zero, List.set_cons_succ]
    refine held_take (i := 9) (v := ?_) rfl (by kernel_rfl) (by kernel_rfl) (by kernel_rfl) (fun _ _ _ h => h) (by rfl) ?_ (by assumption) ?_
    rotate_left
    · intro X hSX
      try dsimp only at hSX
      go_simp <;> with_reducible rfl
    simp only [Act.put, List.setIfInBounds_toArray, List.set_cons_zero, List.set_cons_succ]
    refine held_take (i := 10) (v := ?_) rfl (by kernel_rfl) (by kernel_rfl) (by kernel_rfl) (fun _ _ _ h => h) (by rfl) ?_ (by assumption) ?_
    rotate_left
    · intro X hSX
      try dsimp only at hSX
      go_simp <;> with_reducible rfl
    simp only [Act.put, List.setIfInBounds_toArray, List.set_cons_zero, List.set_cons_succ]
    refine held_take (i := 11) (v := ?_) rfl (by kernel_rfl) (by kernel_rfl) (by kernel_rfl) (fun _ _ _ h => h) (by rfl) ?_ (by assumption) ?_
    rotate_left
    · intro X hSX
      try dsimp only at hSX
      go_simp <;> with_reducible rfl
    simp only [Act.put, List.setIfInBounds_toArray, List.set_cons_zero, List.set_cons_succ]
    refine held_call (i := 12) rfl (by kernel_rfl) (by rfl) (fun K' hK' => ?_)
    refine oper_store_dr (.tmp 8) (.tmp 20) rfl (w.heap.size + 4) rfl drZ rfl drZ (HT.out.at_ 4 _ rfl) ?_
    have HT2 := Lib.hid (HT.out.row 4 _ _ (drK drZ) rfl)
    have HS2 := Lib.hid (HSM.out.row (g := w.heap.size + 4) (cs := drK drZ) (.inl HLT.out.1))
    refine held_go hK' ((show Bx w _ ([(mdK m, 23), (drK d, 25), (crQ c ad cap, 30)] ++ _) from HT2.out).pre) ?_
    try simp only [Act.put, List.setIfInBounds_toArray, List.set_cons_zero, List.set_cons_succ]
    generalize World.setRow w2 _ _ = w3 at *
    clear hS0 HT HSM
    have hS0 := (show Bx w w3 ([(mdK m, 23), (drK d, 25), (crQ c ad cap, 30)] ++ _) from HT2.out).pre
    refine held_call (i := 13) rfl (by kernel_rfl) (by rfl) (fun K' hK' => ?_)
    refine oper_store_cq (.tmp 9) (.tmp 21) rfl (w.heap.size + 5) rfl crZ none 0 rfl crZ none 0 (HT2.out.at_ 5 _ rfl) ?_
    have HT3 := Lib.hid (HT2.out.row 5 _ _ (crQ crZ none 0) rfl)
    have HS3 := Lib.hid (HS2.out.row (g := w.heap.size + 5) (cs := crQ crZ none 0) (.inl HLT.out.2))
    refine held_go hK' ((show Bx w _ ([(mdK m, 23), (drK d, 25), (crQ c ad cap, 30)] ++ _) from HT3.out).pre) ?_
    try simp only [Act.put, List.setIfInBounds_toArray, List.set_cons_zero, List.set_cons_succ]
    generalize World.setRow w3 _ _ = w4 at *
    clear hS0 HT2 HS2
    have hS0 := (show Bx w w4 ([(mdK m, 23), (drK d, 25), (crQ c ad cap, 30)] ++ _) from HT3.out).pre
    refine held_take (i := 14) (v := ?_) rfl (by kernel_rfl) (by kernel_rfl) (by kernel_rfl) (fun _ _ _ h => h) (by rfl) ?_ (by assumption) ?_
    rotate_left
    · intro X hSX
      try dsimp only at hSX
      go_simp <;> with_reducible rfl
    simp only [Act.put, List.setIfInBounds_toArray, List.set_cons_zero, List.set_cons_succ]
    refine held_take (i := 15) (v := ?_) rfl (by kernel_rfl) (by kernel_rfl) (by kernel_rfl) (fun _ _ _ h => h) (by rfl) ?_ (by assumption) ?_
    rotate_left
    · intro X hSX
      try dsimp only at hSX
      go_simp <;> with_reducible rfl
    simp only [Act.put, List.setIfInBounds_toArray, List.set_cons_zero, List.set_cons_succ]
    refine wpAnyH_done (by kernel_rfl) ?_ _
    refine NoPanic.normal ?_
    clear hS0
    go_wp2_with fail
    refine post_cells2 rfl rfl (show w4.heap[w.heap.size + 4]? = some (.cells (drK drZ) 25 (0, 0)) from HT3.out.at_ 4 _ rfl) Try.underlying25 rfl infoD rfl (show w4.heap[w.heap.size + 5]? = some (.cells (crQ crZ none 0) 30 (0, 0)) from HT3.out.at_ 5 _ rfl) Try.underlying30 rfl infoC rfl rfl rfl ?_
    rw [HR.out]
    exact ret_dcZ HT3.out.b
  subst hf0
  have hp := HPT.out rfl
  have HR := Lib.hid (show res = (wrR m d c z) by rw [HF.out, if_pos rfl])
  clear HF HPT
  have HRUN := Lib.hid (fun X (hX : Bx X1 X (pfL ca cb cc cd ce cf cg d c ad cap)) => run_write w.heap.size (w.heap.size + 3) m zd zn zc z ca cb cc cd ce cf cg d c ad cap X1 (by have h1 := HSZ.out; omega) (HT.out.at_ 0 _ rfl) (by have h1 := HSZ.out; omega) (row_cell (HT.out.at_ 3 _ rfl) 0) (HIN.out.below HT.out.b) (HKI.out.below HT.out.b) HZN.out hzs HZL.out hp.2.2.2.2.2.1 hp.2.2.2.1 hp.2.2.2.2.1 hp.2.2.2.2.2.2.2.1 X hX)
  have HZ : Hid (((wrR m d c z)).2.2.2 ≠ 0 → (wrR m d c z) = (drZ, crZ, 0, ((wrR m d c z)).2.2.2)) := Lib.hid (wrR_res)
  have HSL : Hid (((wrR m d c z)).2.2.2 = 0 → ((wrR m d c z)).2.1.l.length ≤ 4096 ∧ ∀ b ∈ ((wrR m d c z)).2.1.l, b.d.length ≤ 10000) := Lib.hid (wrR_small hp.2.1)
  clear hp
  generalize (wrR m d c z) = rr at *
  refine held_call (i := 7) rfl (by kernel_rfl) (by rfl) (fun K' hK' => ?_)
  go_simp
  refine (perform_write w.heap.size (w.heap.size + 3) ca cb cc cd ce cf cg d c ad cap X1 rr X1.heap.size (fun _ => True) HFR.out (Nat.le_refl _) HZ.out HSL.out (fun _ _ _ _ _ => trivial) HRUN.out).mono ?_
  rintro e w2 ⟨ad', cap', rfl, hi, hkf, hb, -⟩
  have HI := Lib.hid hi
  have HKF := Lib.hid hkf
  have HSM := Lib.hid (Sm.refl X1.heap.size w2)
  have HX1 := Lib.hid HT.out.b.size
  replace HT := Lib.hid (HT.out.next hb)
  refine held_go hK' (HT.out.pre) ?_
  try simp only [Act.put, List.setIfInBounds_toArray, List.set_cons_zero, List.set_cons_succ]
  clear hb hS0 hi hkf HRUN HZ HSL HFR
  have hS0 := HT.out.pre
  obtain ⟨d1, y1, t1, e1⟩ := rr
  simp only at HR HI HKF
  refine held_take (i := 8) (v := ?_) rfl (by kernel_rfl) (by kernel_rfl) (by kernel_rfl) (fun _ _ _ h => h) (by rfl) ?_ (by assumption) ?_
  rotate_left
  · intro X hSX
    try dsimp only at hSX
    go_simp <;> with_reducible rfl
  simp only [Act.put, List.setIfInBounds_toArray, List.set_cons_zero, List.set_cons_succ]
  refine held_take (i := 9) (v := ?_) rfl (by kernel_rfl) (by kernel_rfl) (by kernel_rfl) (fun _ _ _ h => h) (by rfl) ?_ (by assumption) ?_
  rotate_left
  · intro X hSX
    try dsimp only at hSX
    go_simp <;> with_reducible rfl
  simp only [Act.put, List.setIfInBounds_toArray, List.set_cons_zero, List.set_cons_succ]
  refine held_take (i := 10) (v := ?_) rfl (by kernel_rfl) (by kernel_rfl) (by kernel_rfl) (fun _ _ _ h => h) (by rfl) ?_ (by assumption) ?_
  rotate_left
  · intro X hSX
    try dsimp only at hSX
    go_simp <;> with_reducible rfl
  simp only [Act.put, List.setIfInBounds_toArray, List.set_cons_zero, List.set_cons_succ]
  refine held_take (i := 11) (v := ?_) rfl (by kernel_rfl) (by kernel_rfl) (by kernel_rfl) (fun _ _ _ h => h) (by rfl) ?_ (by assumption) ?_
  rotate_left
  · intro X hSX
    try dsimp only at hSX
    go_simp <;> with_reducible rfl
  simp only [Act.put, List.setIfInBounds_toArray, List.set_cons_zero, List.set_cons_succ]
  refine held_call (i := 12) rfl (by kernel_rfl) (by rfl) (fun K' hK' => ?_)
  refine oper_store_dr (.tmp 8) (.tmp 20) rfl (w.heap.size + 4) rfl d1 rfl drZ (HT.out.at_ 4 _ rfl) ?_
  have HT2 := Lib.hid (HT.out.row 4 _ _ (drK d1) rfl)
  have HS2 := Lib.hid (HSM.out.row (g := w.heap.size + 4) (cs := drK d1) (.inl HLT.out.1))
  refine held_go hK' ((show Bx w _ ([(mdK m, 23), (drK d, 25), (crQ c ad cap, 30)] ++ _) from HT2.out).pre) ?_
  try simp only [Act.put, List.setIfInBounds_toArray, List.set_cons_zero, List.set_cons_succ]
  generalize World.setRow w2 _ _ = w3 at *
  clear hS0 HT HSM
  have hS0 := (show Bx w w3 ([(mdK m, 23), (drK d, 25), (crQ c ad cap, 30)] ++ _) from HT2.out).pre
  refine held_call (i := 13) rfl (by kernel_rfl) (by rfl) (fun K' hK' => ?_)
  refine oper_store_cq (.tmp 9) (.tmp 21) rfl (w.heap.size + 5) rfl y1 ad' cap' rfl crZ none 0 (HT2.out.at_ 5 _ rfl) ?_
  have HT3 := Lib.hid (HT2.out.row 5 _ _ (crQ y1 ad' cap') rfl)
  have HS3 := Lib.hid (HS2.out.row (g := w.heap.size + 5) (cs := crQ y1 ad' cap') (.inl HLT.out.2))
  refine held_go hK' ((show Bx w _ ([(mdK m, 23), (drK d, 25), (crQ c ad cap, 30)] ++ _) from HT3.out).pre) ?_
  try simp only [Act.put, List.setIfInBounds_toArray, List.set_cons_zero, List.set_cons_succ]
  generalize World.setRow w3 _ _ = w4 at *
  clear hS0 HT2 HS2
  have hS0 := (show Bx w w4 ([(mdK m, 23), (drK d, 25), (crQ c ad cap, 30)] ++ _) from HT3.out).pre
  refine held_take (i := 14) (v := ?_) rfl (by kernel_rfl) (by kernel_rfl) (by kernel_rfl) (fun _ _ _ h => h) (by rfl) ?_ (by assumption) ?_
  rotate_left
  · intro X hSX
    try dsimp only at hSX
    go_simp <;> with_reducible rfl
  simp only [Act.put, List.setIfInBounds_toArray, List.set_cons_zero, List.set_cons_succ]
  refine held_take (i := 15) (v := ?_) rfl (by kernel_rfl) (by kernel_rfl) (by kernel_rfl) (fun _ _ _ h => h) (by rfl) ?_ (by assumption) ?_
  rotate_left
  · intro X hSX
    try dsimp only at hSX
    go_simp <;> with_reducible rfl
  simp only [Act.put, List.setIfInBounds_toArray, List.set_cons_zero, List.set_cons_succ]
  refine wpAnyH_done (by kernel_rfl) ?_ _
  refine NoPanic.normal ?_
  clear hS0
  go_wp2_with fail
  refine post_cells2 rfl rfl (show w4.heap[w.heap.size + 4]? = some (.cells (drK d1) 25 (0, 0)) from HT3.out.at_ 4 _ rfl) Try.underlying25 rfl infoD rfl (show w4.heap[w.heap.size + 5]? = some (.cells (crQ y1 ad' cap') 30 (0, 0)) from HT3.out.at_ 5 _ rfl) Try.underlying30 rfl infoC rfl rfl rfl ?_
  rw [HR.out]
  exact outer_end HI.out HKF.out HX1.out HS3.out HT3.out.b
end Go.Proofs.Ytepmmlnopdjjdaa
