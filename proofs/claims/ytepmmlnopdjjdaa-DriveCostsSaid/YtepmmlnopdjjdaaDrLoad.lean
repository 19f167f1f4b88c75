/-
  Load of the specification.
-/
import Derived.Test.YtepmmlnopdjjdaaDrMem
namespace Go.Proofs.Ytepmmlnopdjjdaa
open Go.RowKit
set_option linter.unusedVariables false
set_option linter.unusedSimpArgs false
noncomputable def ldU (m : Mdl) (d : Drv) (c : Crt) : Drv × Crt × Int × Int :=
  if (mdlU m && (drvU d && vldC c)) = true then (if d.st = 2 then (drZ, crZ, 0, 16) else (if d.st = 1 then (drZ, crZ, 0, 14) else (if due m d = true then (drZ, crZ, 0, 13) else (⟨1, c.bc, 0, inc d.lo 1, d.pa, d.si⟩, {c with lo := inc c.lo 1}, m.ld, 0)))) else (drZ, crZ, 0, 8)
theorem ret_dcZ {w w' : World} {ad0 : Option Addr} {l0 : List Blk} {x : Int} (h : Below w.heap.size w w') : RetDC w ad0 l0 (drZ, crZ, 0, x) (.returned (.tuple #[.agg (drK drZ), .agg (crQ crZ none 0), .int .i64 0, .int .i64 x])) w' :=
  ⟨none, 0, rfl, ⟨Ki.nil _ _, Nat.le_refl _, Nat.zero_le _, fun _ => rfl, Nat.zero_le _⟩, KpS.nil, h⟩
theorem drvU_cnt {d : Drv} (h : drvU d = true) : (0 ≤ d.lo ∧ d.lo ≤ 1125899906842624) ∧ (0 ≤ d.pa ∧ d.pa ≤ 1125899906842624) ∧ (0 ≤ d.si ∧ d.si ≤ 1125899906842624) ∧ (0 ≤ d.hd ∧ d.hd ≤ 4096) := by
  unfold drvU at h
  simp only [Bool.and_eq_true, decide_eq_true_eq] at h
  obtain ⟨_, h2, h3, h4, h5, _⟩ := h
  exact ⟨cnt_iff.1 h2, cnt_iff.1 h3, cnt_iff.1 h4, h5⟩
theorem vldC_cnt {c : Crt} (h : vldC c = true) : (0 ≤ c.lo ∧ c.lo ≤ 1125899906842624) ∧ (0 ≤ c.pa ∧ c.pa ≤ 1125899906842624) := by
  unfold vldC at h
  simp only [Bool.and_eq_true, decide_eq_true_eq] at h
  obtain ⟨_, h2, h3, h4, h5, h6, h7⟩ := h
  exact ⟨cnt_iff.1 h6, cnt_iff.1 h7⟩
attribute [local irreducible] tim vld bar cnt okB capU allB vldC mdlU drvU due inc
set_option maxRecDepth 100000 in
set_option maxHeartbeats 4000000 in
theorem rload_any (m : Mdl) (d : Drv) (c : Crt) (ad : Option Addr) (cap : Nat) (w : World) (hin : CrIn w c ad cap) :
    Calls Try.prog 27 #[mdV m, drV d, crV c ad cap] w fun e w' => RetDC w ad c.l (ldU m d c) e w' := by
  have HF := Lib.hid (show ldU m d c = if (mdlU m && (drvU d && vldC c)) = true then (if d.st = 2 then (drZ, crZ, 0, 16) else (if d.st = 1 then (drZ, crZ, 0, 14) else (if due m d = true then (drZ, crZ, 0, 13) else (⟨1, c.bc, 0, inc d.lo 1, d.pa, d.si⟩, {c with lo := inc c.lo 1}, m.ld, 0)))) else (drZ, crZ, 0, 8) from rfl)
  generalize ldU m d c = res at *
  obtain ⟨W1, hb1, hm1, hs1, hf1⟩ := Fo.five w m d c ad cap
  have HB1 := Lib.hid hb1
  have HM1 := Lib.hid hm1
  have HS1 := Lib.hid hs1
  have HT := Lib.hid hf1
  have HIN := Lib.hid hin
  have hcap : (c.l.length : Int) ≤ 9223372036854775807 := by have := hin.le; have := hin.mx; unfold maxLen at this; omega
  clear hin hb1 hm1 hs1 hf1
  go_enter Try.func27, Try.ntmps27
  obtain ⟨_, m0, m1, m2, m3, m4⟩ := HM1.out.on HT.out.b
  go_wp2_with fail
  generalize World.alloc _ _ = X0 at *
  refine (rmodel_any m X0).mono ?_
  rintro e w1 ⟨rfl, hb⟩
  replace HT := Lib.hid (HT.out.next hb)
  clear hb
  cases hm : mdlU m
  · have HR := Lib.hid (show res = (drZ, crZ, 0, 8) by rw [HF.out, hm]; rfl)
    clear hm
    go_wp2_with (first
      | (with_reducible refine wpList_store_dr rfl (.tmp 6) (.tmp 39) rfl (w.heap.size + 1 + 2) rfl _ _ _ _ _ _ rfl drZ HT.out.x ?_)
      | (with_reducible refine wpList_store_cr rfl (.tmp 7) (.tmp 40) rfl (w.heap.size + 1 + 3) rfl _ _ _ _ _ _ _ _ _ _ _ _ _ _ _ rfl _ _ _ _ _ _ _ _ _ _ _ _ _ _ _ (HT.out.rowx drZ).y ?_))
    refine post_cells2 rfl rfl ((HT.out.rowx drZ).rowy crZ none 0).x Try.underlying25 rfl infoD rfl ((HT.out.rowx drZ).rowy crZ none 0).y Try.underlying30 rfl infoC rfl rfl rfl ?_
    rw [HR.out]
    exact ret_dcZ (HB1.out.trans (((HT.out.rowx drZ).rowy crZ none 0).b.mono HB1.out.size))
  have HM := Lib.hid hm
  clear hm
  obtain ⟨_, d0, d1, d2, d3, d4, d5⟩ := HT.out.dat
  go_wp2_with fail
  refine (rdrive_any d w1).mono ?_
  rintro e w2 ⟨rfl, hb⟩
  replace HT := Lib.hid (HT.out.next hb)
  clear hb d0 d1 d2 d3 d4 d5
  cases hd : drvU d
  · have HR := Lib.hid (show res = (drZ, crZ, 0, 8) by rw [HF.out, HM.out, hd]; rfl)
    clear hd
    go_wp2_with (first
      | (with_reducible refine wpList_store_dr rfl (.tmp 6) (.tmp 39) rfl (w.heap.size + 1 + 2) rfl _ _ _ _ _ _ rfl drZ HT.out.x ?_)
      | (with_reducible refine wpList_store_cr rfl (.tmp 7) (.tmp 40) rfl (w.heap.size + 1 + 3) rfl _ _ _ _ _ _ _ _ _ _ _ _ _ _ _ rfl _ _ _ _ _ _ _ _ _ _ _ _ _ _ _ (HT.out.rowx drZ).y ?_))
    refine post_cells2 rfl rfl ((HT.out.rowx drZ).rowy crZ none 0).x Try.underlying25 rfl infoD rfl ((HT.out.rowx drZ).rowy crZ none 0).y Try.underlying30 rfl infoC rfl rfl rfl ?_
    rw [HR.out]
    exact ret_dcZ (HB1.out.trans (((HT.out.rowx drZ).rowy crZ none 0).b.mono HB1.out.size))
  have HD := Lib.hid hd
  clear hd
  obtain ⟨_, k0, k1, k2, k3, k4, k5, k6, k7, k8, k9, k10, k11, k12⟩ := HT.out.cat
  go_wp2_with fail
  refine (rvalc_any c ad cap w2 (HIN.out.below (HB1.out.trans (HT.out.b.mono HB1.out.size)))).mono ?_
  rintro e w3 ⟨rfl, hb⟩
  replace HT := Lib.hid (HT.out.next hb)
  clear hb k0 k1 k2 k3 k4 k5 k6 k7 k8 k9 k10 k11 k12
  cases hc : vldC c
  · have HR := Lib.hid (show res = (drZ, crZ, 0, 8) by rw [HF.out, HM.out, HD.out, hc]; rfl)
    clear hc
    go_wp2_with (first
      | (with_reducible refine wpList_store_dr rfl (.tmp 6) (.tmp 39) rfl (w.heap.size + 1 + 2) rfl _ _ _ _ _ _ rfl drZ HT.out.x ?_)
      | (with_reducible refine wpList_store_cr rfl (.tmp 7) (.tmp 40) rfl (w.heap.size + 1 + 3) rfl _ _ _ _ _ _ _ _ _ _ _ _ _ _ _ rfl _ _ _ _ _ _ _ _ _ _ _ _ _ _ _ (HT.out.rowx drZ).y ?_))
    refine post_cells2 rfl rfl ((HT.out.rowx drZ).rowy crZ none 0).x Try.underlying25 rfl infoD rfl ((HT.out.rowx drZ).rowy crZ none 0).y Try.underlying30 rfl infoC rfl rfl rfl ?_
    rw [HR.out]
    exact ret_dcZ (HB1.out.trans (((HT.out.rowx drZ).rowy crZ none 0).b.mono HB1.out.size))
  replace HF := Lib.hid (show res = (if d.st = 2 then (drZ, crZ, 0, 16) else (if d.st = 1 then (drZ, crZ, 0, 14) else (if due m d = true then (drZ, crZ, 0, 13) else (⟨1, c.bc, 0, inc d.lo 1, d.pa, d.si⟩, {c with lo := inc c.lo 1}, m.ld, 0)))) by rw [HF.out, HM.out, HD.out, hc]; rfl)
  have HC := Lib.hid hc
  clear hc
  obtain ⟨_, d0, d1, d2, d3, d4, d5⟩ := HT.out.dat
  by_cases h2 : d.st = 2
  · have HR := Lib.hid (show res = (drZ, crZ, 0, 16) by rw [HF.out, if_pos h2])
    go_wp2_with (first
      | (with_reducible refine wpList_store_dr rfl (.tmp 6) (.tmp 39) rfl (w.heap.size + 1 + 2) rfl _ _ _ _ _ _ rfl drZ HT.out.x ?_)
      | (with_reducible refine wpList_store_cr rfl (.tmp 7) (.tmp 40) rfl (w.heap.size + 1 + 3) rfl _ _ _ _ _ _ _ _ _ _ _ _ _ _ _ rfl _ _ _ _ _ _ _ _ _ _ _ _ _ _ _ (HT.out.rowx drZ).y ?_))
    refine post_cells2 rfl rfl ((HT.out.rowx drZ).rowy crZ none 0).x Try.underlying25 rfl infoD rfl ((HT.out.rowx drZ).rowy crZ none 0).y Try.underlying30 rfl infoC rfl rfl rfl ?_
    rw [HR.out]
    exact ret_dcZ (HB1.out.trans (((HT.out.rowx drZ).rowy crZ none 0).b.mono HB1.out.size))
  by_cases h1 : d.st = 1
  · have HR := Lib.hid (show res = (drZ, crZ, 0, 14) by rw [HF.out, if_neg h2, if_pos h1])
    go_wp2_with (first
      | (with_reducible refine wpList_store_dr rfl (.tmp 6) (.tmp 39) rfl (w.heap.size + 1 + 2) rfl _ _ _ _ _ _ rfl drZ HT.out.x ?_)
      | (with_reducible refine wpList_store_cr rfl (.tmp 7) (.tmp 40) rfl (w.heap.size + 1 + 3) rfl _ _ _ _ _ _ _ _ _ _ _ _ _ _ _ rfl _ _ _ _ _ _ _ _ _ _ _ _ _ _ _ (HT.out.rowx drZ).y ?_))
    refine post_cells2 rfl rfl ((HT.out.rowx drZ).rowy crZ none 0).x Try.underlying25 rfl infoD rfl ((HT.out.rowx drZ).rowy crZ none 0).y Try.underlying30 rfl infoC rfl rfl rfl ?_
    rw [HR.out]
    exact ret_dcZ (HB1.out.trans (((HT.out.rowx drZ).rowy crZ none 0).b.mono HB1.out.size))
  replace HF := Lib.hid (show res = if due m d = true then (drZ, crZ, 0, 13) else (⟨1, c.bc, 0, inc d.lo 1, d.pa, d.si⟩, {c with lo := inc c.lo 1}, m.ld, 0) by rw [HF.out, if_neg h2, if_neg h1])
  clear m0 m1 m2 m3 m4
  obtain ⟨_, m0, m1, m2, m3, m4⟩ := HM1.out.on HT.out.b
  go_wp2_with fail
  refine (rdue_any m d w3).mono ?_
  rintro e w4 ⟨rfl, hb⟩
  replace HT := Lib.hid (HT.out.next hb)
  clear hb d0 d1 d2 d3 d4 d5 m0 m1 m2 m3 m4
  cases hq : due m d
  rotate_left
  · have HR := Lib.hid (show res = (drZ, crZ, 0, 13) by rw [HF.out, if_pos hq])
    clear hq
    go_wp2_with (first
      | (with_reducible refine wpList_store_dr rfl (.tmp 6) (.tmp 39) rfl (w.heap.size + 1 + 2) rfl _ _ _ _ _ _ rfl drZ HT.out.x ?_)
      | (with_reducible refine wpList_store_cr rfl (.tmp 7) (.tmp 40) rfl (w.heap.size + 1 + 3) rfl _ _ _ _ _ _ _ _ _ _ _ _ _ _ _ rfl _ _ _ _ _ _ _ _ _ _ _ _ _ _ _ (HT.out.rowx drZ).y ?_))
    refine post_cells2 rfl rfl ((HT.out.rowx drZ).rowy crZ none 0).x Try.underlying25 rfl infoD rfl ((HT.out.rowx drZ).rowy crZ none 0).y Try.underlying30 rfl infoC rfl rfl rfl ?_
    rw [HR.out]
    exact ret_dcZ (HB1.out.trans (((HT.out.rowx drZ).rowy crZ none 0).b.mono HB1.out.size))
  have HR := Lib.hid (show res = (⟨1, c.bc, 0, inc d.lo 1, d.pa, d.si⟩, {c with lo := inc c.lo 1}, m.ld, 0) by rw [HF.out, if_neg (by rw [hq]; simp)])
  clear hq HF
  have hlo := (drvU_cnt HD.out).1
  have hcl := (vldC_cnt HC.out).1
  replace HT := Lib.hid (HT.out.next (Below.refl w4.heap.size w4).drew)
  go_wp2_with fail
  refine wp_region_noPanic ?_
  refine wp_region_held_drew (S := fun X => CrAt X (w.heap.size + 1 + 1) c.bc c.W c.L c.S c.T c.J c.R c.wo c.lk ad c.l.length cap c.ep c.lo c.pa) (by kernel_rfl) (HT.out.cat) (fun hS0 => ?_)
  generalize World.drew w4 = X4 at *
  refine held_take (i := 0) (v := ?_) rfl (by kernel_rfl) (by kernel_rfl) (by kernel_rfl) (fun _ _ _ h => h) (by rfl) ?_ (by assumption) ?_
  rotate_left
  · intro X hSX
    try dsimp only at hSX
    go_simp <;> with_reducible rfl
  simp only [Act.put, List.setIfInBounds_toArray, List.set_cons_zero, List.set_cons_succ]
  refine held_take (i := 1) (v := ?_) rfl (by kernel_rfl) (by kernel_rfl) (by kernel_rfl) (fun _ _ _ h => h) (by rfl) ?_ (by assumption) ?_
  rotate_left
  · intro X hSX
    try dsimp only at hSX
    obtain ⟨_, k0, k1, k2, k3, k4, k5, k6, k7, k8, k9, k10, k11, k12⟩ := hSX
    go_simp <;> with_reducible rfl
  simp only [Act.put, List.setIfInBounds_toArray, List.set_cons_zero, List.set_cons_succ]
  refine held_take (i := 2) (v := ?_) rfl (by kernel_rfl) (by kernel_rfl) (by kernel_rfl) (fun _ _ _ h => h) (by rfl) ?_ (by assumption) ?_
  rotate_left
  · intro X hSX
    try dsimp only at hSX
    go_simp <;> with_reducible rfl
  simp only [Act.put, List.setIfInBounds_toArray, List.set_cons_zero, List.set_cons_succ]
  refine held_call (i := 3) rfl (by kernel_rfl) (by rfl) (fun K' hK' => ?_)
  obtain ⟨_, d0, d1, d2, d3, d4, d5⟩ := HT.out.dat
  have f := froz_of HT.out.d 0
  go_simp
  replace HT := Lib.hid (HT.out.setd 0 (.int .i64 1) ⟨1, d.bc, d.hd, d.lo, d.pa, d.si⟩ rfl)
  refine held_go hK' (HT.out.cat) ?_
  try simp only [Act.put, List.setIfInBounds_toArray, List.set_cons_zero, List.set_cons_succ]
  generalize World.setCell X4 _ _ = X5 at *
  clear d0 d1 d2 d3 d4 d5 f hS0
  have hS0 := HT.out.cat
  refine held_take (i := 4) (v := ?_) rfl (by kernel_rfl) (by kernel_rfl) (by kernel_rfl) (fun _ _ _ h => h) (by rfl) ?_ (by assumption) ?_
  rotate_left
  · intro X hSX
    try dsimp only at hSX
    go_simp <;> with_reducible rfl
  simp only [Act.put, List.setIfInBounds_toArray, List.set_cons_zero, List.set_cons_succ]
  refine held_call (i := 5) rfl (by kernel_rfl) (by rfl) (fun K' hK' => ?_)
  obtain ⟨_, d0, d1, d2, d3, d4, d5⟩ := HT.out.dat
  have f := froz_of HT.out.d 1
  dsimp only at d0 d1 d2 d3 d4 d5
  go_simp
  replace HT := Lib.hid (HT.out.setd 1 (.string c.bc) ⟨1, c.bc, d.hd, d.lo, d.pa, d.si⟩ rfl)
  refine held_go hK' (HT.out.cat) ?_
  try simp only [Act.put, List.setIfInBounds_toArray, List.set_cons_zero, List.set_cons_succ]
  generalize World.setCell X5 _ _ = X6 at *
  clear d0 d1 d2 d3 d4 d5 f hS0
  have hS0 := HT.out.cat
  refine held_take (i := 6) (v := ?_) rfl (by kernel_rfl) (by kernel_rfl) (by kernel_rfl) (fun _ _ _ h => h) (by rfl) ?_ (by assumption) ?_
  rotate_left
  · intro X hSX
    try dsimp only at hSX
    go_simp <;> with_reducible rfl
  simp only [Act.put, List.setIfInBounds_toArray, List.set_cons_zero, List.set_cons_succ]
  refine held_call (i := 7) rfl (by kernel_rfl) (by rfl) (fun K' hK' => ?_)
  obtain ⟨_, d0, d1, d2, d3, d4, d5⟩ := HT.out.dat
  have f := froz_of HT.out.d 2
  dsimp only at d0 d1 d2 d3 d4 d5
  go_simp
  replace HT := Lib.hid (HT.out.setd 2 (.int .i64 0) ⟨1, c.bc, 0, d.lo, d.pa, d.si⟩ rfl)
  refine held_go hK' (HT.out.cat) ?_
  try simp only [Act.put, List.setIfInBounds_toArray, List.set_cons_zero, List.set_cons_succ]
  generalize World.setCell X6 _ _ = X7 at *
  clear d0 d1 d2 d3 d4 d5 f hS0
  refine wpAnyH_done (by kernel_rfl) ?_ _
  refine NoPanic.normal ?_
  obtain ⟨_, d0, d1, d2, d3, d4, d5⟩ := HT.out.dat
  dsimp only at d0 d1 d2 d3 d4 d5
  go_wp2_with fail
  refine (rinc_any d.lo 1 X7 hlo (by omega)).mono ?_
  rintro e w8 ⟨rfl, rfl⟩
  have f := froz_of HT.out.d 3
  obtain ⟨_, k0, k1, k2, k3, k4, k5, k6, k7, k8, k9, k10, k11, k12⟩ := HT.out.cat
  go_wp2_with fail
  replace HT := Lib.hid (HT.out.setd 3 (.int .i64 (inc d.lo 1)) ⟨1, c.bc, 0, inc d.lo 1, d.pa, d.si⟩ rfl)
  clear d0 d1 d2 d3 d4 d5 f k0 k1 k2 k3 k4 k5 k6 k7 k8 k9 k10 k11 k12
  generalize World.setCell w8 _ _ = X8 at *
  refine (rinc_any c.lo 1 X8 hcl (by omega)).mono ?_
  rintro e w9 ⟨rfl, rfl⟩
  obtain ⟨_, k0, k1, k2, k3, k4, k5, k6, k7, k8, k9, k10, k11, k12⟩ := HT.out.cat
  have f := froz_of HT.out.c 11
  go_wp2_with fail
  replace HT := Lib.hid (HT.out.setc 11 (.int .i64 (inc c.lo 1)) ⟨c.bc, c.W, c.L, c.S, c.T, c.J, c.R, c.wo, c.lk, c.l, c.ep, inc c.lo 1, c.pa⟩ ad cap rfl)
  clear k0 k1 k2 k3 k4 k5 k6 k7 k8 k9 k10 k11 k12 f
  generalize World.setCell w9 _ _ = Y0 at *
  replace HT := Lib.hid (HT.out.next (Below.refl Y0.heap.size Y0).drew)
  refine wp_region_noPanic ?_
  refine wp_region_held_drew (S := fun X => DrAt X (w.heap.size + 1) 1 c.bc 0 (inc d.lo 1) d.pa d.si ∧ CrAt X (w.heap.size + 1 + 1) c.bc c.W c.L c.S c.T c.J c.R c.wo c.lk ad c.l.length cap c.ep (inc c.lo 1) c.pa ∧ MdAt X w.heap.size m.ld m.ul m.cl m.ce m.cf) (by kernel_rfl) (⟨HT.out.dat, HT.out.cat, HM1.out.on HT.out.b⟩) (fun hS0 => ?_)
  generalize World.drew Y0 = X9 at *
  refine held_take (i := 0) (v := ?_) rfl (by kernel_rfl) (by kernel_rfl) (by kernel_rfl) (fun _ _ _ h => h) (by rfl) ?_ (by assumption) ?_
  rotate_left
  · intro X hSX
    try dsimp only at hSX
    obtain ⟨⟨_, d0, d1, d2, d3, d4, d5⟩, -, -⟩ := hSX
    go_simp <;> with_reducible rfl
  simp only [Act.put, List.setIfInBounds_toArray, List.set_cons_zero, List.set_cons_succ]
  refine held_take (i := 1) (v := ?_) rfl (by kernel_rfl) (by kernel_rfl) (by kernel_rfl) (fun _ _ _ h => h) (by rfl) ?_ (by assumption) ?_
  rotate_left
  · intro X hSX
    try dsimp only at hSX
    obtain ⟨-, ⟨_, k0, k1, k2, k3, k4, k5, k6, k7, k8, k9, k10, k11, k12⟩, -⟩ := hSX
    go_simp <;> with_reducible rfl
  simp only [Act.put, List.setIfInBounds_toArray, List.set_cons_zero, List.set_cons_succ]
  refine held_take (i := 2) (v := ?_) rfl (by kernel_rfl) (by kernel_rfl) (by kernel_rfl) (fun _ _ _ h => h) (by rfl) ?_ (by assumption) ?_
  rotate_left
  · intro X hSX
    try dsimp only at hSX
    go_simp <;> with_reducible rfl
  simp only [Act.put, List.setIfInBounds_toArray, List.set_cons_zero, List.set_cons_succ]
  refine held_take (i := 3) (v := ?_) rfl (by kernel_rfl) (by kernel_rfl) (by kernel_rfl) (fun _ _ _ h => h) (by rfl) ?_ (by assumption) ?_
  rotate_left
  · intro X hSX
    try dsimp only at hSX
    obtain ⟨-, -, ⟨_, m0, m1, m2, m3, m4⟩⟩ := hSX
    go_simp <;> with_reducible rfl
  simp only [Act.put, List.setIfInBounds_toArray, List.set_cons_zero, List.set_cons_succ]
  refine held_call (i := 4) rfl (by kernel_rfl) (by rfl) (fun K' hK' => ?_)
  refine oper_store_dr (.tmp 6) (.tmp 55) rfl (w.heap.size + 1 + 2) rfl ⟨1, c.bc, 0, inc d.lo 1, d.pa, d.si⟩ rfl drZ HT.out.x ?_
  replace HT := Lib.hid (HT.out.rowx ⟨1, c.bc, 0, inc d.lo 1, d.pa, d.si⟩)
  refine held_go hK' (⟨HT.out.dat, HT.out.cat, HM1.out.on HT.out.b⟩) ?_
  try simp only [Act.put, List.setIfInBounds_toArray, List.set_cons_zero, List.set_cons_succ]
  generalize World.setRow X9 _ _ = X10 at *
  clear hS0
  have hS0 := (⟨HT.out.dat, HT.out.cat, HM1.out.on HT.out.b⟩ : DrAt X10 (w.heap.size + 1) 1 c.bc 0 (inc d.lo 1) d.pa d.si ∧ CrAt X10 (w.heap.size + 1 + 1) c.bc c.W c.L c.S c.T c.J c.R c.wo c.lk ad c.l.length cap c.ep (inc c.lo 1) c.pa ∧ MdAt X10 w.heap.size m.ld m.ul m.cl m.ce m.cf)
  refine held_call (i := 5) rfl (by kernel_rfl) (by rfl) (fun K' hK' => ?_)
  refine oper_store_cq (.tmp 7) (.tmp 56) rfl (w.heap.size + 1 + 3) rfl ⟨c.bc, c.W, c.L, c.S, c.T, c.J, c.R, c.wo, c.lk, c.l, c.ep, inc c.lo 1, c.pa⟩ ad cap rfl crZ none 0 HT.out.y ?_
  replace HT := Lib.hid (HT.out.rowy ⟨c.bc, c.W, c.L, c.S, c.T, c.J, c.R, c.wo, c.lk, c.l, c.ep, inc c.lo 1, c.pa⟩ ad cap)
  refine held_go hK' (⟨HT.out.dat, HT.out.cat, HM1.out.on HT.out.b⟩) ?_
  try simp only [Act.put, List.setIfInBounds_toArray, List.set_cons_zero, List.set_cons_succ]
  generalize World.setRow X10 _ _ = X11 at *
  clear hS0
  have hS0 := (⟨HT.out.dat, HT.out.cat, HM1.out.on HT.out.b⟩ : DrAt X11 (w.heap.size + 1) 1 c.bc 0 (inc d.lo 1) d.pa d.si ∧ CrAt X11 (w.heap.size + 1 + 1) c.bc c.W c.L c.S c.T c.J c.R c.wo c.lk ad c.l.length cap c.ep (inc c.lo 1) c.pa ∧ MdAt X11 w.heap.size m.ld m.ul m.cl m.ce m.cf)
  refine held_take (i := 6) (v := ?_) rfl (by kernel_rfl) (by kernel_rfl) (by kernel_rfl) (fun _ _ _ h => h) (by rfl) ?_ (by assumption) ?_
  rotate_left
  · intro X hSX
    try dsimp only at hSX
    go_simp <;> with_reducible rfl
  simp only [Act.put, List.setIfInBounds_toArray, List.set_cons_zero, List.set_cons_succ]
  refine held_take (i := 7) (v := ?_) rfl (by kernel_rfl) (by kernel_rfl) (by kernel_rfl) (fun _ _ _ h => h) (by rfl) ?_ (by assumption) ?_
  rotate_left
  · intro X hSX
    try dsimp only at hSX
    go_simp <;> with_reducible rfl
  simp only [Act.put, List.setIfInBounds_toArray, List.set_cons_zero, List.set_cons_succ]
  refine wpAnyH_done (by kernel_rfl) ?_ _
  refine NoPanic.normal ?_
  have HBX := Lib.hid (HB1.out.trans (HT.out.b.mono HB1.out.size))
  have HI2 := Lib.hid (HIN.out.below HBX.out)
  go_wp2_with fail
  refine post_cells2 rfl rfl HT.out.x Try.underlying25 rfl infoD rfl HT.out.y Try.underlying30 rfl infoC rfl rfl rfl ?_
  rw [HR.out]
  exact ⟨ad, cap, rfl, ⟨HI2.out.ki, HI2.out.le, HI2.out.mx, HI2.out.nn, HI2.out.bs⟩, KpS.same HBX.out, HBX.out⟩
  end Go.Proofs.Ytepmmlnopdjjdaa
