/-
  Write of the specification.
-/
import Derived.Test.YtepmmlnopdjjdaaCtWrite
import Derived.Test.YtepmmlnopdjjdaaQRd
import Derived.Test.YtepmmlnopdjjdaaDrUnload
namespace Go.Proofs.Ytepmmlnopdjjdaa
open Go.RowKit
set_option linter.unusedVariables false
set_option linter.unusedSimpArgs false
theorem wriC_ok {v : Bool} {c : Crt} {a : Int} {z : List Blk} (h : (wriC v c a z).2 = 0) : (wriC v c a z).1.pa = c.pa := by
  unfold wriC at h ⊢
  split at h
  · rename_i h1; rw [if_pos h1]
    split at h
    · rename_i h2; rw [if_pos h2]
      split at h
      · simp at h
      · rename_i h3; rw [if_neg h3]
        split at h
        · simp at h
        · rename_i h4; rw [if_neg h4]
          split at h
          · simp at h
          · rename_i h5; rw [if_neg h5]
            split at h
            · simp at h
            · rename_i h6; rw [if_neg h6]
    · simp at h
  · simp at h
noncomputable def wrU (m : Mdl) (d : Drv) (c : Crt) (z : List Blk) : Drv × Crt × Int × Int :=
  if fstU m d c = 0 then (if worn m c = true then (drZ, crZ, 0, 17) else (if z = [] then (drZ, crZ, 0, 8) else (if (wriC (vldC c) c d.hd z).2 = 0 then
    (mvD d (wriC (vldC c) c d.hd z).1 (d.hd + (z.length : Int)), mvC d (wriC (vldC c) c d.hd z).1 (d.hd + (z.length : Int)), rd c.W c.L c.S c.T c.J c.R d.hd (z.length : Int), 0) else (drZ, crZ, 0, (wriC (vldC c) c d.hd z).2)))) else (drZ, crZ, 0, fstU m d c)
theorem row_keep {X : World} {k g : Nat} {o : Obj} {cs : Array Value} (h : X.heap[k]? = some o) (hk : k ≠ g) : (X.setRow g cs).heap[k]? = some o := by
  rw [setRow_other _ _ _ _ hk]; exact h
theorem row_next {X Y : World} {k : Nat} {o : Obj} (h : X.heap[k]? = some o) (hb : Below X.heap.size X Y) : Y.heap[k]? = some o := (hb.block k (Array.getElem?_eq_some_iff.1 h).1).trans h
/-- the blocks from A on stay as they were in w3 -/
structure Sm (A : Nat) (w3 X : World) : Prop where
  s : w3.heap.size ≤ X.heap.size
  k : ∀ k, A ≤ k → k < w3.heap.size → X.heap[k]? = w3.heap[k]?
theorem Sm.refl (A : Nat) (w : World) : Sm A w w := ⟨Nat.le_refl _, fun _ _ _ => rfl⟩
theorem Sm.next {A : Nat} {w3 X Y : World} (h : Sm A w3 X) (hb : Below X.heap.size X Y) : Sm A w3 Y :=
  ⟨Nat.le_trans h.s hb.size, fun k h1 h2 => (hb.block k (by have := h.s; omega)).trans (h.k k h1 h2)⟩
theorem Sm.row {A : Nat} {w3 X : World} {g : Nat} {cs : Array Value} (h : Sm A w3 X) (hg : g < A ∨ w3.heap.size ≤ g) : Sm A w3 (X.setRow g cs) :=
  ⟨by simpa [World.setRow] using h.s, fun k h1 h2 => by rw [setRow_other _ _ _ _ (by omega)]; exact h.k k h1 h2⟩
attribute [local irreducible] tim vld bar cnt okB capU allB vldC mdlU drvU due worn inc pas loc rd fstU mvD mvC wriC
set_option maxRecDepth 100000 in
set_option maxHeartbeats 4000000 in
theorem rdwrite_any (m : Mdl) (d : Drv) (c : Crt) (ad : Option Addr) (cap : Nat) (zd : Option Addr) (zn zc : Nat) (z : List Blk) (w : World) (hin : CrIn w c ad cap) (hz : Ki w zd z) (hzn : zn = z.length) (hzs : zn ≤ 100000) :
    Calls Try.prog 31 #[mdV m, drV d, crV c ad cap, .slice zd zn zc] w fun e w' => RetDC w ad c.l (wrU m d c z) e w' := by
  have HF := Lib.hid (show wrU m d c z = if fstU m d c = 0 then (if worn m c = true then (drZ, crZ, 0, 17) else (if z = [] then (drZ, crZ, 0, 8) else (if (wriC (vldC c) c d.hd z).2 = 0 then (mvD d (wriC (vldC c) c d.hd z).1 (d.hd + (z.length : Int)), mvC d (wriC (vldC c) c d.hd z).1 (d.hd + (z.length : Int)), rd c.W c.L c.S c.T c.J c.R d.hd (z.length : Int), 0) else (drZ, crZ, 0, (wriC (vldC c) c d.hd z).2)))) else (drZ, crZ, 0, fstU m d c) from rfl)
  have HPT := Lib.hid (fun h => fst_ok (m := m) (d := d) (c := c) h)
  have HFI := Lib.hid (fun X (h : CrIn X c ad cap) => rfirst_any m d c ad cap X h)
  generalize wrU m d c z = res at *
  generalize fstU m d c = f at *
  obtain ⟨W1, hb1, hm1, hs1, hf1⟩ := Fo.five w m d c ad cap
  have HB1 := Lib.hid hb1
  have HM1 := Lib.hid hm1
  have HS1 := Lib.hid hs1
  have HT := Lib.hid hf1
  have HIN := Lib.hid hin
  have hcap : (c.l.length : Int) ≤ 9223372036854775807 := by have := hin.le; have := hin.mx; unfold maxLen at this; omega
  clear hin hb1 hm1 hs1 hf1
  go_enter Try.func31, Try.ntmps31
  go_wp2_with fail
  generalize World.alloc _ _ = X0 at *
  obtain ⟨_, m0, m1, m2, m3, m4⟩ := HM1.out.on HT.out.b
  obtain ⟨_, d0, d1, d2, d3, d4, d5⟩ := HT.out.dat
  obtain ⟨_, k0, k1, k2, k3, k4, k5, k6, k7, k8, k9, k10, k11, k12⟩ := HT.out.cat
  go_wp2_with fail
  refine (HFI.out X0 (HIN.out.below (HB1.out.trans (HT.out.b.mono HB1.out.size)))).mono ?_
  rintro e w1 ⟨rfl, hb⟩
  replace HT := Lib.hid (HT.out.next hb)
  clear hb HFI m0 m1 m2 m3 m4 d0 d1 d2 d3 d4 d5 k0 k1 k2 k3 k4 k5 k6 k7 k8 k9 k10 k11 k12
  have HZ := Lib.hid hz
  have HZN := Lib.hid hzn
  clear hz
  rw [← hzn] at HF
  clear hzn
  by_cases hf : f = 0
  rotate_left
  · have HR := Lib.hid (show res = (drZ, crZ, 0, f) by rw [HF.out, if_neg hf])
    go_wp2_with (first
      | (with_reducible refine wpList_store_dr rfl (.tmp 8) (.tmp 35) rfl (w.heap.size + 1 + 2) rfl _ _ _ _ _ _ rfl drZ HT.out.x ?_)
      | (with_reducible refine wpList_store_cr rfl (.tmp 9) (.tmp 36) rfl (w.heap.size + 1 + 3) rfl _ _ _ _ _ _ _ _ _ _ _ _ _ _ _ rfl _ _ _ _ _ _ _ _ _ _ _ _ _ _ _ (HT.out.rowx drZ).y ?_))
    refine post_cells2 rfl rfl ((HT.out.rowx drZ).rowy crZ none 0).x Try.underlying25 rfl infoD rfl ((HT.out.rowx drZ).rowy crZ none 0).y Try.underlying30 rfl infoC rfl rfl rfl ?_
    rw [HR.out]
    exact ret_dcZ (HB1.out.trans (((HT.out.rowx drZ).rowy crZ none 0).b.mono HB1.out.size))
  obtain ⟨hmd, hdv, hcv, -, -, -, hhd⟩ := HPT.out hf
  subst hf
  rw [if_pos rfl] at HF
  obtain ⟨-, hpa, hsi, hd0, hd1⟩ := drvU_cnt hdv
  have hcp := (vldC_cnt hcv).2
  have HWC := Lib.hid (fun X (h : Below w.heap.size w X) => rwrite_any c ad cap d.hd zd zn zc z X (HIN.out.below h) (HZ.out.below h) HZN.out hzs (by omega) (by omega))
  have HPA := Lib.hid (fun h => wriC_ok (v := vldC c) (c := c) (a := d.hd) (z := z) h)
  clear hdv hmd HPT hcv
  generalize wriC (vldC c) c d.hd z = rr at *
  obtain ⟨c2, e2⟩ := rr
  dsimp only at HF HPA
  obtain ⟨_, m0, m1, m2, m3, m4⟩ := HM1.out.on HT.out.b
  obtain ⟨_, k0, k1, k2, k3, k4, k5, k6, k7, k8, k9, k10, k11, k12⟩ := HT.out.cat
  go_wp2_with fail
  refine (rworn_any m c ad cap w1).mono ?_
  rintro e w2 ⟨rfl, hb⟩
  replace HT := Lib.hid (HT.out.next hb)
  clear hb m0 m1 m2 m3 m4 k0 k1 k2 k3 k4 k5 k6 k7 k8 k9 k10 k11 k12
  cases hwn : worn m c
  rotate_left
  · have HR := Lib.hid (show res = (drZ, crZ, 0, 17) by rw [HF.out, if_pos hwn])
    clear hwn
    go_wp2_with (first
      | (with_reducible refine wpList_store_dr rfl (.tmp 8) (.tmp 35) rfl (w.heap.size + 1 + 2) rfl _ _ _ _ _ _ rfl drZ HT.out.x ?_)
      | (with_reducible refine wpList_store_cr rfl (.tmp 9) (.tmp 36) rfl (w.heap.size + 1 + 3) rfl _ _ _ _ _ _ _ _ _ _ _ _ _ _ _ rfl _ _ _ _ _ _ _ _ _ _ _ _ _ _ _ (HT.out.rowx drZ).y ?_))
    refine post_cells2 rfl rfl ((HT.out.rowx drZ).rowy crZ none 0).x Try.underlying25 rfl infoD rfl ((HT.out.rowx drZ).rowy crZ none 0).y Try.underlying30 rfl infoC rfl rfl rfl ?_
    rw [HR.out]
    exact ret_dcZ (HB1.out.trans (((HT.out.rowx drZ).rowy crZ none 0).b.mono HB1.out.size))
  rw [if_neg (by rw [hwn]; simp)] at HF
  clear hwn
  by_cases hz0 : zn = 0
  · have HR := Lib.hid (show res = (drZ, crZ, 0, 8) by rw [HF.out, if_pos (List.eq_nil_of_length_eq_zero (by rw [← HZN.out]; exact hz0))])
    go_wp2_with (first
      | (with_reducible refine wpList_store_dr rfl (.tmp 8) (.tmp 35) rfl (w.heap.size + 1 + 2) rfl _ _ _ _ _ _ rfl drZ HT.out.x ?_)
      | (with_reducible refine wpList_store_cr rfl (.tmp 9) (.tmp 36) rfl (w.heap.size + 1 + 3) rfl _ _ _ _ _ _ _ _ _ _ _ _ _ _ _ rfl _ _ _ _ _ _ _ _ _ _ _ _ _ _ _ (HT.out.rowx drZ).y ?_))
    refine post_cells2 rfl rfl ((HT.out.rowx drZ).rowy crZ none 0).x Try.underlying25 rfl infoD rfl ((HT.out.rowx drZ).rowy crZ none 0).y Try.underlying30 rfl infoC rfl rfl rfl ?_
    rw [HR.out]
    exact ret_dcZ (HB1.out.trans (((HT.out.rowx drZ).rowy crZ none 0).b.mono HB1.out.size))
  replace HF := Lib.hid (show res = if e2 = 0 then (mvD d c2 (d.hd + (zn : Int)), mvC d c2 (d.hd + (zn : Int)), rd c.W c.L c.S c.T c.J c.R d.hd (zn : Int), 0) else (drZ, crZ, 0, e2) by rw [HF.out, if_neg (fun h => hz0 (by rw [HZN.out, h]; rfl))])
  obtain ⟨_, d0, d1, d2, d3, d4, d5⟩ := HT.out.dat
  obtain ⟨_, k0, k1, k2, k3, k4, k5, k6, k7, k8, k9, k10, k11, k12⟩ := HT.out.cat
  go_wp2_with fail
  refine (HWC.out w2 (HB1.out.trans (HT.out.b.mono HB1.out.size))).mono ?_
  rintro e w3 ⟨ad2, cap2, rfl, hin2, hfr, hb⟩
  have HK5 : w.heap.size + 5 ≤ w2.heap.size := by have := (Array.getElem?_eq_some_iff.1 HT.out.y).1; omega
  have HWL := Lib.hid (show w.heap.size ≤ w2.heap.size by omega)
  replace HT := Lib.hid (HT.out.next hb)
  clear hb d0 d1 d2 d3 d4 d5 k0 k1 k2 k3 k4 k5 k6 k7 k8 k9 k10 k11 k12
  dsimp only at hin2 ⊢
  have HIN2 := Lib.hid hin2
  have HFR := Lib.hid hfr
  clear hin2 hfr
  have HSM := Lib.hid (show Sm w2.heap.size w3 ((w3.alloc (boxK ⟨#[]⟩ 0 0 0 0 0 0 false false none 0 0 0 0 0)).setRow w3.heap.size (crQ c2 ad2 cap2)) from ((Sm.refl w2.heap.size w3).next (below_box1 _ _)).row (.inr (Nat.le_refl _)))
  have HA := Lib.hid (show Fo W1 ((w3.alloc (boxK ⟨#[]⟩ 0 0 0 0 0 0 false false none 0 0 0 0 0)).setRow w3.heap.size (crQ c2 ad2 cap2)) (w.heap.size + 1) d c ad cap drZ crZ none 0 from HT.out.next (below_set (below_box1 _ _) (Nat.le_refl _) _))
  have HK := Lib.hid (show ((w3.alloc (boxK ⟨#[]⟩ 0 0 0 0 0 0 false false none 0 0 0 0 0)).setRow w3.heap.size (crQ c2 ad2 cap2)).heap[w3.heap.size]? = some (.cells (crQ c2 ad2 cap2) 30 (0, 0)) from setRow_heap _ _ _ _ _ _ (heap_alloc_new w3 _))
  have HKG : w.heap.size + 5 ≤ w3.heap.size := by have := (Array.getElem?_eq_some_iff.1 HT.out.y).1; omega
  generalize hX4 : World.setRow (w3.alloc (boxK ⟨#[]⟩ 0 0 0 0 0 0 false false none 0 0 0 0 0)) w3.heap.size (crQ c2 ad2 cap2) = X4 at HA HSM HK
  have HZR := Lib.hid (show (w3.alloc (boxK ⟨#[]⟩ 0 0 0 0 0 0 false false none 0 0 0 0 0)).heap[w3.heap.size]? = some (.cells (crK ⟨#[]⟩ 0 0 0 0 0 0 false false none 0 0 0 0 0) 30 (0, 0)) from heap_alloc_new w3 _)
  clear HT
  have HT := Lib.hid HA.out
  clear HA
  by_cases he2 : e2 = 0
  rotate_left
  · have HR := Lib.hid (show res = (drZ, crZ, 0, e2) by rw [HF.out, if_neg he2])
    go_wp2_with (first
      | (with_reducible refine wpList_store_cr rfl (.tmp 13) (.tmp 44) rfl w3.heap.size rfl _ _ _ _ _ _ _ _ _ _ _ _ _ _ _ rfl _ _ _ _ _ _ _ _ _ _ _ _ _ _ _ HZR.out ?_; rw [hX4])
      | (with_reducible refine wpList_store_dr rfl (.tmp 8) (.tmp 48) rfl (w.heap.size + 1 + 2) rfl _ _ _ _ _ _ rfl drZ HT.out.x ?_)
      | (with_reducible refine wpList_store_cr rfl (.tmp 9) (.tmp 49) rfl (w.heap.size + 1 + 3) rfl _ _ _ _ _ _ _ _ _ _ _ _ _ _ _ rfl _ _ _ _ _ _ _ _ _ _ _ _ _ _ _ (HT.out.rowx drZ).y ?_))
    refine post_cells2 rfl rfl ((HT.out.rowx drZ).rowy crZ none 0).x Try.underlying25 rfl infoD rfl ((HT.out.rowx drZ).rowy crZ none 0).y Try.underlying30 rfl infoC rfl rfl rfl ?_
    rw [HR.out]
    exact ret_dcZ (HB1.out.trans (((HT.out.rowx drZ).rowy crZ none 0).b.mono HB1.out.size))
  subst he2
  have HR := Lib.hid (show res = (mvD d c2 (d.hd + (zn : Int)), mvC d c2 (d.hd + (zn : Int)), rd c.W c.L c.S c.T c.J c.R d.hd (zn : Int), 0) by rw [HF.out, if_pos rfl])
  have hc2 : 0 ≤ c2.pa ∧ c2.pa ≤ 1125899906842624 := by rw [HPA.out rfl]; exact hcp
  clear HF HPA
  obtain ⟨_, d0, d1, d2, d3, d4, d5⟩ := HT.out.dat
  obtain ⟨_, k0, k1, k2, k3, k4, k5, k6, k7, k8, k9, k10, k11, k12⟩ := HT.out.cat
  go_wp2_with (with_reducible refine wpList_store_cr rfl (.tmp 13) (.tmp 44) rfl w3.heap.size rfl _ _ _ _ _ _ _ _ _ _ _ _ _ _ _ rfl _ _ _ _ _ _ _ _ _ _ _ _ _ _ _ HZR.out ?_; rw [hX4])
  refine (rread_any c.W c.L c.S c.T c.J c.R d.hd (zn : Int) X4 (by omega) (by omega)).mono ?_
  rintro e w5 ⟨rfl, hb⟩
  replace HT := Lib.hid (HT.out.next hb)
  replace HK := Lib.hid (row_next HK.out hb)
  replace HSM := Lib.hid (HSM.out.next hb)
  clear hb d0 d1 d2 d3 d4 d5 k0 k1 k2 k3 k4 k5 k6 k7 k8 k9 k10 k11 k12
  obtain ⟨_, d0, d1, d2, d3, d4, d5⟩ := HT.out.dat
  obtain ⟨_, k0, k1, k2, k3, k4, k5, k6, k7, k8, k9, k10, k11, k12⟩ := CrAt.of HK.out
  have hw1 : IntKind.i64.wrap (d.hd + (zn : Int)) = d.hd + (zn : Int) := by rw [IntKind.wrap_i64]; omega
  go_wp2_with fail
  refine (rmove_any d c2 ad2 cap2 (d.hd + (zn : Int)) w5 hpa hsi hc2).mono ?_
  generalize mvD d c2 (d.hd + (zn : Int)) = dd at *
  have HCR := Lib.hid (fun X (h : Ki X ad2 c2.l) => mvC_in (d := d) (t := d.hd + (zn : Int)) (⟨h, HIN2.out.le, HIN2.out.mx, HIN2.out.nn, HIN2.out.bs⟩ : CrIn X c2 ad2 cap2))
  generalize mvC d c2 (d.hd + (zn : Int)) = cc at *
  rintro e w6 ⟨rfl, hb⟩
  replace HT := Lib.hid (HT.out.next hb)
  replace HK := Lib.hid (row_next HK.out hb)
  replace HSM := Lib.hid (HSM.out.next hb)
  clear hb d0 d1 d2 d3 d4 d5 k0 k1 k2 k3 k4 k5 k6 k7 k8 k9 k10 k11 k12
  have hki : w3.heap.size ≠ w.heap.size + 1 := by omega
  go_wp2_with (first
    | (with_reducible refine wpList_store_dr rfl (.tmp 5) (.tmp 68) rfl (w.heap.size + 1) rfl _ _ _ _ _ _ rfl d HT.out.d ?_)
    | (with_reducible refine wpList_store_cr rfl (.tmp 13) (.tmp 69) rfl w3.heap.size rfl _ _ _ _ _ _ _ _ _ _ _ _ _ _ _ rfl _ _ _ _ _ _ _ _ _ _ _ _ _ _ _ (row_keep HK.out hki) ?_))
  have HK2 := Lib.hid (show ((w6.setRow (w.heap.size + 1) (drK dd)).setRow w3.heap.size (crQ cc ad2 cap2)).heap[w3.heap.size]? = some (.cells (crQ cc ad2 cap2) 30 (0, 0)) from setRow_heap _ _ _ _ _ _ (row_keep HK.out hki))
  have HT2 := Lib.hid (show Fo W1 ((w6.setRow (w.heap.size + 1) (drK dd)).setRow w3.heap.size (crQ cc ad2 cap2)) (w.heap.size + 1) dd c ad cap drZ crZ none 0 from by
    have h := HT.out.rowd dd
    exact ⟨below_set h.b (by have := HS1.out; omega) _, h.g0, row_keep h.d (by omega), row_keep h.c (by omega), row_keep h.x (by omega), row_keep h.y (by omega)⟩)
  replace HSM := Lib.hid (show Sm w2.heap.size w3 ((w6.setRow (w.heap.size + 1) (drK dd)).setRow w3.heap.size (crQ cc ad2 cap2)) from (HSM.out.row (.inl (by omega))).row (.inr (Nat.le_refl _)))
  clear HK HT
  generalize World.setRow (World.setRow w6 _ _) _ _ = Y0 at *
  replace HSM := Lib.hid (HSM.out.next (Below.refl Y0.heap.size Y0).drew)
  have HK := Lib.hid (row_next HK2.out (Below.refl Y0.heap.size Y0).drew)
  have HT := Lib.hid (HT2.out.next (Below.refl Y0.heap.size Y0).drew)
  clear HK2 HT2
  refine wp_region_noPanic ?_
  refine wp_region_held_drew (S := fun X => DrAt X (w.heap.size + 1) dd.st dd.bc dd.hd dd.lo dd.pa dd.si ∧ CrAt X w3.heap.size cc.bc cc.W cc.L cc.S cc.T cc.J cc.R cc.wo cc.lk ad2 cc.l.length cap2 cc.ep cc.lo cc.pa) (by kernel_rfl) (⟨HT.out.dat, CrAt.of HK.out⟩) (fun hS0 => ?_)
  generalize World.drew Y0 = X9 at *
  refine held_take (i := 0) (v := ?_) rfl (by kernel_rfl) (by kernel_rfl) (by kernel_rfl) (fun _ _ _ h => h) (by rfl) ?_ (by assumption) ?_
  rotate_left
  · intro X hSX
    try dsimp only at hSX
    obtain ⟨⟨_, d0, d1, d2, d3, d4, d5⟩, -⟩ := hSX
    go_simp <;> with_reducible rfl
  simp only [Act.put, List.setIfInBounds_toArray, List.set_cons_zero, List.set_cons_succ]
  refine held_take (i := 1) (v := ?_) rfl (by kernel_rfl) (by kernel_rfl) (by kernel_rfl) (fun _ _ _ h => h) (by rfl) ?_ (by assumption) ?_
  rotate_left
  · intro X hSX
    try dsimp only at hSX
    obtain ⟨-, ⟨_, k0, k1, k2, k3, k4, k5, k6, k7, k8, k9, k10, k11, k12⟩⟩ := hSX
    go_simp <;> with_reducible rfl
  simp only [Act.put, List.setIfInBounds_toArray, List.set_cons_zero, List.set_cons_succ]
  refine held_take (i := 2) (v := ?_) rfl (by kernel_rfl) (by kernel_rfl) (by kernel_rfl) (fun _ _ _ h => h) (by rfl) ?_ (by assumption) ?_
  rotate_left
  · intro X hSX
    try dsimp only at hSX
    go_simp <;> with_reducible rfl
  simp only [Act.put, List.setIfInBounds_toArray, List.set_cons_zero, List.set_cons_succ]
  refine held_call (i := 3) rfl (by kernel_rfl) (by rfl) (fun K' hK' => ?_)
  refine oper_store_dr (.tmp 8) (.tmp 70) rfl (w.heap.size + 1 + 2) rfl dd rfl drZ HT.out.x ?_
  replace HT := Lib.hid (HT.out.rowx dd)
  replace HK := Lib.hid (row_keep (cs := drK dd) (g := w.heap.size + 1 + 2) HK.out (by omega))
  replace HSM := Lib.hid (HSM.out.row (cs := drK dd) (g := w.heap.size + 1 + 2) (.inl (by omega)))
  refine held_go hK' (⟨HT.out.dat, CrAt.of HK.out⟩) ?_
  try simp only [Act.put, List.setIfInBounds_toArray, List.set_cons_zero, List.set_cons_succ]
  generalize World.setRow X9 _ _ = X10 at *
  refine held_call (i := 4) rfl (by kernel_rfl) (by rfl) (fun K' hK' => ?_)
  refine oper_store_cq (.tmp 9) (.tmp 71) rfl (w.heap.size + 1 + 3) rfl cc ad2 cap2 rfl crZ none 0 HT.out.y ?_
  replace HT := Lib.hid (HT.out.rowy cc ad2 cap2)
  replace HK := Lib.hid (row_keep (cs := crQ cc ad2 cap2) (g := w.heap.size + 1 + 3) HK.out (by omega))
  replace HSM := Lib.hid (HSM.out.row (cs := crQ cc ad2 cap2) (g := w.heap.size + 1 + 3) (.inl (by omega)))
  refine held_go hK' (⟨HT.out.dat, CrAt.of HK.out⟩) ?_
  try simp only [Act.put, List.setIfInBounds_toArray, List.set_cons_zero, List.set_cons_succ]
  generalize World.setRow X10 _ _ = X11 at *
  clear hS0
  have hS0 := (⟨HT.out.dat, CrAt.of HK.out⟩ : DrAt X11 (w.heap.size + 1) dd.st dd.bc dd.hd dd.lo dd.pa dd.si ∧ CrAt X11 w3.heap.size cc.bc cc.W cc.L cc.S cc.T cc.J cc.R cc.wo cc.lk ad2 cc.l.length cap2 cc.ep cc.lo cc.pa)
  refine held_take (i := 5) (v := ?_) rfl (by kernel_rfl) (by kernel_rfl) (by kernel_rfl) (fun _ _ _ h => h) (by rfl) ?_ (by assumption) ?_
  rotate_left
  · intro X hSX
    try dsimp only at hSX
    go_simp <;> with_reducible rfl
  simp only [Act.put, List.setIfInBounds_toArray, List.set_cons_zero, List.set_cons_succ]
  refine held_take (i := 6) (v := ?_) rfl (by kernel_rfl) (by kernel_rfl) (by kernel_rfl) (fun _ _ _ h => h) (by rfl) ?_ (by assumption) ?_
  rotate_left
  · intro X hSX
    try dsimp only at hSX
    go_simp <;> with_reducible rfl
  simp only [Act.put, List.setIfInBounds_toArray, List.set_cons_zero, List.set_cons_succ]
  refine wpAnyH_done (by kernel_rfl) ?_ _
  refine NoPanic.normal ?_
  have HBX := Lib.hid (HB1.out.trans (HT.out.b.mono HB1.out.size))
  have HKI := Lib.hid (HFR.out X11 HSM.out.k HSM.out.s)
  go_wp2_with fail
  refine post_cells2 rfl rfl HT.out.x Try.underlying25 rfl infoD rfl HT.out.y Try.underlying30 rfl infoC rfl rfl rfl ?_
  rw [HR.out]
  exact ⟨ad2, cap2, rfl, HCR.out _ HKI.out, KpS.new (fun X hX hX2 => (HCR.out X (HFR.out X (fun k hk hlt => (hX k (Nat.le_trans HWL.out hk) (Nat.lt_of_lt_of_le hlt HSM.out.s)).trans (HSM.out.k k hk hlt)) (Nat.le_trans HSM.out.s hX2))).ki), HBX.out⟩
end Go.Proofs.Ytepmmlnopdjjdaa
