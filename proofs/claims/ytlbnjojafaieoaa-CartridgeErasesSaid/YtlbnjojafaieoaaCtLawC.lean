/-
  The law Erases.
-/
import Derived.Test.YtlbnjojafaieoaaCtForms
import Derived.Test.YtlbnjojafaieoaaCtLawB
namespace Go.Proofs.Ytlbnjojafaieoaa
open Go.RowKit
set_option linter.unusedVariables false
attribute [local irreducible] tim vld bar cnt okB capU allB vldC eqK newC eraC dmgC wriC freeC marksC readC liC liB dmN
set_option maxRecDepth 100000 in
set_option maxHeartbeats 8000000 in
theorem law_erases (c : Crt) (ad : Option Addr) (cap : Nat) (f n : Int) (w : World) (hin : CrIn w c ad cap) (f0 : -9223372036854775808 ≤ f) (f1 : f ≤ 9223372036854775807) (n0 : -9223372036854775808 ≤ n) (n1 : n ≤ 9223372036854775807) :
    Calls Try.prog 6 #[crV c ad cap, .agg #[.int .i64 f, .int .i64 n]] w fun e w' => e = .returned (.bool true) ∧ Below w.heap.size w w' := by
  have HIN := Lib.hid hin
  clear hin
  obtain ⟨M, hM⟩ : ∃ M, M = c.l.length := ⟨_, rfl⟩
  show Calls Try.prog 6 #[crW c.bc c.W c.L c.S c.T c.J c.R c.wo c.lk ad c.l.length cap c.ep c.lo c.pa, .agg #[.int .i64 f, .int .i64 n]] w _
  have HM := Lib.hid hM
  rw [← hM]
  clear hM
  obtain ⟨res, hres⟩ : ∃ res, res = eraC c := ⟨_, rfl⟩
  obtain ⟨d, er⟩ := res
  have hd0 : d.l = [] := by rw [show d = (eraC c).1 by rw [← hres]]; exact eraC_len _
  obtain ⟨D, hD⟩ : ∃ D, D = d.l.length := ⟨_, rfl⟩
  have HD0 := Lib.hid (show D ≤ 100000 by rw [hD, hd0]; exact Nat.zero_le _)
  have HRES := Lib.hid hres
  have HD := Lib.hid hD
  obtain ⟨d2, hd2⟩ : ∃ d2, d2 = dmgC (vldC c) c f n := ⟨_, rfl⟩
  obtain ⟨D2, hD2⟩ : ∃ D, D = d2.l.length := ⟨_, rfl⟩
  have HDL2 := Lib.hid (show D2 ≤ M by rw [hD2, hd2, HM.out]; exact dmgC_len _ _ _ _)
  have HRES2 := Lib.hid hd2
  have HD2 := Lib.hid hD2
  clear hres hd0 hD hd2 hD2
  have HB0 := Lib.hid (below_box2 w (boxX c ad M cap) (.cells #[.int .i64 f, .int .i64 n] 40))
  have HC := Lib.hid ((AtX.new w c ad M cap).alloc (.cells #[.int .i64 f, .int .i64 n] 40))
  have HP := Lib.hid (sp_start w (boxX c ad M cap) f n)
  go_enter Try.func6, Try.ntmps6
  go_wp2_with fail
  generalize World.alloc _ _ = X0 at *
  replace HIN := Lib.hid (HIN.out.below HB0.out)
  refine (light_m HM.out X0 HIN.out).mono ?_
  have HLI := Lib.hid (@liC_iff c)
  generalize liC c = li at *
  rintro e w1 ⟨rfl, hb⟩
  have HB1 := Lib.hid (HB0.out.trans (hb.mono HB0.out.size))
  have HC1 := Lib.hid (HC.out.below hb HC.out.lt)
  have HP1 := Lib.hid (HP.out.below hb HP.out.lt)
  have HI1 := Lib.hid (HIN.out.below hb)
  clear hb HB0 HC HIN HP
  cases li
  · go_wp2_with fail
    refine (awake_any _).mono ?_
    rintro e w3 ⟨rfl, hb⟩
    have HB3 := Lib.hid (HB1.out.trans (hb.mono HB1.out.size))
    clear hb
    go_wp2
    go_ret
    exact ⟨rfl, HB3.out⟩
  have HDS2 := Lib.hid (show D2 ≤ 100000 by have := (HLI.out (by simp)).1; have := HM.out; have := HDL2.out; omega)
  obtain ⟨_, k0, k1, k2, k3, k4, k5, k6, k7, k8, k9, k10, k11, k12⟩ := HC1.out
  go_wp2_with fail
  clear k0 k1 k2 k3 k4 k5 k6 k7 k8 k9 k10 k11 k12
  refine (erase_m HM.out w1 HI1.out HD.out HRES.out).mono ?_
  rintro e w2 ⟨ad5, cap5, rfl, hin5, hb⟩
  have hb2 := hb.alloc hb.size (boxX d ad5 D cap5)
  have HI5 := Lib.hid (hin5.below (below_boxC w2 (boxX d ad5 D cap5)))
  have HE5 := Lib.hid (AtX.new w2 d ad5 D cap5)
  have HC2 := Lib.hid (HC1.out.below hb2 HC1.out.lt)
  have HP2 := Lib.hid (HP1.out.below hb2 HP1.out.lt)
  have HI2 := Lib.hid (HI1.out.below hb2)
  have HB2 := Lib.hid (HB1.out.trans (hb2.mono HB1.out.size))
  clear hb hb2 hin5 HB1 HC1 HI1 HP1
  obtain ⟨_, k0, k1, k2, k3, k4, k5, k6, k7, k8, k9, k10, k11, k12⟩ := HC2.out
  go_wp2_with fail
  clear k0 k1 k2 k3 k4 k5 k6 k7 k8 k9 k10 k11 k12
  generalize World.alloc w2 _ = X2 at HI5 HE5 HC2 HP2 HI2 HB2 ⊢
  refine (rerase_m HM.out X2 HI2.out HD.out HRES.out).mono ?_
  rintro e w3 ⟨ad6, cap6, rfl, hin6, hb⟩
  have hb2 := hb.alloc hb.size (boxX d ad6 D cap6)
  have HI6 := Lib.hid (hin6.below (below_boxC w3 (boxX d ad6 D cap6)))
  have HE6 := Lib.hid (AtX.new w3 d ad6 D cap6)
  have HC3 := Lib.hid (HC2.out.below hb2 HC2.out.lt)
  have HP3 := Lib.hid (HP2.out.below hb2 HP2.out.lt)
  have HI3 := Lib.hid (HI2.out.below hb2)
  have HI53 := Lib.hid (HI5.out.below hb2)
  have HE53 := Lib.hid (HE5.out.below hb2 HE5.out.lt)
  have HB3 := Lib.hid (HB2.out.trans (hb2.mono HB2.out.size))
  clear hb hb2 hin6 HB2 HC2 HI2 HI5 HE5 HP2
  have hee : (er == er) = true := by simp
  go_wp2_with fail
  generalize World.alloc w3 _ = X3 at HI6 HE6 HC3 HP3 HI3 HI53 HE53 HB3 ⊢
  have HBX := Lib.hid (Below.refl X3.heap.size X3).drew
  refine wp_region_noPanic ?_
  refine wp_region_held_drew (S := fun X => Below X3.heap.size X3 X) (by kernel_rfl) (HBX.out) (fun hS0 => ?_)
  refine held_take (i := 0) (v := ?_) rfl (by kernel_rfl) (by kernel_rfl) (by kernel_rfl) (fun _ _ _ h => h) (by rfl) ?_ (by assumption) ?_
  rotate_left
  · intro X hSX
    try dsimp only at hSX
    go_simp <;> with_reducible rfl
  simp only [Act.put, List.setIfInBounds_toArray, List.set_cons_zero, List.set_cons_succ]
  refine held_take (i := 1) (v := ?_) rfl (by kernel_rfl) (by kernel_rfl) (by kernel_rfl) (fun _ _ _ h => h) (by rfl) ?_ (by assumption) ?_
  rotate_left
  · intro X hSX
    try dsimp only at hSX
    go_simp <;> with_reducible rfl
  simp only [Act.put, List.setIfInBounds_toArray, List.set_cons_zero, List.set_cons_succ]
  refine held_take (i := 2) (v := ?_) rfl (by kernel_rfl) (by kernel_rfl) (by kernel_rfl) (fun _ _ _ h => h) (by rfl) ?_ (by assumption) ?_
  rotate_left
  · intro X hSX
    try dsimp only at hSX
    go_simp <;> with_reducible rfl
  simp only [Act.put, List.setIfInBounds_toArray, List.set_cons_zero, List.set_cons_succ]
  refine held_take (i := 3) (v := ?_) rfl (by kernel_rfl) (by kernel_rfl) (by kernel_rfl) (fun _ _ _ h => h) (by rfl) ?_ (by assumption) ?_
  rotate_left
  · intro X hSX
    try dsimp only at hSX
    go_simp <;> with_reducible rfl
  simp only [Act.put, List.setIfInBounds_toArray, List.set_cons_zero, List.set_cons_succ]
  refine held_take (i := 4) (v := ?_) rfl (by kernel_rfl) (by kernel_rfl) (by kernel_rfl) (fun _ _ _ h => h) (by rfl) ?_ (by assumption) ?_
  rotate_left
  · intro X hSX
    try dsimp only at hSX
    obtain ⟨_, k0, k1, k2, k3, k4, k5, k6, k7, k8, k9, k10, k11, k12⟩ := HE53.out.below hSX HE53.out.lt
    go_simp <;> with_reducible rfl
  simp only [Act.put, List.setIfInBounds_toArray, List.set_cons_zero, List.set_cons_succ]
  refine held_take (i := 5) (v := ?_) rfl (by kernel_rfl) (by kernel_rfl) (by kernel_rfl) (fun _ _ _ h => h) (by rfl) ?_ (by assumption) ?_
  rotate_left
  · intro X hSX
    try dsimp only at hSX
    obtain ⟨_, k0, k1, k2, k3, k4, k5, k6, k7, k8, k9, k10, k11, k12⟩ := HE6.out.below hSX HE6.out.lt
    go_simp <;> with_reducible rfl
  simp only [Act.put, List.setIfInBounds_toArray, List.set_cons_zero, List.set_cons_succ]
  refine held_call (i := 6) rfl (by kernel_rfl) (by rfl) (fun K' hK' => ?_)
  go_simp
  refine (same_m HD.out _ (HI53.out.below HBX.out) (HI6.out.below HBX.out) HD0.out).mono ?_
  rintro e w4 ⟨rfl, hb⟩
  replace HBX := Lib.hid (HBX.out.trans (hb.mono HBX.out.size))
  have hS1 := HBX.out
  clear hb
  refine held_go hK' (HBX.out) ?_
  try simp only [Act.put, List.setIfInBounds_toArray, List.set_cons_zero, List.set_cons_succ]
  refine held_take (i := 7) (v := ?_) rfl (by kernel_rfl) (by kernel_rfl) (by kernel_rfl) (fun _ _ _ h => h) (by rfl) ?_ (by assumption) ?_
  rotate_left
  · intro X hSX
    try dsimp only at hSX
    go_simp <;> with_reducible rfl
  simp only [Act.put, List.setIfInBounds_toArray, List.set_cons_zero, List.set_cons_succ]
  refine held_take (i := 8) (v := ?_) rfl (by kernel_rfl) (by kernel_rfl) (by kernel_rfl) (fun _ _ _ h => h) (by rfl) ?_ (by assumption) ?_
  rotate_left
  · intro X hSX
    try dsimp only at hSX
    go_simp <;> with_reducible rfl
  simp only [Act.put, List.setIfInBounds_toArray, List.set_cons_zero, List.set_cons_succ]
  refine held_take (i := 9) (v := ?_) rfl (by kernel_rfl) (by kernel_rfl) (by kernel_rfl) (fun _ _ _ h => h) (by rfl) ?_ (by assumption) ?_
  rotate_left
  · intro X hSX
    try dsimp only at hSX
    obtain ⟨_, k0, k1, k2, k3, k4, k5, k6, k7, k8, k9, k10, k11, k12⟩ := HC3.out.below hSX HC3.out.lt
    go_simp <;> with_reducible rfl
  simp only [Act.put, List.setIfInBounds_toArray, List.set_cons_zero, List.set_cons_succ]
  refine held_take (i := 12) (v := ?_) rfl (by kernel_rfl) (by kernel_rfl) (by kernel_rfl) (fun _ _ _ h => h) (by rfl) ?_ (by assumption) ?_
  rotate_left
  · intro X hSX
    try dsimp only at hSX
    obtain ⟨_, k0, k1, k2, k3, k4, k5, k6, k7, k8, k9, k10, k11, k12⟩ := HC3.out.below hSX HC3.out.lt
    go_simp <;> with_reducible rfl
  simp only [Act.put, List.setIfInBounds_toArray, List.set_cons_zero, List.set_cons_succ]
  refine held_take (i := 10) (v := ?_) rfl (by kernel_rfl) (by kernel_rfl) (by kernel_rfl) (fun _ _ _ h => h) (by rfl) ?_ (by assumption) ?_
  rotate_left
  · intro X hSX
    try dsimp only at hSX
    obtain ⟨_, p0, p1⟩ := HP3.out.below hSX HP3.out.lt
    go_simp <;> with_reducible rfl
  simp only [Act.put, List.setIfInBounds_toArray, List.set_cons_zero, List.set_cons_succ]
  refine held_take (i := 13) (v := ?_) rfl (by kernel_rfl) (by kernel_rfl) (by kernel_rfl) (fun _ _ _ h => h) (by rfl) ?_ (by assumption) ?_
  rotate_left
  · intro X hSX
    try dsimp only at hSX
    obtain ⟨_, p0, p1⟩ := HP3.out.below hSX HP3.out.lt
    go_simp <;> with_reducible rfl
  simp only [Act.put, List.setIfInBounds_toArray, List.set_cons_zero, List.set_cons_succ]
  refine held_call (i := 11) rfl (by kernel_rfl) (by rfl) (fun K' hK' => ?_)
  go_simp
  refine (damage_m HM.out _ (HI3.out.below HBX.out) HD2.out f0 f1 n0 n1 HRES2.out).mono ?_
  rintro e w5 ⟨ad7, cap7, rfl, hin7, hb⟩
  replace HBX := Lib.hid (HBX.out.trans (hb.mono HBX.out.size))
  have HI7 := Lib.hid hin7
  have hS2 := HBX.out
  clear hb hin7
  refine held_go hK' (HBX.out) ?_
  try simp only [Act.put, List.setIfInBounds_toArray, List.set_cons_zero, List.set_cons_succ]
  refine held_call (i := 14) rfl (by kernel_rfl) (by rfl) (fun K' hK' => ?_)
  go_simp
  refine (rdamage_m HM.out _ (HI3.out.below HBX.out) HD2.out f0 f1 n0 n1 HRES2.out).mono ?_
  rintro e w6 ⟨ad8, cap8, rfl, hin8, hb⟩
  replace HBX := Lib.hid (HBX.out.trans (hb.mono HBX.out.size))
  replace HI7 := Lib.hid (HI7.out.below hb)
  have HI8 := Lib.hid hin8
  have hS3 := HBX.out
  clear hb hin8
  refine held_go hK' (HBX.out) ?_
  try simp only [Act.put, List.setIfInBounds_toArray, List.set_cons_zero, List.set_cons_succ]
  refine held_call (i := 15) rfl (by kernel_rfl) (by rfl) (fun K' hK' => ?_)
  go_simp
  refine (same_m HD2.out _ HI7.out HI8.out HDS2.out).mono ?_
  rintro e w7 ⟨rfl, hb⟩
  replace HBX := Lib.hid (HBX.out.trans (hb.mono HBX.out.size))
  have hS4 := HBX.out
  clear hb
  refine held_go hK' (HBX.out) ?_
  try simp only [Act.put, List.setIfInBounds_toArray, List.set_cons_zero, List.set_cons_succ]
  refine held_take (i := 16) (v := ?_) rfl (by kernel_rfl) (by kernel_rfl) (by kernel_rfl) (fun _ _ _ h => h) (by rfl) ?_ (by assumption) ?_
  rotate_left
  · intro X hSX
    try dsimp only at hSX
    go_simp <;> with_reducible rfl
  simp only [Act.put, List.setIfInBounds_toArray, List.set_cons_zero, List.set_cons_succ]
  refine held_take (i := 17) (v := ?_) rfl (by kernel_rfl) (by kernel_rfl) (by kernel_rfl) (fun _ _ _ h => h) (by rfl) ?_ (by assumption) ?_
  rotate_left
  · intro X hSX
    try dsimp only at hSX
    go_simp <;> with_reducible rfl
  simp only [Act.put, List.setIfInBounds_toArray, List.set_cons_zero, List.set_cons_succ]
  refine held_call (i := 18) rfl (by kernel_rfl) (by rfl) (fun K' hK' => ?_)
  go_simp
  refine (awake_any _).mono ?_
  rintro e w8 ⟨rfl, hb⟩
  replace HBX := Lib.hid (HBX.out.trans (hb.mono HBX.out.size))
  have hS5 := HBX.out
  clear hb
  refine held_go hK' (HBX.out) ?_
  try simp only [Act.put, List.setIfInBounds_toArray, List.set_cons_zero, List.set_cons_succ]
  refine held_take (i := 19) (v := ?_) rfl (by kernel_rfl) (by kernel_rfl) (by kernel_rfl) (fun _ _ _ h => h) (by rfl) ?_ (by assumption) ?_
  rotate_left
  · intro X hSX
    try dsimp only at hSX
    go_simp <;> with_reducible rfl
  simp only [Act.put, List.setIfInBounds_toArray, List.set_cons_zero, List.set_cons_succ]
  refine held_take (i := 20) (v := ?_) rfl (by kernel_rfl) (by kernel_rfl) (by kernel_rfl) (fun _ _ _ h => h) (by rfl) ?_ (by assumption) ?_
  rotate_left
  · intro X hSX
    try dsimp only at hSX
    go_simp <;> with_reducible rfl
  simp only [Act.put, List.setIfInBounds_toArray, List.set_cons_zero, List.set_cons_succ]
  refine wpAnyH_done (by kernel_rfl) ?_ _
  refine NoPanic.normal ?_
  go_wp2
  go_ret
  exact ⟨rfl, HB3.out.trans (HBX.out.mono HB3.out.size)⟩
end Go.Proofs.Ytlbnjojafaieoaa
