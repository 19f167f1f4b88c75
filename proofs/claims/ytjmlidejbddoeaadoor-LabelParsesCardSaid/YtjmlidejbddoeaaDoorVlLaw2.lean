/-
  The statement LabelParses, over the contracts of the package.
-/
import Derived.Test.YtjmlidejbddoeaaDoorLP
namespace Go.Proofs.YtjmlidejbddoeaaDoor
open Go.RowKit
set_option linter.unusedVariables false
set_option linter.unusedSimpArgs false
attribute [local irreducible] blkT parT blkR divB bytB fldT vldT nam bar feB
set_option maxRecDepth 100000 in
set_option maxHeartbeats 4000000 in
theorem law_lparses (H : LbSide) (ad : Option Addr) (n cap : Nat) (l : List Blk) (w : World) (hl : Ki w ad l) (hn : n = l.length) (hc : n ≤ cap) (hcm : cap ≤ maxLen) (ha : ad = none → cap = 0) (hm : Lmg w) :
    Calls Tryd.prog 4 #[.slice ad n cap] w fun e w' => e = .returned (.bool true) ∧ Below w.heap.size w w' := by
  have HS := Lib.hid H
  have HM0 := Lib.hid hm
  have HN := Lib.hid hn
  have HC := Lib.hid hc
  have HCM := Lib.hid hcm
  have HA := Lib.hid ha
  have HL := Lib.hid hl
  have HFE := Lib.hid (@feB_iff l)
  clear H hl hn hc hcm ha hm
  go_enter Tryd.func4, Tryd.ntmps4
  go_wp2_with fail
  refine (livesl_any HS.out _ HM0.out).mono ?_
  rintro e X1 ⟨rfl, hb1⟩
  have HM1 := Lib.hid (HM0.out.step hb1)
  have HB1 := Lib.hid hb1
  have HL1 := Lib.hid (HL.out.below hb1)
  clear hb1 HM0 HL
  go_wp2_with fail
  refine (fewl_any ad n cap l _ HL1.out HN.out).mono ?_
  rintro e X2 ⟨rfl, hb2⟩
  have HM2 := Lib.hid (HM1.out.step hb2)
  have HB2 := Lib.hid (HB1.out.trans (hb2.mono HB1.out.size))
  have HL2 := Lib.hid (HL1.out.below hb2)
  clear hb2 HM1 HB1 HL1
  generalize feB l = F at *
  cases F
  · go_wp2
    go_ret
    exact ⟨rfl, HB2.out⟩
  have HLN := Lib.hid (HFE.out.1 rfl).1
  have HLD := Lib.hid (HFE.out.1 rfl).2
  clear HFE
  go_wp2_with fail
  refine (HS.out.parse ad n cap l _ HL2.out HN.out HC.out HCM.out HA.out (by have := HN.out; have := HLN.out; omega) (fun b hb => by have := HLD.out b hb; omega) HM2.out).mono ?_
  rintro e X3 ⟨rfl, hb3⟩
  generalize hr : parT l = r at *
  have HR := Lib.hid hr
  clear hr
  have HX4 := Lib.hid (LbRow.new X3 r.1)
  have HZ4 := Lib.hid (show X3.heap.size < (X3.alloc (boxL r.1)).heap.size by simp)
  have HL4 := Lib.hid ((HL2.out.below hb3).below (vl_box1 X3 (boxL r.1)))
  have HB4 := Lib.hid ((HB2.out.trans (hb3.mono HB2.out.size)).alloc ((HB2.out.trans (hb3.mono HB2.out.size)).size) (boxL r.1))
  clear hb3 HL2 HB2 HM2
  go_wp2_with fail
  generalize World.alloc X3 _ = X4 at *
  generalize X3.heap.size = g4 at *
  refine (rparse_any ad n cap l _ HL4.out HN.out HC.out HCM.out HA.out (by have := HN.out; have := HLN.out; omega) (fun b hb => by have := HLD.out b hb; omega)).mono ?_
  rintro e X5 ⟨rfl, hb5⟩
  rw [HR.out]
  have HX6 := Lib.hid ((HX4.out.below hb5 HZ4.out).below (vl_box1 X5 (boxL r.1)) (Nat.lt_of_lt_of_le HZ4.out hb5.size))
  have HY6 := Lib.hid (LbRow.new X5 r.1)
  have HL6 := Lib.hid ((HL4.out.below hb5).below (vl_box1 X5 (boxL r.1)))
  have HB6 := Lib.hid ((HB4.out.trans (hb5.mono HB4.out.size)).alloc ((HB4.out.trans (hb5.mono HB4.out.size)).size) (boxL r.1))
  clear hb5 HX4 HL4 HB4 HZ4
  go_wp2_with fail
  clear HR
  generalize World.alloc X5 _ = X6 at *
  generalize X5.heap.size = g6 at *
  have HBX := Lib.hid (Below.refl X6.heap.size X6).drew
  have kb : (r.1.bc.toList == r.1.bc.toList) = true := by simp
  have kp : (r.1.pl.toList == r.1.pl.toList) = true := by simp
  have ke : (r.1.ep == r.1.ep) = true := by simp
  have kc : (r.1.cr == r.1.cr) = true := by simp
  have kn : (r.2.1 == r.2.1) = true := by simp
  have kf : (r.2.2 == r.2.2) = true := by simp
  refine wp_region_noPanic ?_
  refine wp_region_held_drew (S := fun X => Below X6.heap.size X6 X) (by kernel_rfl) (HBX.out) (fun hS0 => ?_)
  refine held_take (i := 0) (v := ?_) rfl (by kernel_rfl) (by kernel_rfl) (by kernel_rfl) (fun _ _ _ h => h) (by rfl) ?_ (by assumption) ?_
  rotate_left
  · intro X hSX
    try dsimp only at hSX
    obtain ⟨-, c0, c1, c2, c3⟩ := (HX6.out.below hSX HX6.out.at_.lt).at_
    go_simp <;> with_reducible rfl
  simp only [Act.put, List.setIfInBounds_toArray, List.set_cons_zero, List.set_cons_succ]
  refine held_take (i := 1) (v := ?_) rfl (by kernel_rfl) (by kernel_rfl) (by kernel_rfl) (fun _ _ _ h => h) (by rfl) ?_ (by assumption) ?_
  rotate_left
  · intro X hSX
    try dsimp only at hSX
    obtain ⟨-, c0, c1, c2, c3⟩ := (HY6.out.below hSX HY6.out.at_.lt).at_
    go_simp <;> with_reducible rfl
  simp only [Act.put, List.setIfInBounds_toArray, List.set_cons_zero, List.set_cons_succ]
  refine held_take (i := 2) (v := ?_) rfl (by kernel_rfl) (by kernel_rfl) (by kernel_rfl) (fun _ _ _ h => h) (by rfl) ?_ (by assumption) ?_
  rotate_left
  · intro X hSX
    try dsimp only at hSX
    go_simp <;> with_reducible rfl
  simp only [Act.put, List.setIfInBounds_toArray, List.set_cons_zero, List.set_cons_succ]
  refine held_take (i := 3) (v := ?_) rfl (by kernel_rfl) (by kernel_rfl) (by kernel_rfl) (fun _ _ _ h => h) (by rfl) ?_ (by assumption) ?_
  rotate_left
  · intro X hSX
    try dsimp only at hSX
    go_simp <;> with_reducible rfl
  simp only [Act.put, List.setIfInBounds_toArray, List.set_cons_zero, List.set_cons_succ]
  refine held_take (i := 4) (v := ?_) rfl (by kernel_rfl) (by kernel_rfl) (by kernel_rfl) (fun _ _ _ h => h) (by rfl) ?_ (by assumption) ?_
  rotate_left
  · intro X hSX
    try dsimp only at hSX
    go_simp <;> with_reducible rfl
  simp only [Act.put, List.setIfInBounds_toArray, List.set_cons_zero, List.set_cons_succ]
  refine held_take (i := 5) (v := ?_) rfl (by kernel_rfl) (by kernel_rfl) (by kernel_rfl) (fun _ _ _ h => h) (by rfl) ?_ (by assumption) ?_
  rotate_left
  · intro X hSX
    try dsimp only at hSX
    go_simp <;> with_reducible rfl
  simp only [Act.put, List.setIfInBounds_toArray, List.set_cons_zero, List.set_cons_succ]
  refine held_take (i := 6) (v := ?_) rfl (by kernel_rfl) (by kernel_rfl) (by kernel_rfl) (fun _ _ _ h => h) (by rfl) ?_ (by assumption) ?_
  rotate_left
  · intro X hSX
    try dsimp only at hSX
    go_simp <;> with_reducible rfl
  simp only [Act.put, List.setIfInBounds_toArray, List.set_cons_zero, List.set_cons_succ]
  refine held_take (i := 7) (v := ?_) rfl (by kernel_rfl) (by kernel_rfl) (by kernel_rfl) (fun _ _ _ h => h) (by rfl) ?_ (by assumption) ?_
  rotate_left
  · intro X hSX
    try dsimp only at hSX
    go_simp <;> with_reducible rfl
  simp only [Act.put, List.setIfInBounds_toArray, List.set_cons_zero, List.set_cons_succ]
  refine held_take (i := 8) (v := ?_) rfl (by kernel_rfl) (by kernel_rfl) (by kernel_rfl) (fun _ _ _ h => h) (by rfl) ?_ (by assumption) ?_
  rotate_left
  · intro X hSX
    try dsimp only at hSX
    go_simp <;> with_reducible rfl
  simp only [Act.put, List.setIfInBounds_toArray, List.set_cons_zero, List.set_cons_succ]
  refine held_take (i := 9) (v := ?_) rfl (by kernel_rfl) (by kernel_rfl) (by kernel_rfl) (fun _ _ _ h => h) (by rfl) ?_ (by assumption) ?_
  rotate_left
  · intro X hSX
    try dsimp only at hSX
    go_simp <;> with_reducible rfl
  simp only [Act.put, List.setIfInBounds_toArray, List.set_cons_zero, List.set_cons_succ]
  refine held_take (i := 10) (v := ?_) rfl (by kernel_rfl) (by kernel_rfl) (by kernel_rfl) (fun _ _ _ h => h) (by rfl) ?_ (by assumption) ?_
  rotate_left
  · intro X hSX
    try dsimp only at hSX
    go_simp <;> with_reducible rfl
  simp only [Act.put, List.setIfInBounds_toArray, List.set_cons_zero, List.set_cons_succ]
  refine held_take (i := 11) (v := ?_) rfl (by kernel_rfl) (by kernel_rfl) (by kernel_rfl) (fun _ _ _ h => h) (by rfl) ?_ (by assumption) ?_
  rotate_left
  · intro X hSX
    try dsimp only at hSX
    go_simp <;> with_reducible rfl
  simp only [Act.put, List.setIfInBounds_toArray, List.set_cons_zero, List.set_cons_succ]
  refine held_take (i := 12) (v := ?_) rfl (by kernel_rfl) (by kernel_rfl) (by kernel_rfl) (fun _ _ _ h => h) (by rfl) ?_ (by assumption) ?_
  rotate_left
  · intro X hSX
    try dsimp only at hSX
    go_simp <;> with_reducible rfl
  simp only [Act.put, List.setIfInBounds_toArray, List.set_cons_zero, List.set_cons_succ]
  refine held_take (i := 13) (v := ?_) rfl (by kernel_rfl) (by kernel_rfl) (by kernel_rfl) (fun _ _ _ h => h) (by rfl) ?_ (by assumption) ?_
  rotate_left
  · intro X hSX
    try dsimp only at hSX
    go_simp <;> with_reducible rfl
  simp only [Act.put, List.setIfInBounds_toArray, List.set_cons_zero, List.set_cons_succ]
  refine held_take (i := 14) (v := ?_) rfl (by kernel_rfl) (by kernel_rfl) (by kernel_rfl) (fun _ _ _ h => h) (by rfl) ?_ (by assumption) ?_
  rotate_left
  · intro X hSX
    try dsimp only at hSX
    go_simp <;> with_reducible rfl
  simp only [Act.put, List.setIfInBounds_toArray, List.set_cons_zero, List.set_cons_succ]
  refine held_take (i := 17) (v := ?_) rfl (by kernel_rfl) (by kernel_rfl) (by kernel_rfl) (fun _ _ _ h => h) (by rfl) ?_ (by assumption) ?_
  rotate_left
  · intro X hSX
    try dsimp only at hSX
    go_simp <;> with_reducible rfl
  simp only [Act.put, List.setIfInBounds_toArray, List.set_cons_zero, List.set_cons_succ]
  refine held_call (i := 15) rfl (by kernel_rfl) (by rfl) (fun K' hK' => ?_)
  go_simp
  refine (HS.out.bytes ad n cap l _ (HL6.out.below HBX.out) HN.out HC.out HCM.out HA.out (by have := HN.out; have := HLN.out; omega) (fun b hb => by have := HLD.out b hb; omega)).mono ?_
  rintro e X7 ⟨v7, rfl, ho7, hb7⟩
  obtain ⟨ad7, cap7, rfl, hl7, -⟩ := ho7.slice
  have HL7 := Lib.hid hl7
  have hS7 : Below X6.heap.size X6 X7 := HBX.out.trans (hb7.mono (Nat.le_refl _))
  clear ho7 hl7
  refine held_go hK' (hS7) ?_
  try simp only [Act.put, List.setIfInBounds_toArray, List.set_cons_zero, List.set_cons_succ]
  refine held_imp (S' := fun X => Below X7.heap.size X7 X) (fun X h => hS7.trans (h.mono hS7.size)) _ _ _ _ ?_
  have hS7' : Below X7.heap.size X7 X7 := Below.refl _ _
  clear hS0
  refine held_take (i := 16) (v := ?_) rfl (by kernel_rfl) (by kernel_rfl) (by kernel_rfl) (fun _ _ _ h => h) (by rfl) ?_ (by assumption) ?_
  rotate_left
  · intro X hSX
    try dsimp only at hSX
    have hcv := conv_lie cap7 (HL7.out.below hSX rfl)
    go_simp <;> with_reducible rfl
  simp only [Act.put, List.setIfInBounds_toArray, List.set_cons_zero, List.set_cons_succ]
  refine held_call (i := 18) rfl (by kernel_rfl) (by rfl) (fun K' hK' => ?_)
  go_simp
  refine (rbytes_any ad n cap l _ (HL6.out.below hS7) HN.out (by have := HN.out; have := HLN.out; omega) (fun b hb => by have := HLD.out b hb; omega)).mono ?_
  rintro e X8 ⟨v8, rfl, ho8, hb8⟩
  obtain ⟨ad8, cap8, rfl, hl8, -⟩ := ho8.slice
  have HL8 := Lib.hid hl8
  have hS8 : Below X7.heap.size X7 X8 := hb8
  clear ho8 hl8
  refine held_go hK' (hS8) ?_
  try simp only [Act.put, List.setIfInBounds_toArray, List.set_cons_zero, List.set_cons_succ]
  refine held_imp (S' := fun X => Below X8.heap.size X8 X) (fun X h => hS8.trans (h.mono hS8.size)) _ _ _ _ ?_
  have hS8' : Below X8.heap.size X8 X8 := Below.refl _ _
  refine held_take (i := 19) (v := ?_) rfl (by kernel_rfl) (by kernel_rfl) (by kernel_rfl) (fun _ _ _ h => h) (by rfl) ?_ (by assumption) ?_
  rotate_left
  · intro X hSX
    try dsimp only at hSX
    have hcv := conv_lie cap8 (HL8.out.below hSX rfl)
    go_simp <;> with_reducible rfl
  simp only [Act.put, List.setIfInBounds_toArray, List.set_cons_zero, List.set_cons_succ]
  have kt : ∀ S : ByteArray, (S.toList == S.toList) = true := fun S => by simp
  generalize (⟨(bytB l).toArray⟩ : ByteArray) = T at *
  have kT := kt T
  clear kt
  refine held_take (i := 20) (v := ?_) rfl (by kernel_rfl) (by kernel_rfl) (by kernel_rfl) (fun _ _ _ h => h) (by rfl) ?_ (by assumption) ?_
  rotate_left
  · intro X hSX
    try dsimp only at hSX
    go_simp <;> with_reducible rfl
  simp only [Act.put, List.setIfInBounds_toArray, List.set_cons_zero, List.set_cons_succ]
  refine held_take (i := 21) (v := ?_) rfl (by kernel_rfl) (by kernel_rfl) (by kernel_rfl) (fun _ _ _ h => h) (by rfl) ?_ (by assumption) ?_
  rotate_left
  · intro X hSX
    try dsimp only at hSX
    go_simp <;> with_reducible rfl
  simp only [Act.put, List.setIfInBounds_toArray, List.set_cons_zero, List.set_cons_succ]
  refine held_take (i := 22) (v := ?_) rfl (by kernel_rfl) (by kernel_rfl) (by kernel_rfl) (fun _ _ _ h => h) (by rfl) ?_ (by assumption) ?_
  rotate_left
  · intro X hSX
    try dsimp only at hSX
    go_simp <;> with_reducible rfl
  simp only [Act.put, List.setIfInBounds_toArray, List.set_cons_zero, List.set_cons_succ]
  refine wpAnyH_done (by kernel_rfl) ?_ _
  refine NoPanic.normal ?_
  have HB9 := Lib.hid (HB6.out.trans ((hS7.trans (hS8.mono hS7.size)).mono HB6.out.size))
  clear HBX hS7 hS8 hS7' hS8' hb7 hb8
  go_wp2
  go_ret
  exact ⟨rfl, HB9.out⟩
end Go.Proofs.YtjmlidejbddoeaaDoor
