/-
  The statements LabelBlocks and LabelParses, over the contracts of the package.
-/
import Derived.Test.YtjmlidejbddoeaaDoorLP
namespace Go.Proofs.YtjmlidejbddoeaaDoor
open Go.RowKit
set_option linter.unusedVariables false
set_option linter.unusedSimpArgs false
attribute [local irreducible] blkT parT blkR divB bytB fldT vldT nam bar
theorem eqK_refl (l : List Blk) : eqK l l = true := eqK_yes rfl
theorem blkR_len (x : Lbl) : (blkR x).1.length ≤ 100 := by
  cases h : vldT x
  · rw [blkR_no h]; simp
  · rw [blkR_yes h]
    have := bodyT_len h
    simp only [List.length_append, List.length_cons, List.length_nil, divB_length, frm_length]
    unfold cntB
    omega
set_option maxRecDepth 100000 in
set_option maxHeartbeats 4000000 in
theorem law_lblocks (H : LbSide) (x : Lbl) (s : ByteArray) (w : World) (hx : x.Fit) (hs : s.size ≤ maxLen) (hm : Lmg w) :
    Calls Tryd.prog 3 #[lbV x, .string s] w fun e w' => e = .returned (.bool true) ∧ Below w.heap.size w w' := by
  have HS := Lib.hid H
  have HM0 := Lib.hid (hm.step (vl_box1 w (boxL x)))
  have HB0 := Lib.hid (vl_box1 w (boxL x))
  have HX0 := Lib.hid (LbAt.new w x 23)
  have HF := Lib.hid hx
  have HSS := Lib.hid hs
  obtain ⟨N, hN⟩ : ∃ N, N = s.size := ⟨_, rfl⟩
  obtain ⟨A, hA⟩ : ∃ A, A = x.bc.size := ⟨_, rfl⟩
  obtain ⟨B, hB⟩ : ∃ B, B = x.pl.size := ⟨_, rfl⟩
  have hNm : N ≤ 9223372036854775807 := by rw [hN]; exact hs
  have hAm : A ≤ 9223372036854775807 := by rw [hA]; exact hx.b
  have hBm : B ≤ 9223372036854775807 := by rw [hB]; exact hx.p
  have hzN : ((s.size : Nat) : Int) = (N : Int) := by omega
  have hzA : ((x.bc.size : Nat) : Int) = (A : Int) := by omega
  have hzB : ((x.pl.size : Nat) : Int) = (B : Int) := by omega
  have HZ := Lib.hid (show ((s.size : Nat) : Int) = (N : Int) ∧ ((x.bc.size : Nat) : Int) = (A : Int) ∧ ((x.pl.size : Nat) : Int) = (B : Int) from ⟨hzN, hzA, hzB⟩)
  clear H hx hs hm hN hA hB hzN hzA hzB
  go_enter Tryd.func3, Tryd.ntmps3
  go_wp2_with fail
  generalize World.alloc w _ = X0 at *
  refine (livesl_any HS.out _ HM0.out).mono ?_
  rintro e X1 ⟨rfl, hb⟩
  have HM1 := Lib.hid (HM0.out.step hb)
  have HX1 := Lib.hid (HX0.out.below hb HX0.out.lt)
  have HB1 := Lib.hid (HB0.out.trans (hb.mono (Nat.le_of_lt HX0.out.lt)))
  clear hb HM0 HX0 HB0
  obtain ⟨-, c0, c1, c2, c3⟩ := HX1.out
  obtain ⟨hzN, hzA, hzB⟩ := HZ.out
  by_cases g1 : 1024 < N
  · go_wp2
    go_ret
    exact ⟨rfl, HB1.out⟩
  obtain ⟨S, hS⟩ : ∃ S, IntKind.i64.wrap ((A : Int) + (B : Int)) = S := ⟨_, rfl⟩
  by_cases g2 : 1024 < S
  · go_wp2
    go_ret
    exact ⟨rfl, HB1.out⟩
  have HL := Lib.hid (blkR_len x)
  clear c0 c1 c2 c3
  obtain ⟨-, c0, c1, c2, c3⟩ := HX1.out
  go_wp2_with fail
  refine (HS.out.blocks x _ HF.out HM1.out).mono ?_
  rintro e X2 ⟨v2, rfl, hk2, hb2⟩
  obtain ⟨ad2, cap2, rfl, hx2, hc2, hm2, ha2, -⟩ := hk2.read
  have HK2 := Lib.hid hx2.ki
  have HX2 := Lib.hid (HX1.out.below hb2 HX1.out.lt)
  have HB2 := Lib.hid (HB1.out.trans (hb2.mono (Nat.le_of_lt HX1.out.lt)))
  have HM2 := Lib.hid (HM1.out.step hb2)
  clear hk2 hx2 hb2 HX1 HB1 HM1 c0 c1 c2 c3 hzN hzA hzB hS g1 g2 hc2 hm2 ha2
  obtain ⟨-, c0, c1, c2, c3⟩ := HX2.out
  go_wp2_with fail
  refine (rblocksT_any x _ HF.out).mono ?_
  rintro e X3 ⟨v3, rfl, hk3, hb3⟩
  obtain ⟨ad3, cap3, rfl, hx3, hc3, hm3, ha3, -⟩ := hk3.read
  have HK3 := Lib.hid (HK2.out.below hb3)
  have HW3 := Lib.hid hx3.ki
  have HX3 := Lib.hid (HX2.out.below hb3 HX2.out.lt)
  have HB3 := Lib.hid (HB2.out.trans (hb3.mono (Nat.le_of_lt HX2.out.lt)))
  have HM3 := Lib.hid (HM2.out.step hb3)
  clear hk3 hx3 hb3 HX2 HB2 HK2 HM2 c0 c1 c2 c3 hc3 hm3 ha3
  generalize (blkR x).1 = R at *
  generalize (blkR x).2 = E at *
  generalize hM : R.length = M at *
  have HM := Lib.hid hM
  clear hM
  have kE : (E == E) = true := by simp
  go_wp2_with fail
  have HBX := Lib.hid (Below.refl X3.heap.size X3).drew
  have HSZ := Lib.hid (Nat.le_of_lt HX3.out.lt)
  refine wp_region_noPanic ?_
  refine wp_region_held_drew (S := fun X => Below X3.heap.size X3 X) (by kernel_rfl) (HBX.out) (fun hS0 => ?_)
  refine held_take (i := 0) (v := ?_) rfl (by kernel_rfl) (by kernel_rfl) (by kernel_rfl) (fun _ _ _ h => h) (by rfl) ?_ (by assumption) ?_
  rotate_left
  · intro X hSX
    try dsimp only at hSX
    go_simp <;> with_reducible rfl
  simp only [Act.put, List.setIfInBounds_toArray, List.set_cons_zero, List.set_cons_succ]
  refine held_take (i := 1) (v := ?_) rfl (by kernel_rfl) (by kernel_rfl) (by kernel_rfl) (fun _ _ _ h => h) (by rfl) ?_ (by assumption) ?_
  rotate_left
  · intro X hSX
    try dsimp only at hSX
    go_simp <;> with_reducible rfl
  simp only [Act.put, List.setIfInBounds_toArray, List.set_cons_zero, List.set_cons_succ]
  refine held_take (i := 2) (v := ?_) rfl (by kernel_rfl) (by kernel_rfl) (by kernel_rfl) (fun _ _ _ h => h) (by rfl) ?_ (by assumption) ?_
  rotate_left
  · intro X hSX
    try dsimp only at hSX
    go_simp <;> with_reducible rfl
  simp only [Act.put, List.setIfInBounds_toArray, List.set_cons_zero, List.set_cons_succ]
  refine held_take (i := 3) (v := ?_) rfl (by kernel_rfl) (by kernel_rfl) (by kernel_rfl) (fun _ _ _ h => h) (by rfl) ?_ (by assumption) ?_
  rotate_left
  · intro X hSX
    try dsimp only at hSX
    go_simp <;> with_reducible rfl
  simp only [Act.put, List.setIfInBounds_toArray, List.set_cons_zero, List.set_cons_succ]
  refine held_take (i := 4) (v := ?_) rfl (by kernel_rfl) (by kernel_rfl) (by kernel_rfl) (fun _ _ _ h => h) (by rfl) ?_ (by assumption) ?_
  rotate_left
  · intro X hSX
    try dsimp only at hSX
    go_simp <;> with_reducible rfl
  simp only [Act.put, List.setIfInBounds_toArray, List.set_cons_zero, List.set_cons_succ]
  refine held_take (i := 5) (v := ?_) rfl (by kernel_rfl) (by kernel_rfl) (by kernel_rfl) (fun _ _ _ h => h) (by rfl) ?_ (by assumption) ?_
  rotate_left
  · intro X hSX
    try dsimp only at hSX
    go_simp <;> with_reducible rfl
  simp only [Act.put, List.setIfInBounds_toArray, List.set_cons_zero, List.set_cons_succ]
  refine held_call (i := 6) rfl (by kernel_rfl) (by rfl) (fun K' hK' => ?_)
  go_simp
  refine (rsamel_any _ _ _ _ _ _ R R _ (HK3.out.below HBX.out) (HW3.out.below HBX.out) HM.out.symm HM.out.symm (by have := HL.out; omega)).mono ?_
  rintro e X4 ⟨rfl, hb4⟩
  rw [eqK_refl]
  have hS4 : Below X3.heap.size X3 X4 := HBX.out.trans (hb4.mono (Nat.le_refl _))
  refine held_go hK' (hS4) ?_
  try simp only [Act.put, List.setIfInBounds_toArray, List.set_cons_zero, List.set_cons_succ]
  refine held_take (i := 7) (v := ?_) rfl (by kernel_rfl) (by kernel_rfl) (by kernel_rfl) (fun _ _ _ h => h) (by rfl) ?_ (by assumption) ?_
  rotate_left
  · intro X hSX
    try dsimp only at hSX
    go_simp <;> with_reducible rfl
  simp only [Act.put, List.setIfInBounds_toArray, List.set_cons_zero, List.set_cons_succ]
  refine held_take (i := 8) (v := ?_) rfl (by kernel_rfl) (by kernel_rfl) (by kernel_rfl) (fun _ _ _ h => h) (by rfl) ?_ (by assumption) ?_
  rotate_left
  · intro X hSX
    try dsimp only at hSX
    go_simp <;> with_reducible rfl
  simp only [Act.put, List.setIfInBounds_toArray, List.set_cons_zero, List.set_cons_succ]
  refine held_take (i := 9) (v := ?_) rfl (by kernel_rfl) (by kernel_rfl) (by kernel_rfl) (fun _ _ _ h => h) (by rfl) ?_ (by assumption) ?_
  rotate_left
  · intro X hSX
    try dsimp only at hSX
    obtain ⟨-, c0, c1, c2, c3⟩ := HX3.out.below hSX HX3.out.lt
    go_simp <;> with_reducible rfl
  simp only [Act.put, List.setIfInBounds_toArray, List.set_cons_zero, List.set_cons_succ]
  refine held_take (i := 11) (v := ?_) rfl (by kernel_rfl) (by kernel_rfl) (by kernel_rfl) (fun _ _ _ h => h) (by rfl) ?_ (by assumption) ?_
  rotate_left
  · intro X hSX
    try dsimp only at hSX
    obtain ⟨-, c0, c1, c2, c3⟩ := HX3.out.below hSX HX3.out.lt
    go_simp <;> with_reducible rfl
  simp only [Act.put, List.setIfInBounds_toArray, List.set_cons_zero, List.set_cons_succ]
  refine held_call (i := 10) rfl (by kernel_rfl) (by rfl) (fun K' hK' => ?_)
  go_simp
  refine (HS.out.valid x _ HF.out (HM3.out.step hS4)).mono ?_
  rintro e X5 ⟨rfl, hb5⟩
  have hS5 : Below X3.heap.size X3 X5 := hS4.trans (hb5.mono hS4.size)
  refine held_go hK' (hS5) ?_
  try simp only [Act.put, List.setIfInBounds_toArray, List.set_cons_zero, List.set_cons_succ]
  refine held_call (i := 12) rfl (by kernel_rfl) (by rfl) (fun K' hK' => ?_)
  go_simp
  refine (rvldT_any x _ HF.out).mono ?_
  rintro e X6 ⟨rfl, hb6⟩
  have hS6 : Below X3.heap.size X3 X6 := hS5.trans (hb6.mono hS5.size)
  refine held_go hK' (hS6) ?_
  try simp only [Act.put, List.setIfInBounds_toArray, List.set_cons_zero, List.set_cons_succ]
  have kV : (vldT x == vldT x) = true := by simp
  refine held_take (i := 13) (v := ?_) rfl (by kernel_rfl) (by kernel_rfl) (by kernel_rfl) (fun _ _ _ h => h) (by rfl) ?_ (by assumption) ?_
  rotate_left
  · intro X hSX
    try dsimp only at hSX
    go_simp <;> with_reducible rfl
  simp only [Act.put, List.setIfInBounds_toArray, List.set_cons_zero, List.set_cons_succ]
  refine held_take (i := 14) (v := ?_) rfl (by kernel_rfl) (by kernel_rfl) (by kernel_rfl) (fun _ _ _ h => h) (by rfl) ?_ (by assumption) ?_
  rotate_left
  · intro X hSX
    try dsimp only at hSX
    go_simp <;> with_reducible rfl
  simp only [Act.put, List.setIfInBounds_toArray, List.set_cons_zero, List.set_cons_succ]
  refine held_take (i := 15) (v := ?_) rfl (by kernel_rfl) (by kernel_rfl) (by kernel_rfl) (fun _ _ _ h => h) (by rfl) ?_ (by assumption) ?_
  rotate_left
  · intro X hSX
    try dsimp only at hSX
    go_simp <;> with_reducible rfl
  simp only [Act.put, List.setIfInBounds_toArray, List.set_cons_zero, List.set_cons_succ]
  refine held_take (i := 16) (v := ?_) rfl (by kernel_rfl) (by kernel_rfl) (by kernel_rfl) (fun _ _ _ h => h) (by rfl) ?_ (by assumption) ?_
  rotate_left
  · intro X hSX
    try dsimp only at hSX
    go_simp <;> with_reducible rfl
  simp only [Act.put, List.setIfInBounds_toArray, List.set_cons_zero, List.set_cons_succ]
  refine held_take (i := 18) (v := ?_) rfl (by kernel_rfl) (by kernel_rfl) (by kernel_rfl) (fun _ _ _ h => h) (by rfl) ?_ (by assumption) ?_
  rotate_left
  · intro X hSX
    try dsimp only at hSX
    go_simp <;> with_reducible rfl
  simp only [Act.put, List.setIfInBounds_toArray, List.set_cons_zero, List.set_cons_succ]
  refine held_call (i := 17) rfl (by kernel_rfl) (by rfl) (fun K' hK' => ?_)
  go_simp
  refine (HS.out.name s _ HSS.out (HM3.out.step hS6)).mono ?_
  rintro e X7 ⟨rfl, hb7⟩
  have hS7 : Below X3.heap.size X3 X7 := hS6.trans (hb7.mono hS6.size)
  refine held_go hK' (hS7) ?_
  try simp only [Act.put, List.setIfInBounds_toArray, List.set_cons_zero, List.set_cons_succ]
  refine held_call (i := 19) rfl (by kernel_rfl) (by rfl) (fun K' hK' => ?_)
  go_simp
  refine (rname_any s _ HSS.out).mono ?_
  rintro e X8 ⟨rfl, rfl⟩
  refine held_go hK' (hS7) ?_
  try simp only [Act.put, List.setIfInBounds_toArray, List.set_cons_zero, List.set_cons_succ]
  have kN : (nam s == nam s) = true := by simp
  refine held_take (i := 20) (v := ?_) rfl (by kernel_rfl) (by kernel_rfl) (by kernel_rfl) (fun _ _ _ h => h) (by rfl) ?_ (by assumption) ?_
  rotate_left
  · intro X hSX
    try dsimp only at hSX
    go_simp <;> with_reducible rfl
  simp only [Act.put, List.setIfInBounds_toArray, List.set_cons_zero, List.set_cons_succ]
  refine held_take (i := 21) (v := ?_) rfl (by kernel_rfl) (by kernel_rfl) (by kernel_rfl) (fun _ _ _ h => h) (by rfl) ?_ (by assumption) ?_
  rotate_left
  · intro X hSX
    try dsimp only at hSX
    go_simp <;> with_reducible rfl
  simp only [Act.put, List.setIfInBounds_toArray, List.set_cons_zero, List.set_cons_succ]
  refine held_take (i := 22) (v := ?_) rfl (by kernel_rfl) (by kernel_rfl) (by kernel_rfl) (fun _ _ _ h => h) (by rfl) ?_ (by assumption) ?_
  rotate_left
  · intro X hSX
    try dsimp only at hSX
    go_simp <;> with_reducible rfl
  simp only [Act.put, List.setIfInBounds_toArray, List.set_cons_zero, List.set_cons_succ]
  refine wpAnyH_done (by kernel_rfl) ?_ _
  refine NoPanic.normal ?_
  have HB8 := Lib.hid (HB3.out.trans (hS7.mono HB3.out.size))
  clear HBX hS4 hS5 hS6 hS7 hb4 hb5 hb6 hb7
  go_wp2
  go_ret
  exact ⟨rfl, HB8.out⟩
end Go.Proofs.YtjmlidejbddoeaaDoor
