/-
  The statement LabelRoundTrip, over the contracts of the package.
-/
import Derived.Test.YtjmlidejbddoeaaDoorLP
namespace Go.Proofs.YtjmlidejbddoeaaDoor
open Go.RowKit
set_option linter.unusedVariables false
set_option linter.unusedSimpArgs false
theorem blkT_short {x : Lbl} (h : vldT x = true) : 2 ≤ (blkT x).length ∧ (blkT x).length ≤ 30 := by
  have := bodyT_len h
  rw [blkT_length]
  unfold cntB
  omega
theorem blkT_last (x : Lbl) (h : (blkT x).length - 1 < (blkT x).length) : (blkT x)[(blkT x).length - 1].m = true := by
  have e : ∀ (a : List Blk) (h : (a ++ [markB]).length - 1 < (a ++ [markB]).length), (a ++ [markB])[(a ++ [markB]).length - 1].m = true := by
    intro a h
    have e1 : (a ++ [markB]).length - 1 = a.length := by simp
    simp only [e1]
    rw [List.getElem_append_right (Nat.le_refl _)]
    simp [markB]
  exact e (divB (frm (bodyT x))) h
attribute [local irreducible] blkT parT blkR divB bytB fldT vldT nam bar feB
set_option maxRecDepth 100000 in
set_option maxHeartbeats 4000000 in
theorem law_lround (H : LbSide) (x : Lbl) (ad : Option Addr) (n cap : Nat) (l : List Blk) (w : World) (hx : x.Fit) (hl : Ki w ad l) (hn : n = l.length) (hc : n ≤ cap) (hcm : cap ≤ maxLen) (ha : ad = none → cap = 0) (hm : Lmg w) :
    Calls Tryd.prog 5 #[lbV x, .slice ad n cap] w fun e w' => e = .returned (.bool true) ∧ Below w.heap.size w w' := by
  have HS := Lib.hid H
  have HN := Lib.hid hn
  have HC := Lib.hid hc
  have HCM := Lib.hid hcm
  have HA := Lib.hid ha
  have HF := Lib.hid hx
  have HFE := Lib.hid (@feB_iff l)
  have HM0 := Lib.hid (hm.step (vl_box1 w (boxL x)))
  have HL0 := Lib.hid (hl.below (vl_box1 w (boxL x)))
  have HB0 := Lib.hid (vl_box1 w (boxL x))
  have HX0 := Lib.hid (LbRow.new w x)
  obtain ⟨A, hA⟩ : ∃ A, A = x.bc.size := ⟨_, rfl⟩
  obtain ⟨B, hB⟩ : ∃ B, B = x.pl.size := ⟨_, rfl⟩
  have hAm : A ≤ 9223372036854775807 := by rw [hA]; exact hx.b
  have hBm : B ≤ 9223372036854775807 := by rw [hB]; exact hx.p
  have hzA : ((x.bc.size : Nat) : Int) = (A : Int) := by omega
  have hzB : ((x.pl.size : Nat) : Int) = (B : Int) := by omega
  have HZ := Lib.hid (show ((x.bc.size : Nat) : Int) = (A : Int) ∧ ((x.pl.size : Nat) : Int) = (B : Int) from ⟨hzA, hzB⟩)
  clear H hx hl hn hc hcm ha hm hA hB hzA hzB
  go_enter Tryd.func5, Tryd.ntmps5
  go_wp2_with fail
  generalize World.alloc w _ = X0 at *
  refine (livesl_any HS.out _ HM0.out).mono ?_
  rintro e X1 ⟨rfl, hb1⟩
  have HM1 := Lib.hid (HM0.out.step hb1)
  have HX1 := Lib.hid (HX0.out.below hb1 HX0.out.at_.lt)
  have HB1 := Lib.hid (HB0.out.trans (hb1.mono (Nat.le_of_lt HX0.out.at_.lt)))
  have HL1 := Lib.hid (HL0.out.below hb1)
  clear hb1 HM0 HX0 HB0 HL0
  go_wp2_with fail
  refine (fewl_any ad n cap l _ HL1.out HN.out).mono ?_
  rintro e X2 ⟨rfl, hb2⟩
  have HM2 := Lib.hid (HM1.out.step hb2)
  have HX2 := Lib.hid (HX1.out.below hb2 HX1.out.at_.lt)
  have HB2 := Lib.hid (HB1.out.trans (hb2.mono (Nat.le_of_lt HX1.out.at_.lt)))
  have HL2 := Lib.hid (HL1.out.below hb2)
  clear hb2 HM1 HX1 HB1 HL1
  generalize feB l = F at *
  cases F
  · go_wp2
    go_ret
    exact ⟨rfl, HB2.out⟩
  have HLN := Lib.hid (HFE.out.1 rfl).1
  have HLD := Lib.hid (HFE.out.1 rfl).2
  clear HFE
  obtain ⟨-, c0, c1, c2, c3⟩ := HX2.out.at_
  obtain ⟨hzA, hzB⟩ := HZ.out
  obtain ⟨S, hS⟩ : ∃ S, IntKind.i64.wrap ((A : Int) + (B : Int)) = S := ⟨_, rfl⟩
  by_cases g2 : 1024 < S
  · go_wp2
    go_ret
    exact ⟨rfl, HB2.out⟩
  go_wp2_with fail
  refine (HS.out.blocks x _ HF.out HM2.out).mono ?_
  rintro e X3 ⟨v3, rfl, hk3, hb3⟩
  have HM3 := Lib.hid (HM2.out.step hb3)
  have HX3 := Lib.hid (HX2.out.below hb3 HX2.out.at_.lt)
  have HB3 := Lib.hid (HB2.out.trans (hb3.mono (Nat.le_of_lt HX2.out.at_.lt)))
  have HL3 := Lib.hid (HL2.out.below hb3)
  clear hb3 HM2 HX2 HB2 HL2 c0 c1 c2 c3 hzA hzB hS g2
  cases hv : vldT x
  · rw [blkR_no hv] at hk3 ⊢
    obtain ⟨ad3, cap3, rfl, -⟩ := hk3.read
    have HV := Lib.hid hv
    dsimp only [List.length_nil]
    obtain ⟨-, c0, c1, c2, c3⟩ := HX3.out.at_
    clear hk3 hv
    go_wp2_with fail
    refine (HS.out.valid x _ HF.out HM3.out).mono ?_
    rw [HV.out]
    rintro e X4 ⟨rfl, hb4⟩
    have HB4 := Lib.hid (HB3.out.trans (hb4.mono (Nat.le_of_lt HX3.out.at_.lt)))
    clear hb4 c0 c1 c2 c3
    go_wp2
    go_ret
    exact ⟨rfl, HB4.out⟩
  have hbr : blkR x = (blkT x, 0) := by unfold blkR; rw [hv]; rfl
  rw [hbr] at hk3 ⊢
  dsimp only at hk3 ⊢
  have HV := Lib.hid hv
  obtain ⟨ad3, cap3, rfl, hx3, hc3, hm3, ha3, -⟩ := hk3.read
  have HK3 := Lib.hid hx3.ki
  have HBS := Lib.hid (blkT_short hv)
  have HBL := Lib.hid (blkT_last x)
  have HBD := Lib.hid (blkT_data x)
  have HPB := Lib.hid (parT_back hv l)
  clear hk3 hx3 hv hbr hm3
  obtain ⟨-, c0, c1, c2, c3⟩ := HX3.out.at_
  go_wp2_with fail
  refine (HS.out.valid x _ HF.out HM3.out).mono ?_
  rw [HV.out]
  rintro e X4 ⟨rfl, hb4⟩
  have HM4 := Lib.hid (HM3.out.step hb4)
  have HX4 := Lib.hid (HX3.out.below hb4 HX3.out.at_.lt)
  have HB4 := Lib.hid (HB3.out.trans (hb4.mono (Nat.le_of_lt HX3.out.at_.lt)))
  have HL4 := Lib.hid (HL3.out.below hb4)
  have HK4 := Lib.hid (HK3.out.below hb4)
  clear hb4 HM3 HX3 HB3 HL3 HK3 c0 c1 c2 c3
  obtain ⟨b, off, e0, f0, hadr, hlt, q0, -⟩ := HK4.out.get (i := (blkT x).length - 1) (by have := HBS.out; omega)
  subst hadr
  rw [HBL.out] at q0
  clear HBL
  generalize blkT x = T at *
  generalize hT : T.length = M at *
  have HT := Lib.hid hT
  clear hT
  have m2 := HBS.out.1
  have m30 := HBS.out.2
  have d2 : decide ((M : Int) < 2) = false := decide_eq_false (by omega)
  have i0 : (0 : Int) ≤ (M : Int) - 1 := by omega
  clear hlt
  go_wp2_with fail
  refine (rcopiedl_any _ M cap3 T _ HK4.out HT.out.symm (by omega) (fun b hb => by have := HBD.out b hb; omega)).mono ?_
  rintro e X5 ⟨v5, rfl, hk5, hb5⟩
  have HM5 := Lib.hid (HM4.out.step hb5)
  have HX5 := Lib.hid (HX4.out.below hb5 HX4.out.at_.lt)
  have HB5 := Lib.hid (HB4.out.trans (hb5.mono (Nat.le_of_lt HX4.out.at_.lt)))
  have HQ5 := Lib.hid hk5
  have HZ5 := Lib.hid (HL4.out.kx hb5 (y := v5.ownBlock) (fun g hg => (hk5.lt g hg).1))
  have HG5 := Lib.hid hb5.size
  have HW5 := Lib.hid (Nat.le_of_lt HX4.out.at_.lt)
  have HB45 := Lib.hid hb5
  have hlen : T.length + n ≤ 100000 := by have := HT.out; have := HN.out; have := HLN.out; omega
  clear hk5 hb5 HL4 HK4 q0
  go_wp2_with (at_builtin; refine wpList_append_k rfl (.tmp 59) (.tmp 60) rfl X4.heap.size X4.heap.size 0 0 v5 T rfl HQ5.out ad n cap l HA.out HZ5.out HN.out rfl hlen HG5.out (Nat.zero_le _) (Nat.le_refl _) ?_; intro v6 w6 ho6 hg6 _; have HK6 := Lib.hid ho6; have HB6 := Lib.hid (HB45.out.grown hg6 HG5.out (fun k hk => (HQ5.out.lt k hk).1)); clear ho6 hg6)
  obtain ⟨ad6, cap6, rfl, hx6, hc6, hm6, ha6, -⟩ := HK6.out.read
  have HL6 := Lib.hid hx6.ki
  have HC6 := Lib.hid hc6
  have HCM6 := Lib.hid hm6
  have HA6 := Lib.hid ha6
  clear hx6 hc6 hm6 ha6 HK6
  have HTL := Lib.hid (show (T ++ l).length ≤ 90 by rw [List.length_append]; have := HT.out; have := HLN.out; omega)
  refine (HS.out.parse ad6 _ cap6 (T ++ l) _ HL6.out rfl HC6.out HCM6.out HA6.out (by have := HTL.out; omega) (fun b hb => by
    rcases List.mem_append.1 hb with h | h
    · have := HBD.out b h; omega
    · have := HLD.out b h; omega) (HM4.out.step HB6.out)).mono ?_
  rintro e X7 ⟨rfl, hb7⟩
  rw [HPB.out]
  have hb47 : Below X4.heap.size X4 X7 := HB6.out.trans (hb7.mono HB6.out.size)
  have HX7 := Lib.hid ((HX4.out.below hb47 HX4.out.at_.lt).below (vl_box1 X7 (boxL x)) (Nat.lt_of_lt_of_le HX4.out.at_.lt hb47.size))
  have HY7 := Lib.hid (LbRow.new X7 x)
  have hb07 : Below w.heap.size w X7 := HB4.out.trans (hb47.mono (Nat.le_of_lt HX4.out.at_.lt))
  have HB7 := Lib.hid (hb07.alloc hb07.size (boxL x))
  clear hb7 hb47 hb07 HB6 HX4 HB4 HM4
  obtain ⟨-, c0, c1, c2, c3⟩ := HX7.out.at_
  obtain ⟨-, d0, d1, d2', d3⟩ := HY7.out.at_
  have kb : (x.bc.toList == x.bc.toList) = true := by simp
  have kp : (x.pl.toList == x.pl.toList) = true := by simp
  have ke : (x.ep == x.ep) = true := by simp
  have kc : (x.cr == x.cr) = true := by simp
  have kM : ((M : Int) == (M : Int)) = true := by simp
  go_wp2
  go_ret
  exact ⟨rfl, HB7.out⟩
end Go.Proofs.YtjmlidejbddoeaaDoor
