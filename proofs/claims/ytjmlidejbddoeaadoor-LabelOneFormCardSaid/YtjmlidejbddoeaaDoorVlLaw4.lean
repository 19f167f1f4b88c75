/-
  The statement LabelOneForm, over the contracts of the package.
-/
import Derived.Test.YtjmlidejbddoeaaDoorLP
namespace Go.Proofs.YtjmlidejbddoeaaDoor
open Go.RowKit
set_option linter.unusedVariables false
set_option linter.unusedSimpArgs false
theorem fit_vld {x : Lbl} (h : vldT x = true) : x.Fit := by
  have hv := vldT_iff.1 h
  have h1 := bar_size hv.1
  have h2 := nam_size hv.2.1
  exact ⟨by unfold maxLen; omega, by unfold maxLen; omega⟩
attribute [local irreducible] blkT parT blkR divB bytB fldT vldT nam bar feB
set_option maxRecDepth 100000 in
set_option maxHeartbeats 4000000 in
theorem law_lone (H : LbSide) (ad : Option Addr) (n cap : Nat) (l : List Blk) (w : World) (hl : Ki w ad l) (hn : n = l.length) (hc : n ≤ cap) (hcm : cap ≤ maxLen) (ha : ad = none → cap = 0) (hm : Lmg w) :
    Calls Tryd.prog 6 #[.slice ad n cap] w fun e w' => e = .returned (.bool true) ∧ Below w.heap.size w w' := by
  have HS := Lib.hid H
  have HM0 := Lib.hid hm
  have HN := Lib.hid hn
  have HC := Lib.hid hc
  have HCM := Lib.hid hcm
  have HA := Lib.hid ha
  have HL := Lib.hid hl
  have HFE := Lib.hid (@feB_iff l)
  clear H hl hn hc hcm ha hm
  go_enter Tryd.func6, Tryd.ntmps6
  go_wp2_with fail
  refine (livesl_any HS.out _ HM0.out).mono ?_
  rintro e X1 ⟨rfl, hb1⟩
  have HM1 := Lib.hid (HM0.out.step hb1)
  have HB1 := Lib.hid hb1
  have HL1 := Lib.hid (HL.out.below hb1)
  clear hb1 HM0 HL
  go_wp2_with fail
  refine (fewl_any ad n cap l _ HL1.out HN.out).mono ?_
  rintro e X2 ⟨rfl, hb2⟩
  have HM2 := Lib.hid (HM1.out.step hb2)
  have HB2 := Lib.hid (HB1.out.trans (hb2.mono HB1.out.size))
  have HL2 := Lib.hid (HL1.out.below hb2)
  clear hb2 HM1 HB1 HL1
  generalize feB l = F at *
  cases F
  · go_wp2
    go_ret
    exact ⟨rfl, HB2.out⟩
  have HLN := Lib.hid (HFE.out.1 rfl).1
  have HLD := Lib.hid (HFE.out.1 rfl).2
  clear HFE
  go_wp2_with fail
  refine (HS.out.parse ad n cap l _ HL2.out HN.out HC.out HCM.out HA.out (by have := HN.out; have := HLN.out; omega) (fun b hb => by have := HLD.out b hb; omega) HM2.out).mono ?_
  rintro e X3 ⟨rfl, hb3⟩
  by_cases he : (parT l).2.2 = 0
  rotate_left
  · obtain ⟨h1, h2⟩ := parT_bad he
    rw [h1, h2, show lbV Lbl.zero = .agg #[.string ⟨#[]⟩, .string ⟨#[]⟩, .int .i64 0, .int .i64 0] from rfl]
    have k1 : ((parT l).2.2 != 0) = true := by simpa using he
    generalize (parT l).2.2 = E at *
    have HB4 := Lib.hid ((HB2.out.trans (hb3.mono HB2.out.size)).alloc ((HB2.out.trans (hb3.mono HB2.out.size)).size) (boxL .zero))
    clear he h1 h2 hb3 HL2 HB2 HM2
    go_wp2
    go_ret
    exact ⟨rfl, HB4.out⟩
  obtain ⟨hv, hq, hle, ht⟩ := parT_ok he
  rw [hq, he]
  clear he hq
  generalize (parT l).1 = x at *
  have HF := Lib.hid (fit_vld hv)
  have HV := Lib.hid hv
  have HBR := Lib.hid (show blkR x = (blkT x, 0) by unfold blkR; rw [hv]; rfl)
  have HX4 := Lib.hid (LbRow.new X3 x)
  have HL4 := Lib.hid ((HL2.out.below hb3).below (vl_box1 X3 (boxL x)))
  have HB4 := Lib.hid ((HB2.out.trans (hb3.mono HB2.out.size)).alloc ((HB2.out.trans (hb3.mono HB2.out.size)).size) (boxL x))
  have HM4 := Lib.hid ((HM2.out.step hb3).step (vl_box1 X3 (boxL x)))
  clear hb3 HL2 HB2 HM2 hv
  have hM1 : 1 ≤ (blkT x).length := by rw [blkT_length]; omega
  generalize blkT x = T at *
  generalize hT : T.length = M at *
  have HT := Lib.hid hT
  have HTK := Lib.hid ht
  have hMn : M ≤ n := by have := HN.out; omega
  have hMc : M ≤ cap := by have := HC.out; omega
  clear hT ht hle
  go_wp2_with fail
  clear HX4
  change Calls Tryd.prog 9 #[lbV x] (X3.alloc (boxL x)) _
  have HX4 := Lib.hid (LbRow.new X3 x)
  generalize World.alloc X3 _ = X4 at *
  generalize X3.heap.size = g4 at *
  refine (HS.out.blocks x _ HF.out HM4.out).mono ?_
  rintro e X5 ⟨v5, rfl, hk5, hb5⟩
  rw [HBR.out] at hk5 ⊢
  dsimp only at hk5 ⊢
  obtain ⟨ad5, cap5, rfl, hx5, -⟩ := hk5.read
  rw [HT.out]
  have HK5 := Lib.hid hx5.ki
  have HX5 := Lib.hid (HX4.out.below hb5 HX4.out.at_.lt)
  have HL5 := Lib.hid (HL4.out.below hb5)
  have HB5 := Lib.hid (HB4.out.trans (hb5.mono HB4.out.size))
  have HM5 := Lib.hid (HM4.out.step hb5)
  clear hk5 hx5 hb5 HX4 HL4 HB4 HM4
  have kM : ((M : Int) == (M : Int)) = true := by simp
  obtain ⟨b, off, rfl⟩ : ∃ b off, ad = some ⟨b, off, none⟩ := by
    obtain ⟨b, off, _, _, e, _⟩ := HL5.out.get (i := 0) (by have := HN.out; omega)
    exact ⟨b, off, e⟩
  go_wp2_with fail
  refine (rsamel_any _ _ _ _ _ _ (l.take M) T _ (HL5.out.front M) HK5.out (by rw [List.length_take]; have := HN.out; omega) HT.out.symm (by have := HLN.out; have := HN.out; omega)).mono ?_
  rintro e X6 ⟨rfl, hb6⟩
  rw [eqK_yes HTK.out]
  have HX6 := Lib.hid (HX5.out.below hb6 HX5.out.at_.lt)
  have HB6 := Lib.hid (HB5.out.trans (hb6.mono HB5.out.size))
  have HM6 := Lib.hid (HM5.out.step hb6)
  clear hb6 HX5 HB5 HM5
  obtain ⟨-, c0, c1, c2, c3⟩ := HX6.out.at_
  go_wp2_with fail
  refine (HS.out.valid x _ HF.out HM6.out).mono ?_
  rw [HV.out]
  rintro e X7 ⟨rfl, hb7⟩
  have HB7 := Lib.hid (HB6.out.trans (hb7.mono HB6.out.size))
  clear hb7 c0 c1 c2 c3
  go_wp2
  go_ret
  exact ⟨rfl, HB7.out⟩
end Go.Proofs.YtjmlidejbddoeaaDoor
