/-
  MatrixComposes: the walk.
-/
import Derived.Test.YtbkjocmldeagdaaJGives
namespace Go.Proofs.Ytbkjocmldeagdaa
open Go.RowKit
theorem mulL_valid {xs ys : List (List UInt8)} (h : Fits xs ys) : ValidL (mulL xs ys) := matL_valid _ _ _ h.1.pos h.1.le h.2.1.cpos h.2.1.cle
theorem mulL_cols {xs ys : List (List UInt8)} (h : Fits xs ys) : cols (mulL xs ys) = cols ys := matL_cols _ _ _ h.1.pos
theorem rk_first {xs ys : List (List UInt8)} (h : Fits xs ys) : rk (mulL xs ys) ≤ rk xs := by
  rw [rk_yes (mulL_valid h), rk_yes h.1, mulL_length, mulL_cols h]
  exact rank_mul_first xs ys (cols xs) h.2.2.symm
theorem rk_second {xs ys : List (List UInt8)} (h : Fits xs ys) : rk (mulL xs ys) ≤ rk ys := by
  rw [rk_yes (mulL_valid h), rk_yes h.2.1, mulL_length, mulL_cols h]
  exact rank_mul_second xs ys
theorem rk_small (xs : List (List UInt8)) : rk xs ≤ 64 := by
  by_cases h : ValidL xs
  · rw [rk_yes h]
    exact Nat.le_trans (cnt_le _ _) h.cle
  · rw [rk_no h]; exact Nat.zero_le _
theorem fit_mul {xs ys : List (List UInt8)} (h : Fits xs ys) (v : List UInt8) : FitV (mulL xs ys) v ↔ FitV ys v := by
  unfold FitV
  rw [mulL_cols h]
  exact ⟨fun h' => ⟨h.2.1, h'.2⟩, fun h' => ⟨mulL_valid h, h'.2⟩⟩
theorem fit_twice {xs ys : List (List UInt8)} (h : Fits xs ys) (v : List UInt8) : FitV xs (appL ys v) := ⟨h.1, by rw [appL_length]; exact h.2.2⟩
theorem app_twice {xs ys : List (List UInt8)} (v : List UInt8) (h2 : FitV ys v) : appL xs (appL ys v) = appL (mulL xs ys) v := (appL_mul xs ys v h2.2.symm).symm
set_option maxRecDepth 100000 in
set_option maxHeartbeats 1000000 in
theorem law_composes (ad bd vd : Option Addr) (n m k cap bc vc : Nat) (xs ys : List (List UInt8)) (v : List UInt8) (w : World) (hl : Lr w ad xs) (hn : n = xs.length) (hm : n ≤ maxLen) (hl2 : Lr w bd ys) (hn2 : m = ys.length) (hm2 : m ≤ maxLen) (hv : Lie w vd v) (hk : k = v.length) (hkm : k ≤ maxLen) :
    Calls Try.prog 8 #[.slice ad n cap, .slice bd m bc, .slice vd k vc] w fun e w' => e = .returned (.bool true) ∧ Below w.heap.size w w' := by
  have HL := Lib.hid hl
  have HN := Lib.hid hn
  have HM := Lib.hid hm
  have HL2 := Lib.hid hl2
  have HN2 := Lib.hid hn2
  have HM2 := Lib.hid hm2
  have HV := Lib.hid hv
  have HK := Lib.hid hk
  have HKM := Lib.hid hkm
  unfold maxLen at hkm
  clear hl hn hm hl2 hn2 hm2 hv hk
  go_enter Try.func8, Try.ntmps8
  go_wp2_with fail
  refine (lives_any _).mono ?_
  rintro e w1 ⟨rfl, hb1⟩
  have HB1 := Lib.hid hb1
  clear hb1
  go_wp2_with fail
  refine (few_any ad n cap xs w1 (HL.out.below HB1.out) HN.out HM.out).mono ?_
  rintro e w1' ⟨f, rfl, -, rfl⟩
  cases f
  · go_wp2
    go_ret
    exact ⟨rfl, HB1.out⟩
  go_wp2_with fail
  refine (few_any bd m bc ys w1 (HL2.out.below HB1.out) HN2.out HM2.out).mono ?_
  rintro e w1' ⟨f, rfl, -, rfl⟩
  cases f
  · go_wp2
    go_ret
    exact ⟨rfl, HB1.out⟩
  by_cases hk70 : 70 < k
  · go_wp2
    go_ret
    exact ⟨rfl, HB1.out⟩
  go_wp2_with fail
  refine (mulm_any ad bd n m cap bc xs ys w1 (HL.out.below HB1.out) HN.out HM.out (HL2.out.below HB1.out) HN2.out HM2.out).mono ?_
  rintro e w2 h2
  have h2' := h2.gives
  by_cases hF : Fits xs ys
  rotate_left
  · rw [okM_no hF, mulR_no hF] at h2'
    obtain ⟨a2, c2, rfl, hl2, -, -, hb2⟩ := h2'
    have HB2 := Lib.hid (HB1.out.trans (hb2.mono HB1.out.size))
    clear h2 hl2 hb2
    go_wp2
    go_ret
    exact ⟨rfl, HB2.out⟩
  rw [okM_yes hF, mulR_yes hF] at h2'
  obtain ⟨a2, c2, rfl, hl2, q1, q2, hb2⟩ := h2'
  have HB2 := Lib.hid (HB1.out.trans (hb2.mono HB1.out.size))
  have HLA := Lib.hid hl2
  have HF := Lib.hid hF
  have HQ := Lib.hid (Nat.le_trans q1 q2)
  have hr1 : ¬ (rk xs : Int) < (rk (mulL xs ys) : Int) := by have := rk_first hF; omega
  have hr2 : ¬ (rk ys : Int) < (rk (mulL xs ys) : Int) := by have := rk_second hF; omega
  obtain ⟨P, hP⟩ : ∃ P, mulL xs ys = P := ⟨_, rfl⟩
  have HP := Lib.hid hP
  rw [hP] at hr1 hr2 HLA HQ ⊢
  clear h2 hl2 hb2 hF hP q1 q2
  go_wp2_with fail
  refine (rank_any a2 P.length c2 P w2 HLA.out rfl HQ.out).mono ?_
  rintro e w3 ⟨rfl, hb3⟩
  have HB3 := Lib.hid (HB2.out.trans (hb3.mono HB2.out.size))
  have HLB := Lib.hid (HLA.out.below hb3)
  clear hb3
  go_wp2_with fail
  refine (rank_any ad n cap xs w3 (HL.out.below HB3.out) HN.out HM.out).mono ?_
  rintro e w4 ⟨rfl, hb4⟩
  have HB4 := Lib.hid (HB3.out.trans (hb4.mono HB3.out.size))
  have HLC := Lib.hid (HLB.out.below hb4)
  clear hb4
  go_wp2_with fail
  refine (rank_any a2 P.length c2 P w4 HLC.out rfl HQ.out).mono ?_
  rintro e w5 ⟨rfl, hb5⟩
  have HB5 := Lib.hid (HB4.out.trans (hb5.mono HB4.out.size))
  have HLD := Lib.hid (HLC.out.below hb5)
  clear hb5
  go_wp2_with fail
  refine (rank_any bd m bc ys w5 (HL2.out.below HB5.out) HN2.out HM2.out).mono ?_
  rintro e w6 ⟨rfl, hb6⟩
  have HB6 := Lib.hid (HB5.out.trans (hb6.mono HB5.out.size))
  have HLE := Lib.hid (HLD.out.below hb6)
  clear hb6
  go_wp2_with fail
  refine (app_any bd vd m k bc vc ys v w6 (HL2.out.below HB6.out) HN2.out HM2.out (HV.out.below HB6.out rfl) HK.out HKM.out).mono ?_
  rintro e w7 h7
  have h7' := h7.gives
  by_cases hA : FitV ys v
  rotate_left
  · rw [okA_no hA, appR_no hA] at h7'
    have HNA := Lib.hid (show ¬ FitV P v by rw [← HP.out, fit_mul HF.out]; exact hA)
    obtain ⟨a7, c7, rfl, hl7, -, -, hb7⟩ := h7'
    have HB7 := Lib.hid (HB6.out.trans (hb7.mono HB6.out.size))
    have HLG := Lib.hid (HLE.out.below hb7)
    clear h7 hl7 hb7 hA
    go_wp2_with fail
    refine (app_any a2 vd P.length k c2 vc P v w7 HLG.out rfl HQ.out (HV.out.below HB7.out rfl) HK.out HKM.out).mono ?_
    rintro e w8 h8
    have h8' := h8.gives
    rw [okA_no HNA.out, appR_no HNA.out] at h8'
    obtain ⟨a8, c8, rfl, hl8, -, -, hb8⟩ := h8'
    have HB8 := Lib.hid (HB7.out.trans (hb8.mono HB7.out.size))
    clear h8 hl8 hb8
    go_wp2
    go_ret
    exact ⟨rfl, HB8.out⟩
  rw [okA_yes hA, appR_yes hA] at h7'
  have HYA := Lib.hid (show FitV P v by rw [← HP.out, fit_mul HF.out]; exact hA)
  have HFT := Lib.hid (fit_twice HF.out v)
  have HTW : Hid (appL xs (appL ys v) = appL P v) := Lib.hid (by rw [← HP.out]; exact app_twice v hA)
  obtain ⟨a7, c7, rfl, hl7, q3, q4, hb7⟩ := h7'
  have HB7 := Lib.hid (HB6.out.trans (hb7.mono HB6.out.size))
  have HLG := Lib.hid (HLE.out.below hb7)
  have HX := Lib.hid hl7
  have HQ7 := Lib.hid (Nat.le_trans q3 q4)
  clear h7 hl7 hb7 hA q3 q4
  go_wp2_with fail
  refine (app_any a2 vd P.length k c2 vc P v w7 HLG.out rfl HQ.out (HV.out.below HB7.out rfl) HK.out HKM.out).mono ?_
  rintro e w8 h8
  have h8' := h8.gives
  rw [okA_yes HYA.out, appR_yes HYA.out] at h8'
  obtain ⟨a8, c8, rfl, hl8, -, -, hb8⟩ := h8'
  have HB8 := Lib.hid (HB7.out.trans (hb8.mono HB7.out.size))
  have HX8 := Lib.hid (HX.out.below hb8 rfl)
  have HY := Lib.hid hl8
  clear h8 hl8 hb8
  go_wp2_with fail
  refine (app_any ad a7 n (appL ys v).length cap c7 xs (appL ys v) w8 (HL.out.below HB8.out) HN.out HM.out HX8.out rfl HQ7.out).mono ?_
  rintro e w9 h9
  have h9' := h9.gives
  rw [okA_yes HFT.out, appR_yes HFT.out, HTW.out] at h9'
  obtain ⟨a9, c9, rfl, hl9, -, -, hb9⟩ := h9'
  have HB9 := Lib.hid (HB8.out.trans (hb9.mono HB8.out.size))
  have hcv1 := conv_lie c8 (HY.out.below hb9 rfl)
  have hcv2 := conv_lie c9 hl9
  clear h9 hl9 hb9
  generalize (⟨(appL P v).toArray⟩ : ByteArray) = S at hcv1 hcv2
  generalize (appL P v).length = N at hcv1 hcv2
  go_wp2
  go_ret
  exact ⟨rfl, HB9.out⟩
end Go.Proofs.Ytbkjocmldeagdaa
