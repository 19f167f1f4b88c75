/-
  MatrixProducts: the walk.
-/
import Derived.Test.YtbkjocmldeagdaaJGives
namespace Go.Proofs.Ytbkjocmldeagdaa
open Go.RowKit
set_option maxRecDepth 100000 in
set_option maxHeartbeats 1000000 in
theorem law_products (ad bd vd : Option Addr) (n m k cap bc vc : Nat) (xs ys : List (List UInt8)) (v : List UInt8) (w : World) (hl : Lr w ad xs) (hn : n = xs.length) (hm : n ≤ maxLen) (hl2 : Lr w bd ys) (hn2 : m = ys.length) (hm2 : m ≤ maxLen) (hv : Lie w vd v) (hk : k = v.length) (hkm : k ≤ maxLen) :
    Calls Try.prog 3 #[.slice ad n cap, .slice bd m bc, .slice vd k vc] w fun e w' => e = .returned (.bool true) ∧ Below w.heap.size w w' := by
  have HL := Lib.hid hl
  have HN := Lib.hid hn
  have HM := Lib.hid hm
  have HL2 := Lib.hid hl2
  have HN2 := Lib.hid hn2
  have HM2 := Lib.hid hm2
  have HV := Lib.hid hv
  have HK := Lib.hid hk
  have HKM := Lib.hid hkm
  unfold maxLen at hkm
  clear hl hn hm hl2 hn2 hm2 hv hk
  go_enter Try.func3, Try.ntmps3
  go_wp2_with fail
  refine (lives_any _).mono ?_
  rintro e w1 ⟨rfl, hb1⟩
  have HB1 := Lib.hid hb1
  clear hb1
  go_wp2_with fail
  refine (few_any ad n cap xs w1 (HL.out.below HB1.out) HN.out HM.out).mono ?_
  rintro e w1' ⟨f, rfl, -, rfl⟩
  cases f
  · go_wp2
    go_ret
    exact ⟨rfl, HB1.out⟩
  go_wp2_with fail
  refine (few_any bd m bc ys w1 (HL2.out.below HB1.out) HN2.out HM2.out).mono ?_
  rintro e w1' ⟨f, rfl, -, rfl⟩
  cases f
  · go_wp2
    go_ret
    exact ⟨rfl, HB1.out⟩
  by_cases hk70 : 70 < k
  · go_wp2
    go_ret
    exact ⟨rfl, HB1.out⟩
  go_wp2_with fail
  refine (mulm_any ad bd n m cap bc xs ys w1 (HL.out.below HB1.out) HN.out HM.out (HL2.out.below HB1.out) HN2.out HM2.out).mono ?_
  rintro e w2 h2
  obtain ⟨a2, c2, rfl, hl2, -, -, hb2⟩ := h2.gives
  have HB2 := Lib.hid (HB1.out.trans (hb2.mono HB1.out.size))
  have HLA := Lib.hid hl2
  clear h2 hl2 hb2
  go_wp2_with fail
  refine (rmulm_any ad bd n m cap bc xs ys w2 (HL.out.below HB2.out) HN.out HM.out (HL2.out.below HB2.out) HN2.out HM2.out).mono ?_
  rintro e w3 h3
  obtain ⟨a3, c3, rfl, hl3, -, -, hb3⟩ := h3.gives
  have HB3 := Lib.hid (HB2.out.trans (hb3.mono HB2.out.size))
  have HLB := Lib.hid hl3
  have HLC := Lib.hid (HLA.out.below hb3)
  clear h3 hl3 hb3
  have hs := mulR_small xs ys
  generalize okM xs ys = ok
  go_wp2_with fail
  refine (same_b a2 a3 c2 c3 (mulR xs ys) w3 HLC.out HLB.out (by omega)).mono ?_
  rintro e w4 ⟨rfl, hb4⟩
  have HB4 := Lib.hid (HB3.out.trans (hb4.mono HB3.out.size))
  clear hb4
  go_wp2_with fail
  refine (app_any ad vd n k cap vc xs v w4 (HL.out.below HB4.out) HN.out HM.out (HV.out.below HB4.out rfl) HK.out HKM.out).mono ?_
  rintro e w5 h5
  obtain ⟨a5, c5, rfl, hl5, -, -, hb5⟩ := h5.gives
  have HB5 := Lib.hid (HB4.out.trans (hb5.mono HB4.out.size))
  have HLD := Lib.hid hl5
  clear h5 hl5 hb5
  go_wp2_with fail
  refine (rapp_any ad vd n k cap vc xs v w5 (HL.out.below HB5.out) HN.out HM.out (HV.out.below HB5.out rfl) HK.out HKM.out).mono ?_
  rintro e w6 h6
  obtain ⟨a6, c6, rfl, hl6, -, -, hb6⟩ := h6.gives
  have HB6 := Lib.hid (HB5.out.trans (hb6.mono HB5.out.size))
  have hcv1 := conv_lie c5 (HLD.out.below hb6 rfl)
  have hcv2 := conv_lie c6 hl6
  clear h6 hl6 hb6
  generalize okA xs v = oka
  generalize (⟨(appR xs v).toArray⟩ : ByteArray) = S at hcv1 hcv2
  generalize (appR xs v).length = N at hcv1 hcv2
  go_wp2_with fail
  refine (valid_any ad n cap xs w6 (HL.out.below HB6.out) HN.out HM.out).mono ?_
  rintro e w6' ⟨rfl, rfl⟩
  go_wp2_with fail
  refine (rvalid_b ad n cap xs w6 (HL.out.below HB6.out) HN.out HM.out).mono ?_
  rintro e w7 ⟨rfl, hb7⟩
  have HB7 := Lib.hid (HB6.out.trans (hb7.mono HB6.out.size))
  clear hb7 hcv1 hcv2
  go_wp2_with fail
  refine (valid_any bd m bc ys w7 (HL2.out.below HB7.out) HN2.out HM2.out).mono ?_
  rintro e w7' ⟨rfl, rfl⟩
  go_wp2_with fail
  refine (rvalid_b bd m bc ys w7 (HL2.out.below HB7.out) HN2.out HM2.out).mono ?_
  rintro e w8 ⟨rfl, hb8⟩
  have HB8 := Lib.hid (HB7.out.trans (hb8.mono HB7.out.size))
  clear hb8
  go_wp2
  go_ret
  exact ⟨rfl, HB8.out⟩
end Go.Proofs.Ytbkjocmldeagdaa
