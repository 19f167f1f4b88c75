/-
  ErasureParities: the walk.
-/
import Derived.Test.YtinfjidclkgfnaaEAwake
import Derived.Test.YtinfjidclkgfnaaERPar
namespace Go.Proofs.Ytinfjidclkgfnaa
open Go.RowKit
attribute [local irreducible] parL parR parE recR recE chkL fewL
set_option maxRecDepth 100000 in
set_option maxHeartbeats 1000000 in
theorem law_parities (ad : Option Addr) (n cap : Nat) (xs : List (List UInt8)) (p : Int) (w : World) (hl : Lr w ad xs) (hn : n = xs.length) (hm : n ≤ maxLen) (h0 : -9223372036854775808 ≤ p) (h1 : p ≤ 9223372036854775807) :
    Calls Try.prog 3 #[.slice ad n cap, .int .i64 p] w fun e w' => e = .returned (.bool true) ∧ Below w.heap.size w w' := by
  go_enter Try.func3, Try.ntmps3
  have HL := Lib.hid hl
  have HN := Lib.hid hn
  have HM := Lib.hid hm
  clear hl hn hm
  go_wp2_with fail
  refine (few_any ad n cap xs w HL.out HN.out HM.out).mono ?_
  rintro e w1 ⟨a1, c1, rfl, hl1, hc1, hm1, -, hb1⟩
  have HF := Lib.hid (fewL_length xs)
  have HR : Hid (∀ r ∈ fewL xs, r.length ≤ 1000) := Lib.hid fun r hr => Nat.le_trans (fewL_row xs r hr) (by omega)
  obtain ⟨ls, hls⟩ : ∃ ls, ls = fewL xs := ⟨_, rfl⟩
  rw [← hls] at hl1 hc1 HF HR ⊢
  obtain ⟨k, hk⟩ : ∃ k, k = ls.length := ⟨_, rfl⟩
  rw [← hk] at hc1 HF ⊢
  have hk17 : k ≤ 17 := HF.out
  have HK := Lib.hid hk
  have HB1 := Lib.hid hb1
  have HL1 := Lib.hid hl1
  have HC1 : Hid (k ≤ c1 ∧ c1 ≤ maxLen) := Lib.hid ⟨hc1, hm1⟩
  have HKM : Hid (k ≤ maxLen) := Lib.hid (Nat.le_trans hc1 hm1)
  clear hls hl1 hc1 hm1 hb1 hk HF
  go_wp2_with fail
  refine (parity_any a1 k c1 ls p w1 HL1.out HK.out HKM.out HR.out).mono ?_
  rintro e w2 ⟨v2, rfl, ho2, hb2⟩
  obtain ⟨a2, c2, rfl, hl2, hc2, hm2, -⟩ := ho2.read
  have HB2 := Lib.hid (HB1.out.trans (hb2.mono HB1.out.size))
  have HL2 := Lib.hid hl2
  have HLS := Lib.hid (HL1.out.below hb2)
  clear ho2 hb2 hl2 hc2 hm2 HL1
  go_wp2_with fail
  refine (rparity_any a1 k c1 ls p w2 HLS.out HK.out HKM.out HR.out).mono ?_
  rintro e w3 ⟨v3, rfl, ho3, hb3⟩
  obtain ⟨a3, c3, rfl, hl3, hc3, hm3, -⟩ := ho3.read
  have HB3 := Lib.hid (HB2.out.trans (hb3.mono HB2.out.size))
  have HL3 := Lib.hid hl3
  have HL4 := Lib.hid (HL2.out.below hb3)
  have HLT := Lib.hid (HLS.out.below hb3)
  have HPS : Hid ((parR ls p).length ≤ 1000000) := Lib.hid (by
    unfold parR
    split
    · rename_i hv
      have hv := (vc_iff _ _).1 hv
      split
      · rw [parL_length]; omega
      · simp
    · simp)
  generalize parE ls p = E
  clear ho3 hb3 hl3 hc3 hm3 HL2 HLS
  go_wp2_with fail
  refine (rsame_any a2 a3 _ _ c2 c3 (parR ls p) (parR ls p) w3 HL4.out HL3.out rfl rfl HPS.out).mono ?_
  rintro e w4 ⟨rfl, hb4⟩
  rw [eqL_self]
  have HB4 := Lib.hid (HB3.out.trans (hb4.mono HB3.out.size))
  have HL5 := Lib.hid (HLT.out.below hb4)
  clear hb4 HLT HL4 HL3
  go_wp2_with fail
  refine (check_any a1 k c1 ls p w4 HL5.out HK.out (by omega) HC1.out.1 HC1.out.2 h0 h1 HR.out).mono ?_
  rintro e w5 ⟨rfl, hb5⟩
  have HB5 := Lib.hid (HB4.out.trans (hb5.mono HB4.out.size))
  have HL6 := Lib.hid (HL5.out.below hb5)
  clear hb5 HL5
  go_wp2_with fail
  refine (rcheck_any a1 k c1 ls p w5 HL6.out HK.out (by omega) HC1.out.1 HC1.out.2 h0 h1 HR.out).mono ?_
  rintro e w6 ⟨rfl, hb6⟩
  have HB6 := Lib.hid (HB5.out.trans (hb6.mono HB5.out.size))
  generalize chkL ls p = C
  clear hb6 HL6
  go_wp2_with fail
  refine (awake_any w6).mono ?_
  rintro e w7 ⟨rfl, hb7⟩
  have HB7 := Lib.hid (HB6.out.trans (hb7.mono HB6.out.size))
  clear hb7
  go_wp2
  go_ret
  exact ⟨rfl, HB7.out⟩
end Go.Proofs.Ytinfjidclkgfnaa
