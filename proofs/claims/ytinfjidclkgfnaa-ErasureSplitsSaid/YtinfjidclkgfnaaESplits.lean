/-
  ErasureSplits: the walk.
-/
import Derived.Test.YtinfjidclkgfnaaERSplit
import Derived.Test.YtinfjidclkgfnaaEJoin
import Derived.Test.YtinfjidclkgfnaaEAwake
import Derived.Test.YtinfjidclkgfnaaERSame
namespace Go.Proofs.Ytinfjidclkgfnaa
open Go.RowKit
theorem tot_few (ls : List (List UInt8)) (h : ∀ r ∈ ls, r.length ≤ 40) : tot ls ≤ ls.length * 40 := by
  unfold tot
  induction ls with
  | nil => simp
  | cons r ls ih =>
    have h1 := h r (by simp)
    have h2 := ih fun x hx => h x (by simp [hx])
    simp only [List.flatten_cons, List.length_append, List.length_cons]
    omega
theorem tot_split (b : List UInt8) (sz n : Nat) : tot (splitL b sz n) = n * sz := by
  unfold tot
  rw [split_flat, rowF_length]
theorem splR_row (b : List UInt8) (n : Int) (hb : b.length ≤ 300) : (splR b n).length ≤ 16 ∧ (∀ r ∈ splR b n, r.length ≤ 100000) ∧ tot (splR b n) ≤ 1000000 := by
  unfold splR
  split
  · rename_i h
    have hd : (b.length + n.toNat - 1) / n.toNat ≤ 316 := Nat.le_trans (Nat.div_le_self _ _) (by omega)
    refine ⟨by rw [splitL_length]; omega, fun r hr => ?_, ?_⟩
    · unfold splitL at hr
      obtain ⟨i, _, rfl⟩ := List.mem_map.1 hr
      rw [shardL_length]
      omega
    · rw [tot_split]
      exact Nat.le_trans (Nat.mul_le_mul (show n.toNat ≤ 16 by omega) hd) (by decide)
  · refine ⟨by simp, fun r hr => by simp at hr, ?_⟩
    show ([] : List (List UInt8)).flatten.length ≤ _
    simp
theorem back_ok (b : List UInt8) (n : Int) (h : 1 ≤ n ∧ n ≤ 16) : joiE (splR b n) (b.length : Int) = 0 ∧ joiR (splR b n) (b.length : Int) = b := by
  have hs : splR b n = splitL b ((b.length + n.toNat - 1) / n.toNat) n.toNat := if_pos h
  have hf := size_fits b.length n.toNat (by omega)
  have ht : b.length ≤ tot (splR b n) := by rw [hs, tot_split]; exact hf
  refine ⟨joiE_ok ht, ?_⟩
  rw [joiR_ok ht, hs]
  exact split_join b _ _ hf
attribute [local irreducible] splE splR joiE joiR tot fewL
set_option maxRecDepth 100000 in
set_option maxHeartbeats 1000000 in
theorem law_splits (bd ad : Option Addr) (m0 bc n0 cap : Nat) (b0 : List UInt8) (xs : List (List UInt8)) (n s : Int) (w : World) (hb : Lie w bd b0) (hb1 : m0 = b0.length) (hb2 : m0 ≤ bc) (hb3 : bc ≤ maxLen) (hb4 : bd = none → bc = 0) (hl : Lr w ad xs) (hn : n0 = xs.length) (hm : n0 ≤ maxLen) (h0 : -9223372036854775808 ≤ s) (h1 : s ≤ 9223372036854775807) :
    Calls Try.prog 8 #[.slice bd m0 bc, .int .i64 n, .slice ad n0 cap, .int .i64 s] w fun e w' => e = .returned (.bool true) ∧ Below w.heap.size w w' := by
  obtain ⟨b, m, hbl, hbm, hcase⟩ : ∃ (b : List UInt8) (m : Nat), Lie w bd b ∧ m = b.length ∧ ((300 < m0 ∧ m = 300) ∨ (¬ 300 < m0 ∧ m = m0)) := by
    by_cases h : 300 < m0
    · exact ⟨b0.take 300, 300, hb.take 300, by rw [List.length_take]; omega, .inl ⟨h, rfl⟩⟩
    · exact ⟨b0, m0, hb, hb1, .inr ⟨h, rfl⟩⟩
  have HBL := Lib.hid hbl
  have HBM := Lib.hid hbm
  have HL := Lib.hid hl
  have HN := Lib.hid hn
  have HM := Lib.hid hm
  have hm300 : m ≤ 300 := by omega
  have hmc : m ≤ bc := by omega
  have HCM := Lib.hid hb3
  have HB4 := Lib.hid hb4
  have HSR := Lib.hid (splR_row b n (by omega))
  have HBK := Lib.hid (back_ok b n)
  have HSE : Hid (¬ (1 ≤ n ∧ n ≤ 16) → splE n = 7) := Lib.hid fun h => by unfold splE; exact if_neg h
  have HSO : Hid ((1 ≤ n ∧ n ≤ 16) → splE n = 0) := Lib.hid fun h => by unfold splE; exact if_pos h
  unfold maxLen at hb3
  clear hbl hbm hl hn hm hb hb1 hb2
  have hcase2 : (300 < m0 ∧ m = 300 ∧ ∃ a, bd = some a) ∨ (¬ 300 < m0 ∧ m = m0) := by
    rcases hcase with ⟨h, e⟩ | h
    · refine .inl ⟨h, e, ?_⟩
      cases bd with
      | none => have := hb4 rfl; omega
      | some a => exact ⟨a, rfl⟩
    · exact .inr h
  clear hb4 hcase
  rcases hcase2 with ⟨h300, rfl, a0, rfl⟩ | ⟨h300, rfl⟩
  all_goals
    go_enter Try.func8, Try.ntmps8
    go_wp2_with fail
    refine (few_any ad n0 cap xs w HL.out HN.out HM.out).mono ?_
    rintro e w1 ⟨a1, c1, rfl, hl1, hc1, hm1, -, hb1⟩
    have HF := Lib.hid (fewL_length xs)
    have HR : Hid (∀ r ∈ fewL xs, r.length ≤ 100000) := Lib.hid fun r hr => Nat.le_trans (fewL_row xs r hr) (by omega)
    have HTT : Hid (tot (fewL xs) ≤ 1000000) := Lib.hid (by have h1 := tot_few _ (fewL_row xs); have h2 := fewL_length xs; omega)
    obtain ⟨ls, hls⟩ : ∃ ls, ls = fewL xs := ⟨_, rfl⟩
    rw [← hls] at hl1 hc1 HF HR HTT ⊢
    obtain ⟨k, hk⟩ : ∃ k, k = ls.length := ⟨_, rfl⟩
    rw [← hk] at hc1 HF ⊢
    have hk17 : k ≤ 17 := HF.out
    have HK := Lib.hid hk
    have HB1 := Lib.hid hb1
    have HL1 := Lib.hid hl1
    have HBL1 := Lib.hid (HBL.out.below hb1 rfl)
    clear hls hl1 hc1 hm1 hb1 hk HF
    go_wp2_with fail
    refine (split_any _ _ bc b n w1 HBL1.out HBM.out hmc HCM.out HB4.out (by omega)).mono ?_
    rintro e w2 ⟨v2, rfl, ho2, hb2⟩
    obtain ⟨a2, c2, rfl, hl2, hc2, hm2, -⟩ := ho2.read
    have HB2 := Lib.hid (HB1.out.trans (hb2.mono HB1.out.size))
    have HL2 := Lib.hid hl2
    have HLS := Lib.hid (HL1.out.below hb2)
    have HBL2 := Lib.hid (HBL1.out.below hb2 rfl)
    clear ho2 hb2 hl2 hc2 hm2 HL1 HBL1
    go_wp2_with fail
    refine (rsplit_any _ _ bc b n w2 HBL2.out HBM.out (by omega)).mono ?_
    rintro e w3 ⟨v3, rfl, ho3, hb3'⟩
    obtain ⟨a3, c3, rfl, hl3, hc3, hm3, -⟩ := ho3.read
    have HB3 := Lib.hid (HB2.out.trans (hb3'.mono HB2.out.size))
    have HL3 := Lib.hid hl3
    have HL4 := Lib.hid (HL2.out.below hb3')
    have HLT := Lib.hid (HLS.out.below hb3')
    have HBL3 := Lib.hid (HBL2.out.below hb3' rfl)
    clear ho3 hb3' hl3 hc3 hm3 HL2 HLS HBL2
    go_wp2_with fail
    refine (join_any a1 k c1 ls s w3 HLT.out HK.out (by omega) h0 h1 HR.out HTT.out).mono ?_
    rintro e w4 ⟨a4, c4, rfl, hl4, hc4, hm4, hb4⟩
    have HB5 := Lib.hid (HB3.out.trans (hb4.mono HB3.out.size))
    have HJ4 := Lib.hid hl4
    have HL5 := Lib.hid (HL4.out.below hb4)
    have HL6 := Lib.hid (HL3.out.below hb4)
    have HLU := Lib.hid (HLT.out.below hb4)
    have HBL4 := Lib.hid (HBL3.out.below hb4 rfl)
    clear hl4 hc4 hm4 hb4 HL3 HL4 HLT HBL3
    go_wp2_with fail
    refine (rjoin_any a1 k c1 ls s w4 HLU.out HK.out (by omega) h1 HTT.out).mono ?_
    rintro e w5 ⟨a5, c5, rfl, hl5, hc5, hm5, hb5⟩
    have HB6 := Lib.hid (HB5.out.trans (hb5.mono HB5.out.size))
    have HJ5 := Lib.hid hl5
    have HJ6 := Lib.hid (HJ4.out.below hb5 rfl)
    have HL7 := Lib.hid (HL5.out.below hb5)
    have HL8 := Lib.hid (HL6.out.below hb5)
    have HBL5 := Lib.hid (HBL4.out.below hb5 rfl)
    clear hl5 hc5 hm5 hb5 HL5 HL6 HLU HBL4 HJ4
    go_wp2_with fail
    refine (rsame_any a2 a3 _ _ c2 c3 (splR b n) (splR b n) w5 HL7.out HL8.out rfl rfl (by have := HSR.out.1; omega)).mono ?_
    rintro e w6 ⟨rfl, hb6⟩
    rw [eqL_self]
    have HB7 := Lib.hid (HB6.out.trans (hb6.mono HB6.out.size))
    have hcv1 := conv_lie c4 (HJ6.out.below hb6 rfl)
    have hcv2 := conv_lie c5 (HJ5.out.below hb6 rfl)
    have HL9 := Lib.hid (HL7.out.below hb6)
    have HBL6 := Lib.hid (HBL5.out.below hb6 rfl)
    generalize (⟨(joiR ls s).toArray⟩ : ByteArray) = S at hcv1 hcv2
    generalize (joiR ls s).length = J at hcv1 hcv2 ⊢
    generalize joiE ls s = E at *
    clear hb6 HL7 HL8 HBL5 HJ5 HJ6
    obtain ⟨X, hX⟩ : ∃ X, X = (splR b n).length := ⟨_, rfl⟩
    rw [← hX]
    have HX := Lib.hid hX
    have hX16 : X ≤ 16 := by rw [hX]; exact HSR.out.1
    clear hX
    go_wp2_with fail
    clear hcv1 hcv2
    refine (join_any a2 X c2 (splR b n) _ w6 HL9.out HX.out (by omega) (by omega) (by omega) HSR.out.2.1 HSR.out.2.2).mono ?_
    rintro e w7 ⟨a7, c7, rfl, hl7, hc7, hm7, hb7⟩
    have HB8 := Lib.hid (HB7.out.trans (hb7.mono HB7.out.size))
    by_cases hval : 1 ≤ n ∧ n ≤ 16
    · obtain ⟨hbe, hbr⟩ := HBK.out hval
      rw [← HBM.out] at hbe hbr
      try rw [show ((300 : Nat) : Int) = 300 from rfl] at hbe hbr
      rw [hbr] at hl7
      rw [hbe, hbr, HSO.out hval]
      have hcv3 := conv_lie c7 hl7
      have hcv4 := conv_lie bc (HBL6.out.below hb7 rfl)
      rw [← HBM.out] at hcv3 hcv4 ⊢
      generalize (⟨b.toArray⟩ : ByteArray) = S2 at hcv3 hcv4
      clear hl7 hc7 hm7 hb7 hbe hbr
      go_wp2_with fail
      refine (awake_any w7).mono ?_
      rintro e w9 ⟨rfl, hb9⟩
      have HB9 := Lib.hid (HB8.out.trans (hb9.mono HB8.out.size))
      clear hb9
      go_wp2
      go_ret
      exact ⟨rfl, HB9.out⟩
    · rw [HSE.out hval]
      generalize joiE (splR b n) _ = E2
      generalize (joiR (splR b n) _).length = J2
      clear hl7 hc7 hm7 hb7
      go_wp2_with fail
      refine (awake_any w7).mono ?_
      rintro e w9 ⟨rfl, hb9⟩
      have HB9 := Lib.hid (HB8.out.trans (hb9.mono HB8.out.size))
      clear hb9
      go_wp2
      go_ret
      exact ⟨rfl, HB9.out⟩
end Go.Proofs.Ytinfjidclkgfnaa
