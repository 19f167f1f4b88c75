/-
  A unit that is repeated is packed to little more than the unit, as plain mathematics.
-/
import Derived.Test.YtihiccccpjakgaaZPackM
import Derived.Test.YtihiccccpjakgaaKRep
namespace Go.Proofs.Ytihiccccpjakgaa
open Go.RowKit
set_option linter.unusedVariables false
set_option linter.unusedSimpArgs false
attribute [local irreducible] kyA
/-- bytes that come again after U bytes -/
def Again (xs : List UInt8) (U : Nat) : Prop := ∀ j (h : j < xs.length), U ≤ j → xs[j] = xs[j - U]'(by omega)
theorem again_lng {xs : List UInt8} {U at_ : Nat} (hA : Again xs U) (h0 : 0 < U) (h32 : U ≤ 32) (hU : U ≤ at_) (h4 : at_ + 4 ≤ xs.length) : (lng xs at_).1 = xs.length - at_ ∧ (lng xs at_).2 ≤ U := by
  have hget : ∀ j, j < xs.length - at_ → (xs.drop (at_ - U))[j]? = (xs.drop at_)[j]? := by
    intro j hj
    rw [List.getElem?_drop, List.getElem?_drop, List.getElem?_eq_getElem (by omega), List.getElem?_eq_getElem (by omega), hA (at_ + j) (by omega) (by omega)]
    congr 2
    omega
  have hk : kyA xs (at_ - U) = kyA xs at_ := by
    have : (xs.drop (at_ - U)).take 4 = (xs.drop at_).take 4 := by
      refine List.ext_getElem? fun j => ?_
      by_cases hj : j < 4
      · rw [List.getElem?_take_of_lt hj, List.getElem?_take_of_lt hj]; exact hget j (by omega)
      · rw [List.getElem?_eq_none (by rw [List.length_take]; omega), List.getElem?_eq_none (by rw [List.length_take]; omega)]
    have e : ∀ p, kyA xs p = kyF ((xs.drop p).take 4) := fun p => by unfold kyA; rfl
    rw [e, e, this]
  have hm : at_ - U ∈ tried xs at_ := last_tried _ at_ _ (hist_lt ..) (fun q hq => (mem_hist.1 hq).1) (mem_hist.2 ⟨by omega, hk⟩) (by omega)
  have hl : lcp (xs.drop (at_ - U)) (xs.drop at_) = xs.length - at_ := by
    rw [lcp_all _ _ (fun j hj => hget j (by rw [List.length_drop] at hj; exact hj)), List.length_drop]
  have hle := (lng_le xs at_).1
  rcases lng_best xs at_ (tried xs at_) (List.Pairwise.sublist (List.drop_sublist _ _) (hist_lt ..)) _ hm with h | ⟨h, h2⟩
  · change _ < (lng xs at_).1 at h
    omega
  · change _ = (lng xs at_).1 at h
    change (lng xs at_).2 ≤ _ at h2
    exact ⟨by omega, by omega⟩
theorem pkl_shr {xs : List UInt8} {U : Nat} (hA : Again xs U) (h0 : 0 < U) (h32 : U ≤ 32) (h2 : 2 * U ≤ xs.length) (hx : xs.length ≤ 200000) (N : Nat) : ∀ at_ from_ ts, xs.length - at_ ≤ N → PkI xs at_ from_ ts →
    (at_ ≤ U ∨ (U ≤ at_ ∧ from_ = at_ ∧ (forms ts).length ≤ U + 4) ∨ (forms ts).length + (xs.length - from_) ≤ U + 11) → (forms (pkl xs at_ from_ ts)).length ≤ U + 24 := by
  induction N with
  | zero =>
    intro at_ from_ ts hN h hS
    have hle := h.le
    have hl := h.len
    have hft := h.ft
    rw [pkl, dif_neg (by omega)]
    obtain ⟨l1, l2, l3⟩ := litT_step h (by omega)
    have he := enc_len (2 * (at_ - from_)) (by omega)
    rcases hS with hS | ⟨hS, hf, hS2⟩ | hS
    · omega
    · omega
    · omega
  | succ N ih =>
    intro at_ from_ ts hN h hS
    have hle := h.le
    have hl := h.len
    have hft := h.ft
    rw [pkl]
    by_cases ha : at_ < xs.length
    · rw [dif_pos ha]
      have hlng := lng_le xs at_
      have hag := again_lng (at_ := at_) hA h0 h32
      have e1 : (enc (2 * (lng xs at_).1 + 1)).length ≤ 3 := enc_three _ (by omega)
      have p1 := enc_pos (2 * (lng xs at_).1 + 1)
      have p2 := enc_pos (lng xs at_).2
      have p3 := enc_pos (2 * (at_ - from_))
      by_cases hs : sav (lng xs at_).1 (lng xs at_).2 (at_ - from_) = true
      · rw [dif_pos hs]
        have hsp := sav_pos hs
        obtain ⟨c1, c2⟩ := h.copy (by omega) hs
        refine ih _ _ _ (by omega) c1 ?_
        rcases hS with hS | ⟨hS, hf, hS2⟩ | hS
        · by_cases h5 : at_ + (lng xs at_).1 ≤ U
          · exact .inl h5
          · have e3 : (enc (2 * (at_ - from_))).length = 1 := enc_one _ (by omega)
            have e2 : (enc (lng xs at_).2).length = 1 := enc_one _ (by omega)
            by_cases h6 : at_ < U
            · exact .inr (.inl ⟨by omega, rfl, by omega⟩)
            · obtain ⟨g1, g2⟩ := hag (by omega) (by omega)
              exact .inr (.inr (by omega))
        · obtain ⟨g1, g2⟩ := hag hS (by omega)
          have e3 : (enc (2 * (at_ - from_))).length = 1 := enc_one _ (by omega)
          have e2 : (enc (lng xs at_).2).length = 1 := enc_one _ (by omega)
          exact .inr (.inr (by omega))
        · exact .inr (.inr (by omega))
      · rw [dif_neg hs]
        refine ih _ _ _ (by omega) (h.one ha) ?_
        have hno : U ≤ at_ → at_ - from_ ≤ 32 → xs.length < at_ + 6 := by
          intro h5 h6
          rcases Nat.lt_or_ge xs.length (at_ + 6) with h7 | h7
          · exact h7
          · obtain ⟨g1, g2⟩ := hag h5 (by omega)
            have e3 : (enc (2 * (at_ - from_))).length = 1 := enc_one _ (by omega)
            have e2 : (enc (lng xs at_).2).length = 1 := enc_one _ (by omega)
            exfalso
            apply hs
            unfold sav
            exact decide_eq_true (by omega)
        rcases hS with hS | ⟨hS, hf, hS2⟩ | hS
        · by_cases h6 : at_ < U
          · exact .inl (by omega)
          · have := hno (by omega) (by omega)
            exact .inr (.inr (by omega))
        · have := hno hS (by omega)
          exact .inr (.inr (by omega))
        · exact .inr (.inr hS)
    · rw [dif_neg ha]
      obtain ⟨l1, l2, l3⟩ := litT_step h (by omega)
      have he := enc_len (2 * (at_ - from_)) (by omega)
      rcases hS with hS | ⟨hS, hf, hS2⟩ | hS
      · omega
      · have e3 : (enc (2 * (at_ - from_))).length ≤ 10 := he
        omega
      · omega
/-- P8.5 -/
theorem pack_shr (u : List UInt8) (t : Nat) (h0 : 1 ≤ u.length) (h32 : u.length ≤ 32) (ht : 2 ≤ t) (hx : t ≤ 3000) : (packU (repU u t)).length ≤ u.length + 24 := by
  have hl := repU_length u t
  have h2 : 2 * u.length ≤ (repU u t).length := by rw [hl]; exact Nat.mul_le_mul_right _ ht
  have h3 : (repU u t).length ≤ 3000 * 32 := by rw [hl]; exact Nat.mul_le_mul hx h32
  exact pkl_shr (fun j hj hU => repU_again u t j hj hU (by omega)) (by omega) h32 h2 (by omega) (repU u t).length 0 0 [] (by omega) (.start _) (.inl (Nat.zero_le _))
end Go.Proofs.Ytihiccccpjakgaa
