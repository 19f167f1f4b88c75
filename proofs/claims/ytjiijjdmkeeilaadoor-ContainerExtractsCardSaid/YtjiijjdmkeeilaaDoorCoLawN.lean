/-
  When Need answers.
-/
import Derived.Test.YtjiijjdmkeeilaaDoorCAZ
namespace Go.Proofs.YtjiijjdmkeeilaaDoor
open Go.RowKit
set_option linter.unusedVariables false
theorem needU_ok {h : Hdr} {j o l F K : Int} (hn : needU h j o l = (F, K, 0)) : 0 ≤ j ∧ ∃ x, h.es[j.toNat]? = some x ∧ (0 ≤ o ∧ o ≤ x.n) ∧ (0 ≤ l ∧ l ≤ x.n) ∧ o + l ≤ x.n := by
  unfold needU at hn
  by_cases hv : vldH h = true
  rotate_left
  · rw [if_neg hv] at hn; cases hn
  rw [if_pos hv] at hn
  by_cases hj : j < 0
  · rw [if_pos hj] at hn; cases hn
  rw [if_neg hj] at hn
  cases hx : h.es[j.toNat]? with
  | none => rw [hx] at hn; cases hn
  | some x =>
    rw [hx] at hn
    dsimp only at hn
    by_cases hr : (0 ≤ o ∧ o ≤ x.n) ∧ (0 ≤ l ∧ l ≤ x.n) ∧ o + l ≤ x.n
    · exact ⟨by omega, x, rfl, hr.1, hr.2.1, hr.2.2⟩
    · rw [if_neg hr] at hn; cases hn
theorem needU_rng {h : Hdr} {p : List UInt8} {j o l F K : Int} (hn : needU (hdP h p) j o l = (F, K, 0)) : 0 ≤ F ∧ 0 ≤ K ∧ F + K ≤ ((hbL (hdP h p) ++ payB h.vr p).length : Int) := by
  by_cases hl : l = 0
  · subst hl
    obtain ⟨rfl, rfl⟩ := needU_zero hn
    omega
  obtain ⟨q, g⟩ := needU_good hn hl
  have h1 := g.within
  have h2 := g.hf
  have h3 := g.nums.1
  rw [List.length_append]
  omega
theorem needU_no {h : Hdr} (hv : vldH h = true) {j o l F K f : Int} (hn : needU h j o l = (F, K, f)) (hf : f ≠ 0) (h1 : ¬ j < 0) (h2 : ¬ (h.es.length : Int) ≤ j) (h3 : ¬ o < 0) (h4 : ¬ l < 0) (hj : j.toNat < h.es.length) : (h.es[j.toNat]).n - l < o := by
  unfold needU at hn
  rw [if_pos hv, if_neg h1, List.getElem?_eq_getElem hj] at hn
  dsimp only at hn
  by_cases hr : (0 ≤ o ∧ o ≤ h.es[j.toNat].n) ∧ (0 ≤ l ∧ l ≤ h.es[j.toNat].n) ∧ o + l ≤ h.es[j.toNat].n
  · rw [if_pos hr] at hn
    exfalso
    apply hf
    by_cases hl : l = 0
    · rw [if_pos hl] at hn; cases hn; rfl
    · rw [if_neg hl] at hn; cases hn; rfl
  · omega
theorem VHdr.bnd {h : Hdr} (v : VHdr h) {i : Nat} (hi : i < h.es.length) : 0 ≤ (h.es[i]).n ∧ (h.es[i]).n ≤ 262144 ∧ 0 ≤ staU h.es i ∧ staU h.es i + (h.es[i]).n ≤ 262144 := by
  have h1 := sta_sum h.es i hi (fun e he => (VEs.all v e he).2.2.2.1.1)
  have h2 := need_sum v
  have h3 := (VEs.all v _ (List.getElem_mem hi)).2.2.2.1.1
  omega
end Go.Proofs.YtjiijjdmkeeilaaDoor
