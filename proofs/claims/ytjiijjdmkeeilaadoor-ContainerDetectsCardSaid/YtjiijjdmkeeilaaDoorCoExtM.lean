/-
  What Extract answers: the mathematics.
-/
import Derived.Test.YtjiijjdmkeeilaaDoorCAU
namespace Go.Proofs.YtjiijjdmkeeilaaDoor
open Go.RowKit
set_option linter.unusedVariables false
/-- what Extract answers -/
noncomputable def extU (h : Hdr) (j o l : Int) (bl : List Blk) : List UInt8 × Int :=
  if (needU h j o l).2.2 ≠ 0 then ([], (needU h j o l).2.2) else if (bl.length : Int) ≠ (needU h j o l).2.1 then ([], 8) else if l = 0 then ([], 0) else
  if (chsU h.vr h.sz ((needU h j o l).1 - ((hbL h).length : Int)) bl).2 ≠ 0 then ([], (chsU h.vr h.sz ((needU h j o l).1 - ((hbL h).length : Int)) bl).2) else
    (((chsU h.vr h.sz ((needU h j o l).1 - ((hbL h).length : Int)) bl).1.drop (staU h.es j.toNat + o - ((needU h j o l).1 - ((hbL h).length : Int)) * prtU h.vr).toNat).take l.toNat, 0)
theorem extU_parts {h : Hdr} {j o l F K e : Int} (hn : needU h j o l = (F, K, e)) {bl : List Blk} {B : List UInt8} {f : Int} (hc : chsU h.vr h.sz (F - ((hbL h).length : Int)) bl = (B, f)) :
    extU h j o l bl = if e ≠ 0 then ([], e) else if (bl.length : Int) ≠ K then ([], 8) else if l = 0 then ([], 0) else if f ≠ 0 then ([], f) else
      ((B.drop (staU h.es j.toNat + o - (F - ((hbL h).length : Int)) * prtU h.vr).toNat).take l.toNat, 0) := by
  unfold extU
  rw [hn]
  dsimp only
  rw [hc]
/-- a span that Need names, of at least one byte -/
structure GoodN (h : Hdr) (j o l F K : Int) (q : Nat) : Prop where
  v : VHdr h
  j0 : 0 ≤ j
  jl : j.toNat < h.es.length
  s0 : 0 ≤ staU h.es j.toNat
  o0 : 0 ≤ o
  l1 : 1 ≤ l
  sm : staU h.es j.toNat + o + l ≤ h.sz
  hf : F = ((hbL h).length : Int) + (q : Int)
  hq : (q : Int) = (staU h.es j.toNat + o) / prtU h.vr
  hk : K = (staU h.es j.toNat + o + l - 1) / prtU h.vr - (q : Int) + 1
theorem needU_good {h : Hdr} {j o l F K : Int} (hn : needU h j o l = (F, K, 0)) (hl : l ≠ 0) : ∃ q, GoodN h j o l F K q := by
  unfold needU at hn
  by_cases hv : vldH h = true
  rotate_left
  · rw [if_neg hv] at hn
    cases hn
  rw [if_pos hv] at hn
  by_cases hj : j < 0
  · rw [if_pos hj] at hn
    cases hn
  rw [if_neg hj] at hn
  cases hx : h.es[j.toNat]? with
  | none => rw [hx] at hn; cases hn
  | some x =>
    rw [hx] at hn
    dsimp only at hn
    by_cases hr : (0 ≤ o ∧ o ≤ x.n) ∧ (0 ≤ l ∧ l ≤ x.n) ∧ o + l ≤ x.n
    rotate_left
    · rw [if_neg hr] at hn
      cases hn
    rw [if_pos hr, if_neg hl] at hn
    have hV := vldH_iff.1 hv
    obtain ⟨hjl, hxe⟩ := List.getElem?_eq_some_iff.1 hx
    have hs := sta_sum h.es j.toNat hjl (fun e he => (VEs.all hV e he).2.2.2.1.1)
    have hf := sum_full hV
    rw [hxe] at hs
    simp only [Prod.mk.injEq] at hn
    obtain ⟨e1, e2, -⟩ := hn
    have hP := prtU_cases h.vr
    have hq0 : 0 ≤ (staU h.es j.toNat + o) / prtU h.vr := Int.ediv_nonneg (by omega) (by omega)
    refine ⟨((staU h.es j.toNat + o) / prtU h.vr).toNat, hV, by omega, hjl, hs.1, hr.1.1, by omega, by omega, ?_, ?_, ?_⟩
    · rw [← e1]; omega
    · omega
    · rw [← e2]; omega
theorem GoodN.nums {h : Hdr} {j o l F K : Int} {q : Nat} (g : GoodN h j o l F K q) : 1 ≤ K ∧ K ≤ 100000 ∧ (q : Int) ≤ 100000 ∧ (∀ i : Int, 0 ≤ i → i < K → 0 ≤ nU h.vr h.sz ((q : Int) + i)) ∧
    (q : Int) * prtU h.vr ≤ staU h.es j.toNat + o ∧ staU h.es j.toNat + o < (q : Int) * prtU h.vr + prtU h.vr ∧ (q : Int) * prtU h.vr + K * prtU h.vr < h.sz + prtU h.vr ∧ staU h.es j.toNat + o + l ≤ (q : Int) * prtU h.vr + K * prtU h.vr := by
  obtain ⟨v, j0, jl, s0, o0, l1, sm, f, hq, hk⟩ := g
  have hz := v.1.2.2.2
  generalize staU h.es j.toNat = s at *
  unfold nU
  rcases prtU_cases h.vr with ⟨_, e⟩ | ⟨_, e⟩
  all_goals
    rw [e] at hq hk
    rw [e]
    refine ⟨by omega, by omega, by omega, fun i h1 h2 => by omega, by omega, by omega, by omega, by omega⟩
theorem GoodN.fits {h : Hdr} {j o l F K : Int} {q : Nat} (g : GoodN h j o l F K q) {bl : List Blk} (hb : (bl.length : Int) = K) (hok : (chsU h.vr h.sz (q : Int) bl).2 = 0) :
    0 ≤ staU h.es j.toNat + o - (q : Int) * prtU h.vr ∧ staU h.es j.toNat + o - (q : Int) * prtU h.vr + l ≤ ((chsU h.vr h.sz (q : Int) bl).1.length : Int) := by
  obtain ⟨n1, n2, n3, n4, n5, n6, n7, n8⟩ := g.nums
  have hvr : h.vr = 1 ∨ h.vr = 2 := by have := g.v.1.2.1; omega
  have hsm := g.sm
  have hl1 := g.l1
  have := chsU_size hvr bl (q : Int) (by omega) (by rw [hb]; omega) hok (by omega)
  rw [this, hb]
  omega
end Go.Proofs.YtjiijjdmkeeilaaDoor
