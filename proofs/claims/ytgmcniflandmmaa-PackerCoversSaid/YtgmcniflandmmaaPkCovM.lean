/-
  The pieces of Fill cover every file in order: plain mathematics.
-/
import Derived.Test.YtgmcniflandmmaaPkFitM
namespace Go.Proofs.Ytgmcniflandmmaa
set_option linter.unusedVariables false
/-- a piece goes on behind offset O of file F -/
def OkC (L : List Int) (F O : Int) (p : Pc) : Prop :=
  ((p.f = F ∧ p.o = O) ∨ (p.f = F + 1 ∧ 0 ≤ F ∧ F < L.length ∧ O = szL L F.toNat ∧ p.o = 0)) ∧ (0 ≤ p.f ∧ p.f < L.length) ∧ 0 ≤ p.o ∧ 0 ≤ p.n ∧ p.n ≤ szL L p.f.toNat - p.o ∧ (p.n = 0 → szL L p.f.toNat = 0)
def covR (L : List Int) : Int → Int → List Pc → Prop
  | _, _, [] => True
  | F, O, p :: r => OkC L F O p ∧ covR L p.f (p.o + p.n) r
def endR : Int → Int → List Pc → Int × Int
  | F, O, [] => (F, O)
  | _, _, p :: r => endR p.f (p.o + p.n) r
theorem covR_append (L : List Int) (F O : Int) (a b : List Pc) : covR L F O (a ++ b) ↔ covR L F O a ∧ covR L (endR F O a).1 (endR F O a).2 b := by
  induction a generalizing F O with
  | nil => simp [covR, endR]
  | cons p a ih => rw [List.cons_append, covR, covR, ih, endR, and_assoc]
theorem endR_append (F O : Int) (a b : List Pc) : endR F O (a ++ b) = endR (endR F O a).1 (endR F O a).2 b := by
  induction a generalizing F O with
  | nil => rfl
  | cons p a ih => rw [List.cons_append, endR, ih, endR]
theorem endR_snoc (F O : Int) (a : List Pc) (p : Pc) : endR F O (a ++ [p]) = (p.f, p.o + p.n) := by rw [endR_append]; rfl
theorem covR_snoc (L : List Int) (F O : Int) (a : List Pc) (p : Pc) : covR L F O (a ++ [p]) ↔ covR L F O a ∧ OkC L (endR F O a).1 (endR F O a).2 p := by
  rw [covR_append, covR, covR]; simp
theorem flat_at {ll : List (List Pc)} {i k : Nat} (hi : i < ll.length) (hk : k < ll[i].length) : ll.flatten = ((ll.take i).flatten ++ (ll[i].take k)) ++ (ll[i][k] :: (ll[i].drop (k + 1) ++ (ll.drop (i + 1)).flatten)) := by
  conv => lhs; rw [← List.take_append_drop i ll, List.drop_eq_getElem_cons hi, List.flatten_append, List.flatten_cons]
  conv => lhs; rw [← List.take_append_drop k ll[i], List.drop_eq_getElem_cons hk]
  simp only [List.append_assoc, List.cons_append]
/-- the piece k of container i goes on where those before it end -/
theorem cov_at {L : List Int} {ll : List (List Pc)} (h : covR L 0 0 ll.flatten) {i k : Nat} (hi : i < ll.length) (hk : k < ll[i].length) :
    OkC L (endR 0 0 ((ll.take i).flatten ++ (ll[i].take k))).1 (endR 0 0 ((ll.take i).flatten ++ (ll[i].take k))).2 ll[i][k] := by
  rw [flat_at hi hk, covR_append] at h
  exact h.2.1
theorem end_next {ll : List (List Pc)} {i k : Nat} (hi : i < ll.length) (hk : k < ll[i].length) : endR 0 0 ((ll.take i).flatten ++ (ll[i].take (k + 1))) = (ll[i][k].f, ll[i][k].o + ll[i][k].n) := by
  rw [List.take_succ_eq_append_getElem hk, ← List.append_assoc, endR_snoc]
theorem end_row {ll : List (List Pc)} {i : Nat} (hi : i < ll.length) : endR 0 0 ((ll.take i).flatten ++ (ll[i].take ll[i].length)) = endR 0 0 (ll.take (i + 1)).flatten := by
  rw [List.take_length, List.take_succ_eq_append_getElem hi, List.flatten_append]
  simp
/-- where the files before f end -/
def PreC (L : List Int) (f : Nat) (ll : List (List Pc)) : Prop := covR L 0 0 ll.flatten ∧ ((f = 0 ∧ ll = []) ∨ (0 < f ∧ ll ≠ [] ∧ endR 0 0 ll.flatten = ((f : Int) - 1, szL L (f - 1))))
theorem cov_file {L : List Int} {c : Int} {f : Nat} {ll : List (List Pc)} (hc : 1 ≤ c) (hL : ∀ s ∈ L, 0 ≤ s ∧ s ≤ 4096) (hf : f < L.length) (hg : GoodP c ll) (hp : PreC L f ll) : GoodP c (fileP c ll f (szL L f)) ∧ PreC L (f + 1) (fileP c ll f (szL L f)) := by
  have hs := szL_nn hL f
  obtain ⟨z, l, -, -, e2, hg2, h0, h1, hpos, -, hflat, -⟩ := add_form (f := (f : Int)) (o := 0) (left := szL L f) hg hc hs.1
  have hne : addP c ll f 0 (szL L f) ≠ [] := by rw [e2]; simp
  have hcov : covR L 0 0 (addP c ll f 0 (szL L f)).flatten ∧ endR 0 0 (addP c ll f 0 (szL L f)).flatten = ((f : Int), lenP c ll (szL L f)) := by
    rw [hflat, covR_snoc, endR_snoc]
    refine ⟨⟨hp.1, ?_, ⟨?_, ?_⟩, ?_, ?_, ?_, ?_⟩, ?_⟩
    · rcases hp.2 with ⟨rfl, rfl⟩ | ⟨h, -, he⟩
      · exact .inl ⟨rfl, rfl⟩
      · rw [he]
        refine .inr ⟨by simp, by simp; omega, by simp; omega, ?_, rfl⟩
        show szL L (f - 1) = szL L ((f : Int) - 1).toNat
        congr 1
        omega
    · simp
    · simpa using hf
    · simp
    · exact h0
    · simpa using h1
    · intro h
      simp only [Int.toNat_natCast]
      simp only at h
      by_cases hz : 0 < szL L f
      · have := hpos hz; omega
      · omega
    · simp
  have hQ := rest_ind (f := (f : Int)) (c := c) (size := szL L f) hc (fun t lz => lz ≠ [] ∧ covR L 0 0 lz.flatten ∧ endR 0 0 lz.flatten = ((f : Int), t)) (fun t lz hgz ht hts hq => by
    obtain ⟨z, l, -, -, e2, -, h0, h1, hpos, -, hflat, -⟩ := add_form (f := (f : Int)) (o := t) (left := szL L f - t) hgz hc (by omega)
    refine ⟨by rw [e2]; simp, ?_, by rw [hflat, endR_snoc]⟩
    rw [hflat, covR_snoc]
    refine ⟨hq.2.1, .inl ?_, ⟨by simp, by simpa using hf⟩, ht, h0, by simpa using h1, fun h => ?_⟩
    · rw [hq.2.2]; exact ⟨rfl, rfl⟩
    · have := hpos (by omega)
      simp only at h
      omega) (szL L f - lenP c ll (szL L f)).toNat _ _ (Nat.le_refl _) h0 h1 hg2 ⟨hne, hcov⟩
  refine ⟨hQ.1, hQ.2.2.1, .inr ⟨by omega, hQ.2.1, ?_⟩⟩
  show endR 0 0 (fileP c ll f (szL L f)).flatten = _
  have := hQ.2.2.2
  unfold fileP
  rw [this]
  simp
theorem cov_all {L : List Int} {c : Int} (hc : 1 ≤ c) (hL : ∀ s ∈ L, 0 ≤ s ∧ s ≤ 4096) : ∀ (n f : Nat) (ll : List (List Pc)), n + f = L.length → GoodP c ll → PreC L f ll → PreC L L.length (fillP c (L.drop f) f ll)
  | 0, f, ll, hn, hg, hp => by
    obtain rfl : f = L.length := by omega
    rw [List.drop_length, fillP]
    exact hp
  | n + 1, f, ll, hn, hg, hp => by
    have hf : f < L.length := by omega
    rw [List.drop_eq_getElem_cons hf, fillP, ← szL_get hf]
    obtain ⟨h1, h2⟩ := cov_file hc hL hf hg hp
    have := cov_all hc hL n (f + 1) _ (by omega) h1 h2
    rwa [Int.natCast_add] at this
theorem fill_cov {L : List Int} {c : Int} (h : valU L c = 0) : PreC L L.length (fillU L c).1 := by
  have hok := (valU_ok h).2
  unfold fillU
  rw [if_pos h]
  have := cov_all hok.1.1 hok.2 L.length 0 [] rfl (GoodP.nil c) ⟨trivial, .inl ⟨rfl, rfl⟩⟩
  simpa using this
end Go.Proofs.Ytgmcniflandmmaa
