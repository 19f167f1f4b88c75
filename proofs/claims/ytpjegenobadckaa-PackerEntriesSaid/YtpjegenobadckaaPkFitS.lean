/-
  Containers and their spaces in memory, beside one another.
-/
import Derived.Test.YtpjegenobadckaaPkVal
import Derived.Test.YtpjegenobadckaaPkFitM
import Derived.Test.YtpjegenobadckaaLbOper
import Derived.Test.YtpjegenobadckaaUntil
import Derived.Test.YtpjegenobadckaaCoVal
import Derived.Deep.DeepCutAuto
import Derived.BigQuiet
namespace Go.Proofs.Ytpjegenobadckaa
open Go.RowKit
set_option linter.unusedVariables false
set_option linter.unusedSimpArgs false
/-- the spaces that are left -/
def spF (l : List Int) (c : Int) (ll : List (List Nat)) : List Int := ll.map fun q => c - sumZ l q
theorem spF_length (l : List Int) (c : Int) (ll : List (List Nat)) : (spF l c ll).length = ll.length := by simp [spF]
theorem spF_get (l : List Int) (c : Int) (ll : List (List Nat)) (i : Nat) (h : i < ll.length) : (spF l c ll)[i]'(by rw [spF_length]; exact h) = c - sumZ l ll[i] := by simp [spF]
theorem spF_snoc (l : List Int) (c : Int) (ll : List (List Nat)) : spF l c (ll ++ [[]]) = spF l c ll ++ [c] := by simp [spF, sumZ]
theorem spF_set (l : List Int) (c : Int) (ll : List (List Nat)) (i : Nat) (q : List Nat) : spF l c (ll.set i q) = (spF l c ll).set i (c - sumZ l q) := by simp [spF, List.map_set]
theorem in_ne : 3 ≠ 22 := by decide
abbrev NsI (w : World) (B : Nat) (v : Value) (ll : List (List Nat)) (ss : List Slv) : Prop := Nss 22 3 1 naC w B v ll ss
abbrev OfI (w : World) (B : Nat) (v : Value) (l : List Int) : Prop := Of 3 1 inC w B v l
abbrev OfN (w : World) (B : Nat) (v : Value) (l : List Nat) : Prop := Of 3 1 naC w B v l
/-- no container lies where the spaces lie -/
def Awy (ss : List Slv) (vs : Value) : Prop := ∀ s ∈ ss, s.val.ownBlock = none ∨ s.val.ownBlock ≠ vs.ownBlock
structure FitSt (w : World) (B : Nat) (v vs : Value) (l : List Int) (c : Int) (ll : List (List Nat)) : Prop where
  n : ∃ ss, NsI w B v ll ss ∧ Awy ss vs
  s : OfI w B vs (spF l c ll)
section
variable {w w' : World} {B : Nat} {v vs : Value} {l : List Int} {c : Int} {ll : List (List Nat)} {ss : List Slv}
theorem FitSt.below (h : FitSt w B v vs l c ll) (hb : Below w.heap.size w w') : FitSt w' B v vs l c ll := by
  obtain ⟨⟨ss, h1, h2⟩, h3⟩ := h
  exact ⟨⟨ss, h1.below hb, h2⟩, h3.below hb⟩
theorem FitSt.nn (h : FitSt w B v vs l c ll) : Nn 22 3 1 naC w B v ll := by
  obtain ⟨⟨ss, h1, h2⟩, h3⟩ := h
  exact ⟨ss, h1⟩
theorem FitSt.nil (w : World) (B : Nat) (l : List Int) (c : Int) : FitSt w B (.slice none 0 0) (.slice none 0 0) l c [] := ⟨⟨[], Nss.nil _ _ _ _ _ _, fun s hs => by simp at hs⟩, Of.nil _ _ _ _ _⟩
theorem drew_below (w : World) (k : Nat) : Below w.heap.size w (w.drewN k) := ⟨rfl, rfl, rfl, Nat.le_refl _, fun _ _ => rfl⟩
/-- the space of container i -/
theorem FitSt.space (h : FitSt w B v vs l c ll) {i : Nat} (hi : i < ll.length) : ∃ g cap, vs = .slice (some ⟨g, 0, none⟩) ll.length cap ∧ B ≤ g ∧ g < w.heap.size ∧ w.frozen? ⟨g, i, none⟩ = false ∧ w.cell? ⟨g, i, none⟩ = some (.int .i64 (c - sumZ l ll[i])) := by
  have hs := h.s
  obtain ⟨ad, cap, e, hl, -⟩ := hs.read
  rw [spF_length] at e
  obtain ⟨b, off, rfl, hlt, hc⟩ := hl.get celI (i := i) (by rw [spF_length]; exact hi)
  rcases hs.row.2 with ⟨e2, _⟩ | ⟨g, cap', cur, e2, hB, hh, -⟩
  · rw [e2] at e; cases e
  · rw [e2] at e
    have e3 := (Value.slice.inj e).1
    cases e3
    have := hc 0 _ (by decide) rfl
    simp only [Nat.zero_add, Nat.mul_one, Nat.add_zero] at this
    rw [spF_get _ _ _ _ hi] at this
    exact ⟨b, cap', by rw [e2, spF_length], hB, hlt, by simp [World.frozen?, hh], this⟩
/-- one cell of a list of single cells is written -/
theorem Of.set1 {α : Type} {cc : α → List Value} {T : TypeId} {y : List α} (h : Of T 1 cc w B v y) (hk : Cel cc 1) {g : Nat} (hg : v.ownBlock = some g) (i : Nat) (hi : i < y.length) (x : α) (u : Value) (hu : cc x = [u]) : Of T 1 cc (w.setCell ⟨g, i, none⟩ u) B v (y.set i x) := by
  have h1 := h.row
  have hf : ∀ (y : List α) (i : Nat), i < y.length → (y.set i x).flatMap cc = (y.flatMap cc).set i u := by
    intro y
    induction y with
    | nil => intro i hi; simp at hi
    | cons a y ih =>
      intro i hi
      obtain ⟨b, hb⟩ := List.length_eq_one_iff.1 (hk.len a)
      cases i with
      | zero => simp [hb, hu]
      | succ i =>
        rw [List.set_cons_succ, List.flatMap_cons, List.flatMap_cons, ih i (by simpa using hi), hb]
        rfl
  unfold Of
  rw [List.length_set, hf y i hi]
  refine ⟨by rw [List.length_set, flat_length hk], ?_⟩
  rcases h1.2 with ⟨rfl, _⟩ | ⟨g', cap, cur, rfl, hB, hh, hn, hm, hs, ht⟩
  · cases hg
  · obtain rfl : g' = g := by simpa [Value.ownBlock] using hg
    refine .inr ⟨g', cap, _, rfl, hB, hd_set w g' i _ cur _ _ hh, hn, hm, by simpa using hs, ?_⟩
    rw [Array.toList_setIfInBounds, List.take_set, ht]
/-- what lies at i in a list of numbers -/
theorem Of.cellI {g n cap i : Nat} {y : List Int} {x : Int} (h : OfI w B (.slice (some ⟨g, 0, none⟩) n cap) y) (hx : y[i]? = some x) : w.cell? ⟨g, i, none⟩ = some (.int .i64 x) ∧ w.frozen? ⟨g, i, none⟩ = false := by
  obtain ⟨hi, rfl⟩ := List.getElem?_eq_some_iff.1 hx
  obtain ⟨ad, cap', e, hl, -⟩ := h.read
  cases e
  obtain ⟨b, off, e, hlt, hc⟩ := hl.get celI hi
  cases e
  have := hc 0 _ (by decide) rfl
  obtain ⟨cur, hcu⟩ := h.typ (g := g) rfl
  exact ⟨by simpa using this, by simp [World.frozen?, hcu]⟩
/-- a block of one cell -/
theorem Lf.cell {α : Type} {cc : α → List Value} {x : α} {u : Value} {T : TypeId} {a : Nat} (h : w.heap[a]? = some (.cells #[u] T (0, 0))) (hu : cc x = [u]) : Lf cc w (some ⟨a, 0, none⟩) [x] := by
  refine .inr ⟨a, 0, rfl, (Array.getElem?_eq_some_iff.1 h).1, fun j y hy => ?_⟩
  rw [Nat.zero_add, cell_of_row w a j _ _ _ h]
  simp only [List.flatMap_cons, List.flatMap_nil, List.append_nil, hu] at hy
  simpa using hy
/-- an empty container is appended -/
theorem push_keeps (hn : NsI w B v ll ss) (hs : OfI w B vs (spF l c ll)) (ha : Awy ss vs) (hg : w.grownBy w' v.ownBlock) : OfI w' B vs (spF l c ll) ∧ Awy (ss ++ [⟨none, 0, 0⟩]) vs := by
  refine ⟨hs.kept hg (hs.apart hn.1 in_ne), fun s h => ?_⟩
  rcases List.mem_append.1 h with h | h
  · exact ha s h
  · rw [List.mem_singleton.1 h]; exact .inl rfl
/-- a space is appended -/
theorem space_keeps (hn : NsI w B v ll ss) (ha : Awy ss vs) {vs' : Value} {y : List Int} (hs : OfI w B vs y) (hg : w.grownBy w' vs.ownBlock) (hw : vs'.ownBlock = vs.ownBlock ∨ ∃ g, vs'.ownBlock = some g ∧ w.heap.size ≤ g) : NsI w' B v ll ss ∧ Awy ss vs' := by
  refine ⟨hn.grown hg ?_ ha, fun s h => ?_⟩
  · rcases hs.apart hn.1 in_ne with h | h
    · rw [h]; cases hv : v.ownBlock <;> simp
    · exact .inr fun e => h e.symm
  · rcases hw with hw | ⟨g, hw, hge⟩
    · rw [hw]; exact ha s h
    · rcases hb : s.val.ownBlock with _ | b
      · exact .inl rfl
      · refine .inr ?_
        rw [hw]
        intro e
        cases e
        have := (hn.lt h hb).2
        omega
/-- a file is put into container i -/
theorem FitSt.put (h : FitSt w B v vs l c ll) {g i cap : Nat} (hv : v = .slice (some ⟨g, 0, none⟩) ll.length cap) (hi : i < ll.length) {u u' : Value} {y : List Nat} (hu : w.cell? ⟨g, i, none⟩ = some u)
    (ho : OfN w' B u' y) (hg : w.grownBy w' u.ownBlock) (hw : u'.ownBlock = u.ownBlock ∨ ∃ g, u'.ownBlock = some g ∧ w.heap.size ≤ g) :
    ∃ ss, NsI (w'.setCell ⟨g, i, none⟩ u') B v (ll.set i y) ss ∧ Awy ss vs ∧ OfI (w'.setCell ⟨g, i, none⟩ u') B vs (spF l c ll) := by
  obtain ⟨⟨ss, h1, h2⟩, h3⟩ := h
  obtain ⟨ad2, cap2, rfl, -⟩ := ho.read
  have hi' : i < ss.length := by have := h1.2.1; omega
  have hsl := h1.sl hv hi'
  rw [hu] at hsl
  have hsl := Option.some.inj hsl
  have hmem : ss[i] ∈ ss := List.getElem_mem _
  have hav := h2 _ hmem
  rw [← hsl] at hav
  refine ⟨_, Nss.put h1 in_ne hv hi hu ho hg hw, fun s hs => ?_, ?_⟩
  · rcases mem_set_cases hs with rfl | hs
    · rcases hw with hw | ⟨b, hw, hge⟩
      · rw [hw]; exact hav
      · refine .inr ?_
        rw [hw]
        intro e
        have := (h3.lt b e.symm).2
        omega
    · exact h2 s hs
  · have h4 := h3.kept hg (by
      rcases hav with h | h
      · rw [h]; cases vs.ownBlock <;> simp
      · exact .inr fun e => h e.symm)
    refine h4.other g i _ fun e => ?_
    rcases h3.apart h1.1 in_ne with h | h
    · rw [h] at e; cases e
    · exact h (by rw [e, hv]; rfl)
/-- its space shrinks -/
theorem FitSt.shrink (hn : NsI w B v ll ss) (ha : Awy ss vs) {y : List Int} (hs : OfI w B vs y) {g i n cap : Nat} (hv : vs = .slice (some ⟨g, 0, none⟩) n cap) (hi : i < y.length) (x : Int) (hy : y.set i x = spF l c ll) : FitSt (w.setCell ⟨g, i, none⟩ (.int .i64 x)) B v vs l c ll := by
  have hvo : vs.ownBlock = some g := by rw [hv]; rfl
  refine ⟨⟨ss, hn.apart g i _ ?_ ?_, ha⟩, ?_⟩
  · intro e
    rcases hs.apart hn.1 in_ne with h | h
    · rw [h] at hvo; cases hvo
    · exact h (hvo.trans e.symm)
  · intro s h e
    rcases ha s h with h | h
    · rw [h] at e; cases e
    · exact h (e.trans hvo.symm)
  · rw [← hy]
    exact hs.set1 celI hvo i hi x _ rfl
end
end Go.Proofs.Ytpjegenobadckaa
