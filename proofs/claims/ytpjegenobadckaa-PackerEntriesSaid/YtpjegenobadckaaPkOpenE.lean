/-
  A set of parts (pieces, IDs, versions, files) that comes in.
-/
import Derived.Test.YtpjegenobadckaaPkOpen
import Derived.Test.YtpjegenobadckaaPkIdx
import Derived.Test.YtpjegenobadckaaLs
namespace Go.Proofs.Ytpjegenobadckaa
open Go.RowKit Go.ChangeShapes Go.WideShapes Go.Deep
set_option linter.unusedVariables false
section
variable {H : Type} {enc' : TypeId × Value → H} {w : World} {base : Nat} {held : Bool}
theorem trod_bytes {fuel : Nat} {v : Value} {x : DataW H × List MemPlace} (h : DataW.trod enc' Try.prog w base (fun _ => true) held fuel 47 [v] = some x) :
    ∃ (ad : Option Addr) (cap : Nat) (xs : List UInt8), v = .slice ad xs.length cap ∧ Lie w ad xs ∧ xs.length ≤ cap ∧ cap ≤ maxLen ∧ (ad = none → cap = 0) := by
  rcases open_ints Try.underlying47 Try.underlying5 (by kernel_rfl) h with ⟨hcs, _⟩ | ⟨x, l, c, zs, hcs, _, hl, hm, hz, _, hcell, hwz⟩
  · cases hcs
    exact ⟨none, 0, [], rfl, .nil _ _, Nat.le_refl _, Nat.zero_le _, fun _ => rfl⟩
  · cases hcs
    obtain ⟨xs, rfl, h1, h2, h3, h4⟩ := lie_of w (some x) l c zs (.inr ⟨x, rfl, hl, hm, by simpa using hz, hcell, hwz⟩)
    exact ⟨_, c, xs, rfl, h1, h2, h3, h4⟩

theorem trod_lists {fuel : Nat} {v : Value} {x : DataW H × List MemPlace} (h : DataW.trod enc' Try.prog w base (fun _ => true) held fuel 43 [v] = some x) :
    ∃ (ad : Option Addr) (cap : Nat) (ls : List (List UInt8)), v = .slice ad ls.length cap ∧ Lr w ad ls ∧ ls.length ≤ cap ∧ cap ≤ maxLen ∧ (ad = none → cap = 0) := by
  rcases open_slice1 Try.underlying43 (by kernel_rfl) h with ⟨hcs, _⟩ | ⟨x, len, cap, m, n, V, D, Pl, hcs, _, hl, hm, hmm, _, hi⟩
  · cases hcs
    exact ⟨none, 0, [], rfl, ⟨.inl rfl⟩, Nat.le_refl _, Nat.zero_le _, fun _ => rfl⟩
  · cases hcs
    have hlm : len ≤ m := by rw [hmm]; split <;> omega
    obtain ⟨f, hf'⟩ := choose_lt (α := List UInt8) (n := len) (p := fun i xs => ∃ ad' cap', w.cell? (x.add i) = some (.slice ad' xs.length cap') ∧ Lie w ad' xs ∧ xs.length ≤ cap' ∧ cap' ≤ maxLen ∧ (ad' = none → cap' = 0)) (fun i h => by
      obtain ⟨h1, h2⟩ := hi i (by omega)
      obtain ⟨ad', cap', xs, e, h3⟩ := trod_bytes h2
      exact ⟨xs, ad', cap', by rw [h1, e], h3⟩)
    refine ⟨some x, cap, (List.range len).map f, by simp, ⟨?_⟩, by simpa using hl, hm, fun h => by cases h⟩
    by_cases h0 : len = 0
    · left; subst h0; rfl
    · right
      obtain ⟨ad0, cap0, e0, _⟩ := hf' 0 (by omega)
      obtain ⟨b, off, spot⟩ := x
      have hspot : spot = none := by
        have e1 : (⟨b, off, spot⟩ : Addr).add 0 = ⟨b, off, spot⟩ := rfl
        rw [e1] at e0
        exact World.cell?_spot e0
      subst hspot
      refine ⟨b, off, rfl, ?_, fun i hi' => ?_⟩
      · rw [Go.WideShapes.add_plain] at e0
        rcases Nat.lt_or_ge b w.heap.size with h' | h'
        · exact h'
        · simp [World.cell?, Array.getElem?_eq_none h'] at e0
      · have hi2 : i < len := by simpa using hi'
        simp only [List.getElem_map, List.getElem_range]
        have := hf' i hi2
        rwa [Go.WideShapes.add_plain] at this
theorem cellsPcL : Try.prog.cellsOf 46 = 3 := by kernel_rfl
set_option maxRecDepth 100000 in
theorem trod_pc {fuel : Nat} {cs : List Value} {x : DataW H × List MemPlace} (h : DataW.trod enc' Try.prog w base (fun _ => true) held fuel 46 cs = some x) : ∃ k : Pc, cs = pcC k := by
  have hone : ∀ fs, Try.prog.underlying 46 = some (.struct fs) → oneCellFields Try.prog fs = true := by
    intro fs hfs
    rw [Try.underlying46] at hfs
    cases hfs
    kernel_rfl
  have ho := hone _ Try.underlying46
  obtain ⟨xs, n, _, _, hlen, hxl, hf⟩ := DataW.trod_struct Try.underlying46 h
  rw [cellsPcL] at hlen
  match cs, hlen, xs, hxl with
  | [c0, c1, c2], _, [y0, y1, y2], _ =>
    have g0 := hf 0 _ rfl
    have g1 := hf 1 _ rfl
    have g2 := hf 2 _ rfl
    rw [(hone_of ho 0 _ rfl).1, (hone_of ho 0 _ rfl).2] at g0
    rw [(hone_of ho 1 _ rfl).1, (hone_of ho 1 _ rfl).2] at g1
    rw [(hone_of ho 2 _ rfl).1, (hone_of ho 2 _ rfl).2] at g2
    obtain ⟨a, e0, _, _⟩ := DataW.trod_int Try.underlying3 g0
    obtain ⟨b, e1, _, _⟩ := DataW.trod_int Try.underlying3 g1
    obtain ⟨c, e2, _, _⟩ := DataW.trod_int Try.underlying3 g2
    simp at e0 e1 e2
    subst e0 e1 e2
    exact ⟨⟨a, b, c⟩, rfl⟩
theorem trod_pieces {fuel : Nat} {v : Value} {x : DataW H × List MemPlace} (h : DataW.trod enc' Try.prog w base (fun _ => true) held fuel 34 [v] = some x) :
    ∃ (ad : Option Addr) (cap : Nat) (l : List Pc), v = .slice ad l.length cap ∧ Lf pcC w ad l ∧ l.length ≤ cap ∧ cap ≤ maxLen ∧ (ad = none → cap = 0) := by
  rcases open_slice Try.underlying34 h with ⟨hcs, _⟩ | ⟨a', len, cap, m, n, D, Pl, hcs, hb, hl, hm, hmm, _, hi⟩
  · cases hcs
    exact ⟨none, 0, [], rfl, .nil _ _ _, Nat.le_refl _, Nat.zero_le _, fun _ => rfl⟩
  · cases hcs
    have hlm : len ≤ m := by rw [hmm]; split <;> omega
    rw [cellsPcL] at hi
    have hx : ∀ i, ∃ k : Pc, i < len → ∀ j, j < 3 → w.cell? ((a'.add (i * 3)).add j) = (pcC k)[j]? := by
      intro i
      by_cases h : i < len
      · obtain ⟨cs', hc, ht⟩ := hi i (by omega)
        obtain ⟨k, rfl⟩ := trod_pc ht
        exact ⟨k, fun _ => (World.cells?_some hc).2.2⟩
      · exact ⟨⟨0, 0, 0⟩, fun h' => absurd h' h⟩
    obtain ⟨f, hf'⟩ := Classical.axiomOfChoice hx
    refine ⟨some a', cap, (List.range len).map f, by simp, ?_, by simpa using hl, hm, fun h => by cases h⟩
    by_cases h0 : len = 0
    · left; subst h0; rfl
    · right
      have hc0 := hf' 0 (by omega) 0 (by omega)
      obtain ⟨b, off, spot⟩ := a'
      have hspot : spot = none := by
        have e0 : (⟨b, off, spot⟩ : Addr).add (0 * 3) = ⟨b, off, spot⟩ := rfl
        rw [e0] at hc0
        have e1 : (⟨b, off, spot⟩ : Addr).add 0 = ⟨b, off, spot⟩ := rfl
        rw [e1] at hc0
        exact World.cell?_spot (v := .int .i64 (f 0).f) hc0
      subst hspot
      have hget : ∀ i, i < len → ∀ j, j < 3 → w.cell? ⟨b, off + (i * 3 + j), none⟩ = (pcC (f i))[j]? := fun i hi j hj => by
        have := hf' i hi j hj
        rwa [Go.WideShapes.add_plain, Go.WideShapes.add_plain, Nat.add_assoc] at this
      refine ⟨b, off, rfl, ?_, fun j u hu => ?_⟩
      · have := hget 0 (by omega) 0 (by omega)
        rcases Nat.lt_or_ge b w.heap.size with h' | h'
        · exact h'
        · simp [World.cell?, Array.getElem?_eq_none h', pcC] at this
      · have hj : j < len * 3 := by
          have := (List.getElem?_eq_some_iff.1 hu).1
          rw [flat_length celP] at this
          simpa using this
        have hq : j / 3 < len := by omega
        have hql : j / 3 < ((List.range len).map f).length := by simpa using hq
        have hg := flat_get celP ((List.range len).map f) (j / 3) hql (j % 3) (by omega)
        rw [show j / 3 * 3 + j % 3 = j by omega, hu] at hg
        have hr := hget (j / 3) hq (j % 3) (by omega)
        rw [show j / 3 * 3 + j % 3 = j by omega] at hr
        rw [hr, hg]
        simp
theorem cellsParts : Try.prog.cellsOf 45 = 4 := by kernel_rfl
set_option maxRecDepth 100000 in
theorem open_parts {r : Reach} {b0 : Nat} {v : Value} {d : DataW H} {p : List MemPlace} (hv : Value.okWide Try.prog w r b0 45 v) (h : DataW.Trod enc' Try.prog w base (fun _ => true) held 45 v d p) :
    ∃ (ap : Option Addr) (cp : Nat) (ps : List Pc) (ai : Option Addr) (ci : Nat) (is : List Int) (av : Option Addr) (cv : Nat) (vs : List Int) (ad : Option Addr) (cd : Nat) (ds : List (List UInt8)),
      v = .agg #[.slice ap ps.length cp, .slice ai is.length ci, .slice av vs.length cv, .slice ad ds.length cd] ∧ Lf pcC w ap ps ∧ Lf inC w ai is ∧ Lf inC w av vs ∧ Lr w ad ds ∧ (ps.length ≤ cp ∧ cp ≤ maxLen) ∧ (is.length ≤ ci ∧ ci ≤ maxLen) ∧ (vs.length ≤ cv ∧ cv ≤ maxLen) ∧ (ds.length ≤ cd ∧ cd ≤ maxLen) := by
  obtain ⟨cs, rfl, _⟩ := okWide_struct Try.underlying45 hv
  obtain ⟨fuel, hf⟩ := h
  have hone : ∀ fs, Try.prog.underlying 45 = some (.struct fs) → oneCellFields Try.prog fs = true := by
    intro fs hfs
    rw [Try.underlying45] at hfs
    cases hfs
    kernel_rfl
  have ho := hone _ Try.underlying45
  obtain ⟨ys, n, _, _, hlen, hxl, hf⟩ := DataW.trod_struct Try.underlying45 hf
  rw [cellsParts] at hlen
  have hcs : (Value.agg cs).cells.toList = cs.toList := by simp [Value.cells]
  rw [hcs] at hlen hf
  obtain ⟨l⟩ := cs
  simp only at hlen hf
  match l, hlen, ys, hxl with
  | [c0, c1, c2, c3], _, [y0, y1, y2, y3], _ =>
    have g0 := hf 0 _ rfl
    have g1 := hf 1 _ rfl
    have g2 := hf 2 _ rfl
    have g3 := hf 3 _ rfl
    rw [(hone_of ho 0 _ rfl).1, (hone_of ho 0 _ rfl).2] at g0
    rw [(hone_of ho 1 _ rfl).1, (hone_of ho 1 _ rfl).2] at g1
    rw [(hone_of ho 2 _ rfl).1, (hone_of ho 2 _ rfl).2] at g2
    rw [(hone_of ho 3 _ rfl).1, (hone_of ho 3 _ rfl).2] at g3
    obtain ⟨ap, cp, ps, e0, hp, p1, p2, _⟩ := trod_pieces (v := c0) (by simpa using g0)
    obtain ⟨ai, ci, is, e1, hi, i1, i2, _⟩ := trod_intz (v := c1) (by simpa using g1)
    obtain ⟨av, cv, vs, e2, hv2, v1, v2, _⟩ := trod_intz (v := c2) (by simpa using g2)
    obtain ⟨ad, cd, ds, e3, hd, d1, d2, _⟩ := trod_lists (v := c3) (by simpa using g3)
    subst e0 e1 e2 e3
    exact ⟨ap, cp, ps, ai, ci, is, av, cv, vs, ad, cd, ds, rfl, hp, hi, hv2, hd, ⟨p1, p2⟩, ⟨i1, i2⟩, ⟨v1, v2⟩, ⟨d1, d2⟩⟩
end
end Go.Proofs.Ytpjegenobadckaa
