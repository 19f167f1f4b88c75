/-
  Items that come in: by value, and in a slice.
-/
import Derived.Test.YtckbgefeamkjnaaCSmall
import Derived.Deep.Slices
import Derived.Deep.Fields
import Derived.ChangeSame
import Derived.ChangeArms
namespace Go.Proofs.Ytckbgefeamkjnaa
open Go.RowKit Go.ChangeShapes Go.WideShapes Go.Deep

theorem cellsItem : Try.prog.cellsOf 29 = 5 := by kernel_rfl

section
variable {H : Type} {enc' : TypeId × Value → H} {w : World} {base : Nat} {spare : Nat → Bool} {held : Bool}

theorem trod_item {fuel : Nat} {cs : List Value} {x : DataW H × List MemPlace} (h : DataW.trod enc' Try.prog w base spare held fuel 29 cs = some x) :
    ∃ it : It, cs = it.cells.toList ∧ it.Ok ∧ it.s.size ≤ maxLen := by
  have hone : ∀ fs, Try.prog.underlying 29 = some (.struct fs) → oneCellFields Try.prog fs = true := by
    intro fs hfs
    rw [Try.underlying29] at hfs
    cases hfs
    kernel_rfl
  have ho := hone _ Try.underlying29
  obtain ⟨xs, n, _, _, hlen, hxl, hf⟩ := DataW.trod_struct Try.underlying29 h
  rw [cellsItem] at hlen
  match cs, hlen, xs, hxl with
  | [c0, c1, c2, c3, c4], _, [y0, y1, y2, y3, y4], _ =>
    have g0 := hf 0 _ rfl
    have g1 := hf 1 _ rfl
    have g2 := hf 2 _ rfl
    have g3 := hf 3 _ rfl
    have g4 := hf 4 _ rfl
    rw [(hone_of ho 0 _ rfl).1, (hone_of ho 0 _ rfl).2] at g0
    rw [(hone_of ho 1 _ rfl).1, (hone_of ho 1 _ rfl).2] at g1
    rw [(hone_of ho 2 _ rfl).1, (hone_of ho 2 _ rfl).2] at g2
    rw [(hone_of ho 3 _ rfl).1, (hone_of ho 3 _ rfl).2] at g3
    rw [(hone_of ho 4 _ rfl).1, (hone_of ho 4 _ rfl).2] at g4
    obtain ⟨k, e0, _, _⟩ := DataW.trod_int Try.underlying3 g0
    obtain ⟨u, e1, _, hu⟩ := DataW.trod_int Try.underlying27 g1
    obtain ⟨m, e2, _, hm⟩ := DataW.trod_int Try.underlying3 g2
    obtain ⟨s, e3, _, hs⟩ := DataW.trod_string Try.underlying9 g3
    obtain ⟨v, e4, _⟩ := DataW.trod_bool Try.underlying4 g4
    simp at e0 e1 e2 e3 e4
    subst e0 e1 e2 e3 e4
    have bu : 0 ≤ u ∧ u ≤ 18446744073709551615 := by simpa [Lit.wf, IntKind.min, IntKind.max, IntKind.signed, IntKind.bits] using hu
    have bm : -9223372036854775808 ≤ m ∧ m ≤ 9223372036854775807 := by simpa [Lit.wf, IntKind.min, IntKind.max, IntKind.signed, IntKind.bits] using hm
    obtain ⟨u', rfl⟩ : ∃ u' : Nat, u = u' := ⟨u.toNat, by omega⟩
    exact ⟨⟨k, u', m, s, v⟩, rfl, ⟨by show u' < _; omega, bm.1, bm.2⟩, hs⟩

theorem open_item {r : Reach} {b0 : Nat} {v : Value} {d : DataW H} {p : List MemPlace} (hv : Value.okWide Try.prog w r b0 29 v) (h : DataW.Trod enc' Try.prog w base spare held 29 v d p) :
    ∃ it : It, v = .agg it.cells ∧ it.Ok ∧ it.s.size ≤ maxLen := by
  obtain ⟨cs, rfl, _⟩ := okWide_struct Try.underlying29 hv
  obtain ⟨fuel, hf⟩ := h
  obtain ⟨it, he, h1, h2⟩ := trod_item hf
  refine ⟨it, ?_, h1, h2⟩
  have : cs.toList = it.cells.toList := by simpa [Value.cells] using he
  rw [Array.toList_inj.1 this]

theorem open_items {r : Reach} {b0 : Nat} {v : Value} {d : DataW H} {p : List MemPlace} (hv : Value.okWide Try.prog w r b0 23 v) (h : DataW.Trod enc' Try.prog w base spare held 23 v d p) :
    ∃ (ad : Option Addr) (cap : Nat) (l : List It), v = .slice ad l.length cap ∧ Lies w ad l ∧ (∀ x ∈ l, x.Ok) ∧ l.length ≤ cap ∧ cap ≤ maxLen := by
  obtain ⟨a, len, cap, rfl⟩ := okWide_slice Try.underlying23 hv
  obtain ⟨fuel, hf⟩ := h
  rcases open_slice Try.underlying23 hf with ⟨hcs, _⟩ | ⟨a', len', cap', m, n, D, Pl, hcs, hb, hl, hm, hmm, _, hi⟩
  · simp [Value.cells] at hcs
    obtain ⟨rfl, rfl, rfl⟩ := hcs
    exact ⟨none, 0, [], rfl, ⟨.inl rfl⟩, by simp, Nat.le_refl _, Nat.zero_le _⟩
  · simp [Value.cells] at hcs
    obtain ⟨rfl, rfl, rfl⟩ := hcs
    have hlm : len ≤ m := by rw [hmm]; split <;> omega
    rw [cellsItem] at hi
    have hx : ∀ i, ∃ it : It, i < len → it.Ok ∧ ∀ j, j < 5 → w.cell? ((a'.add (i * 5)).add j) = it.cells.toList[j]? := by
      intro i
      by_cases h : i < len
      · obtain ⟨cs', hc, ht⟩ := hi i (by omega)
        obtain ⟨it, rfl, h1, _⟩ := trod_item ht
        exact ⟨it, fun _ => ⟨h1, (World.cells?_some hc).2.2⟩⟩
      · exact ⟨⟨0, 0, 0, ⟨#[]⟩, false⟩, fun h' => absurd h' h⟩
    obtain ⟨f, hf'⟩ := Classical.axiomOfChoice hx
    refine ⟨some a', cap, (List.range len).map f, by simp, ⟨?_⟩, ?_, by simpa using hl, hm⟩
    · by_cases h0 : len = 0
      · left; subst h0; rfl
      · right
        have hc0 := (hf' 0 (by omega)).2 0 (by omega)
        obtain ⟨b, off, spot⟩ := a'
        have hspot : spot = none := by
          have e0 : (⟨b, off, spot⟩ : Addr).add (0 * 5) = ⟨b, off, spot⟩ := rfl
          rw [e0] at hc0
          have e1 : (⟨b, off, spot⟩ : Addr).add 0 = ⟨b, off, spot⟩ := rfl
          rw [e1] at hc0
          exact World.cell?_spot (v := .int .i64 (f 0).k) hc0
        subst hspot
        have hget : ∀ i, i < len → ∀ j, j < 5 → w.cell? ⟨b, off + i * 5 + j, none⟩ = (f i).cells.toList[j]? := fun i hi j hj => by
          have := (hf' i hi).2 j hj
          rwa [Go.WideShapes.add_plain, Go.WideShapes.add_plain] at this
        refine ⟨b, off, rfl, ?_, fun i hi => ?_⟩
        · have := hget 0 (by omega) 0 (by omega)
          rcases Nat.lt_or_ge b w.heap.size with h' | h'
          · exact h'
          · simp [World.cell?, Array.getElem?_eq_none h', It.cells] at this
        · have hi' : i < len := by simpa using hi
          simp only [List.getElem_map, List.getElem_range]
          exact ⟨hget i hi' 0 (by omega), hget i hi' 1 (by omega), hget i hi' 2 (by omega), hget i hi' 3 (by omega), hget i hi' 4 (by omega)⟩
    · intro x hx'
      obtain ⟨i, hi', rfl⟩ := List.mem_map.1 hx'
      exact (hf' i (by simpa using hi')).1

theorem open_bytes {r : Reach} {b0 : Nat} {v : Value} {d : DataW H} {p : List MemPlace} (hv : Value.okWide Try.prog w r b0 22 v) (h : DataW.Trod enc' Try.prog w base (fun _ => true) held 22 v d p) :
    ∃ (ad : Option Addr) (cap : Nat) (xs : List UInt8), v = .slice ad xs.length cap ∧ Lie w ad xs ∧ xs.length ≤ cap ∧ cap ≤ maxLen ∧ (ad = none → cap = 0) := by
  obtain ⟨a, len, cap, rfl⟩ := okWide_slice Try.underlying22 hv
  obtain ⟨fuel, hf⟩ := h
  rcases open_ints Try.underlying22 Try.underlying5 (by kernel_rfl) hf with ⟨hcs, _⟩ | ⟨x, l, c, zs, hcs, _, hl, hm, hz, _, hcell, hwz⟩
  · simp [Value.cells] at hcs
    obtain ⟨rfl, rfl, rfl⟩ := hcs
    exact ⟨none, 0, [], rfl, .nil _ _, Nat.le_refl _, Nat.zero_le _, fun _ => rfl⟩
  · simp [Value.cells] at hcs
    obtain ⟨rfl, rfl, rfl⟩ := hcs
    obtain ⟨xs, rfl, h1, h2, h3, h4⟩ := lie_of w (some x) len cap zs (.inr ⟨x, rfl, hl, hm, by simpa using hz, hcell, hwz⟩)
    exact ⟨_, cap, xs, rfl, h1, h2, h3, h4⟩
end
end Go.Proofs.Ytckbgefeamkjnaa
