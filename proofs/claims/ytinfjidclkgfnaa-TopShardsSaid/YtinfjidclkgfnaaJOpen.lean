/-
  Slices of bytes and lists of them that come in.
-/
import Derived.Test.YtinfjidclkgfnaaQMem
import Derived.Deep.Slices
import Derived.Deep.Fields
import Derived.ChangeSame
import Derived.ChangeArms
import Derived.Lib.SmallJoins
namespace Go.Proofs.Ytinfjidclkgfnaa
open Go.RowKit Go.ChangeShapes Go.WideShapes Go.Deep

section
variable {H : Type} {enc' : TypeId × Value → H} {w : World} {base : Nat} {held : Bool}
theorem open_bytes {r : Reach} {b0 : Nat} {v : Value} {d : DataW H} {p : List MemPlace} (hv : Value.okWide Try.prog w r b0 33 v) (h : DataW.Trod enc' Try.prog w base (fun _ => true) held 33 v d p) :
    ∃ (ad : Option Addr) (cap : Nat) (xs : List UInt8), v = .slice ad xs.length cap ∧ Lie w ad xs ∧ xs.length ≤ cap ∧ cap ≤ maxLen ∧ (ad = none → cap = 0) := by
  obtain ⟨a, len, cap, rfl⟩ := okWide_slice Try.underlying33 hv
  obtain ⟨fuel, hf⟩ := h
  rcases open_ints Try.underlying33 Try.underlying5 (by kernel_rfl) hf with ⟨hcs, _⟩ | ⟨x, l, c, zs, hcs, _, hl, hm, hz, _, hcell, hwz⟩
  · simp [Value.cells] at hcs
    obtain ⟨rfl, rfl, rfl⟩ := hcs
    exact ⟨none, 0, [], rfl, .nil _ _, Nat.le_refl _, Nat.zero_le _, fun _ => rfl⟩
  · simp [Value.cells] at hcs
    obtain ⟨rfl, rfl, rfl⟩ := hcs
    obtain ⟨xs, rfl, h1, h2, h3, h4⟩ := lie_of w (some x) len cap zs (.inr ⟨x, rfl, hl, hm, by simpa using hz, hcell, hwz⟩)
    exact ⟨_, cap, xs, rfl, h1, h2, h3, h4⟩

theorem trod_bytes {fuel : Nat} {v : Value} {x : DataW H × List MemPlace} (h : DataW.trod enc' Try.prog w base (fun _ => true) held fuel 33 [v] = some x) :
    ∃ (ad : Option Addr) (cap : Nat) (xs : List UInt8), v = .slice ad xs.length cap ∧ Lie w ad xs ∧ xs.length ≤ cap ∧ cap ≤ maxLen ∧ (ad = none → cap = 0) := by
  rcases open_ints Try.underlying33 Try.underlying5 (by kernel_rfl) h with ⟨hcs, _⟩ | ⟨x, l, c, zs, hcs, _, hl, hm, hz, _, hcell, hwz⟩
  · cases hcs
    exact ⟨none, 0, [], rfl, .nil _ _, Nat.le_refl _, Nat.zero_le _, fun _ => rfl⟩
  · cases hcs
    obtain ⟨xs, rfl, h1, h2, h3, h4⟩ := lie_of w (some x) l c zs (.inr ⟨x, rfl, hl, hm, by simpa using hz, hcell, hwz⟩)
    exact ⟨_, c, xs, rfl, h1, h2, h3, h4⟩

theorem open_lists {r : Reach} {b0 : Nat} {v : Value} {d : DataW H} {p : List MemPlace} (hv : Value.okWide Try.prog w r b0 22 v) (h : DataW.Trod enc' Try.prog w base (fun _ => true) held 22 v d p) :
    ∃ (ad : Option Addr) (cap : Nat) (ls : List (List UInt8)), v = .slice ad ls.length cap ∧ Lr w ad ls ∧ ls.length ≤ cap ∧ cap ≤ maxLen ∧ (ad = none → cap = 0) := by
  obtain ⟨a, len, cap, rfl⟩ := okWide_slice Try.underlying22 hv
  obtain ⟨fuel, hf⟩ := h
  rcases open_slice1 Try.underlying22 (by kernel_rfl) hf with ⟨hcs, _⟩ | ⟨x, l, c, m, n, V, D, Pl, hcs, _, hl, hm, hmm, _, hi⟩
  · simp [Value.cells] at hcs
    obtain ⟨rfl, rfl, rfl⟩ := hcs
    exact ⟨none, 0, [], rfl, ⟨.inl rfl⟩, Nat.le_refl _, Nat.zero_le _, fun _ => rfl⟩
  · simp [Value.cells] at hcs
    obtain ⟨rfl, rfl, rfl⟩ := hcs
    have hlm : len ≤ m := by rw [hmm]; split <;> omega
    obtain ⟨f, hf'⟩ := choose_lt (α := List UInt8) (n := len) (p := fun i xs => ∃ ad' cap', w.cell? (x.add i) = some (.slice ad' xs.length cap') ∧ Lie w ad' xs ∧ xs.length ≤ cap' ∧ cap' ≤ maxLen ∧ (ad' = none → cap' = 0)) (fun i h => by
      obtain ⟨h1, h2⟩ := hi i (by omega)
      obtain ⟨ad', cap', xs, e, h3⟩ := trod_bytes h2
      exact ⟨xs, ad', cap', by rw [h1, e], h3⟩)
    refine ⟨some x, cap, (List.range len).map f, by simp, ⟨?_⟩, by simpa using hl, hm, fun h => by cases h⟩
    by_cases h0 : len = 0
    · left; subst h0; rfl
    · right
      obtain ⟨ad0, cap0, e0, _⟩ := hf' 0 (by omega)
      obtain ⟨b, off, spot⟩ := x
      have hspot : spot = none := by
        have e1 : (⟨b, off, spot⟩ : Addr).add 0 = ⟨b, off, spot⟩ := rfl
        rw [e1] at e0
        exact World.cell?_spot e0
      subst hspot
      refine ⟨b, off, rfl, ?_, fun i hi' => ?_⟩
      · rw [Go.WideShapes.add_plain] at e0
        rcases Nat.lt_or_ge b w.heap.size with h' | h'
        · exact h'
        · simp [World.cell?, Array.getElem?_eq_none h'] at e0
      · have hi2 : i < len := by simpa using hi'
        simp only [List.getElem_map, List.getElem_range]
        have := hf' i hi2
        rwa [Go.WideShapes.add_plain] at this
end
end Go.Proofs.Ytinfjidclkgfnaa
