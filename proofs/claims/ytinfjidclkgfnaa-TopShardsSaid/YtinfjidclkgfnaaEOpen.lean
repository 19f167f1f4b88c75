/-
  Slices of truth values that come in.
-/
import Derived.Test.YtinfjidclkgfnaaJOpen
import Derived.Test.YtinfjidclkgfnaaQList
namespace Go.Proofs.Ytinfjidclkgfnaa
open Go.RowKit Go.ChangeShapes Go.WideShapes Go.Deep
section
variable {H : Type} {enc' : TypeId × Value → H} {w : World} {base : Nat} {held : Bool}
theorem open_boolv {r : Reach} {b0 : Nat} {v : Value} {d : DataW H} {p : List MemPlace} (hv : Value.okWide Try.prog w r b0 30 v) (h : DataW.Trod enc' Try.prog w base (fun _ => true) held 30 v d p) :
    ∃ (ad : Option Addr) (cap : Nat) (bs : List Bool), v = .slice ad bs.length cap ∧ LieB w ad bs ∧ bs.length ≤ cap ∧ cap ≤ maxLen ∧ (ad = none → cap = 0) := by
  obtain ⟨a, len, cap, rfl⟩ := okWide_slice Try.underlying30 hv
  obtain ⟨fuel, hf⟩ := h
  rcases open_slice1 Try.underlying30 (by kernel_rfl) hf with ⟨hcs, _⟩ | ⟨x, l, c, m, n, V, D, Pl, hcs, _, hl, hm, hmm, _, hi⟩
  · simp [Value.cells] at hcs
    obtain ⟨rfl, rfl, rfl⟩ := hcs
    exact ⟨none, 0, [], rfl, .inl rfl, Nat.le_refl _, Nat.zero_le _, fun _ => rfl⟩
  · simp [Value.cells] at hcs
    obtain ⟨rfl, rfl, rfl⟩ := hcs
    have hlm : len ≤ m := by rw [hmm]; split <;> omega
    obtain ⟨f, hf'⟩ := choose_lt (α := Bool) (n := len) (p := fun i b => w.cell? (x.add i) = some (.bool b)) (fun i h => by
      obtain ⟨h1, h2⟩ := hi i (by omega)
      obtain ⟨b, e, _⟩ := DataW.trod_bool Try.underlying4 h2
      have e2 : V i = .bool b := by simpa using e
      exact ⟨b, by rw [h1, e2]⟩)
    refine ⟨some x, cap, (List.range len).map f, by simp, ?_, by simpa using hl, hm, fun h => by cases h⟩
    by_cases h0 : len = 0
    · left; subst h0; rfl
    · right
      have e0 := hf' 0 (by omega)
      obtain ⟨b, off, spot⟩ := x
      have hspot : spot = none := by
        have e1 : (⟨b, off, spot⟩ : Addr).add 0 = ⟨b, off, spot⟩ := rfl
        rw [e1] at e0
        exact World.cell?_spot e0
      subst hspot
      refine ⟨b, off, rfl, ?_, fun i hi' => ?_⟩
      · rw [Go.WideShapes.add_plain] at e0
        rcases Nat.lt_or_ge b w.heap.size with h' | h'
        · exact h'
        · simp [World.cell?, Array.getElem?_eq_none h'] at e0
      · have hi2 : i < len := by simpa using hi'
        simp only [List.getElem_map, List.getElem_range]
        have := hf' i hi2
        rwa [Go.WideShapes.add_plain] at this
end
end Go.Proofs.Ytinfjidclkgfnaa
