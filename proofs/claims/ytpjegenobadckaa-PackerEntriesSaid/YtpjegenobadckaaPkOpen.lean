/-
  Lists of numbers that come in.
-/
import Derived.Test.YtpjegenobadckaaPkMem
import Derived.Deep.Slices
import Derived.Deep.Fields
import Derived.ChangeSame
import Derived.ChangeArms
import Derived.Lib.SmallJoins
namespace Go.Proofs.Ytpjegenobadckaa
open Go.RowKit Go.ChangeShapes Go.WideShapes Go.Deep
set_option linter.unusedVariables false
section
variable {H : Type} {enc' : TypeId × Value → H} {w : World} {base : Nat} {held : Bool}
theorem inz_flat (l : List Int) : l.flatMap inC = l.map fun x => Value.int .i64 x := by
  induction l with
  | nil => rfl
  | cons x l ih => rw [List.flatMap_cons, ih]; rfl
theorem trod_intz {fuel : Nat} {v : Value} {x : DataW H × List MemPlace} (h : DataW.trod enc' Try.prog w base (fun _ => true) held fuel 22 [v] = some x) :
    ∃ (ad : Option Addr) (cap : Nat) (xs : List Int), v = .slice ad xs.length cap ∧ Lf inC w ad xs ∧ xs.length ≤ cap ∧ cap ≤ maxLen ∧ (ad = none → cap = 0) := by
  rcases open_ints Try.underlying22 Try.underlying3 (by kernel_rfl) h with ⟨hcs, _⟩ | ⟨x, len, c, zs, hcs, _, hl, hm, hz, _, hcell, hwz⟩
  · cases hcs
    exact ⟨none, 0, [], rfl, .nil _ _ _, Nat.le_refl _, Nat.zero_le _, fun _ => rfl⟩
  · cases hcs
    have hz : zs.length = c := by simpa using hz
    have e : (zs.take len).length = len := by rw [List.length_take]; omega
    refine ⟨some x, c, zs.take len, by rw [e], ?_, by rw [e]; exact hl, hm, fun h => by cases h⟩
    by_cases h0 : len = 0
    · left; subst h0; rfl
    · have hp : 0 < zs.length := by omega
      obtain ⟨b, off, rfl, hc2⟩ := ints_at hcell hp
      refine .inr ⟨b, off, rfl, ?_, fun j u hu => ?_⟩
      · have := hc2 0 hp
        rcases Nat.lt_or_ge b w.heap.size with h' | h'
        · exact h'
        · simp [World.cell?, Array.getElem?_eq_none h'] at this
      · rw [inz_flat] at hu
        have hj : j < (zs.take len).length := by
          have := (List.getElem?_eq_some_iff.1 hu).1
          rwa [List.length_map] at this
        rw [e] at hj
        have hjz : j < zs.length := by omega
        rw [hc2 j hjz]
        simp only [List.getElem?_map] at hu
        rw [List.getElem?_eq_getElem (by rw [e]; exact hj)] at hu
        simp only [Option.map_some, List.getElem_take] at hu
        simpa [hjz] using hu
theorem open_intz {r : Reach} {b0 : Nat} {v : Value} {d : DataW H} {p : List MemPlace} (hv : Value.okWide Try.prog w r b0 22 v) (h : DataW.Trod enc' Try.prog w base (fun _ => true) held 22 v d p) :
    ∃ (ad : Option Addr) (cap : Nat) (xs : List Int), v = .slice ad xs.length cap ∧ Lf inC w ad xs ∧ xs.length ≤ cap ∧ cap ≤ maxLen ∧ (ad = none → cap = 0) := by
  obtain ⟨a, len, cap, rfl⟩ := okWide_slice Try.underlying22 hv
  obtain ⟨fuel, hf⟩ := h
  exact trod_intz (v := .slice a len cap) (by simpa [Value.cells] using hf)
end
end Go.Proofs.Ytpjegenobadckaa
