/-
  Elements and slices of bytes that come in.
-/
import Derived.Test.YtkeijphhcapkdaaGAwake
import Derived.Deep.Slices
import Derived.Deep.Fields
import Derived.ChangeSame
import Derived.ChangeArms
namespace Go.Proofs.Ytkeijphhcapkdaa
open Go.RowKit Go.ChangeShapes Go.WideShapes Go.Deep

theorem open_u8 {a : Int} (h : (Lit.int .u8 a).wf = true) : ∃ x, a = ev x := by
  have hb : 0 ≤ a ∧ a ≤ 255 := by simpa [Lit.wf, IntKind.min, IntKind.max, IntKind.signed, IntKind.bits] using h
  exact exists_ev a hb.1 (by omega)

section
variable {H : Type} {enc' : TypeId × Value → H} {w : World} {base : Nat} {held : Bool}
theorem open_bytes {r : Reach} {b0 : Nat} {v : Value} {d : DataW H} {p : List MemPlace} (hv : Value.okWide Try.prog w r b0 31 v) (h : DataW.Trod enc' Try.prog w base (fun _ => true) held 31 v d p) :
    ∃ (ad : Option Addr) (cap : Nat) (xs : List UInt8), v = .slice ad xs.length cap ∧ Lie w ad xs ∧ xs.length ≤ cap ∧ cap ≤ maxLen ∧ (ad = none → cap = 0) := by
  obtain ⟨a, len, cap, rfl⟩ := okWide_slice Try.underlying31 hv
  obtain ⟨fuel, hf⟩ := h
  rcases open_ints Try.underlying31 Try.underlying5 (by kernel_rfl) hf with ⟨hcs, _⟩ | ⟨x, l, c, zs, hcs, _, hl, hm, hz, _, hcell, hwz⟩
  · simp [Value.cells] at hcs
    obtain ⟨rfl, rfl, rfl⟩ := hcs
    exact ⟨none, 0, [], rfl, .nil _ _, Nat.le_refl _, Nat.zero_le _, fun _ => rfl⟩
  · simp [Value.cells] at hcs
    obtain ⟨rfl, rfl, rfl⟩ := hcs
    obtain ⟨xs, rfl, h1, h2, h3, h4⟩ := lie_of w (some x) len cap zs (.inr ⟨x, rfl, hl, hm, by simpa using hz, hcell, hwz⟩)
    exact ⟨_, cap, xs, rfl, h1, h2, h3, h4⟩
end
end Go.Proofs.Ytkeijphhcapkdaa
