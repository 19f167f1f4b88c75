/-
  Elements and slices of bytes that come in.
-/
import Derived.Test.YtkeijphhcapkdaaGAwake
import Derived.Deep.Slices
import Derived.Deep.Fields
import Derived.ChangeSame
import Derived.ChangeArms
import Derived.Lib.SmallJoins
namespace Go.Proofs.Ytkeijphhcapkdaa
open Go.RowKit Go.ChangeShapes Go.WideShapes Go.Deep

theorem open_u8 {a : Int} (h : (Lit.int .u8 a).wf = true) : ∃ x, a = ev x := by
  have hb : 0 ≤ a ∧ a ≤ 255 := by simpa [Lit.wf, IntKind.min, IntKind.max, IntKind.signed, IntKind.bits] using h
  exact exists_ev a hb.1 (by omega)

section
variable {H : Type} {enc' : TypeId × Value → H} {w : World} {base : Nat} {held : Bool}
theorem open_bytes {r : Reach} {b0 : Nat} {v : Value} {d : DataW H} {p : List MemPlace} (hv : Value.okWide Try.prog w r b0 31 v) (h : DataW.Trod enc' Try.prog w base (fun _ => true) held 31 v d p) :
    ∃ (ad : Option Addr) (cap : Nat) (xs : List UInt8), v = .slice ad xs.length cap ∧ Lie w ad xs ∧ xs.length ≤ cap ∧ cap ≤ maxLen ∧ (ad = none → cap = 0) := by
  obtain ⟨a, len, cap, rfl⟩ := okWide_slice Try.underlying31 hv
  obtain ⟨fuel, hf⟩ := h
  rcases open_ints Try.underlying31 Try.underlying5 (by kernel_rfl) hf with ⟨hcs, _⟩ | ⟨x, l, c, zs, hcs, _, hl, hm, hz, _, hcell, hwz⟩
  · simp [Value.cells] at hcs
    obtain ⟨rfl, rfl, rfl⟩ := hcs
    exact ⟨none, 0, [], rfl, .nil _ _, Nat.le_refl _, Nat.zero_le _, fun _ => rfl⟩
  · simp [Value.cells] at hcs
    obtain ⟨rfl, rfl, rfl⟩ := hcs
    obtain ⟨xs, rfl, h1, h2, h3, h4⟩ := lie_of w (some x) len cap zs (.inr ⟨x, rfl, hl, hm, by simpa using hz, hcell, hwz⟩)
    exact ⟨_, cap, xs, rfl, h1, h2, h3, h4⟩

theorem trod_bytes {fuel : Nat} {c : Value} {x : DataW H × List MemPlace} (hf : DataW.trod enc' Try.prog w base (fun _ => true) held fuel 31 [c] = some x) :
    ∃ (ad : Option Addr) (cap : Nat) (xs : List UInt8), c = .slice ad xs.length cap ∧ Lie w ad xs ∧ (ad = none → cap = 0) := by
  rcases open_ints Try.underlying31 Try.underlying5 (by kernel_rfl) hf with ⟨hcs, _⟩ | ⟨x, l, c, zs, hcs, _, hl, hm, hz, _, hcell, hwz⟩
  · simp at hcs
    subst hcs
    exact ⟨none, 0, [], rfl, .nil _ _, fun _ => rfl⟩
  · simp at hcs
    subst hcs
    obtain ⟨xs, rfl, h1, h2, h3, h4⟩ := lie_of w (some x) l _ zs (.inr ⟨x, rfl, hl, hm, by simpa using hz, hcell, hwz⟩)
    exact ⟨_, _, xs, rfl, h1, h4⟩
theorem cellsRows : Try.prog.cellsOf 37 = 4 := by kernel_rfl
theorem open_rows {r : Reach} {b0 : Nat} {v : Value} {d : DataW H} {p : List MemPlace} (hv : Value.okWide Try.prog w r b0 37 v) (h : DataW.Trod enc' Try.prog w base (fun _ => true) held 37 v d p) :
    ∃ (ad bd : Option Addr) (cap bc : Nat) (xs ys : List UInt8) (x y : UInt8), v = .agg #[.slice ad xs.length cap, .slice bd ys.length bc, .int .u8 (ev x), .int .u8 (ev y)] ∧ Lie w ad xs ∧ (ad = none → cap = 0) ∧ Lie w bd ys ∧ (bd = none → bc = 0) := by
  obtain ⟨c0, c1, c2, c3, y0, y1, y2, y3, m, rfl, hd, hp, g0, g1, g2, g3⟩ := Joins.open_agg4 Try.underlying37 (by kernel_rfl) cellsRows hv h
  obtain ⟨ad, cap, xs, rfl, hl, ha⟩ := trod_bytes g0
  obtain ⟨bd, bc, ys, rfl, hm, hb⟩ := trod_bytes g1
  obtain ⟨a2, e2, _, w2⟩ := DataW.trod_int Try.underlying5 g2
  obtain ⟨a3, e3, _, w3⟩ := DataW.trod_int Try.underlying5 g3
  simp only [List.cons.injEq, and_true] at e2 e3
  subst e2 e3
  obtain ⟨x, rfl⟩ := open_u8 w2
  obtain ⟨y, rfl⟩ := open_u8 w3
  exact ⟨ad, bd, cap, bc, xs, ys, x, y, rfl, hl, ha, hm, hb⟩
end
end Go.Proofs.Ytkeijphhcapkdaa
