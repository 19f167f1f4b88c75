/-
  Geometries, places and spans that come in.
-/
import Derived.Test.YtcoijhemnfnghaaSBase
import Derived.Deep.Slices
import Derived.Deep.Fields
import Derived.ChangeSame
import Derived.ChangeArms
import Derived.OpenShut
import Derived.Lib.SmallJoins
namespace Go.Proofs.Ytcoijhemnfnghaa
open Go.RowKit Go.ChangeShapes Go.WideShapes Go.Deep
set_option linter.unusedVariables false
section
variable {H : Type} {enc' : TypeId × Value → H} {w : World} {base : Nat} {held : Bool}
theorem cells_geo : Try.prog.cellsOf 23 = 6 := by kernel_rfl
theorem open_geo {r : Reach} {b0 : Nat} {v : Value} {d : DataW H} {p : List MemPlace} (hv : Value.okWide Try.prog w r b0 23 v) (h : DataW.Trod enc' Try.prog w base (fun _ => true) held 23 v d p) :
    ∃ W L S T J R, v = geV W L S T J R := by
  obtain ⟨cs, rfl, _⟩ := okWide_struct Try.underlying23 hv
  obtain ⟨fuel, hf⟩ := h
  have hone : ∀ fs, Try.prog.underlying 23 = some (.struct fs) → oneCellFields Try.prog fs = true := by
    intro fs hfs
    rw [Try.underlying23] at hfs
    cases hfs
    kernel_rfl
  have ho := hone _ Try.underlying23
  obtain ⟨ys, n, _, _, hlen, hxl, hf⟩ := DataW.trod_struct Try.underlying23 hf
  rw [cells_geo] at hlen
  have hcs : (Value.agg cs).cells.toList = cs.toList := by simp [Value.cells]
  rw [hcs] at hlen hf
  obtain ⟨l⟩ := cs
  simp only at hlen hf
  match l, hlen, ys, hxl with
  | [c0, c1, c2, c3, c4, c5], _, [y0, y1, y2, y3, y4, y5], _ =>
    have g0 := hf 0 _ rfl
    rw [(hone_of ho 0 _ rfl).1, (hone_of ho 0 _ rfl).2] at g0
    have g1 := hf 1 _ rfl
    rw [(hone_of ho 1 _ rfl).1, (hone_of ho 1 _ rfl).2] at g1
    have g2 := hf 2 _ rfl
    rw [(hone_of ho 2 _ rfl).1, (hone_of ho 2 _ rfl).2] at g2
    have g3 := hf 3 _ rfl
    rw [(hone_of ho 3 _ rfl).1, (hone_of ho 3 _ rfl).2] at g3
    have g4 := hf 4 _ rfl
    rw [(hone_of ho 4 _ rfl).1, (hone_of ho 4 _ rfl).2] at g4
    have g5 := hf 5 _ rfl
    rw [(hone_of ho 5 _ rfl).1, (hone_of ho 5 _ rfl).2] at g5
    obtain ⟨a0, e0, _, w0⟩ := DataW.trod_int Try.underlying3 g0
    obtain ⟨a1, e1, _, w1⟩ := DataW.trod_int Try.underlying3 g1
    obtain ⟨a2, e2, _, w2⟩ := DataW.trod_int Try.underlying3 g2
    obtain ⟨a3, e3, _, w3⟩ := DataW.trod_int Try.underlying3 g3
    obtain ⟨a4, e4, _, w4⟩ := DataW.trod_int Try.underlying3 g4
    obtain ⟨a5, e5, _, w5⟩ := DataW.trod_int Try.underlying3 g5
    simp at e0 e1 e2 e3 e4 e5
    subst e0 e1 e2 e3 e4 e5
    have b0 : -9223372036854775808 ≤ a0 ∧ a0 ≤ 9223372036854775807 := by simpa [Lit.wf, IntKind.min, IntKind.max, IntKind.signed, IntKind.bits] using w0
    have b1 : -9223372036854775808 ≤ a1 ∧ a1 ≤ 9223372036854775807 := by simpa [Lit.wf, IntKind.min, IntKind.max, IntKind.signed, IntKind.bits] using w1
    have b2 : -9223372036854775808 ≤ a2 ∧ a2 ≤ 9223372036854775807 := by simpa [Lit.wf, IntKind.min, IntKind.max, IntKind.signed, IntKind.bits] using w2
    have b3 : -9223372036854775808 ≤ a3 ∧ a3 ≤ 9223372036854775807 := by simpa [Lit.wf, IntKind.min, IntKind.max, IntKind.signed, IntKind.bits] using w3
    have b4 : -9223372036854775808 ≤ a4 ∧ a4 ≤ 9223372036854775807 := by simpa [Lit.wf, IntKind.min, IntKind.max, IntKind.signed, IntKind.bits] using w4
    have b5 : -9223372036854775808 ≤ a5 ∧ a5 ≤ 9223372036854775807 := by simpa [Lit.wf, IntKind.min, IntKind.max, IntKind.signed, IntKind.bits] using w5
    exact ⟨a0, a1, a2, a3, a4, a5, rfl⟩
theorem cells_plc : Try.prog.cellsOf 25 = 3 := by kernel_rfl
theorem open_plc {r : Reach} {b0 : Nat} {v : Value} {d : DataW H} {p : List MemPlace} (hv : Value.okWide Try.prog w r b0 25 v) (h : DataW.Trod enc' Try.prog w base (fun _ => true) held 25 v d p) :
    ∃ a b k, v = plV a b k := by
  obtain ⟨cs, rfl, _⟩ := okWide_struct Try.underlying25 hv
  obtain ⟨fuel, hf⟩ := h
  have hone : ∀ fs, Try.prog.underlying 25 = some (.struct fs) → oneCellFields Try.prog fs = true := by
    intro fs hfs
    rw [Try.underlying25] at hfs
    cases hfs
    kernel_rfl
  have ho := hone _ Try.underlying25
  obtain ⟨ys, n, _, _, hlen, hxl, hf⟩ := DataW.trod_struct Try.underlying25 hf
  rw [cells_plc] at hlen
  have hcs : (Value.agg cs).cells.toList = cs.toList := by simp [Value.cells]
  rw [hcs] at hlen hf
  obtain ⟨l⟩ := cs
  simp only at hlen hf
  match l, hlen, ys, hxl with
  | [c0, c1, c2], _, [y0, y1, y2], _ =>
    have g0 := hf 0 _ rfl
    rw [(hone_of ho 0 _ rfl).1, (hone_of ho 0 _ rfl).2] at g0
    have g1 := hf 1 _ rfl
    rw [(hone_of ho 1 _ rfl).1, (hone_of ho 1 _ rfl).2] at g1
    have g2 := hf 2 _ rfl
    rw [(hone_of ho 2 _ rfl).1, (hone_of ho 2 _ rfl).2] at g2
    obtain ⟨a0, e0, _, w0⟩ := DataW.trod_int Try.underlying3 g0
    obtain ⟨a1, e1, _, w1⟩ := DataW.trod_int Try.underlying3 g1
    obtain ⟨a2, e2, _⟩ := DataW.trod_bool Try.underlying4 g2
    simp at e0 e1 e2
    subst e0 e1 e2
    have b0 : -9223372036854775808 ≤ a0 ∧ a0 ≤ 9223372036854775807 := by simpa [Lit.wf, IntKind.min, IntKind.max, IntKind.signed, IntKind.bits] using w0
    have b1 : -9223372036854775808 ≤ a1 ∧ a1 ≤ 9223372036854775807 := by simpa [Lit.wf, IntKind.min, IntKind.max, IntKind.signed, IntKind.bits] using w1
    exact ⟨a0, a1, a2, rfl⟩
theorem cells_span : Try.prog.cellsOf 36 = 2 := by kernel_rfl
theorem open_span {r : Reach} {b0 : Nat} {v : Value} {d : DataW H} {p : List MemPlace} (hv : Value.okWide Try.prog w r b0 36 v) (h : DataW.Trod enc' Try.prog w base (fun _ => true) held 36 v d p) :
    ∃ a n : Int, v = .agg #[.int .i64 a, .int .i64 n] ∧ -9223372036854775808 ≤ n ∧ n ≤ 9223372036854775807 := by
  obtain ⟨cs, rfl, _⟩ := okWide_struct Try.underlying36 hv
  obtain ⟨fuel, hf⟩ := h
  have hone : ∀ fs, Try.prog.underlying 36 = some (.struct fs) → oneCellFields Try.prog fs = true := by
    intro fs hfs
    rw [Try.underlying36] at hfs
    cases hfs
    kernel_rfl
  have ho := hone _ Try.underlying36
  obtain ⟨ys, n, _, _, hlen, hxl, hf⟩ := DataW.trod_struct Try.underlying36 hf
  rw [cells_span] at hlen
  have hcs : (Value.agg cs).cells.toList = cs.toList := by simp [Value.cells]
  rw [hcs] at hlen hf
  obtain ⟨l⟩ := cs
  simp only at hlen hf
  match l, hlen, ys, hxl with
  | [c0, c1], _, [y0, y1], _ =>
    have g0 := hf 0 _ rfl
    rw [(hone_of ho 0 _ rfl).1, (hone_of ho 0 _ rfl).2] at g0
    have g1 := hf 1 _ rfl
    rw [(hone_of ho 1 _ rfl).1, (hone_of ho 1 _ rfl).2] at g1
    obtain ⟨a0, e0, _, w0⟩ := DataW.trod_int Try.underlying3 g0
    obtain ⟨a1, e1, _, w1⟩ := DataW.trod_int Try.underlying3 g1
    simp at e0 e1
    subst e0 e1
    have b0 : -9223372036854775808 ≤ a0 ∧ a0 ≤ 9223372036854775807 := by simpa [Lit.wf, IntKind.min, IntKind.max, IntKind.signed, IntKind.bits] using w0
    have b1 : -9223372036854775808 ≤ a1 ∧ a1 ≤ 9223372036854775807 := by simpa [Lit.wf, IntKind.min, IntKind.max, IntKind.signed, IntKind.bits] using w1
    exact ⟨a0, a1, rfl, b1.1, b1.2⟩
end
end Go.Proofs.Ytcoijhemnfnghaa
