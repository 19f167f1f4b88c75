/-
  The program keeps the contracts of the package's functions.
  Labels and strings that come in.
-/
import Derived.Test.YtjmlidejbddoeaaDoorLP
import Derived.Test.YtjmlidejbddoeaaDoorLY
import Derived.Test.YtjmlidejbddoeaaDoorLH
import Derived.Deep.Slices
import Derived.Deep.Fields
import Derived.ChangeSame
import Derived.ChangeArms
import Derived.OpenShut
import Derived.Lib.SmallJoins
namespace Go.Proofs.YtjmlidejbddoeaaDoor
open Go.RowKit
theorem side_prog : LbSide where
  name := fun s w hs hm => name_any s w hs hm
  valid := fun x w hx hm => validL_any x w hx hm
  blocks := fun x w hx hm => blocksT_any x w hx hm
  parse := fun ad n cap l w hl hn hc hcm ha hs hd hm => parse_any ad n cap l w hl hn hc hcm ha hs hd hm
  bytes := fun ad n cap l w hl hn hc hcm _ hs hd => bytes_any ad n cap l w hl hn hc hcm hs hd
  divide := fun ad n cap xs w hl hn hc hcm ha hs => divide_any ad n cap xs w hl hn hc hcm ha hs
end Go.Proofs.YtjmlidejbddoeaaDoor
namespace Go.Proofs.YtjmlidejbddoeaaDoor
open Go.RowKit Go.ChangeShapes Go.WideShapes Go.Deep
set_option linter.unusedVariables false
set_option maxRecDepth 100000
section
variable {H : Type} {enc' : TypeId × Value → H} {w : World} {base : Nat} {held : Bool}
theorem cellsLb4 : Tryd.prog.cellsOf 23 = 4 := by kernel_rfl
theorem open_strv {r : Reach} {b0 : Nat} {v : Value} {d : DataW H} {p : List MemPlace} (hv : Value.okWide Tryd.prog w r b0 9 v) (h : DataW.Trod enc' Tryd.prog w base (fun _ => true) held 9 v d p) :
    ∃ s : ByteArray, v = .string s ∧ s.size ≤ maxLen := by
  obtain ⟨s, rfl⟩ := okWide_string Tryd.underlying9 hv
  obtain ⟨fuel, hf⟩ := h
  obtain ⟨s', e, _, z⟩ := DataW.trod_string Tryd.underlying9 hf
  have hc : [Value.string s] = [.string s'] := by simpa [Value.cells] using e
  injection hc with hc
  injection hc with hc
  subst hc
  exact ⟨s, rfl, z⟩
theorem open_lbl {r : Reach} {b0 : Nat} {v : Value} {d : DataW H} {p : List MemPlace} (hv : Value.okWide Tryd.prog w r b0 23 v) (h : DataW.Trod enc' Tryd.prog w base (fun _ => true) held 23 v d p) :
    ∃ x : Lbl, v = lbV x ∧ x.Fit ∧ (-9223372036854775808 ≤ x.ep ∧ x.ep ≤ 9223372036854775807) ∧ -9223372036854775808 ≤ x.cr ∧ x.cr ≤ 9223372036854775807 := by
  obtain ⟨cs, rfl, _⟩ := okWide_struct Tryd.underlying23 hv
  obtain ⟨fuel, hf⟩ := h
  have hone : ∀ fs, Tryd.prog.underlying 23 = some (.struct fs) → oneCellFields Tryd.prog fs = true := by
    intro fs hfs
    rw [Tryd.underlying23] at hfs
    cases hfs
    kernel_rfl
  have ho := hone _ Tryd.underlying23
  obtain ⟨xs, n, _, _, hlen, hxl, hf⟩ := DataW.trod_struct Tryd.underlying23 hf
  rw [cellsLb4] at hlen
  have hcs : (Value.agg cs).cells.toList = cs.toList := by simp [Value.cells]
  rw [hcs] at hlen hf
  obtain ⟨l⟩ := cs
  simp only at hlen hf
  match l, hlen, xs, hxl with
  | [c0, c1, c2, c3], _, [y0, y1, y2, y3], _ =>
    have g0 := hf 0 _ rfl
    have g1 := hf 1 _ rfl
    have g2 := hf 2 _ rfl
    have g3 := hf 3 _ rfl
    rw [(hone_of ho 0 _ rfl).1, (hone_of ho 0 _ rfl).2] at g0
    rw [(hone_of ho 1 _ rfl).1, (hone_of ho 1 _ rfl).2] at g1
    rw [(hone_of ho 2 _ rfl).1, (hone_of ho 2 _ rfl).2] at g2
    rw [(hone_of ho 3 _ rfl).1, (hone_of ho 3 _ rfl).2] at g3
    obtain ⟨a0, e0, _, w0⟩ := DataW.trod_string Tryd.underlying9 g0
    obtain ⟨a1, e1, _, w1⟩ := DataW.trod_string Tryd.underlying9 g1
    obtain ⟨a2, e2, _, w2⟩ := DataW.trod_int Tryd.underlying3 g2
    obtain ⟨a3, e3, _, w3⟩ := DataW.trod_int Tryd.underlying3 g3
    simp at e0 e1 e2 e3
    subst e0 e1 e2 e3
    exact ⟨⟨a0, a1, a2, a3⟩, rfl, ⟨w0, w1⟩, by simpa [Lit.wf, IntKind.min, IntKind.max, IntKind.signed, IntKind.bits] using w2, by simpa [Lit.wf, IntKind.min, IntKind.max, IntKind.signed, IntKind.bits] using w3⟩
end
end Go.Proofs.YtjmlidejbddoeaaDoor
