/-
  Drives, models and operations that come in.
-/
import Derived.Test.YtepmmlnopdjjdaaQBase
import Derived.Test.YtepmmlnopdjjdaaQDrs
namespace Go.Proofs.Ytepmmlnopdjjdaa
open Go.RowKit Go.ChangeShapes Go.WideShapes Go.Deep
set_option linter.unusedVariables false
set_option maxRecDepth 100000
section
variable {H : Type} {enc' : TypeId × Value → H} {w : World} {base : Nat} {held : Bool}
theorem cellsMdl : Try.prog.cellsOf 23 = 5 := by kernel_rfl
theorem cellsDrv : Try.prog.cellsOf 25 = 6 := by kernel_rfl
theorem open_mdl {r : Reach} {b0 : Nat} {v : Value} {d : DataW H} {p : List MemPlace} (hv : Value.okWide Try.prog w r b0 23 v) (h : DataW.Trod enc' Try.prog w base (fun _ => true) held 23 v d p) :
    ∃ m : Mdl, v = mdV m := by
  obtain ⟨cs, rfl, _⟩ := okWide_struct Try.underlying23 hv
  obtain ⟨fuel, hf⟩ := h
  have hone : ∀ fs, Try.prog.underlying 23 = some (.struct fs) → oneCellFields Try.prog fs = true := by
    intro fs hfs
    rw [Try.underlying23] at hfs
    cases hfs
    kernel_rfl
  have ho := hone _ Try.underlying23
  obtain ⟨ys, n, _, _, hlen, hxl, hf⟩ := DataW.trod_struct Try.underlying23 hf
  rw [cellsMdl] at hlen
  have hcs : (Value.agg cs).cells.toList = cs.toList := by simp [Value.cells]
  rw [hcs] at hlen hf
  obtain ⟨l⟩ := cs
  simp only at hlen hf
  match l, hlen, ys, hxl with
  | [c0, c1, c2, c3, c4], _, [y0, y1, y2, y3, y4], _ =>
    have g0 := hf 0 _ rfl
    rw [(hone_of ho 0 _ rfl).1, (hone_of ho 0 _ rfl).2] at g0
    have g1 := hf 1 _ rfl
    rw [(hone_of ho 1 _ rfl).1, (hone_of ho 1 _ rfl).2] at g1
    have g2 := hf 2 _ rfl
    rw [(hone_of ho 2 _ rfl).1, (hone_of ho 2 _ rfl).2] at g2
    have g3 := hf 3 _ rfl
    rw [(hone_of ho 3 _ rfl).1, (hone_of ho 3 _ rfl).2] at g3
    have g4 := hf 4 _ rfl
    rw [(hone_of ho 4 _ rfl).1, (hone_of ho 4 _ rfl).2] at g4
    obtain ⟨a0, e0, _, w0⟩ := DataW.trod_int Try.underlying3 g0
    obtain ⟨a1, e1, _, w1⟩ := DataW.trod_int Try.underlying3 g1
    obtain ⟨a2, e2, _, w2⟩ := DataW.trod_int Try.underlying3 g2
    obtain ⟨a3, e3, _, w3⟩ := DataW.trod_int Try.underlying3 g3
    obtain ⟨a4, e4, _, w4⟩ := DataW.trod_int Try.underlying3 g4
    simp at e0 e1 e2 e3 e4
    subst e0 e1 e2 e3 e4
    exact ⟨⟨a0, a1, a2, a3, a4⟩, rfl⟩
theorem open_drv {r : Reach} {b0 : Nat} {v : Value} {d : DataW H} {p : List MemPlace} (hv : Value.okWide Try.prog w r b0 25 v) (h : DataW.Trod enc' Try.prog w base (fun _ => true) held 25 v d p) :
    ∃ d : Drv, v = drV d := by
  obtain ⟨cs, rfl, _⟩ := okWide_struct Try.underlying25 hv
  obtain ⟨fuel, hf⟩ := h
  have hone : ∀ fs, Try.prog.underlying 25 = some (.struct fs) → oneCellFields Try.prog fs = true := by
    intro fs hfs
    rw [Try.underlying25] at hfs
    cases hfs
    kernel_rfl
  have ho := hone _ Try.underlying25
  obtain ⟨ys, n, _, _, hlen, hxl, hf⟩ := DataW.trod_struct Try.underlying25 hf
  rw [cellsDrv] at hlen
  have hcs : (Value.agg cs).cells.toList = cs.toList := by simp [Value.cells]
  rw [hcs] at hlen hf
  obtain ⟨l⟩ := cs
  simp only at hlen hf
  match l, hlen, ys, hxl with
  | [c0, c1, c2, c3, c4, c5], _, [y0, y1, y2, y3, y4, y5], _ =>
    have g0 := hf 0 _ rfl
    rw [(hone_of ho 0 _ rfl).1, (hone_of ho 0 _ rfl).2] at g0
    have g1 := hf 1 _ rfl
    rw [(hone_of ho 1 _ rfl).1, (hone_of ho 1 _ rfl).2] at g1
    have g2 := hf 2 _ rfl
    rw [(hone_of ho 2 _ rfl).1, (hone_of ho 2 _ rfl).2] at g2
    have g3 := hf 3 _ rfl
    rw [(hone_of ho 3 _ rfl).1, (hone_of ho 3 _ rfl).2] at g3
    have g4 := hf 4 _ rfl
    rw [(hone_of ho 4 _ rfl).1, (hone_of ho 4 _ rfl).2] at g4
    have g5 := hf 5 _ rfl
    rw [(hone_of ho 5 _ rfl).1, (hone_of ho 5 _ rfl).2] at g5
    obtain ⟨a0, e0, _, w0⟩ := DataW.trod_int Try.underlying3 g0
    obtain ⟨a1, e1, _, w1⟩ := DataW.trod_string Try.underlying9 g1
    obtain ⟨a2, e2, _, w2⟩ := DataW.trod_int Try.underlying3 g2
    obtain ⟨a3, e3, _, w3⟩ := DataW.trod_int Try.underlying3 g3
    obtain ⟨a4, e4, _, w4⟩ := DataW.trod_int Try.underlying3 g4
    obtain ⟨a5, e5, _, w5⟩ := DataW.trod_int Try.underlying3 g5
    simp at e0 e1 e2 e3 e4 e5
    subst e0 e1 e2 e3 e4 e5
    exact ⟨⟨a0, a1, a2, a3, a4, a5⟩, rfl⟩
theorem open_step4 {r : Reach} {b0 : Nat} {v : Value} {d : DataW H} {p : List MemPlace} (hv : Value.okWide Try.prog w r b0 32 v) (h : DataW.Trod enc' Try.prog w base (fun _ => true) held 32 v d p) :
    ∃ k i n zd zn zc z, v = .agg #[.int .i64 k, .int .i64 i, .int .i64 n, .slice zd zn zc] ∧ zn = z.length ∧ St4.In w ⟨k, i, n, z⟩ zd zc := by
  obtain ⟨cs, rfl, _⟩ := okWide_struct Try.underlying32 hv
  obtain ⟨fuel, hf⟩ := h
  obtain ⟨⟨⟨k, i, n, z⟩, zd, zc⟩, e, hi⟩ := trod_stp4 (cs := cs.toList) (by simpa [Value.cells] using hf)
  have e2 : cs = #[.int .i64 k, .int .i64 i, .int .i64 n, .slice zd z.length zc] := Array.toList_inj.1 e
  exact ⟨k, i, n, zd, z.length, zc, z, by rw [e2], rfl, hi⟩
end
end Go.Proofs.Ytepmmlnopdjjdaa
