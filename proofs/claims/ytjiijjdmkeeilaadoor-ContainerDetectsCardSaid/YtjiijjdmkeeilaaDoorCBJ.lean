/-
  Headers that come in.
  Bytes that come in.
  The program's listed variable as the walks of container want it.
-/
import Derived.Test.YtjiijjdmkeeilaaDoorCAX
import Derived.Deep.Slices
import Derived.Deep.Fields
import Derived.ChangeSame
import Derived.ChangeArms
import Derived.OpenShut
import Derived.Lib.SmallJoins
import Derived.Test.YtjiijjdmkeeilaaDoorCAH
import Derived.ProofKit
import Derived.LaidMore
import Derived.Stop.Joined
namespace Go.Proofs.YtjiijjdmkeeilaaDoor
open Go.RowKit Go.ChangeShapes Go.WideShapes Go.Deep
set_option linter.unusedVariables false
set_option maxRecDepth 100000
theorem cellsEnt5 : Tryd.prog.cellsOf 54 = 5 := by kernel_rfl
theorem cellsHdr11 : Tryd.prog.cellsOf 25 = 11 := by kernel_rfl
section
variable {H : Type} {enc' : TypeId × Value → H} {w : World} {base : Nat} {held : Bool}
theorem trod_ent {fuel : Nat} {cs : List Value} {x : DataW H × List MemPlace} (h : DataW.trod enc' Tryd.prog w base (fun _ => true) held fuel 54 cs = some x) :
    ∃ e : Ent, cs = enC e ∧ e.s < 4294967296 := by
  have hone : ∀ fs, Tryd.prog.underlying 54 = some (.struct fs) → oneCellFields Tryd.prog fs = true := by
    intro fs hfs
    rw [Tryd.underlying54] at hfs
    cases hfs
    kernel_rfl
  have ho := hone _ Tryd.underlying54
  obtain ⟨xs, n, _, _, hlen, hxl, hf⟩ := DataW.trod_struct Tryd.underlying54 h
  rw [cellsEnt5] at hlen
  match cs, hlen, xs, hxl with
  | [c0, c1, c2, c3, c4], _, [y0, y1, y2, y3, y4], _ =>
    have g0 := hf 0 _ rfl
    have g1 := hf 1 _ rfl
    have g2 := hf 2 _ rfl
    have g3 := hf 3 _ rfl
    have g4 := hf 4 _ rfl
    rw [(hone_of ho 0 _ rfl).1, (hone_of ho 0 _ rfl).2] at g0
    rw [(hone_of ho 1 _ rfl).1, (hone_of ho 1 _ rfl).2] at g1
    rw [(hone_of ho 2 _ rfl).1, (hone_of ho 2 _ rfl).2] at g2
    rw [(hone_of ho 3 _ rfl).1, (hone_of ho 3 _ rfl).2] at g3
    rw [(hone_of ho 4 _ rfl).1, (hone_of ho 4 _ rfl).2] at g4
    obtain ⟨a0, e0, _, w0⟩ := DataW.trod_int Tryd.underlying3 g0
    obtain ⟨a1, e1, _, w1⟩ := DataW.trod_int Tryd.underlying3 g1
    obtain ⟨a2, e2, _, w2⟩ := DataW.trod_int Tryd.underlying3 g2
    obtain ⟨a3, e3, _, w3⟩ := DataW.trod_int Tryd.underlying3 g3
    obtain ⟨a4, e4, _, w4⟩ := DataW.trod_int Tryd.underlying23 g4
    simp at e0 e1 e2 e3 e4
    subst e0 e1 e2 e3 e4
    have bu : 0 ≤ a4 ∧ a4 ≤ 4294967295 := by simpa [Lit.wf, IntKind.min, IntKind.max, IntKind.signed, IntKind.bits] using w4
    obtain ⟨u, rfl⟩ : ∃ u : Nat, a4 = u := ⟨a4.toNat, by omega⟩
    exact ⟨⟨a0, a1, a2, a3, u⟩, rfl, by show u < _; omega⟩
theorem trod_ents {fuel : Nat} {v : Value} {x : DataW H × List MemPlace} (hf : DataW.trod enc' Tryd.prog w base (fun _ => true) held fuel 22 [v] = some x) :
    ∃ (ad : Option Addr) (cap : Nat) (l : List Ent), v = .slice ad l.length cap ∧ Lf enC w ad l ∧ (∀ e ∈ l, e.s < 4294967296) ∧ l.length ≤ cap ∧ cap ≤ maxLen ∧ (ad = none → cap = 0) := by
  rcases open_slice Tryd.underlying22 hf with ⟨hcs, _⟩ | ⟨a', len, cap, m, n, D, Pl, hcs, hb, hl, hm, hmm, _, hi⟩
  · cases hcs
    exact ⟨none, 0, [], rfl, .nil _ _ _, fun e h => by simp at h, Nat.le_refl _, Nat.zero_le _, fun _ => rfl⟩
  · cases hcs
    have hlm : len ≤ m := by rw [hmm]; split <;> omega
    rw [cellsEnt5] at hi
    have hx : ∀ i, ∃ e : Ent, i < len → e.s < 4294967296 ∧ ∀ j, j < 5 → w.cell? ((a'.add (i * 5)).add j) = (enC e)[j]? := by
      intro i
      by_cases h : i < len
      · obtain ⟨cs', hc, ht⟩ := hi i (by omega)
        obtain ⟨e, rfl, h1⟩ := trod_ent ht
        exact ⟨e, fun _ => ⟨h1, (World.cells?_some hc).2.2⟩⟩
      · exact ⟨⟨0, 0, 0, 0, 0⟩, fun h' => absurd h' h⟩
    obtain ⟨f, hf'⟩ := Classical.axiomOfChoice hx
    refine ⟨some a', cap, (List.range len).map f, by simp, ?_, ?_, by simpa using hl, hm, fun h => by cases h⟩
    · by_cases h0 : len = 0
      · left; subst h0; rfl
      · right
        have hc0 := (hf' 0 (by omega)).2 0 (by omega)
        obtain ⟨b, off, spot⟩ := a'
        have hspot : spot = none := by
          have e0 : (⟨b, off, spot⟩ : Addr).add (0 * 5) = ⟨b, off, spot⟩ := rfl
          rw [e0] at hc0
          have e1 : (⟨b, off, spot⟩ : Addr).add 0 = ⟨b, off, spot⟩ := rfl
          rw [e1] at hc0
          exact World.cell?_spot (v := .int .i64 (f 0).f) hc0
        subst hspot
        have hget : ∀ i, i < len → ∀ j, j < 5 → w.cell? ⟨b, off + (i * 5 + j), none⟩ = (enC (f i))[j]? := fun i hi j hj => by
          have := (hf' i hi).2 j hj
          rwa [Go.WideShapes.add_plain, Go.WideShapes.add_plain, Nat.add_assoc] at this
        have hfl : ∀ L : List Ent, (L.flatMap enC).length = L.length * 5 := fun L => by
          induction L with
          | nil => rfl
          | cons x L ih =>
            have h5 : (enC x).length = 5 := rfl
            rw [List.flatMap_cons, List.length_append, ih, List.length_cons, h5]; omega
        refine ⟨b, off, rfl, ?_, fun j u hu => ?_⟩
        · have := hget 0 (by omega) 0 (by omega)
          rcases Nat.lt_or_ge b w.heap.size with h' | h'
          · exact h'
          · simp [World.cell?, Array.getElem?_eq_none h', enC] at this
        · have hj : j < len * 5 := by
            have := (List.getElem?_eq_some_iff.1 hu).1
            rw [hfl] at this
            simpa using this
          have hq : j / 5 < len := by omega
          have hql : j / 5 < ((List.range len).map f).length := by simpa using hq
          have hfj : ((List.range len).map f)[j / 5] = f (j / 5) := by simp
          have hr := hget (j / 5) hq (j % 5) (by omega)
          rw [show j / 5 * 5 + j % 5 = j by omega] at hr
          have hg := flat_get celE ((List.range len).map f) (j / 5) hql (j % 5) (by omega)
          rw [hfj, show j / 5 * 5 + j % 5 = j by omega] at hg
          rw [hr, ← hg]
          exact hu
    · intro e he
      obtain ⟨i, hi', rfl⟩ := List.mem_map.1 he
      exact (hf' i (by simpa using hi')).1
theorem open_hdr {r : Reach} {b0 : Nat} {v : Value} {d : DataW H} {p : List MemPlace} (hv : Value.okWide Tryd.prog w r b0 25 v) (h : DataW.Trod enc' Tryd.prog w base (fun _ => true) held 25 v d p) :
    ∃ (x : Hdr) (ad : Option Addr) (cap : Nat), v = hdV x ad x.es.length cap ∧ HdIn w x ad x.es.length cap ∧ x.Fit := by
  obtain ⟨cs, rfl, _⟩ := okWide_struct Tryd.underlying25 hv
  obtain ⟨fuel, hf⟩ := h
  have hone : ∀ fs, Tryd.prog.underlying 25 = some (.struct fs) → oneCellFields Tryd.prog fs = true := by
    intro fs hfs
    rw [Tryd.underlying25] at hfs
    cases hfs
    kernel_rfl
  have ho := hone _ Tryd.underlying25
  obtain ⟨xs, n, _, _, hlen, hxl, hf⟩ := DataW.trod_struct Tryd.underlying25 hf
  rw [cellsHdr11] at hlen
  have hcs : (Value.agg cs).cells.toList = cs.toList := by simp [Value.cells]
  rw [hcs] at hlen hf
  obtain ⟨l⟩ := cs
  simp only at hlen hf
  match l, hlen, xs, hxl with
  | [c0, c1, c2, c3, c4, c5, c6, c7, c8, c9, c10], _, [y0, y1, y2, y3, y4, y5, y6, y7, y8, y9, y10], _ =>
    have g0 := hf 0 _ rfl
    have g1 := hf 1 _ rfl
    have g2 := hf 2 _ rfl
    have g3 := hf 3 _ rfl
    have g4 := hf 4 _ rfl
    have g5 := hf 5 _ rfl
    have g6 := hf 6 _ rfl
    have g7 := hf 7 _ rfl
    have g8 := hf 8 _ rfl
    have g9 := hf 9 _ rfl
    have g10 := hf 10 _ rfl
    rw [(hone_of ho 0 _ rfl).1, (hone_of ho 0 _ rfl).2] at g0
    rw [(hone_of ho 1 _ rfl).1, (hone_of ho 1 _ rfl).2] at g1
    rw [(hone_of ho 2 _ rfl).1, (hone_of ho 2 _ rfl).2] at g2
    rw [(hone_of ho 3 _ rfl).1, (hone_of ho 3 _ rfl).2] at g3
    rw [(hone_of ho 4 _ rfl).1, (hone_of ho 4 _ rfl).2] at g4
    rw [(hone_of ho 5 _ rfl).1, (hone_of ho 5 _ rfl).2] at g5
    rw [(hone_of ho 6 _ rfl).1, (hone_of ho 6 _ rfl).2] at g6
    rw [(hone_of ho 7 _ rfl).1, (hone_of ho 7 _ rfl).2] at g7
    rw [(hone_of ho 8 _ rfl).1, (hone_of ho 8 _ rfl).2] at g8
    rw [(hone_of ho 9 _ rfl).1, (hone_of ho 9 _ rfl).2] at g9
    rw [(hone_of ho 10 _ rfl).1, (hone_of ho 10 _ rfl).2] at g10
    obtain ⟨a0, e0, _, w0⟩ := DataW.trod_int Tryd.underlying3 g0
    obtain ⟨a1, e1, _, w1⟩ := DataW.trod_int Tryd.underlying3 g1
    obtain ⟨a2, e2, _, w2⟩ := DataW.trod_int Tryd.underlying3 g2
    obtain ⟨a3, e3, _, w3⟩ := DataW.trod_int Tryd.underlying3 g3
    obtain ⟨a4, e4, _, w4⟩ := DataW.trod_int Tryd.underlying3 g4
    obtain ⟨a5, e5, _, w5⟩ := DataW.trod_int Tryd.underlying3 g5
    obtain ⟨a6, e6, _, w6⟩ := DataW.trod_int Tryd.underlying3 g6
    obtain ⟨a7, e7, _, w7⟩ := DataW.trod_int Tryd.underlying3 g7
    obtain ⟨ad, cap, es, e8, hl, hs, h1, h2, h3⟩ := trod_ents (v := c8) (by simpa using g8)
    obtain ⟨a9, e9, _, w9⟩ := DataW.trod_int Tryd.underlying3 g9
    obtain ⟨a10, e10, _, w10⟩ := DataW.trod_int Tryd.underlying23 g10
    simp at e0 e1 e2 e3 e4 e5 e6 e7 e9 e10
    subst e0 e1 e2 e3 e4 e5 e6 e7 e8 e9 e10
    have bu : 0 ≤ a10 ∧ a10 ≤ 4294967295 := by simpa [Lit.wf, IntKind.min, IntKind.max, IntKind.signed, IntKind.bits] using w10
    obtain ⟨u, rfl⟩ : ∃ u : Nat, a10 = u := ⟨a10.toNat, by omega⟩
    exact ⟨⟨a0, a1, a2, a3, a4, a5, a6, a7, es, a9, u⟩, ad, cap, rfl, ⟨hl, rfl, h1, h2, h3⟩, by show u < _; omega, hs⟩
end
end Go.Proofs.YtjiijjdmkeeilaaDoor
namespace Go.Proofs.YtjiijjdmkeeilaaDoor
open Go.RowKit Go.ChangeShapes Go.WideShapes Go.Deep
set_option maxRecDepth 100000

section
variable {H : Type} {enc' : TypeId × Value → H} {w : World} {base : Nat} {spare : Nat → Bool} {held : Bool}

theorem open_bytes {r : Reach} {b0 : Nat} {v : Value} {d : DataW H} {p : List MemPlace} (hv : Value.okWide Tryd.prog w r b0 26 v) (h : DataW.Trod enc' Tryd.prog w base (fun _ => true) held 26 v d p) :
    ∃ (ad : Option Addr) (cap : Nat) (xs : List UInt8), v = .slice ad xs.length cap ∧ Lie w ad xs ∧ xs.length ≤ cap ∧ cap ≤ maxLen ∧ (ad = none → cap = 0) := by
  obtain ⟨a, len, cap, rfl⟩ := okWide_slice Tryd.underlying26 hv
  obtain ⟨fuel, hf⟩ := h
  rcases open_ints Tryd.underlying26 Tryd.underlying5 (by kernel_rfl) hf with ⟨hcs, _⟩ | ⟨x, l, c, zs, hcs, _, hl, hm, hz, _, hcell, hwz⟩
  · simp [Value.cells] at hcs
    obtain ⟨rfl, rfl, rfl⟩ := hcs
    exact ⟨none, 0, [], rfl, .nil _ _, Nat.le_refl _, Nat.zero_le _, fun _ => rfl⟩
  · simp [Value.cells] at hcs
    obtain ⟨rfl, rfl, rfl⟩ := hcs
    obtain ⟨xs, rfl, h1, h2, h3, h4⟩ := lie_of w (some x) len cap zs (.inr ⟨x, rfl, hl, hm, by simpa using hz, hcell, hwz⟩)
    exact ⟨_, cap, xs, rfl, h1, h2, h3, h4⟩
end

theorem own : ownKnob Tryd.prog.godebug = none := by kernel_rfl
theorem laidOut : laidOutB Tryd.prog = true := by kernel_rfl
end Go.Proofs.YtjiijjdmkeeilaaDoor
namespace Go.Proofs.YtjiijjdmkeeilaaDoor
open Go.RowKit Go.ChangeShapes Go.WideShapes Go.Deep
set_option maxRecDepth 100000
/-- The list of the row's variables. -/
abbrev laid1 {H : Type} : List (String × DataW H) := [("tapearchive/frame.magic", Rows.laid_tapearchive_frame_magic)]
theorem gMagic : Tryd.prog.globalNamed "tapearchive/frame.magic" = some 0 := by kernel_rfl
theorem tMagic : (Tryd.prog.globals[0]?).map (·.type) = some 90 := by kernel_rfl
theorem door_met (os : Os) (args : Array Value) : laidMetH Tryd.prog laid1 ((World.doorLaid Tryd.prog 30 os).forCall (fun _ _ => 0) ⟨#[], args, []⟩).memory :=
  laidMetH_of_parts3 (fuel := 8) (laidMet_of_run' 8 (by kernel_rfl) (by kernel_rfl)) (by kernel_rfl) (by kernel_rfl)
theorem of_laid {W : World} (h : laidMetH Tryd.prog laid1 W) : Mag W := by
  rw [MakeChecks.laidMetH_plain _ _ _ (by kernel_rfl)] at h
  obtain ⟨ps, ⟨g0, t0, cs0, f0, p0, q0, hg0, ht0, hv0, hd0, _, _⟩, _, _⟩ := h
  obtain rfl := Option.some.inj (gMagic.symm.trans hg0)
  obtain rfl := Option.some.inj (tMagic.symm.trans ht0)
  obtain ⟨xs, m1, rfl, hx1, hlen, hn3, hel⟩ := DataW.trod_array Tryd.underlying90 hd0
  have c1 : Tryd.prog.cellsOf 5 = 1 := by kernel_rfl
  have c2 : Tryd.prog.cellsOf 90 = 2 := by kernel_rfl
  have e0 := hel 0 (by decide)
  have e1 := hel 1 (by decide)
  rw [c1] at e0 e1
  simp only [Rows.laid_tapearchive_frame_magic, Prod.mk.injEq, DataW.agg.injEq] at hx1
  match xs, hn3, hx1, e0, e1 with
  | [x0, x1], _, hx1, e0, e1 =>
    simp only [List.map_cons, List.map_nil, List.cons.injEq] at hx1
    obtain ⟨k0, a0, b0, _⟩ := DataW.trod_int Tryd.underlying5 (show DataW.trod _ Tryd.prog W 0 _ false m1 5 _ = some x0 from e0)
    obtain ⟨k1, a1, b1, _⟩ := DataW.trod_int Tryd.underlying5 (show DataW.trod _ Tryd.prog W 0 _ false m1 5 _ = some x1 from e1)
    have hk0 : k0 = 167 := by rw [b0] at hx1; simpa using hx1.1.1.symm
    have hk1 : k1 = 60 := by rw [b1] at hx1; simpa using hx1.1.2.1.symm
    subst hk0 hk1
    have w0 := World.var?_cell hg0 hv0 0
    have w1 := World.var?_cell hg0 hv0 1
    rw [c2] at hlen
    obtain ⟨l1⟩ := cs0
    match l1, hlen, a0, a1, w0, w1 with
    | [y0, y1], _, a0, a1, w0, w1 =>
      simp at a0 a1 w0 w1
      subst a0 a1
      exact ⟨w0, w1⟩
end Go.Proofs.YtjiijjdmkeeilaaDoor
