/-
  Pack's variables in memory.
-/
import Derived.Test.YtihiccccpjakgaaZLong
import Derived.Test.YtihiccccpjakgaaZELit
namespace Go.Proofs.Ytihiccccpjakgaa
open Go.RowKit
set_option linter.unusedVariables false
set_option linter.unusedSimpArgs false
attribute [local irreducible] kyA
/-- all of Pack's variables: w the world at its start; the positions before k are in the map -/
structure PkW (w wr : World) (ad : Option Addr) (cap : Nat) (xs : List UInt8) (from_ at_ k : Nat) (l : List UInt8) : Prop where
  bx : Boxes wr w.heap.size ad xs.length cap from_ at_
  bu : BoxU wr w.heap.size (w.heap.size + 1) l
  gr : Grp wr (w.heap.size + 5) xs k
  ps : Bx wr (w.heap.size + 6) (.slice ad xs.length cap) (.map (some (w.heap.size + 5)))
  bl : Below w.heap.size w wr
theorem BoxU.keep {X Y : World} {B bx : Nat} {l : List UInt8} (h : BoxU X B bx l) (h1 : Y.heap[bx]? = X.heap[bx]?) (h2 : ∀ (g : Nat) (cs : Array Value) (fr : Nat × Nat), X.heap[g]? = some (Obj.cells cs 5 fr) → Y.heap[g]? = some (Obj.cells cs 5 fr)) : BoxU Y B bx l := by
  obtain ⟨v, hv, ho⟩ := h
  refine ⟨v, h1.trans hv, ho.row.1, ?_⟩
  rcases ho.row.2 with h0 | ⟨g, cap, cur, e, hB, hg, r⟩
  · exact .inl h0
  · exact .inr ⟨g, cap, cur, e, hB, h2 _ _ _ hg, r⟩
section
variable {w wr W : World} {ad : Option Addr} {cap from_ at_ k : Nat} {xs l : List UInt8}
theorem PkW.below (h : PkW w wr ad cap xs from_ at_ k l) (hb : Below wr.heap.size wr W) : PkW w W ad cap xs from_ at_ k l :=
  ⟨h.bx.v (KeepV.new hb h.bl.size), h.bu.below hb, h.gr.below hb, h.ps.below hb, h.bl.trans (hb.mono h.bl.size)⟩
theorem PkW.v (h : PkW w wr ad cap xs from_ at_ k l) {l' : List UInt8} (hk : KeepV w.heap.size (w.heap.size + 1) wr W) (hu : BoxU W w.heap.size (w.heap.size + 1) l') : PkW w W ad cap xs from_ at_ k l' := by
  refine ⟨h.bx.v hk, hu, h.gr.v hk (by omega) ?_, ?_, h.bl.trans hk.below⟩
  · intro cs fr e
    obtain ⟨v, hv, _⟩ := h.bu
    rw [hv] at e
    cases e
  · exact hk.rest _ _ (by omega) h.ps fun cs fr e => by cases e
theorem PkW.add (h : PkW w wr ad cap xs from_ at_ k l) {k' : Nat} (hk : KeepG (w.heap.size + 5) wr W) (hg : Grp W (w.heap.size + 5) xs k') : PkW w W ad cap xs from_ at_ k' l := by
  have hb : ∀ j, j < w.heap.size + 5 → W.heap[j]? = wr.heap[j]? := fun j hj => hk.below.block j hj
  refine ⟨⟨(hb _ (by omega)).trans h.bx.b1, (hb _ (by omega)).trans h.bx.em, (hb _ (by omega)).trans h.bx.fb, (hb _ (by omega)).trans h.bx.ab⟩, ?_, hg, ?_, h.bl.trans (hk.below.mono (by omega))⟩
  · refine h.bu.keep (hb _ (by omega)) fun g cs fr hg2 => ?_
    refine hk.rest g _ (fun e => ?_) hg2 fun cs fr e => by cases e
    subst e
    obtain ⟨es, clock, hm, _⟩ := h.gr
    rw [hm] at hg2
    cases hg2
  · exact hk.rest _ _ (by omega) h.ps fun cs fr e => by cases e
theorem PkW.set (h : PkW w wr ad cap xs from_ at_ k l) {j : Nat} (hj : j < 5) {u old v : Value} (ho : wr.heap[w.heap.size + j]? = some (.cells #[old] 3 (0, 0))) {f' a' : Nat} (hx : Boxes (wr.setCell ⟨w.heap.size + j, 0, none⟩ v) w.heap.size ad xs.length cap f' a') :
    PkW w (wr.setCell ⟨w.heap.size + j, 0, none⟩ v) ad cap xs f' a' k l := by
  have hb : ∀ q, q ≠ w.heap.size + j → (wr.setCell ⟨w.heap.size + j, 0, none⟩ v).heap[q]? = wr.heap[q]? := fun q hq => Below.heap_setCell wr ⟨w.heap.size + j, 0, none⟩ v q hq
  have hj1 : w.heap.size + j ≠ w.heap.size + 1 := by
    intro e
    obtain ⟨v, hv, _⟩ := h.bu
    rw [← e, ho] at hv
    cases hv
  refine ⟨hx, ?_, ?_, (hb _ (by omega)).trans h.ps, h.bl.setCell (p := ⟨w.heap.size + j, 0, none⟩) (Nat.le_add_right _ _) _⟩
  · refine h.bu.keep (hb _ (Ne.symm hj1)) fun g cs fr hg => (hb g (fun e => ?_)).trans hg
    subst e
    rw [ho] at hg
    cases hg
  · exact h.gr.keep (hb _ (by omega)) fun g cs fr h1 h2 => (hb g (by omega)).trans h2
theorem PkW.setF (h : PkW w wr ad cap xs from_ at_ k l) (f' : Nat) : PkW w (wr.setCell ⟨w.heap.size + 3, 0, none⟩ (.int .i64 (f' : Nat))) ad cap xs f' at_ k l := by
  have hb : ∀ q, q ≠ w.heap.size + 3 → (wr.setCell ⟨w.heap.size + 3, 0, none⟩ (.int .i64 (f' : Nat))).heap[q]? = wr.heap[q]? := fun q hq => Below.heap_setCell wr ⟨w.heap.size + 3, 0, none⟩ _ q hq
  exact h.set (u := .int .i64 0) (by omega) h.bx.fb ⟨(hb _ (by omega)).trans h.bx.b1, (hb _ (by omega)).trans h.bx.em, one_setCell h.bx.fb, (hb _ (by omega)).trans h.bx.ab⟩
theorem PkW.setA (h : PkW w wr ad cap xs from_ at_ k l) (a' : Nat) : PkW w (wr.setCell ⟨w.heap.size + 4, 0, none⟩ (.int .i64 (a' : Nat))) ad cap xs from_ a' k l := by
  have hb : ∀ q, q ≠ w.heap.size + 4 → (wr.setCell ⟨w.heap.size + 4, 0, none⟩ (.int .i64 (a' : Nat))).heap[q]? = wr.heap[q]? := fun q hq => Below.heap_setCell wr ⟨w.heap.size + 4, 0, none⟩ _ q hq
  exact h.set (u := .int .i64 0) (by omega) h.bx.ab ⟨(hb _ (by omega)).trans h.bx.b1, (hb _ (by omega)).trans h.bx.em, (hb _ (by omega)).trans h.bx.fb, one_setCell h.bx.ab⟩
end
/-- how far Pack is: read in memory -/
def atMu (C : Nat) (w : World) : Nat := (intOf ((w.cell? ⟨C + 4, 0, none⟩).getD undef)).toNat
theorem atMu_of {C : Nat} {w : World} {k : Nat} (h : w.cell? ⟨C + 4, 0, none⟩ = some (.int .i64 (k : Nat))) : atMu C w = k := by
  unfold atMu
  rw [h]
  exact Int.toNat_natCast k
end Go.Proofs.Ytihiccccpjakgaa
