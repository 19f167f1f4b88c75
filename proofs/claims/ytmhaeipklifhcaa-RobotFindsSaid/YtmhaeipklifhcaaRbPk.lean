/-
  Robots handed back; the boxes of Pick and Put
-/
import Derived.Test.YtmhaeipklifhcaaRbReach
namespace Go.Proofs.Ytmhaeipklifhcaa
open Go.RowKit
set_option linter.unusedVariables false
/-- a call hands back a robot of the call's own, a time and an error -/
def RetP (w : World) (x : Rbt × Int × Int) (e : Ending) (w' : World) : Prop := ∃ ad n cap, e = .returned (.tuple #[roV x.1 ad n cap, .int .i64 x.2.1, .int .i64 x.2.2]) ∧ n = x.1.l.length ∧ Sq w' w.heap.size (.slice ad n cap) x.1.l ∧ Below w.heap.size w w'
/-- the boxes: model, robot, element, result -/
structure Bx4 (w X : World) (m : Rmd) (r : Rbt) (ad : Option Addr) (n cap : Nat) (k i : Int) : Prop where
  b : Below w.heap.size w X
  s : w.heap.size + 4 ≤ X.heap.size
  m : RmAt X w.heap.size m
  r : X.heap[w.heap.size + 1]? = some (boxR r ad n cap)
  e : ElAt X (w.heap.size + 2) k i
  z : X.heap[w.heap.size + 3]? = some (boxR rz none 0 0)
theorem Bx4.next {w X Y : World} {m : Rmd} {r : Rbt} {ad : Option Addr} {n cap : Nat} {k i : Int} (h : Bx4 w X m r ad n cap k i) (hb : Below X.heap.size X Y) : Bx4 w Y m r ad n cap k i :=
  ⟨h.b.trans (hb.mono h.b.size), Nat.le_trans h.s hb.size, h.m.step hb, row_step h.r hb, h.e.step hb, row_step h.z hb⟩
theorem Bx4.start (w : World) (m : Rmd) (r : Rbt) (ad : Option Addr) (n cap : Nat) (k i : Int) : Bx4 w ((((w.alloc (boxM m)).alloc (boxR r ad n cap)).alloc (boxE k i)).alloc (boxR rz none 0 0)) m r ad n cap k i := by
  obtain ⟨h1, h2, h3, h4, h5⟩ := box_mre w m r ad n cap k i
  have hb := below_box1 (((w.alloc (boxM m)).alloc (boxR r ad n cap)).alloc (boxE k i)) (boxR rz none 0 0)
  refine ⟨h1.trans (hb.mono h1.size), by rw [World.size_alloc, h5]; exact Nat.le_refl _, h2.step hb, row_step h3 hb, (ElAt.of h4).step hb, ?_⟩
  have h := heap_new (((w.alloc (boxM m)).alloc (boxR r ad n cap)).alloc (boxE k i)) (boxR rz none 0 0)
  rwa [h5] at h
theorem ret_err {w X : World} {m : Rmd} {r : Rbt} {ad : Option Addr} {n cap : Nat} {k i : Int} (h : Bx4 w X m r ad n cap k i) {x : Rbt × Int × Int} {er : Int} (hx : x = (rz, 0, er)) : RetP w x (.returned (.tuple #[.agg (roK rz none 0 0), .int .i64 0, .int .i64 er])) (X.setRow (w.heap.size + 3) (roK rz none 0 0)) := by
  subst hx
  exact ⟨none, 0, 0, rfl, rfl, Sq.nil _ _, below_set h.b (by omega) _⟩
/-- the robot's box is stored whole, then its place and its hand -/
theorem pk_rows {w X : World} {m : Rmd} {r r4 : Rbt} {ad ad4 : Option Addr} {n cap n4 cap4 : Nat} {k i : Int} (h : Bx4 w X m r ad n cap k i) (u v : Value) :
    (X.setRow (w.heap.size + 1) (roK r4 ad4 n4 cap4)).heap[w.heap.size + 1]? = some (boxR r4 ad4 n4 cap4) ∧
    (((X.setRow (w.heap.size + 1) (roK r4 ad4 n4 cap4)).setCell ⟨w.heap.size + 1, 0, none⟩ u).setCell ⟨w.heap.size + 1, 4, none⟩ v).heap[w.heap.size + 3]? = some (boxR rz none 0 0) := by
  refine ⟨setRow_heap _ _ _ _ _ _ h.r, ?_⟩
  refine far_set (far_set ?_ (by omega) _ _) (by omega) _ _
  rw [setRow_other _ _ _ _ (by omega)]
  exact h.z
theorem pk_end {w w3 X : World} {m : Rmd} {r r4 : Rbt} {ad ad4 : Option Addr} {n cap n4 cap4 : Nat} {k i p t : Int} {b : ByteArray} (h : Bx4 w X m r ad n cap k i) (h3 : w.heap.size + 4 ≤ w3.heap.size) (hs : Sq X w3.heap.size (.slice ad4 n4 cap4) r4.l) (hn : n4 = r4.l.length) {x : Rbt × Int × Int}
    (hx : x = ({ r4 with p := p, ha := b }, t, 0)) :
    RetP w x (.returned (.tuple #[.agg (roK { r4 with p := p, ha := b } ad4 n4 cap4), .int .i64 t, .int .i64 0]))
      ((((X.setRow (w.heap.size + 1) (roK r4 ad4 n4 cap4)).setCell ⟨w.heap.size + 1, 0, none⟩ (.int .i64 p)).setCell ⟨w.heap.size + 1, 4, none⟩ (.string b)).setRow (w.heap.size + 3) (roK { r4 with p := p, ha := b } ad4 n4 cap4)) := by
  subst hx
  refine ⟨ad4, n4, cap4, rfl, hn, ?_, ?_⟩
  · refine Sq.mono (hs.keep (fun q hq => ?_)) (show w.heap.size ≤ w3.heap.size by omega)
    have := (hs.lt q hq).1
    rw [setRow_other _ _ _ _ (by omega), Below.heap_setCell _ _ _ _ (by show q ≠ w.heap.size + 1; omega), Below.heap_setCell _ _ _ _ (by show q ≠ w.heap.size + 1; omega), setRow_other _ _ _ _ (by omega)]
  · exact below_set (((below_set h.b (by omega) _).setCell (p := ⟨w.heap.size + 1, 0, none⟩) (by show w.heap.size ≤ w.heap.size + 1; omega) _).setCell (p := ⟨w.heap.size + 1, 4, none⟩) (by show w.heap.size ≤ w.heap.size + 1; omega) _) (by omega) _
end Go.Proofs.Ytmhaeipklifhcaa
