/-
  Models, robots and elements in boxes.
-/
import Derived.Test.YtmhaeipklifhcaaRbMem
import Derived.Test.YtmhaeipklifhcaaKRobot
namespace Go.Proofs.Ytmhaeipklifhcaa
open Go.RowKit Go.ChangeShapes
set_option linter.unusedVariables false
set_option maxRecDepth 100000
abbrev rmK (m : Rmd) : Array Value := #[.int .i64 m.s, .int .i64 m.d, .int .i64 m.da, .int .i64 m.pa, .int .i64 m.mv, .int .i64 m.pk, .int .i64 m.pt]
abbrev rmV (m : Rmd) : Value := .agg (rmK m)
abbrev boxM (m : Rmd) : Obj := .cells (rmK m) 23
abbrev roK (r : Rbt) (ad : Option Addr) (n cap : Nat) : Array Value := #[.int .i64 r.p, .bool r.f, .slice ad n cap, .string r.po, .string r.ha]
abbrev roV (r : Rbt) (ad : Option Addr) (n cap : Nat) : Value := .agg (roK r ad n cap)
abbrev boxR (r : Rbt) (ad : Option Addr) (n cap : Nat) : Obj := .cells (roK r ad n cap) 26
abbrev elK (k i : Int) : Array Value := #[.int .i64 k, .int .i64 i]
abbrev elV (k i : Int) : Value := .agg (elK k i)
abbrev boxE (k i : Int) : Obj := .cells (elK k i) 28
/-- the model lies in block g -/
structure RmAt (w : World) (g : Nat) (m : Rmd) : Prop where
  lt : g < w.heap.size
  c0 : w.cell? ⟨g, 0, none⟩ = some (.int .i64 m.s)
  c1 : w.cell? ⟨g, 1, none⟩ = some (.int .i64 m.d)
  c2 : w.cell? ⟨g, 2, none⟩ = some (.int .i64 m.da)
  c3 : w.cell? ⟨g, 3, none⟩ = some (.int .i64 m.pa)
  c4 : w.cell? ⟨g, 4, none⟩ = some (.int .i64 m.mv)
  c5 : w.cell? ⟨g, 5, none⟩ = some (.int .i64 m.pk)
  c6 : w.cell? ⟨g, 6, none⟩ = some (.int .i64 m.pt)
theorem RmAt.below {W' w : World} {B g : Nat} {m : Rmd} (h : RmAt W' g m) (hb : Below B W' w) (hB : g < B) : RmAt w g m :=
  ⟨Nat.lt_of_lt_of_le h.lt hb.size, (hb.cell hB).trans h.c0, (hb.cell hB).trans h.c1, (hb.cell hB).trans h.c2, (hb.cell hB).trans h.c3, (hb.cell hB).trans h.c4, (hb.cell hB).trans h.c5, (hb.cell hB).trans h.c6⟩
theorem RmAt.new (w : World) (m : Rmd) (t : TypeId) : RmAt (w.alloc (.cells (rmK m) t)) w.heap.size m := by
  refine ⟨by simp, ?_, ?_, ?_, ?_, ?_, ?_, ?_⟩ <;> (rw [World.cell?_alloc_mark]; rfl)
theorem RmAt.step {w X : World} {g : Nat} {m : Rmd} (h : RmAt w g m) (hb : Below w.heap.size w X) : RmAt X g m := h.below hb h.lt
/-- the element lies in block g -/
structure ElAt (w : World) (g : Nat) (k i : Int) : Prop where
  lt : g < w.heap.size
  c0 : w.cell? ⟨g, 0, none⟩ = some (.int .i64 k)
  c1 : w.cell? ⟨g, 1, none⟩ = some (.int .i64 i)
theorem ElAt.below {W' w : World} {B g : Nat} {k i : Int} (h : ElAt W' g k i) (hb : Below B W' w) (hB : g < B) : ElAt w g k i :=
  ⟨Nat.lt_of_lt_of_le h.lt hb.size, (hb.cell hB).trans h.c0, (hb.cell hB).trans h.c1⟩
theorem ElAt.new (w : World) (k i : Int) (t : TypeId) : ElAt (w.alloc (.cells (elK k i) t)) w.heap.size k i := by
  refine ⟨by simp, ?_, ?_⟩ <;> (rw [World.cell?_alloc_mark]; rfl)
theorem ElAt.step {w X : World} {g : Nat} {k i : Int} (h : ElAt w g k i) (hb : Below w.heap.size w X) : ElAt X g k i := h.below hb h.lt
/-- the robot lies in block g -/
structure RoAt (w : World) (g : Nat) (r : Rbt) (ad : Option Addr) (n cap : Nat) : Prop where
  lt : g < w.heap.size
  c0 : w.cell? ⟨g, 0, none⟩ = some (.int .i64 r.p)
  c1 : w.cell? ⟨g, 1, none⟩ = some (.bool r.f)
  c2 : w.cell? ⟨g, 2, none⟩ = some (.slice ad n cap)
  c3 : w.cell? ⟨g, 3, none⟩ = some (.string r.po)
  c4 : w.cell? ⟨g, 4, none⟩ = some (.string r.ha)
theorem RoAt.below {W' w : World} {B g : Nat} {r : Rbt} {ad : Option Addr} {n cap : Nat} (h : RoAt W' g r ad n cap) (hb : Below B W' w) (hB : g < B) : RoAt w g r ad n cap :=
  ⟨Nat.lt_of_lt_of_le h.lt hb.size, (hb.cell hB).trans h.c0, (hb.cell hB).trans h.c1, (hb.cell hB).trans h.c2, (hb.cell hB).trans h.c3, (hb.cell hB).trans h.c4⟩
theorem RoAt.new (w : World) (r : Rbt) (ad : Option Addr) (n cap : Nat) (t : TypeId) : RoAt (w.alloc (.cells (roK r ad n cap) t)) w.heap.size r ad n cap := by
  refine ⟨by simp, ?_, ?_, ?_, ?_, ?_⟩ <;> (rw [World.cell?_alloc_mark]; rfl)
theorem RoAt.step {w X : World} {g : Nat} {r : Rbt} {ad : Option Addr} {n cap : Nat} (h : RoAt w g r ad n cap) (hb : Below w.heap.size w X) : RoAt X g r ad n cap := h.below hb h.lt
theorem RoAt.of {w : World} {g : Nat} {r : Rbt} {ad : Option Addr} {n cap : Nat} (h : w.heap[g]? = some (boxR r ad n cap)) : RoAt w g r ad n cap := by
  refine ⟨(Array.getElem?_eq_some_iff.1 h).1, ?_, ?_, ?_, ?_, ?_⟩ <;> (rw [cell_of_row w g _ _ _ _ h]; rfl)
theorem ElAt.of {w : World} {g : Nat} {k i : Int} (h : w.heap[g]? = some (boxE k i)) : ElAt w g k i := by
  refine ⟨(Array.getElem?_eq_some_iff.1 h).1, ?_, ?_⟩ <;> (rw [cell_of_row w g _ _ _ _ h]; rfl)
theorem froz_of {w : World} {g : Nat} {cs : Array Value} {t : TypeId} (h : w.heap[g]? = some (.cells cs t (0, 0))) (i : Nat) : w.frozen? ⟨g, i, none⟩ = false := by
  simp [World.frozen?, h]
theorem heap_new (w : World) (o : Obj) : (w.alloc o).heap[w.heap.size]? = some o := heap_alloc_new w o
theorem row_step {w X : World} {g : Nat} {o : Obj} (h : w.heap[g]? = some o) (hb : Below w.heap.size w X) : X.heap[g]? = some o := (hb.block g (Array.getElem?_eq_some_iff.1 h).1).trans h
/-- a block that is new is written -/
theorem below_set {B g : Nat} {W w : World} (h : Below B W w) (hg : B ≤ g) (cs : Array Value) : Below B W (w.setRow g cs) :=
  ⟨h.os, h.tape, h.output, by simpa [World.setRow] using h.size, fun k hk => by rw [setRow_other _ _ _ _ (by omega)]; exact h.block k hk⟩
/-- the boxes of the parameters, one behind another -/
theorem box_m (w : World) (m : Rmd) : Below w.heap.size w (w.alloc (boxM m)) ∧ RmAt (w.alloc (boxM m)) w.heap.size m := ⟨below_box1 _ _, RmAt.new _ _ _⟩
theorem box_r (w : World) (r : Rbt) (ad : Option Addr) (n cap : Nat) : Below w.heap.size w (w.alloc (boxR r ad n cap)) ∧ (w.alloc (boxR r ad n cap)).heap[w.heap.size]? = some (boxR r ad n cap) := ⟨below_box1 _ _, heap_new _ _⟩
theorem box_mr (w : World) (m : Rmd) (r : Rbt) (ad : Option Addr) (n cap : Nat) :
    Below w.heap.size w ((w.alloc (boxM m)).alloc (boxR r ad n cap)) ∧ RmAt ((w.alloc (boxM m)).alloc (boxR r ad n cap)) w.heap.size m ∧ ((w.alloc (boxM m)).alloc (boxR r ad n cap)).heap[w.heap.size + 1]? = some (boxR r ad n cap) := by
  refine ⟨below_box2 _ _ _, (RmAt.new _ _ _).step (below_box1 _ _), ?_⟩
  have h := heap_new (w.alloc (boxM m)) (boxR r ad n cap)
  rwa [World.size_alloc] at h
theorem box_mre (w : World) (m : Rmd) (r : Rbt) (ad : Option Addr) (n cap : Nat) (k i : Int) :
    Below w.heap.size w (((w.alloc (boxM m)).alloc (boxR r ad n cap)).alloc (boxE k i)) ∧ RmAt (((w.alloc (boxM m)).alloc (boxR r ad n cap)).alloc (boxE k i)) w.heap.size m ∧ (((w.alloc (boxM m)).alloc (boxR r ad n cap)).alloc (boxE k i)).heap[w.heap.size + 1]? = some (boxR r ad n cap) ∧
      (((w.alloc (boxM m)).alloc (boxR r ad n cap)).alloc (boxE k i)).heap[w.heap.size + 2]? = some (boxE k i) ∧ (((w.alloc (boxM m)).alloc (boxR r ad n cap)).alloc (boxE k i)).heap.size = w.heap.size + 3 := by
  obtain ⟨h1, h2, h3⟩ := box_mr w m r ad n cap
  refine ⟨below_box3 _ _ _ _, h2.step (below_box1 _ _), row_step h3 (below_box1 _ _), ?_, by simp⟩
  have h := heap_new ((w.alloc (boxM m)).alloc (boxR r ad n cap)) (boxE k i)
  simpa using h
/-- the same for a list that is read -/
theorem hid_below {w X : World} {P : World → Prop} (h : ∀ Y, Below w.heap.size w Y → P Y) (hb : Below w.heap.size w X) : P X := h X hb
structure I64 (a : Int) : Prop where
  lo : -9223372036854775808 ≤ a
  hi : a ≤ 9223372036854775807
theorem i64_of {a : Int} (w : (Lit.int .i64 a).wf = true) : I64 a := by
  have : -9223372036854775808 ≤ a ∧ a ≤ 9223372036854775807 := by simpa [Lit.wf, IntKind.min, IntKind.max, IntKind.signed, IntKind.bits] using w
  exact ⟨this.1, this.2⟩
structure RmI (m : Rmd) : Prop where
  s : I64 m.s
  d : I64 m.d
  da : I64 m.da
  pa : I64 m.pa
  mv : I64 m.mv
  pk : I64 m.pk
  pt : I64 m.pt
end Go.Proofs.Ytmhaeipklifhcaa
