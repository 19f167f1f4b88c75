/-
  Geometries and spans in memory; which geometries are valid, and how many blocks they have.
-/
import Derived.Test.YtlbnjojafaieoaaKSerp
import Derived.Test.YtlbnjojafaieoaaRows
import Derived.WalkKit
import Derived.Lib.Hide
import Derived.WalkSpells
import Derived.WalkLawsBesides
import Derived.Below
import Derived.Deep.Draws
import Derived.BigQuiet
namespace Go.Proofs.Ytlbnjojafaieoaa
open Go.RowKit
set_option linter.unusedVariables false
theorem ret_i64s {a b : Int} (h : a = b) : Ending.returned (.int .i64 a) = .returned (.int .i64 b) := by rw [h]
theorem ret_bools {a b : Bool} (h : a = b) : Ending.returned (.bool a) = .returned (.bool b) := by rw [h]
theorem below_box1 (w : World) (o : Obj) : Below w.heap.size w (w.alloc o) := (Below.refl _ _).alloc (Nat.le_refl _) _
theorem below_box2 (w : World) (o p : Obj) : Below w.heap.size w ((w.alloc o).alloc p) := (below_box1 w o).alloc (by simp) _
theorem below_box3 (w : World) (o p q : Obj) : Below w.heap.size w (((w.alloc o).alloc p).alloc q) := (below_box2 w o p).alloc (by simp; omega) _
/-- the time of a geometry is valid -/
def tim (a : Int) : Bool := decide (0 ≤ a) && decide (a ≤ 1000000)
abbrev geV (W L S T J R : Int) : Value := .agg #[.int .i64 W, .int .i64 L, .int .i64 S, .int .i64 T, .int .i64 J, .int .i64 R]
/-- the geometry lies in block g -/
structure GeoAt (w : World) (g : Nat) (W L S T J R : Int) : Prop where
  lt : g < w.heap.size
  c0 : w.cell? ⟨g, 0, none⟩ = some (.int .i64 W)
  c1 : w.cell? ⟨g, 1, none⟩ = some (.int .i64 L)
  c2 : w.cell? ⟨g, 2, none⟩ = some (.int .i64 S)
  c3 : w.cell? ⟨g, 3, none⟩ = some (.int .i64 T)
  c4 : w.cell? ⟨g, 4, none⟩ = some (.int .i64 J)
  c5 : w.cell? ⟨g, 5, none⟩ = some (.int .i64 R)
theorem GeoAt.below {W' w : World} {B g : Nat} {W L S T J R : Int} (h : GeoAt W' g W L S T J R) (hb : Below B W' w) (hB : g < B) : GeoAt w g W L S T J R :=
  ⟨Nat.lt_of_lt_of_le h.lt hb.size, (hb.cell hB).trans h.c0, (hb.cell hB).trans h.c1, (hb.cell hB).trans h.c2, (hb.cell hB).trans h.c3, (hb.cell hB).trans h.c4, (hb.cell hB).trans h.c5⟩
theorem GeoAt.new (w : World) (W L S T J R : Int) (t : TypeId) : GeoAt (w.alloc (.cells #[.int .i64 W, .int .i64 L, .int .i64 S, .int .i64 T, .int .i64 J, .int .i64 R] t)) w.heap.size W L S T J R := by
  refine ⟨by simp, ?_, ?_, ?_, ?_, ?_, ?_⟩ <;> (rw [World.cell?_alloc_mark]; rfl)
theorem GeoAt.alloc {w : World} {g : Nat} {W L S T J R : Int} (h : GeoAt w g W L S T J R) (o : Obj) : GeoAt (w.alloc o) g W L S T J R := h.below (below_box1 w o) h.lt
/-- a span lies in block g -/
structure SpAt (w : World) (g : Nat) (a b : Int) : Prop where
  lt : g < w.heap.size
  c0 : w.cell? ⟨g, 0, none⟩ = some (.int .i64 a)
  c1 : w.cell? ⟨g, 1, none⟩ = some (.int .i64 b)
theorem SpAt.below {W' w : World} {B g : Nat} {a b : Int} (h : SpAt W' g a b) (hb : Below B W' w) (hB : g < B) : SpAt w g a b :=
  ⟨Nat.lt_of_lt_of_le h.lt hb.size, (hb.cell hB).trans h.c0, (hb.cell hB).trans h.c1⟩
theorem SpAt.new (w : World) (a b : Int) (t : TypeId) : SpAt (w.alloc (.cells #[.int .i64 a, .int .i64 b] t)) w.heap.size a b := by
  refine ⟨by simp, ?_, ?_⟩ <;> (rw [World.cell?_alloc_mark]; rfl)
theorem SpAt.alloc {w : World} {g : Nat} {a b : Int} (h : SpAt w g a b) (o : Obj) : SpAt (w.alloc o) g a b := h.below (below_box1 w o) h.lt
theorem tim_yes {a : Int} (h : 0 ≤ a ∧ a ≤ 1000000) : tim a = true := by unfold tim; rw [decide_eq_true h.1, decide_eq_true h.2]; rfl
theorem tim_no {a : Int} (h : ¬ (0 ≤ a ∧ a ≤ 1000000)) : tim a = false := by
  unfold tim
  by_cases h0 : 0 ≤ a
  · rw [decide_eq_false (show ¬ a ≤ 1000000 by omega), Bool.and_false]
  · rw [decide_eq_false h0, Bool.false_and]
theorem tim_iff {a : Int} : tim a = true ↔ 0 ≤ a ∧ a ≤ 1000000 := by
  by_cases h : 0 ≤ a ∧ a ≤ 1000000
  · rw [tim_yes h]; simp [h]
  · rw [tim_no h]; simp [h]
theorem vld_eq {W L S T J R : Int} (hW : 1 ≤ W) (hW2 : W ≤ 32) (hL : 1 ≤ L) (hc : W * L ≤ 4096) : vld W L S T J R = (tim S && (tim T && (tim J && tim R))) := by
  have h1 := cap_pos hW hL
  by_cases h : vld W L S T J R = true
  · have v := vld_iff.1 h
    rw [h, tim_yes ⟨v.s0, v.s1⟩, tim_yes ⟨v.t0, v.t1⟩, tim_yes ⟨v.j0, v.j1⟩, tim_yes ⟨v.r0, v.r1⟩]; rfl
  · rw [Bool.not_eq_true] at h
    rw [h]
    refine (Bool.eq_false_iff.2 fun h2 => ?_).symm
    simp only [Bool.and_eq_true, tim_iff] at h2
    obtain ⟨⟨s0, s1⟩, ⟨t0, t1⟩, ⟨j0, j1⟩, r0, r1⟩ := h2
    exact (vld_not.1 h) ⟨hW, hW2, hL, by omega, hc, s0, s1, t0, t1, j0, j1, r0, r1⟩
theorem vld_no {W L S T J R : Int} (h : ¬ (1 ≤ W ∧ W ≤ 32 ∧ 1 ≤ L ∧ W * L ≤ 4096)) : vld W L S T J R = false := vld_not.2 fun v => h ⟨v.w0, v.w1, v.l0, v.c1⟩
/-- the capacity; 0 if the geometry is not valid -/
noncomputable def capU (W L S T J R : Int) : Int := if vld W L S T J R = true then W * L else 0
theorem capU_yes {W L S T J R : Int} (v : Vld W L S T J R) : capU W L S T J R = W * L := if_pos (vld_iff.2 v)
theorem capU_no {W L S T J R : Int} (v : ¬ Vld W L S T J R) : capU W L S T J R = 0 := if_neg (fun h => v (vld_iff.1 h))
end Go.Proofs.Ytlbnjojafaieoaa
