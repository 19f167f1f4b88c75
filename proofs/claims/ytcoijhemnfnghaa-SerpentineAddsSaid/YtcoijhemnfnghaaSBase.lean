/-
  The distance of two numbers; whether a motion is opposite; its time; and the specification's size and time.
-/
import Derived.Test.YtcoijhemnfnghaaKSerp
import Derived.Test.YtcoijhemnfnghaaRows
import Derived.WalkKit
import Derived.Lib.Hide
import Derived.WalkSpells
import Derived.WalkLawsBesides
import Derived.Below
import Derived.Deep.Draws
import Derived.BigQuiet
import Derived.Test.YtcoijhemnfnghaaSCell
namespace Go.Proofs.Ytcoijhemnfnghaa
open Go.RowKit
set_option linter.unusedVariables false
theorem ret_i64 {a b : Int} (h : a = b) : Ending.returned (.int .i64 a) = .returned (.int .i64 b) := by rw [h]
theorem ret_bool {a b : Bool} (h : a = b) : Ending.returned (.bool a) = .returned (.bool b) := by rw [h]
theorem below_box1 (w : World) (o : Obj) : Below w.heap.size w (w.alloc o) := (Below.refl _ _).alloc (Nat.le_refl _) _
theorem below_box2 (w : World) (o p : Obj) : Below w.heap.size w ((w.alloc o).alloc p) := (below_box1 w o).alloc (by simp) _
theorem below_box3 (w : World) (o p q : Obj) : Below w.heap.size w (((w.alloc o).alloc p).alloc q) := (below_box2 w o p).alloc (by simp; omega) _
set_option maxRecDepth 100000 in
set_option maxHeartbeats 400000 in
theorem distance_any (a b : Int) (w : World) (a0 : -1000000000 ≤ a) (a1 : a ≤ 1000000000) (b0 : -1000000000 ≤ b) (b1 : b ≤ 1000000000) :
    Calls Try.prog 32 #[.int .i64 a, .int .i64 b] w fun e w' => e = .returned (.int .i64 (dis a b)) ∧ w' = w := by
  go_enter Try.func32, Try.ntmps32
  go_wp2
  all_goals go_ret
  · exact ⟨ret_i64 (by unfold dis; omega), rfl⟩
  · exact ⟨ret_i64 (by unfold dis; omega), rfl⟩
set_option maxRecDepth 100000 in
set_option maxHeartbeats 400000 in
theorem rsize_any (a : Int) (w : World) (a0 : -1000000000 ≤ a) (a1 : a ≤ 1000000000) :
    Calls Try.prog 31 #[.int .i64 a] w fun e w' => e = .returned (.int .i64 (dis a 0)) ∧ w' = w := by
  go_enter Try.func31, Try.ntmps31
  go_wp2
  all_goals go_ret
  · exact ⟨ret_i64 (by unfold dis; omega), rfl⟩
  · exact ⟨ret_i64 (by unfold dis; omega), rfl⟩
/-- the time of a geometry is valid -/
def tim (a : Int) : Bool := decide (0 ≤ a) && decide (a ≤ 1000000)
set_option maxRecDepth 100000 in
set_option maxHeartbeats 400000 in
theorem rtime_any (a : Int) (w : World) :
    Calls Try.prog 29 #[.int .i64 a] w fun e w' => e = .returned (.bool (tim a)) ∧ w' = w := by
  go_enter Try.func29, Try.ntmps29
  go_wp2
  all_goals go_ret
  · rename_i h
    exact ⟨ret_bool (by unfold tim; rw [decide_eq_true h]; rfl), rfl⟩
  · rename_i h
    exact ⟨ret_bool (by unfold tim; rw [decide_eq_false (by omega)]; rfl), rfl⟩
abbrev plV (w p : Int) (k : Bool) : Value := .agg #[.int .i64 w, .int .i64 p, .bool k]
abbrev geV (W L S T J R : Int) : Value := .agg #[.int .i64 W, .int .i64 L, .int .i64 S, .int .i64 T, .int .i64 J, .int .i64 R]
set_option maxRecDepth 100000 in
set_option maxHeartbeats 400000 in
theorem opposite_any (wa pa : Int) (ka : Bool) (wb pb : Int) (kb : Bool) (w : World) :
    Calls Try.prog 34 #[plV wa pa ka, plV wb pb kb] w fun e w' => e = .returned (.bool (opp pa ka pb kb)) ∧ Below w.heap.size w w' := by
  go_enter Try.func34, Try.ntmps34
  go_wp2
  all_goals go_ret
  · rename_i h
    exact ⟨ret_bool (by unfold opp; rw [if_pos (by simpa using h)]; rfl), below_box2 _ _ _⟩
  · rename_i h
    exact ⟨ret_bool (by unfold opp; rw [if_neg (by simpa using h)]), below_box2 _ _ _⟩
/-- the geometry lies in block g; a place does; a span does -/
structure GeoAt (w : World) (g : Nat) (W L S T J R : Int) : Prop where
  lt : g < w.heap.size
  c0 : w.cell? ⟨g, 0, none⟩ = some (.int .i64 W)
  c1 : w.cell? ⟨g, 1, none⟩ = some (.int .i64 L)
  c2 : w.cell? ⟨g, 2, none⟩ = some (.int .i64 S)
  c3 : w.cell? ⟨g, 3, none⟩ = some (.int .i64 T)
  c4 : w.cell? ⟨g, 4, none⟩ = some (.int .i64 J)
  c5 : w.cell? ⟨g, 5, none⟩ = some (.int .i64 R)
structure PlAt (w : World) (g : Nat) (a b : Int) (k : Bool) : Prop where
  lt : g < w.heap.size
  c0 : w.cell? ⟨g, 0, none⟩ = some (.int .i64 a)
  c1 : w.cell? ⟨g, 1, none⟩ = some (.int .i64 b)
  c2 : w.cell? ⟨g, 2, none⟩ = some (.bool k)
structure SpAt (w : World) (g : Nat) (a b : Int) : Prop where
  lt : g < w.heap.size
  c0 : w.cell? ⟨g, 0, none⟩ = some (.int .i64 a)
  c1 : w.cell? ⟨g, 1, none⟩ = some (.int .i64 b)
theorem GeoAt.below {W' w : World} {B g : Nat} {W L S T J R : Int} (h : GeoAt W' g W L S T J R) (hb : Below B W' w) (hB : g < B) : GeoAt w g W L S T J R :=
  ⟨Nat.lt_of_lt_of_le h.lt hb.size, (hb.cell hB).trans h.c0, (hb.cell hB).trans h.c1, (hb.cell hB).trans h.c2, (hb.cell hB).trans h.c3, (hb.cell hB).trans h.c4, (hb.cell hB).trans h.c5⟩
theorem PlAt.below {W' w : World} {B g : Nat} {a b : Int} {k : Bool} (h : PlAt W' g a b k) (hb : Below B W' w) (hB : g < B) : PlAt w g a b k :=
  ⟨Nat.lt_of_lt_of_le h.lt hb.size, (hb.cell hB).trans h.c0, (hb.cell hB).trans h.c1, (hb.cell hB).trans h.c2⟩
theorem SpAt.below {W' w : World} {B g : Nat} {a b : Int} (h : SpAt W' g a b) (hb : Below B W' w) (hB : g < B) : SpAt w g a b :=
  ⟨Nat.lt_of_lt_of_le h.lt hb.size, (hb.cell hB).trans h.c0, (hb.cell hB).trans h.c1⟩
theorem GeoAt.new (w : World) (W L S T J R : Int) (t : TypeId) : GeoAt (w.alloc (.cells #[.int .i64 W, .int .i64 L, .int .i64 S, .int .i64 T, .int .i64 J, .int .i64 R] t)) w.heap.size W L S T J R := by
  refine ⟨by simp, ?_, ?_, ?_, ?_, ?_, ?_⟩ <;> (rw [World.cell?_alloc_mark]; rfl)
theorem PlAt.new (w : World) (a b : Int) (k : Bool) (t : TypeId) : PlAt (w.alloc (.cells #[.int .i64 a, .int .i64 b, .bool k] t)) w.heap.size a b k := by
  refine ⟨by simp, ?_, ?_, ?_⟩ <;> (rw [World.cell?_alloc_mark]; rfl)
theorem SpAt.new (w : World) (a b : Int) (t : TypeId) : SpAt (w.alloc (.cells #[.int .i64 a, .int .i64 b] t)) w.heap.size a b := by
  refine ⟨by simp, ?_, ?_⟩ <;> (rw [World.cell?_alloc_mark]; rfl)
theorem GeoAt.alloc {w : World} {g : Nat} {W L S T J R : Int} (h : GeoAt w g W L S T J R) (o : Obj) : GeoAt (w.alloc o) g W L S T J R := h.below (below_box1 w o) h.lt
theorem PlAt.alloc {w : World} {g : Nat} {a b : Int} {k : Bool} (h : PlAt w g a b k) (o : Obj) : PlAt (w.alloc o) g a b k := h.below (below_box1 w o) h.lt
theorem SpAt.alloc {w : World} {g : Nat} {a b : Int} (h : SpAt w g a b) (o : Obj) : SpAt (w.alloc o) g a b := h.below (below_box1 w o) h.lt
theorem dis_pos (a b : Int) (w : World) (h : -1000000000 ≤ a ∧ a ≤ 1000000000 ∧ -1000000000 ≤ b ∧ b ≤ 1000000000) :
    Calls Try.prog 32 #[.int .i64 a, .int .i64 b] w fun e w' => e = .returned (.int .i64 (dis a b)) ∧ w' = w := distance_any a b w h.1 h.2.1 h.2.2.1 h.2.2.2
attribute [local irreducible] dis opp
set_option maxRecDepth 100000 in
set_option maxHeartbeats 400000 in
theorem motion_any (W L S T J R wa pa : Int) (ka : Bool) (wb pb : Int) (kb : Bool) (w : World) (s0 : 0 ≤ S) (s1 : S ≤ 1000000) (t0 : 0 ≤ T) (t1 : T ≤ 1000000) (j0 : 0 ≤ J) (j1 : J ≤ 1000000)
    (wa0 : 0 ≤ wa) (wa1 : wa ≤ 32) (wb0 : 0 ≤ wb) (wb1 : wb ≤ 32) (pa0 : -1 ≤ pa) (pa1 : pa ≤ 4096) (pb0 : -1 ≤ pb) (pb1 : pb ≤ 4096) :
    Calls Try.prog 30 #[geV W L S T J R, plV wa pa ka, plV wb pb kb] w fun e w' => e = .returned (.int .i64 (mov S T J wa pa ka wb pb kb)) ∧ Below w.heap.size w w' := by
  have hd : dis pa pb ≤ 4097 ∧ dis wa wb ≤ 32 := by unfold dis; omega
  obtain ⟨e1, e2⟩ := mul_bd (m := 4097) s0 s1 (dis_nonneg pa pb) hd.1
  obtain ⟨e3, e4⟩ := mul_bd (m := 32) j0 j1 (dis_nonneg wa wb) hd.2
  go_enter Try.func30, Try.ntmps30
  go_wp2_with fail
  have HB0 := Lib.hid (below_box3 w (.cells #[.int .i64 W, .int .i64 L, .int .i64 S, .int .i64 T, .int .i64 J, .int .i64 R] 23) (.cells #[.int .i64 wa, .int .i64 pa, .bool ka] 25) (.cells #[.int .i64 wb, .int .i64 pb, .bool kb] 25))
  have HG := Lib.hid (((GeoAt.new w W L S T J R 23).alloc (.cells #[.int .i64 wa, .int .i64 pa, .bool ka] 25)).alloc (.cells #[.int .i64 wb, .int .i64 pb, .bool kb] 25))
  have HP := Lib.hid ((PlAt.new (w.alloc (.cells #[.int .i64 W, .int .i64 L, .int .i64 S, .int .i64 T, .int .i64 J, .int .i64 R] 23)) wa pa ka 25).alloc (.cells #[.int .i64 wb, .int .i64 pb, .bool kb] 25))
  have HQ := Lib.hid (PlAt.new ((w.alloc (.cells #[.int .i64 W, .int .i64 L, .int .i64 S, .int .i64 T, .int .i64 J, .int .i64 R] 23)).alloc (.cells #[.int .i64 wa, .int .i64 pa, .bool ka] 25)) wb pb kb 25)
  simp only [World.size_alloc, Nat.add_assoc, Nat.reduceAdd] at HP HQ
  generalize World.alloc _ _ = wr at HB0 HG HP HQ ⊢
  obtain ⟨_, g0, g1, g2, g3, g4, g5⟩ := HG.out
  obtain ⟨_, p0, p1, p2⟩ := HP.out
  obtain ⟨_, q0, q1, q2⟩ := HQ.out
  go_quiet ((go_at_call 32; exact Calls.quiet_of_same (dis_pos _ _ _ (by omega))))
  go_wp2_with fail
  refine (opposite_any wa pa ka wb pb kb _).mono ?_
  rintro e w1 ⟨rfl, hb1⟩
  have HB1 := Lib.hid (HB0.out.trans ((below_drewN (.refl _ _) _).trans (hb1.mono HB0.out.size)))
  have f3 : w1.cell? ⟨w.heap.size, 3, none⟩ = some (.int .i64 T) := by rw [hb1.cell (by simp; omega)]; exact g3
  clear hb1
  cases ho : opp pa ka pb kb
  · go_wp2
    go_ret
    exact ⟨ret_i64 (by unfold mov; rw [ho]; simp), HB1.out⟩
  · go_wp2
    go_ret
    exact ⟨ret_i64 (by unfold mov; rw [ho]; simp), HB1.out⟩
set_option maxRecDepth 100000 in
set_option maxHeartbeats 400000 in
theorem placeOf_any (W L S T J R b : Int) (w : World) (w0 : 1 ≤ W) (w1 : W ≤ 32) (l0 : 1 ≤ L) (l1 : L ≤ 4096) (c1 : W * L ≤ 4096) (b0 : 0 ≤ b) (b1 : b ≤ W * L) :
    Calls Try.prog 28 #[geV W L S T J R, .int .i64 b] w fun e w' => e = .returned (plV (wr W L b) (po W L b) (bk W L b)) ∧ Below w.heap.size w w' := by
  have hL : L ≠ 0 := by omega
  obtain ⟨r0, r1, r2, r3, _⟩ := wr_bd w0 l0 b0 b1
  have m0 : 0 ≤ wr W L b * L := Int.mul_nonneg r0 (by omega)
  go_enter Try.func28, Try.ntmps28
  go_wp2_with fail
  have HB0 := Lib.hid (below_box2 w (.cells #[.int .i64 W, .int .i64 L, .int .i64 S, .int .i64 T, .int .i64 J, .int .i64 R] 23) (.cells #[.int .i64 0, .int .i64 0, .bool false] 25))
  have HG := Lib.hid ((GeoAt.new w W L S T J R 23).alloc (.cells #[.int .i64 0, .int .i64 0, .bool false] 25))
  have hn : ((w.alloc (.cells #[.int .i64 W, .int .i64 L, .int .i64 S, .int .i64 T, .int .i64 J, .int .i64 R] 23)).alloc (.cells #[.int .i64 0, .int .i64 0, .bool false] 25)).heap[w.heap.size + 1]? = some (.cells #[.int .i64 0, .int .i64 0, .bool false] 25 (0, 0)) := by
    have := heap_alloc_new (w.alloc (.cells #[.int .i64 W, .int .i64 L, .int .i64 S, .int .i64 T, .int .i64 J, .int .i64 R] 23)) (.cells #[.int .i64 0, .int .i64 0, .bool false] 25)
    rwa [World.size_alloc] at this
  have HN := Lib.hid hn
  clear hn
  generalize World.alloc _ _ = X0 at HB0 HG HN ⊢
  obtain ⟨_, g0, g1, _, _, _, _⟩ := HG.out
  go_quiet (fail)
  rw [show (if W - 1 < b / L then W - 1 else b / L) = wr W L b by unfold wr; omega]
  generalize hX1 : World.drewN X0 _ = X1
  have HB1 := Lib.hid (show Below w.heap.size w X1 by rw [← hX1]; exact below_drewN HB0.out _)
  have HN1 := Lib.hid (show X1.heap[w.heap.size + 1]? = some (.cells #[.int .i64 0, .int .i64 0, .bool false] 25 (0, 0)) by rw [← hX1]; exact HN.out)
  have h1 : X1.cell? ⟨w.heap.size, 1, none⟩ = some (.int .i64 L) := by rw [← hX1]; exact g1
  clear hX1 HB0 HN
  by_cases ho : wr W L b % 2 = 1
  · have hp : L - 1 - (b - wr W L b * L) = po W L b := by unfold po; rw [if_pos ho]
    have HK := Lib.hid (show bk W L b = true by unfold bk; rw [decide_eq_true ho])
    go_wp2_with (with_reducible refine wpList_store_pl rfl (.tmp 4) (.tmp 30) rfl (w.heap.size + 1) rfl _ _ _ rfl _ _ _ HN1.out ?_)
    refine post_cell1 (cs := #[.int .i64 (wr W L b), .int .i64 (po W L b), .bool true]) rfl rfl (setRow_heap _ _ _ _ _ _ HN1.out) Try.underlying25 rfl infoPl rfl ⟨by rw [HK.out], below_set HB1.out (by omega) _⟩
  · have hp : b - wr W L b * L = po W L b := by unfold po; rw [if_neg ho]
    have HK := Lib.hid (show bk W L b = false by unfold bk; rw [decide_eq_false ho])
    go_wp2_with (with_reducible refine wpList_store_pl rfl (.tmp 4) (.tmp 33) rfl (w.heap.size + 1) rfl _ _ _ rfl _ _ _ HN1.out ?_)
    refine post_cell1 (cs := #[.int .i64 (wr W L b), .int .i64 (po W L b), .bool false]) rfl rfl (setRow_heap _ _ _ _ _ _ HN1.out) Try.underlying25 rfl infoPl rfl ⟨by rw [HK.out], below_set HB1.out (by omega) _⟩
end Go.Proofs.Ytcoijhemnfnghaa
