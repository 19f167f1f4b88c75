/-
  The law package's awake.
-/
import Derived.Test.YtpjegenobadckaaPkEx
namespace Go.Proofs.Ytpjegenobadckaa
open Go.RowKit
set_option linter.unusedVariables false
set_option linter.unusedSimpArgs false
theorem Lr.one {w : World} {b : Nat} {ad : Option Addr} {cap : Nat} {x : List UInt8} (hl : Lie w ad x) (h1 : x.length ≤ cap) (h2 : cap ≤ maxLen) (h3 : ad = none → cap = 0) (hb : w.heap[b]? = some (.cells #[.slice ad x.length cap] 47 (0, 0))) : Lr w (some ⟨b, 0, none⟩) [x] := by
  refine ⟨.inr ⟨b, 0, rfl, (Array.getElem?_eq_some_iff.1 hb).1, fun i hi => ?_⟩⟩
  obtain rfl : i = 0 := by simpa using hi
  refine ⟨ad, cap, ?_, hl, h1, h2, h3⟩
  rw [cell_of_row w b _ _ _ _ hb]
  rfl
theorem alloc5 (w : World) (a b c d e : Obj) : Below w.heap.size w (((((w.alloc a).alloc b).alloc c).alloc d).alloc e) ∧ (((((w.alloc a).alloc b).alloc c).alloc d).alloc e).heap[w.heap.size]? = some a ∧ (((((w.alloc a).alloc b).alloc c).alloc d).alloc e).heap[w.heap.size + 1]? = some b ∧ (((((w.alloc a).alloc b).alloc c).alloc d).alloc e).heap[w.heap.size + 1 + 1]? = some c ∧
    (((((w.alloc a).alloc b).alloc c).alloc d).alloc e).heap[w.heap.size + 1 + 1 + 1]? = some d ∧ (((((w.alloc a).alloc b).alloc c).alloc d).alloc e).heap[w.heap.size + 1 + 1 + 1 + 1]? = some e := by
  refine ⟨((((co_box1 w a).alloc (by simp) b).alloc (by simp; try omega) c).alloc (by simp; try omega) d).alloc (by simp; try omega) e, ?_, ?_, ?_, ?_, ?_⟩
  · rw [Below.heap_alloc _ _ _ (by simp <;> omega), Below.heap_alloc _ _ _ (by simp <;> omega), Below.heap_alloc _ _ _ (by simp <;> omega), Below.heap_alloc _ _ _ (by simp)]
    exact heap_alloc_new _ _
  · rw [Below.heap_alloc _ _ _ (by simp <;> omega), Below.heap_alloc _ _ _ (by simp <;> omega), Below.heap_alloc _ _ _ (by simp)]
    have := heap_alloc_new (w.alloc a) b
    rwa [World.size_alloc] at this
  · rw [Below.heap_alloc _ _ _ (by simp <;> omega), Below.heap_alloc _ _ _ (by simp)]
    have := heap_alloc_new ((w.alloc a).alloc b) c
    rwa [World.size_alloc, World.size_alloc] at this
  · rw [Below.heap_alloc _ _ _ (by simp)]
    have := heap_alloc_new (((w.alloc a).alloc b).alloc c) d
    rwa [World.size_alloc, World.size_alloc, World.size_alloc] at this
  · have := heap_alloc_new ((((w.alloc a).alloc b).alloc c).alloc d) e
    rwa [World.size_alloc, World.size_alloc, World.size_alloc, World.size_alloc] at this
theorem Lf.cell3 {w : World} {x : Pc} {T : TypeId} {a : Nat} (h : w.heap[a]? = some (.cells #[.int .i64 x.f, .int .i64 x.o, .int .i64 x.n] T (0, 0))) : Lf pcC w (some ⟨a, 0, none⟩) [x] := by
  refine .inr ⟨a, 0, rfl, (Array.getElem?_eq_some_iff.1 h).1, fun j y hy => ?_⟩
  rw [Nat.zero_add, cell_of_row w a j _ _ _ h]
  simp only [List.flatMap_cons, List.flatMap_nil, List.append_nil, pcC] at hy
  simpa using hy
theorem Lie.lits {w : World} {l : List UInt8} {a : Nat} {cs : Array Value} (h : w.heap[a]? = some (.cells cs 5 (0, 0))) (hc : cs.toList = cellsU l) : Lie w (some ⟨a, 0, none⟩) l := by
  refine ⟨.inr ⟨a, 0, rfl, (Array.getElem?_eq_some_iff.1 h).1, fun j hj => ?_⟩⟩
  rw [Nat.zero_add, cell_of_row w a j _ _ _ h]
  have := cellsU_get l j hj
  rw [← hc] at this
  simpa using this
set_option maxRecDepth 100000 in
set_option maxHeartbeats 8000000 in
theorem awake16_any (w : World) :
    Calls Try.prog 10 #[] w fun e w' => e = .returned (.bool true) ∧ Below w.heap.size w w' := by
  have HL1 : Hid (Lf inC (w.alloc (.cells #[.int .i64 100, .int .i64 30, .int .i64 20] 3)) (some ⟨w.heap.size, 0, none⟩) [100, 30, 20]) := Lib.hid (Lf.lits w _ _ rfl _ rfl)
  have HB1 := Lib.hid (co_box1 w (.cells #[.int .i64 100, .int .i64 30, .int .i64 20] 3))
  go_enter Try.func10, Try.ntmps10
  go_wp2_with fail
  generalize World.alloc w _ = X1 at *
  refine (fill_any (some ⟨w.heap.size, 0, none⟩) 3 3 [100, 30, 20] 64 X1 HL1.out rfl (by omega)).mono ?_
  rw [ex_fill]
  rintro e X2 ⟨v1, rfl, hv1, hb2⟩
  have HB2 := Lib.hid (HB1.out.trans (hb2.mono HB1.out.size))
  have HV1 := Lib.hid hv1
  clear hv1 hb2 HL1 HB1
  have HL3 : Hid (Lf inC (X2.alloc (.cells #[.int .i64 20, .int .i64 40, .int .i64 44, .int .i64 24] 3)) (some ⟨X2.heap.size, 0, none⟩) [20, 40, 44, 24]) := Lib.hid (Lf.lits X2 _ _ rfl _ rfl)
  have HV3 := Lib.hid (HV1.out.below (co_box1 X2 (.cells #[.int .i64 20, .int .i64 40, .int .i64 44, .int .i64 24] 3)))
  have HB3 := Lib.hid (HB2.out.alloc HB2.out.size (.cells #[.int .i64 20, .int .i64 40, .int .i64 44, .int .i64 24] 3))
  clear HV1 HB2
  dsimp only
  go_wp2_with fail
  generalize World.alloc X2 _ = X3 at *
  refine (decreasing_any (some ⟨X2.heap.size, 0, none⟩) 4 4 [20, 40, 44, 24] 64 X3 HL3.out rfl (by omega)).mono ?_
  rw [ex_fit]
  rintro e X4 ⟨v2, rfl, hv2, hb4⟩
  have HB4 := Lib.hid (HB3.out.trans (hb4.mono HB3.out.size))
  have HV4 := Lib.hid (HV3.out.below hb4)
  have HW4 := Lib.hid hv2
  clear hv2 hb4 HL3 HB3 HV3
  dsimp only
  go_wp2_with fail
  have HA := Lib.hid (alloc5 X4 (.cells #[.int .i64 0, .int .i64 1, .int .i64 2] 36) (.cells #[.int .i64 7] 3) (.cells #[.int .i64 3] 3) (.cells #[.int .u8 5, .int .u8 6, .int .u8 7] 5) (.cells #[.slice (some ⟨X4.heap.size + 1 + 1 + 1, 0, none⟩) 3 3] 47))
  obtain ⟨k, hk⟩ : ∃ k, k = X4.heap.size := ⟨_, rfl⟩
  generalize World.alloc (World.alloc (World.alloc (World.alloc (World.alloc X4 _) _) _) _) _ = X5 at *
  obtain ⟨hb5, a0, a1, a2, a3, a4⟩ := HA.out
  have HV5 := Lib.hid (HV4.out.below hb5)
  have HW5 := Lib.hid (HW4.out.below hb5)
  have HB5 := Lib.hid (HB4.out.trans (hb5.mono HB4.out.size))
  have HE := Lib.hid (entries_any (some ⟨X4.heap.size, 0, none⟩) 1 1 [⟨0, 1, 2⟩] (some ⟨X4.heap.size + 1, 0, none⟩) 1 1 [7] (some ⟨X4.heap.size + 1 + 1, 0, none⟩) 1 1 [3] (some ⟨X4.heap.size + 1 + 1 + 1 + 1, 0, none⟩) 1 1 [[5, 6, 7]] X5
    (Lf.cell3 (x := ⟨0, 1, 2⟩) a0) rfl (Lf.cell (cc := inC) (x := 7) a1 rfl) rfl (Lf.cell (cc := inC) (x := 3) a2 rfl) rfl (Lr.one (x := [5, 6, 7]) (Lie.lits a3 rfl) (by decide) (by unfold maxLen; decide) (fun h => by cases h) a4) rfl (by omega) (by omega) (by omega) (by omega) (fun d hd => by rw [List.mem_singleton.1 hd]; decide))
  clear hb5 a0 a1 a2 a3 a4 HA HV4 HW4 HB4 hk
  refine HE.out.mono ?_
  rw [ex_ent]
  rintro e X6 ⟨v3, v4, rfl, hv3, hv4, hb6⟩
  have HV6 := Lib.hid (HV5.out.below hb6)
  have HW6 := Lib.hid (HW5.out.below hb6)
  have HB6 := Lib.hid (HB5.out.trans (hb6.mono HB5.out.size))
  have HX6 := Lib.hid hv3
  have HY6 := Lib.hid hv4
  clear hv3 hv4 hb6 HV5 HW5 HB5 HE
  dsimp only at HX6 HY6 ⊢
  obtain ⟨g1, c1, ad1, n1, rfl, -, -, -, q1, o1⟩ := HV6.out.get 1 (by decide)
  obtain ⟨a', b', e1, l1, -⟩ := o1.read
  cases e1
  obtain ⟨b1, f1, rfl, -, r1⟩ := l1.get celP (i := 1) (by decide)
  have r10 := r1 0 _ (by decide) rfl
  have r11 := r1 1 _ (by decide) rfl
  have r12 := r1 2 _ (by decide) rfl
  clear r1 o1 l1
  obtain ⟨g2, c2, ad2, n2, rfl, -, -, -, q2, o2⟩ := HW6.out.get 0 (by decide)
  obtain ⟨a', b', e1, l2, -⟩ := o2.read
  cases e1
  obtain ⟨b2, f2, rfl, -, r2⟩ := l2.get celN (i := 0) (by decide)
  have r20 := r2 0 _ (by decide) rfl
  clear r2 o2 l2
  obtain ⟨a3, n3, rfl, l3, -⟩ := HX6.out.read
  obtain ⟨a4, n4, rfl, l4, -⟩ := HY6.out.read
  simp only [List.length_cons, List.length_nil, List.getElem_cons_zero, List.getElem_cons_succ, Nat.zero_add, Nat.reduceAdd, Nat.reduceMul, Nat.mul_zero, Nat.add_zero, Nat.zero_mul, Nat.one_mul] at q1 r10 r11 r12 q2 r20 ⊢
  have r20' : X6.cell? ⟨b2, f2, none⟩ = some (.int .i64 2) := r20
  clear r20
  have HX6' := Lib.hid l3
  have HY6' := Lib.hid l4
  clear l3 l4
  have HL7 : Hid (Lf inC (X6.alloc (.cells #[.int .i64 40, .int .i64 50, .int .i64 20] 3)) (some ⟨X6.heap.size, 0, none⟩) [40, 50, 20]) := Lib.hid (Lf.lits X6 _ _ rfl _ rfl)
  have HX7 := Lib.hid (HX6'.out.below (co_box1 X6 (.cells #[.int .i64 40, .int .i64 50, .int .i64 20] 3)))
  have HY7 := Lib.hid (HY6'.out.below (co_box1 X6 (.cells #[.int .i64 40, .int .i64 50, .int .i64 20] 3)))
  have HB7 := Lib.hid (HB6.out.alloc HB6.out.size (.cells #[.int .i64 40, .int .i64 50, .int .i64 20] 3))
  clear HX6 HY6 HX6' HY6' HB6 HV6 HW6
  go_wp2_with fail
  generalize World.alloc X6 _ = X7 at *
  refine (least_any (some ⟨X6.heap.size, 0, none⟩) 3 3 [40, 50, 20] 64 X7 HL7.out rfl (by omega)).mono ?_
  rw [ex_least]
  rintro e X8 ⟨rfl, hb8⟩
  have HB8 := Lib.hid (HB7.out.trans (hb8.mono HB7.out.size))
  obtain ⟨b3, f3, rfl, -, r3⟩ := (HX7.out.below hb8).get celE (i := 0) (by decide)
  have r30 := r3 0 _ (by decide) rfl
  obtain ⟨b4, f4, rfl, -, r4⟩ := (HY7.out.below hb8).get celU (i := 0) (by decide)
  have r40 := r4 0 _ (by decide) rfl
  clear r3 r4 hb8 HX7 HY7 HL7 HB7 q1 r10 r11 r12 q2 r20'
  simp only [List.getElem_cons_zero, Nat.zero_mul, Nat.add_zero] at r30 r40
  have r40' : X8.cell? ⟨b4, f4, none⟩ = some (.int .u8 6) := r40
  clear r40
  go_wp2_with fail
  go_ret
  exact ⟨rfl, HB8.out⟩
end Go.Proofs.Ytpjegenobadckaa
