/-
  The specification's operation that is applied twice.
-/
import Derived.Test.YtheoklpgnchmcaaApply
import Derived.Test.YtheoklpgnchmcaaAwake
import Derived.Deep.RegionHeld3
namespace Go.Proofs.Ytheoklpgnchmcaa
open Go.RowKit
attribute [local irreducible] apB row32 stepTab

theorem info32 : (Try.prog.info? 49).map (·.size) = some 32 := by kernel_rfl
theorem size32 (M : Nat → BitVec 32) : (row32 M).toArray.size = 32 := by simp [row32_length]
theorem info32' (M : Nat → BitVec 32) : (Try.prog.info? 49).map (·.size) = some (row32 M).toArray.size := by rw [size32]; exact info32
theorem info32l (M : Nat → BitVec 32) : (Try.prog.info? 49).map (·.size) = some (row32 M).length := by rw [row32_length]; exact info32

/-- the table after i of its places -/
def doneB (M : Nat → BitVec 32) (i j : Nat) : BitVec 32 := if j < i then apB M (M j) 32 else M j
theorem doneB_zero (M : Nat → BitVec 32) : row32 M = row32 (doneB M 0) := row32_congr _ _ fun i _ => by simp [doneB]
theorem doneB_all (M : Nat → BitVec 32) : row32 (doneB M 32) = row32 (fun i => apB M (M i) 32) := row32_congr _ _ fun i hi => by simp [doneB, hi]
theorem doneB_next (M : Nat → BitVec 32) (i : Nat) : row32 (fun j => if j = i then apB M (M i) 32 else doneB M i j) = row32 (doneB M (i + 1)) := row32_congr _ _ fun j _ => by
  unfold doneB
  by_cases h : j = i
  · subst h; simp
  · rw [if_neg h]
    by_cases h2 : j < i
    · rw [if_pos h2, if_pos (by omega)]
    · rw [if_neg h2, if_neg (by omega)]
theorem apply_keeps (M : Nat → BitVec 32) (v : BitVec 32) (w : World) :
    Calls Try.prog 30 #[.agg (row32 M).toArray, .int .u32 (iv v)] w fun e w' => e = .returned (.int .u32 (iv (apB M v 32))) ∧ Below w.heap.size w w' := by
  refine (apply_any M v w).mono ?_
  rintro e w' ⟨rfl, rfl⟩
  exact ⟨rfl, (Below.refl _ _).alloc (Nat.le_refl _) _⟩
theorem range_of_row {w : World} {g : Nat} {M : Nat → BitVec 32} {t : TypeId} (hg : w.heap[g]? = some (.cells (row32 M).toArray t (0, 0))) : w.rangeAt g 0 (row32 M) := by
  intro j v hv
  rw [Nat.zero_add, cell_of_row w g j _ t (0, 0) hg]
  simpa using hv
theorem cell_of_row32 {w : World} {g : Nat} {M : Nat → BitVec 32} {t : TypeId} (hg : w.heap[g]? = some (.cells (row32 M).toArray t (0, 0))) (i : Nat) (hi : i < 32) : w.cell? ⟨g, i, none⟩ = some (.int .u32 (iv (M i))) := by
  rw [cell_of_row w g i _ t (0, 0) hg]
  simpa using row32_get M i hi
theorem cell_set_other {w : World} {g b i j : Nat} {u v : Value} (hne : b ≠ g) (h : w.cell? ⟨g, j, none⟩ = some v) : (w.setCell ⟨b, i, none⟩ u).cell? ⟨g, j, none⟩ = some v := by
  rw [World.cell?_setCell_other _ _ _ _ (by intro e; cases e; exact hne rfl)]
  exact h
theorem range_set_other {w : World} {g b i : Nat} {u : Value} {l : List Value} (hne : b ≠ g) (h : w.rangeAt g 0 l) : (w.setCell ⟨b, i, none⟩ u).rangeAt g 0 l :=
  fun j v hv => cell_set_other hne (h j v hv)
theorem lt_of_heap {w : World} {g : Nat} {o : Obj} (h : w.heap[g]? = some o) : g < w.heap.size := (Array.getElem?_eq_some_iff.1 h).1

theorem three_rows {w w3 : World} {A Z O : Array Value} {t : TypeId} (h : ((w.alloc (.cells A t)).alloc (.cells Z t)).alloc (.cells O t) = w3) (hz : Z.size = 32) :
    w3.heap[w.heap.size]? = some (.cells A t (0, 0)) ∧ (∃ Z : Array Value, Z.size = 32 ∧ w3.heap[w.heap.size + 1]? = some (.cells Z t (0, 0))) ∧ w3.heap[w.heap.size + 1 + 1]? = some (.cells O t (0, 0)) ∧ Below w.heap.size w w3 := by
  subst h
  have e1 : (w.alloc (.cells A t)).heap.size = w.heap.size + 1 := by simp
  have e2 : ((w.alloc (.cells A t)).alloc (.cells Z t)).heap.size = w.heap.size + 1 + 1 := by simp
  refine ⟨?_, ⟨Z, hz, ?_⟩, ?_, below_three _ _ _ _⟩
  · rw [heap_alloc_past _ _ _ (by omega), heap_alloc_past _ _ _ (by omega)]
    exact heap_alloc_last _ _
  · rw [heap_alloc_past _ _ _ (by omega), ← e1]
    exact heap_alloc_last _ _
  · rw [← e2]
    exact heap_alloc_last _ _
theorem run_storeRow_last (w : World) (g : Nat) (hg : g = w.heap.size) (t : TypeId) (old : Array Value) (M : Nat → BitVec 32) (hs : old.size = 32) :
    (storeCells ⟨g, 0, none⟩ (row32 M) 0).run Try.prog (w.alloc (.cells old t)) = .ok () (w.alloc (.cells (row32 M).toArray t)) :=
  run_storeCells_last (P := Try.prog) w g hg t old (row32 M).toArray (by rw [hs, size32]) (row32_one M)
theorem run_storeRow (w : World) (g : Nat) (t : TypeId) (old : Array Value) (M : Nat → BitVec 32) (hg : w.heap[g]? = some (.cells old t (0, 0))) (hs : old.size = 32) :
    (storeCells ⟨g, 0, none⟩ (row32 M) 0).run Try.prog w = .ok () (w.setRow g (row32 M).toArray) :=
  run_storeCells_row (P := Try.prog) w g t old (row32 M).toArray hg (by rw [hs, size32]) (row32_one M)

set_option maxRecDepth 100000 in
set_option maxHeartbeats 2000000 in
theorem twice_any (M : Nat → BitVec 32) (w : World) :
    Calls Try.prog 31 #[.agg (row32 M).toArray] w fun e w' => e = .returned (.agg (row32 (fun i => apB M (M i) 32)).toArray) ∧ Below w.heap.size w w' := by
  go_enter Try.func31, Try.ntmps31
  have hsl := row32_length M
  go_wp2_with (with_reducible refine wpList_load_row rfl 49 (.tmp 1) rfl w.heap.size rfl (row32 M).toArray 32 22 49 ?_ Try.underlying49 (info32' M) ?_; (rw [heap_alloc_past _ _ _ (by simp)]; exact heap_alloc_last _ _))
  rw [run_storeRow_last _ (w.heap.size + 1 + 1) (by simp) 49 _ M rfl]
  simp only [Result.andThen]
  rw [Oper.upon_skip]
  generalize hw3 : World.alloc (World.alloc _ _) _ = w3
  obtain ⟨hA, ⟨Z, hZs, hZ⟩, hO, hB⟩ := three_rows hw3 rfl
  rw [doneB_zero] at hO
  have HA := Lib.hid hA
  have HZ := Lib.hid hZ
  have HO := Lib.hid hO
  have HB := Lib.hid hB
  clear hw3 hA hZ hO hB
  go_wp2_with fail
  go_loopw [4] (fun vi wr => ∃ i : Nat, i ≤ 32 ∧ vi = .int .i64 i ∧ Hid (wr.heap[w.heap.size]? = some (.cells (row32 M).toArray 49 (0, 0))) ∧ Hid (wr.heap[w.heap.size + 1]? = some (.cells Z 49 (0, 0))) ∧
      Hid (wr.heap[w.heap.size + 1 + 1]? = some (.cells (row32 (doneB M i)).toArray 49 (0, 0))) ∧ Hid (Below w.heap.size w wr)) (fun i _ => 32 - (intOf i).toNat)
  case atStart => exact ⟨0, by omega, rfl, HA, HZ, HO, HB⟩
  case round =>
    obtain ⟨i, hi, rfl, ha, hz, ho, hb⟩ := hrel
    by_cases hlt : i < 32
    · have hcA := cell_of_row32 ha.out i hlt
      have hr := range_of_row ha.out
      have hcO := cell_of_row32 ho.out i hlt
      have hA1 := lt_of_heap ha.out
      have hO1 := lt_of_heap ho.out
      have hne : w.heap.size + 1 + 1 ≠ w.heap.size := by omega
      have hi0 : (0 : Int) ≤ (i : Int) := by omega
      have hi1 : (i : Int) < 32 := by omega
      have hu := Try.underlying49
      have hinf := info32l M
      have HN := Lib.hid (doneB_next M i)
      generalize hgA : w.heap.size = gA at *
      generalize hgO : gA + 1 + 1 = gO at *
      go_wp2_with fail
      go_region_held3 (fun w' => w'.rangeAt gA 0 (row32 M) ∧ w'.cell? ⟨gA, i, none⟩ = some (.int .u32 (iv (M i))))
        (first
          | exact ⟨by assumption, by assumption⟩
          | exact ⟨range_set_other hne hr1, cell_set_other hne hcA1⟩)
        (first | (go_at_call 30; refine (apply_keeps M (M i) _).mono ?_; rintro e w1 ⟨rfl, hb1⟩; have hB2 : Below wr.heap.size wr w1 := ⟨hb1.os, hb1.tape, hb1.output, hb1.size, hb1.block⟩; clear hb1; have hA2 := (hB2.block gA hA1).trans ha.out; have hO2 := (hB2.block gO hO1).trans ho.out; have hr1 := range_of_row hA2; have hcA1 := cell_of_row32 hA2 i hlt; have hcO1 := cell_of_row32 hO2 i hlt; have hfO1 := frozen_of_row w1 gO i _ _ hO2; have HA2 := Lib.hid hA2; have HO2 := Lib.hid hO2; have HB2 := Lib.hid hB2; clear hA2 hO2 hB2))
      have hZ2 := (HB2.out.block (gA + 1) (lt_of_heap hz.out)).trans hz.out
      have RA : Hid ((w1.setCell ⟨gO, i, none⟩ (.int .u32 (iv (apB M (M i) 32)))).heap[gA]? = some (.cells (row32 M).toArray 49 (0, 0))) := Lib.hid ((heap_setCell_other' _ _ _ _ _ hne).trans HA2.out)
      have RZ : Hid ((w1.setCell ⟨gO, i, none⟩ (.int .u32 (iv (apB M (M i) 32)))).heap[gA + 1]? = some (.cells Z 49 (0, 0))) := Lib.hid ((heap_setCell_other' _ _ _ _ _ (by omega)).trans hZ2)
      have RO : Hid ((w1.setCell ⟨gO, i, none⟩ (.int .u32 (iv (apB M (M i) 32)))).heap[gO]? = some (.cells (row32 (doneB M (i + 1))).toArray 49 (0, 0))) := Lib.hid (by rw [← HN.out]; exact heap_setCell_row w1 gO i (doneB M i) _ _ HO2.out)
      have RB : Hid (Below gA w (w1.setCell ⟨gO, i, none⟩ (.int .u32 (iv (apB M (M i) 32))))) := Lib.hid ((hb.out.trans (HB2.out.mono (Nat.le_of_lt hA1))).setCell (by show gA ≤ gO; omega) _)
      clear hZ2 hr1 hcA1 hcO1 hfO1 hcA hr hcO hinf hu
      clear ‹World.rangeAt _ _ _ _ ∧ _›
      go_wp2
      go_roundw
      case rel => exact ⟨i + 1, by omega, by go_num, RA, RZ, RO, RB⟩
      case measure => simp [intOf]; omega
    · obtain rfl : i = 32 := by omega
      rw [doneB_all] at ho
      have hsl2 := row32_length (fun i => apB M (M i) 32)
      go_wp2_with (with_reducible refine wpList_load_row rfl 49 (.tmp 3) rfl (w.heap.size + 1 + 1) rfl (row32 (fun i => apB M (M i) 32)).toArray 32 22 49 ?_ Try.underlying49 (info32' _) ?_; exact ho.out)
      rw [run_storeRow _ (w.heap.size + 1) 49 Z _ hz.out hZs]
      simp only [Result.andThen]
      rw [Oper.upon_skip]
      have hrow := heap_setRow_same wr (w.heap.size + 1) (row32 (fun i => apB M (M i) 32)).toArray Z 49 hz.out
      have hbel := below_setRow' hb.out (show w.heap.size ≤ w.heap.size + 1 by omega) (row32 (fun i => apB M (M i) 32)).toArray
      have HR := Lib.hid hrow
      have HBE := Lib.hid hbel
      clear hrow hbel
      go_wp2_with fail
      refine bodyPost_ret (v := .agg (row32 (fun i => apB M (M i) 32)).toArray) ?_ rfl ⟨rfl, HBE.out⟩
      rw [results_cell_one rfl]
      have hld := run_loadVar_row (P := Try.prog) (wr.setRow (w.heap.size + 1) (row32 (fun i => apB M (M i) 32)).toArray) (w.heap.size + 1) 49 49 _ (0, 0) _ HR.out Try.underlying49 rfl (info32' _)
      simp only [Act.put]
      show ((asAddr (.pointer (some ⟨w.heap.size + 1, 0, none⟩))).run Try.prog _).andThen _ = _
      simp only [asAddr, Sem.run_pure, Result.andThen, hld]
end Go.Proofs.Ytheoklpgnchmcaa
