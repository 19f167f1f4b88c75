/-
  The specification's register after zero bytes is that many steps.
-/
import Derived.Test.YtheoklpgnchmcaaTwice
namespace Go.Proofs.Ytheoklpgnchmcaa
open Go.RowKit
/-- the table while its first i places are made -/
def madeB (i j : Nat) : BitVec 32 := if j < i then stepTab 8 j else 0#32
theorem madeB_next (i : Nat) : row32 (fun j => if j = i then stepTab 8 i else madeB i j) = row32 (madeB (i + 1)) := row32_congr _ _ fun j _ => by
  unfold madeB
  by_cases h : j = i
  · subst h; simp
  · rw [if_neg h]
    by_cases h2 : j < i
    · rw [if_pos h2, if_pos (by omega)]
    · rw [if_neg h2, if_neg (by omega)]
theorem madeB_all : row32 (madeB 32) = row32 (stepTab 8) := row32_congr _ _ fun j hj => by simp [madeB, hj]
theorem madeB_zero : row32 (madeB 0) = row32 (fun _ => 0#32) := row32_congr _ _ fun j _ => by simp [madeB]
theorem twice_tab (q : Nat) : row32 (fun i => apB (stepTab q) (stepTab q i) 32) = row32 (stepTab (q + q)) := row32_congr _ _ fun i _ => by
  rw [apB_all]
  unfold stepTab
  rw [← stepsB_add]
theorem after_tab (i : Nat) : afterB (BitVec.twoPow 32 i) 0#32 = stepTab 8 i := by unfold afterB stepTab; rw [BitVec.xor_zero]
theorem zeros32 : #[Value.int .u32 0, Value.int .u32 0, Value.int .u32 0, Value.int .u32 0, Value.int .u32 0, Value.int .u32 0, Value.int .u32 0, Value.int .u32 0,
    Value.int .u32 0, Value.int .u32 0, Value.int .u32 0, Value.int .u32 0, Value.int .u32 0, Value.int .u32 0, Value.int .u32 0, Value.int .u32 0,
    Value.int .u32 0, Value.int .u32 0, Value.int .u32 0, Value.int .u32 0, Value.int .u32 0, Value.int .u32 0, Value.int .u32 0, Value.int .u32 0,
    Value.int .u32 0, Value.int .u32 0, Value.int .u32 0, Value.int .u32 0, Value.int .u32 0, Value.int .u32 0, Value.int .u32 0, Value.int .u32 0] = (row32 (madeB 0)).toArray := by
  rw [madeB_zero]
  have e : row32 (fun _ => 0#32) = (List.range 32).map fun _ => Value.int .u32 0 := by
    unfold row32
    apply List.map_congr_left
    intro i _
    exact zero_u32.symm
  rw [e]
  rfl
theorem zero_u8 : Value.int .u8 0 = .int .u8 (iv 0#32) := by rw [iv_ofNat 0 (by decide)]; rfl
theorem steps_zero (a : BitVec 32) : stepsB 0 a = a := rfl
attribute [local irreducible] apB row32 stepTab madeB stepsB afterB

set_option maxRecDepth 100000 in
set_option maxHeartbeats 2000000 in
theorem shift_any (a : BitVec 32) (n : Nat) (hn : n ≤ 1125899906842624) (w : World) :
    Calls Try.prog 25 #[.int .u32 (iv a), .int .i64 n] w fun e w' => e = .returned (.int .u32 (iv (stepsB (8 * n) a))) ∧ Below w.heap.size w w' := by
  go_enter Try.func25, Try.ntmps25
  go_wp2_with fail
  rw [zeros32]
  go_loopw [6] (fun vi wr => ∃ i : Nat, i ≤ 32 ∧ vi = .int .i64 i ∧ wr = w.alloc (.cells (row32 (madeB i)).toArray 49)) (fun i _ => 32 - (intOf i).toNat)
  case atStart => exact ⟨0, by omega, rfl, rfl⟩
  case round =>
    obtain ⟨i, hi, rfl, rfl⟩ := hrel
    by_cases hlt : i < 32
    · have hp := twoPow_iv i hlt
      have hg := row32_get (madeB i) i hlt
      have HW := Lib.hid (madeB_next i)
      have HS := Lib.hid (row32_set (madeB i) i (stepTab 8 i))
      go_wp2_with fail
      rw [zero_u8]
      refine (rafter_any _ _ _ (by rw [iv_ofNat 0 (by decide)]; decide)).mono ?_
      rintro e w' ⟨rfl, rfl⟩
      rw [after_tab]
      clear hp
      go_wp2
      go_roundw
      case rel => exact ⟨i + 1, by omega, by go_num, by rw [← HW.out, ← HS.out]⟩
      case measure => simp [intOf]; omega
    · obtain rfl : i = 32 := by omega
      rw [madeB_all, show ((32 : Nat) : Int) = 32 from rfl]
      go_wp2_with fail
      go_loopw [0, 1] (fun va vn wr => ∃ p q m : Nat, m ≤ n ∧ Hid (p + q * m = 8 * n) ∧ va = .int .u32 (iv (stepsB p a)) ∧ vn = .int .i64 m ∧ Hid (wr.heap[w.heap.size]? = some (.cells (row32 (stepTab q)).toArray 49 (0, 0))) ∧ Hid (Below w.heap.size w wr)) (fun _ i _ => (intOf i).toNat)
      case atStart => exact ⟨0, 8, n, Nat.le_refl _, Lib.hid (by omega), by rw [steps_zero], rfl, Lib.hid (heap_alloc_last _ _), Lib.hid ((Below.refl _ _).alloc (Nat.le_refl _) _)⟩
      case round =>
        obtain ⟨p, q, m, hm, hpq, rfl, rfl, hrow, hbel⟩ := hrel
        by_cases hlt : 0 < m
        · have hsl := row32_length (stepTab q)
          have hsl2 := row32_length (stepTab (q + q))
          rcases (show m % 2 = 0 ∨ m % 2 = 1 by omega) with hm2 | hm2
          · have hmi : (m : Int) % 2 = 0 := by omega
            have HM := Lib.hid hm2
            clear hm2
            go_wp2_with (with_reducible refine wpList_load_row rfl 49 (.tmp 5) rfl w.heap.size rfl (row32 (stepTab q)).toArray 32 22 49 ?_ Try.underlying49 (info32' _) ?_; exact hrow.out)
            refine (twice_any (stepTab q) _).mono ?_
            rintro e w2 ⟨rfl, hb2⟩
            rw [twice_tab]
            have hr2 := (hb2.block w.heap.size (lt_of_heap hrow.out)).trans hrow.out
            have HB2 : Hid (Below w.heap.size w w2) := Lib.hid (hbel.out.trans (hb2.mono hbel.out.size))
            clear hb2
            have HR2 := Lib.hid hr2
            clear hr2
            go_wp2_with fail
            rw [run_storeRow _ w.heap.size 49 _ _ HR2.out (size32 _)]
            simp only [Result.andThen]
            rw [Oper.upon_skip]
            have HR3 := Lib.hid (heap_setRow_same w2 w.heap.size (row32 (stepTab (q + q))).toArray _ 49 HR2.out)
            have HB3 := Lib.hid (below_setRow' HB2.out (Nat.le_refl _) (row32 (stepTab (q + q))).toArray)
            generalize World.setRow w2 w.heap.size (row32 (stepTab (q + q))).toArray = w3 at *
            clear hsl hsl2
            go_wp2
            go_roundw
            case rel => exact ⟨p, q + q, m / 2, by omega, Lib.hid (rel_even p q m _ hpq.out HM.out), rfl, by go_num, HR3, HB3⟩
            case measure => simp [intOf]; omega
          · have hmi : (m : Int) % 2 = 1 := by omega
            have HM := Lib.hid hm2
            clear hm2
            go_wp2_with (with_reducible refine wpList_load_row rfl 49 (.tmp 5) rfl w.heap.size rfl (row32 (stepTab q)).toArray 32 22 49 ?_ Try.underlying49 (info32' _) ?_; exact hrow.out)
            refine (apply_keeps (stepTab q) (stepsB p a) _).mono ?_
            rintro e w1 ⟨rfl, hb1⟩
            rw [apB_all, ← stepsB_add]
            have HR1 : Hid (w1.heap[w.heap.size]? = some (.cells (row32 (stepTab q)).toArray 49 (0, 0))) := Lib.hid ((hb1.block w.heap.size (lt_of_heap hrow.out)).trans hrow.out)
            have HB1 : Hid (Below w.heap.size w w1) := Lib.hid (hbel.out.trans (hb1.mono hbel.out.size))
            clear hb1
            go_wp2_with (with_reducible refine wpList_load_row rfl 49 (.tmp 5) rfl w.heap.size rfl (row32 (stepTab q)).toArray 32 22 49 ?_ Try.underlying49 (info32' _) ?_; exact HR1.out)
            refine (twice_any (stepTab q) _).mono ?_
            rintro e w2 ⟨rfl, hb2⟩
            rw [twice_tab]
            have hr2 := (hb2.block w.heap.size (lt_of_heap HR1.out)).trans HR1.out
            have HB2 : Hid (Below w.heap.size w w2) := Lib.hid (HB1.out.trans (hb2.mono HB1.out.size))
            clear hb2
            have HR2 := Lib.hid hr2
            clear hr2
            go_wp2_with fail
            rw [run_storeRow _ w.heap.size 49 _ _ HR2.out (size32 _)]
            simp only [Result.andThen]
            rw [Oper.upon_skip]
            have HR3 := Lib.hid (heap_setRow_same w2 w.heap.size (row32 (stepTab (q + q))).toArray _ 49 HR2.out)
            have HB3 := Lib.hid (below_setRow' HB2.out (Nat.le_refl _) (row32 (stepTab (q + q))).toArray)
            generalize World.setRow w2 w.heap.size (row32 (stepTab (q + q))).toArray = w3 at *
            clear hsl hsl2
            go_wp2
            go_roundw
            case rel => exact ⟨q + p, q + q, m / 2, by omega, Lib.hid (rel_odd p q m _ hpq.out HM.out), rfl, by go_num, HR3, HB3⟩
            case measure => simp [intOf]; omega
        · obtain rfl : m = 0 := by omega
          obtain rfl : p = 8 * n := by have := hpq.out; omega
          go_wp2
          go_ret
          exact ⟨rfl, hbel.out⟩
end Go.Proofs.Ytheoklpgnchmcaa
