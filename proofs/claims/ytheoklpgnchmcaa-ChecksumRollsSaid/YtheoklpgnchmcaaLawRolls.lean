/-
  The walk of the statement ChecksumRolls: true for every window, and nothing that was there is written.
-/
import Derived.Test.YtheoklpgnchmcaaAwake
import Derived.StillTailTactics
namespace Go.Proofs.Ytheoklpgnchmcaa
open Go.RowKit
theorem calls_left {P : Program} {f : FuncId} {args : Array Value} {w : World} {v : Value} (h : Calls P f args w fun e w' => e = .returned v ∧ w = w') : Calls P f args w fun e w' => e = .returned v ∧ w' = w :=
  h.mono fun _ _ ⟨he, hw⟩ => ⟨he, hw.symm⟩

set_option maxRecDepth 100000 in
set_option maxHeartbeats 1000000 in
theorem law_rolls (s n a b : Int) (w : World) (s0 : 0 ≤ s) (s1 : s < 4294967296) (a0 : 0 ≤ a) (a1 : a < 256) (b0 : 0 ≤ b) (b1 : b < 256) :
    Calls Try.prog 10 #[.agg #[.int .u32 s, .int .i64 n, .int .u8 a, .int .u8 b]] w fun e w' => e = .returned (.bool true) ∧ Below w.heap.size w w' := by
  obtain ⟨v, hv1, hv2⟩ : ∃ v : Int, (∀ w, Calls Try.prog 20 #[.int .u32 s, .int .i64 n, .int .u8 a, .int .u8 b] w fun e w' => e = .returned (.int .u32 v) ∧ w' = w) ∧
      (∀ w, Calls Try.prog 21 #[.int .u32 s, .int .i64 n, .int .u8 a, .int .u8 b] w fun e w' => e = .returned (.int .u32 v) ∧ w' = w) := by
    by_cases hn : 1 ≤ n ∧ n ≤ 65536
    · exact ⟨rollI s n a b, fun w => calls_left (roll_any s n a b w s0 s1 a0 a1 b0 b1 hn.1 hn.2), fun w => calls_left (rroll_any s n a b w s0 s1 a0 a1 b0 b1 hn.1 hn.2)⟩
    · exact ⟨0, fun w => calls_left (roll_out s n a b w (by omega)), fun w => calls_left (rroll_out s n a b w (by omega))⟩
  have HV1 := Lib.hid hv1
  have HV2 := Lib.hid hv2
  clear hv1 hv2
  go_enter Try.func10, Try.ntmps10
  go_wp2_with fail
  refine wp_region_still_tail 20 (by kernel_rfl) (by kernel_rfl) ?_
  simp only [List.take_succ_cons, List.take_zero, List.drop_succ_cons, List.drop_zero]
  change wpStill _ _ (w.alloc (.cells #[.int .u32 s, .int .i64 n, .int .u8 a, .int .u8 b] 40)).drew _ _ _
  generalize hw2 : World.drew _ = w2
  have hc0 : w2.cell? ⟨w.heap.size, 0, none⟩ = some (.int .u32 s) := by rw [← hw2]; simp
  have hc1 : w2.cell? ⟨w.heap.size, 1, none⟩ = some (.int .i64 n) := by rw [← hw2]; simp
  have hc2 : w2.cell? ⟨w.heap.size, 2, none⟩ = some (.int .u8 a) := by rw [← hw2]; simp
  have hc3 : w2.cell? ⟨w.heap.size, 3, none⟩ = some (.int .u8 b) := by rw [← hw2]; simp
  clear hw2
  repeat still_step
  still_call (HV1.out _)
  repeat still_step
  still_call (HV2.out _)
  repeat still_step
  refine wpStill_nil ?_
  change wpList _ _ _ _ _ (w.alloc (.cells #[.int .u32 s, .int .i64 n, .int .u8 a, .int .u8 b] 40)).drew
  generalize hw4 : World.drew _ = w4
  have HB : Hid (Below w.heap.size w w4) := Lib.hid (by rw [← hw4]; exact ((Below.refl _ _).alloc (Nat.le_refl _) _).drew)
  clear hw4
  go_wp2_with fail
  refine (awake_any _).mono ?_
  rintro e w3 ⟨rfl, hb3⟩
  have HB3 := Lib.hid hb3
  clear hb3
  go_wp2
  go_ret
  exact ⟨rfl, HB.out.trans (HB3.out.mono HB.out.size)⟩
end Go.Proofs.Ytheoklpgnchmcaa
