/-
  The walk of the statement ChecksumShifts: true for every two checksums and length, and nothing that was there is written.
-/
import Derived.Test.YtheoklpgnchmcaaShift
import Derived.StillTailTactics
namespace Go.Proofs.Ytheoklpgnchmcaa
open Go.RowKit

set_option maxRecDepth 100000 in
set_option maxHeartbeats 1000000 in
theorem rcombine_any (a b : BitVec 32) (n : Nat) (hn : n ≤ 1125899906842624) (w : World) :
    Calls Try.prog 17 #[.int .u32 (iv a), .int .u32 (iv b), .int .i64 n] w fun e w' => e = .returned (.int .u32 (iv (b ^^^ stepsB (8 * n) a))) ∧ Below w.heap.size w w' := by
  have hx := bits_xor_iv b (stepsB (8 * n) a)
  go_enter Try.func17, Try.ntmps17
  go_wp2_with fail
  refine (shift_any _ _ hn _).mono ?_
  rintro e w1 ⟨rfl, hb⟩
  have HB := Lib.hid hb
  clear hb
  go_wp2
  go_ret
  exact ⟨rfl, HB.out⟩
theorem rcombine_out (a b : Int) (n : Int) (hn : n < 0 ∨ 1125899906842624 < n) (w : World) :
    Calls Try.prog 17 #[.int .u32 a, .int .u32 b, .int .i64 n] w fun e w' => e = .returned (.int .u32 0) ∧ Below w.heap.size w w' := by
  go_enter Try.func17, Try.ntmps17
  go_wp2
  all_goals go_ret
  all_goals exact ⟨rfl, Below.refl _ _⟩

set_option maxRecDepth 100000 in
set_option maxHeartbeats 1000000 in
theorem law_shifts (a b n : Int) (w : World) (ha : 0 ≤ a ∧ a ≤ 4294967295) (hb : 0 ≤ b ∧ b ≤ 4294967295) :
    Calls Try.prog 5 #[.agg #[.int .u32 a, .int .u32 b, .int .i64 n]] w fun e w' => e = .returned (.bool true) ∧ Below w.heap.size w w' := by
  obtain ⟨v, hv1, hv2⟩ : ∃ v : Int, (∀ w, Calls Try.prog 16 #[.int .u32 a, .int .u32 b, .int .i64 n] w fun e w' => e = .returned (.int .u32 v) ∧ w' = w) ∧
      (∀ w, Calls Try.prog 17 #[.int .u32 a, .int .u32 b, .int .i64 n] w fun e w' => e = .returned (.int .u32 v) ∧ Below w.heap.size w w') := by
    obtain ⟨a, rfl⟩ := exists_iv a ha.1 (by omega)
    obtain ⟨b, rfl⟩ := exists_iv b hb.1 (by omega)
    by_cases hn : 0 ≤ n ∧ n ≤ 1125899906842624
    · obtain ⟨m, rfl⟩ := Int.eq_ofNat_of_zero_le hn.1
      have hm : m ≤ 1125899906842624 := by omega
      exact ⟨iv (b ^^^ stepsB (8 * m) a), fun w => (combine_any a b m hm w).mono fun _ _ ⟨he, hw⟩ => ⟨he, hw.symm⟩, fun w => rcombine_any a b m hm w⟩
    · exact ⟨0, fun w => (combine_out _ _ n (by omega) w).mono fun _ _ ⟨he, hw⟩ => ⟨he, hw.symm⟩, fun w => rcombine_out _ _ n (by omega) w⟩
  have HV1 := Lib.hid hv1
  have HV2 := Lib.hid hv2
  clear hv1 hv2
  go_enter Try.func5, Try.ntmps5
  go_wp2_with fail
  refine wp_region_still_tail 13 (by kernel_rfl) (by kernel_rfl) ?_
  simp only [List.take_succ_cons, List.take_zero, List.drop_succ_cons, List.drop_zero]
  change wpStill _ _ (w.alloc (.cells #[.int .u32 a, .int .u32 b, .int .i64 n] 31)).drew _ _ _
  generalize hw2 : World.drew _ = w2
  have hc0 : w2.cell? ⟨w.heap.size, 0, none⟩ = some (.int .u32 a) := by rw [← hw2]; simp
  have hc1 : w2.cell? ⟨w.heap.size, 1, none⟩ = some (.int .u32 b) := by rw [← hw2]; simp
  have hc2 : w2.cell? ⟨w.heap.size, 2, none⟩ = some (.int .i64 n) := by rw [← hw2]; simp
  clear hw2
  repeat still_step
  still_call (HV1.out _)
  repeat still_step
  refine wpStill_nil ?_
  change wpList _ _ _ _ _ (w.alloc (.cells #[.int .u32 a, .int .u32 b, .int .i64 n] 31)).drew
  generalize hw4 : World.drew _ = w4
  have HB : Hid (Below w.heap.size w w4) := Lib.hid (by rw [← hw4]; exact ((Below.refl _ _).alloc (Nat.le_refl _) _).drew)
  clear hw4 hc0 hc1 hc2
  go_wp2_with fail
  refine (HV2.out _).mono ?_
  rintro e w5 ⟨rfl, hb5⟩
  have HB5 : Hid (Below w.heap.size w w5) := Lib.hid (HB.out.trans (hb5.mono HB.out.size))
  clear hb5
  go_wp2_with fail
  refine (awake_any _).mono ?_
  rintro e w3 ⟨rfl, hb3⟩
  have HB3 := Lib.hid hb3
  clear hb3
  go_wp2
  go_ret
  exact ⟨rfl, HB5.out.trans (HB3.out.mono HB5.out.size)⟩
end Go.Proofs.Ytheoklpgnchmcaa
