/-
  The program's moving of a window, and the specification's, give the same number, for every checksum, length and bytes.
-/
import Derived.Test.YtheoklpgnchmcaaRows
import Derived.WalkKit
import Derived.Lib.Hide
import Derived.WalkSpells
import Derived.WalkLawsBesides
namespace Go.Proofs.Ytheoklpgnchmcaa
open Go.RowKit

theorem and_low (s : Int) (h0 : 0 ≤ s) (h1 : s < 4294967296) : bits .and .u32 s 65535 = s % 65536 := by
  rw [u32_and _ _ h0 h1 (by omega) (by omega), show (65535 : Int).toNat = 2 ^ 16 - 1 from rfl, Nat.and_two_pow_sub_one_eq_mod]
  omega
theorem or_pair (u l : Int) (h0 : 0 ≤ u) (h1 : u < 65536) (l0 : 0 ≤ l) (l1 : l < 65536) : bits .or .u32 (u * 65536) l = u * 65536 + l := by
  rw [u32_or _ _ (by omega) (by omega) (by omega) (by omega)]
  have e : (u * 65536).toNat = u.toNat <<< 16 := by rw [Nat.shiftLeft_eq]; omega
  rw [e, ← Nat.shiftLeft_add_eq_or_of_lt (by omega), Nat.shiftLeft_eq]
  omega
theorem tmod_up (x : Int) : (x.tmod 65521 + 65521) % 65521 = x % 65521 := by
  have := Int.tmod_add_mul_tdiv x 65521
  omega

/-- the lower and the upper half of a moved window -/
def rollL (s a b : Int) : Int := (s % 65536 - a + b) % 65521
def rollU (s n a b : Int) : Int := (s / 65536 - n * a + rollL s a b) % 65521
def rollI (s n a b : Int) : Int := rollU s n a b * 65536 + rollL s a b
theorem rollL_bd (s a b : Int) : 0 ≤ rollL s a b ∧ rollL s a b < 65521 := by unfold rollL; omega
theorem rollU_bd (s n a b : Int) : 0 ≤ rollU s n a b ∧ rollU s n a b < 65521 := by unfold rollU; omega
theorem mul_bd (n a : Int) (n0 : 1 ≤ n) (n1 : n ≤ 65536) (a0 : 0 ≤ a) (a1 : a < 256) : 0 ≤ n * a ∧ n * a ≤ 16777216 := by
  refine ⟨Int.mul_nonneg (by omega) a0, ?_⟩
  have h1 : n * a ≤ 65536 * a := Int.mul_le_mul_of_nonneg_right n1 a0
  omega
theorem rroll_eq (s n a b : Int) :
    bits .or .u32 ((s / 65536 % 65521 + 16838897 - n * a % 65521 + (s % 65536 % 65521 + 65521 - a + b)) % 65521 * 65536) ((s % 65536 % 65521 + 65521 - a + b) % 65521) = rollI s n a b := by
  rw [or_pair _ _ (by omega) (by omega) (by omega) (by omega)]
  unfold rollI rollU rollL
  omega
theorem ret_u32' {a b : Int} (h : a = b) : Ending.returned (.int .u32 a) = .returned (.int .u32 b) := by rw [h]
theorem ret_i64 {a b : Int} (h : a = b) : Ending.returned (.int .i64 a) = .returned (.int .i64 b) := by rw [h]

set_option maxRecDepth 100000 in
set_option maxHeartbeats 400000 in
theorem reduce_any (x : Int) (w : World) :
    Calls Try.prog 26 #[.int .i64 x] w fun e w' => e = .returned (.int .i64 (x % 65521)) ∧ w = w' := by
  have h0 : -65521 < x.tmod 65521 := Int.lt_tmod_of_pos x (by omega)
  have h1 : x.tmod 65521 < 65521 := Int.tmod_lt_of_pos x (by omega)
  go_enter Try.func26, Try.ntmps26
  go_wp2
  go_ret
  exact ⟨ret_i64 (tmod_up x), rfl⟩

set_option maxRecDepth 100000 in
set_option maxHeartbeats 400000 in
theorem roll_any (s n a b : Int) (w : World) (s0 : 0 ≤ s) (s1 : s < 4294967296) (a0 : 0 ≤ a) (a1 : a < 256) (b0 : 0 ≤ b) (b1 : b < 256) (n0 : 1 ≤ n) (n1 : n ≤ 65536) :
    Calls Try.prog 20 #[.int .u32 s, .int .i64 n, .int .u8 a, .int .u8 b] w fun e w' => e = .returned (.int .u32 (rollI s n a b)) ∧ w = w' := by
  have ha := and_low s s0 s1
  have hm0 := (mul_bd n a n0 n1 a0 a1).1
  have hm1 := (mul_bd n a n0 n1 a0 a1).2
  have L0 := (rollL_bd s a b).1
  have L1 := (rollL_bd s a b).2
  have U0 := (rollU_bd s n a b).1
  have U1 := (rollU_bd s n a b).2
  have ho := or_pair (rollU s n a b) (rollL s a b) U0 (by omega) L0 (by omega)
  go_enter Try.func20, Try.ntmps20
  go_wp2_with fail
  refine (reduce_any _ _).mono ?_
  rintro e w' ⟨rfl, rfl⟩
  rw [show (s % 65536 - a + b) % 65521 = rollL s a b from rfl]
  go_wp2_with fail
  refine (reduce_any _ _).mono ?_
  rintro e w' ⟨rfl, rfl⟩
  rw [show (s / 65536 - n * a + rollL s a b) % 65521 = rollU s n a b from rfl]
  go_wp2
  go_ret
  exact ⟨rfl, rfl⟩

set_option maxRecDepth 100000 in
set_option maxHeartbeats 400000 in
theorem roll_out (s n a b : Int) (w : World) (h : n < 1 ∨ 65536 < n) :
    Calls Try.prog 20 #[.int .u32 s, .int .i64 n, .int .u8 a, .int .u8 b] w fun e w' => e = .returned (.int .u32 0) ∧ w = w' := by
  go_enter Try.func20, Try.ntmps20
  go_wp2
  all_goals go_ret
  all_goals exact ⟨rfl, rfl⟩
set_option maxRecDepth 100000 in
set_option maxHeartbeats 400000 in
theorem rroll_out (s n a b : Int) (w : World) (h : n < 1 ∨ 65536 < n) :
    Calls Try.prog 21 #[.int .u32 s, .int .i64 n, .int .u8 a, .int .u8 b] w fun e w' => e = .returned (.int .u32 0) ∧ w = w' := by
  go_enter Try.func21, Try.ntmps21
  go_wp2
  all_goals go_ret
  all_goals exact ⟨rfl, rfl⟩

set_option maxRecDepth 100000 in
set_option maxHeartbeats 400000 in
theorem rroll_any (s n a b : Int) (w : World) (s0 : 0 ≤ s) (s1 : s < 4294967296) (a0 : 0 ≤ a) (a1 : a < 256) (b0 : 0 ≤ b) (b1 : b < 256) (n0 : 1 ≤ n) (n1 : n ≤ 65536) :
    Calls Try.prog 21 #[.int .u32 s, .int .i64 n, .int .u8 a, .int .u8 b] w fun e w' => e = .returned (.int .u32 (rollI s n a b)) ∧ w = w' := by
  have hm0 := (mul_bd n a n0 n1 a0 a1).1
  have hm1 := (mul_bd n a n0 n1 a0 a1).2
  go_enter Try.func21, Try.ntmps21
  go_wp2
  go_ret
  exact ⟨ret_u32' (rroll_eq s n a b), rfl⟩
end Go.Proofs.Ytheoklpgnchmcaa
