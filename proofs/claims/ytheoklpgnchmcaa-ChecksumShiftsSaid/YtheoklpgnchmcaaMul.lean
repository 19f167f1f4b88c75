/-
  The program's product of two words is the product of the plain mathematics; its walk over zero bytes is that many steps.
-/
import Derived.Test.YtheoklpgnchmcaaStep
namespace Go.Proofs.Ytheoklpgnchmcaa
open Go.RowKit

theorem zero_u32 : Value.int .u32 0 = .int .u32 (iv 0#32) := by rw [iv_ofNat 0 (by decide)]; rfl
theorem fac_u32 : Value.int .u32 8388608 = .int .u32 (iv (stepsB 8 oneB)) := by rw [show stepsB 8 oneB = BitVec.ofNat 32 8388608 from by decide +kernel, iv_ofNat 8388608 (by decide)]; rfl
theorem bit_val (a : BitVec 32) (k : Nat) : bits .and .u32 (iv a / 2 ^ k) 1 = if a.getLsbD k then 1 else 0 := by
  rw [iv_shrk, bits_one, lsb_iv, BitVec.getLsbD_ushiftRight, Nat.add_zero]
theorem bit_one (a : BitVec 32) (k : Nat) (h : a.getLsbD k = true) : bits .and .u32 (iv a / 2 ^ k) 1 = 1 := by rw [bit_val, if_pos h]
theorem bit_zero (a : BitVec 32) (k : Nat) (h : ¬ a.getLsbD k = true) : bits .and .u32 (iv a / 2 ^ k) 1 = 0 := by rw [bit_val, if_neg h]

set_option maxRecDepth 100000 in
set_option maxHeartbeats 400000 in
theorem multiply_any (a b : BitVec 32) (w : World) :
    Calls Try.prog 29 #[.int .u32 (iv a), .int .u32 (iv b)] w fun e w' => e = .returned (.int .u32 (iv (mulB a b))) ∧ w = w' := by
  go_enter Try.func29, Try.ntmps29
  go_wp2
  go_loop [1, 5, 7] (fun vb vp vk => ∃ k : Nat, k ≤ 32 ∧ vk = .int .i64 k ∧ vb = .int .u32 (iv (stepsB k b)) ∧ vp = .int .u32 (iv (prodB a b k))) (fun _ _ i => 32 - (intOf i).toNat)
  case atStart => exact ⟨0, by omega, rfl, rfl, zero_u32⟩
  case round =>
    obtain ⟨k, hk, rfl, rfl, rfl⟩ := hrel
    by_cases hlt : k < 32
    · have hs : Value.int .u32 (iv (stepB (stepsB k b))) = .int .u32 (iv (stepsB (k + 1) b)) := by rw [stepsB_succ']
      have HS := Lib.hid hs
      clear hs
      by_cases hb : a.getLsbD (31 - k) = true
      · have ht := bit_one a (31 - k) hb
        have hx : bits .xor .u32 (iv (prodB a b k)) (iv (stepsB k b)) = iv (prodB a b (k + 1)) := by
          rw [bits_xor_iv]; simp only [prodB, hb, if_true]
        clear hb
        go_wp2_with fail
        refine (step_any _ _).mono ?_
        rintro e w' ⟨rfl, rfl⟩
        go_wp2
        go_round
        case rel => exact ⟨k + 1, by omega, by go_num, HS.out, rfl⟩
        case measure => simp [intOf]; omega
      · have ht := bit_zero a (31 - k) hb
        have hx : Value.int .u32 (iv (prodB a b k)) = .int .u32 (iv (prodB a b (k + 1))) := by
          simp only [prodB, hb]; rfl
        have HX := Lib.hid hx
        clear hb hx
        go_wp2_with fail
        refine (step_any _ _).mono ?_
        rintro e w' ⟨rfl, rfl⟩
        go_wp2
        go_round
        case rel => exact ⟨k + 1, by omega, by go_num, HS.out, HX.out⟩
        case measure => simp [intOf]; omega
    · obtain rfl : k = 32 := by omega
      go_wp2
      go_ret
      exact ⟨rfl, rfl⟩

theorem i64_and1 (n : Nat) (h : n ≤ 1125899906842624) : bits .and .i64 (n : Int) 1 = (n % 2 : Nat) := by
  show IntKind.i64.wrap ((BitVec.ofInt 64 (n : Int) &&& BitVec.ofInt 64 1).toNat : Int) = _
  rw [BitVec.toNat_and, BitVec.ofInt_natCast, BitVec.toNat_ofNat, Nat.mod_eq_of_lt (by omega : n < 2 ^ 64), show (BitVec.ofInt 64 1).toNat = 1 from rfl, Nat.and_one_is_mod, IntKind.wrap_i64]
  omega
theorem rel_odd (p q m N : Nat) (h : p + q * m = N) (hm : m % 2 = 1) : (q + p) + (q + q) * (m / 2) = N := by
  have e : m = 2 * (m / 2) + 1 := by omega
  generalize m / 2 = j at e ⊢
  subst e
  rw [← h, Nat.mul_add, Nat.add_mul, Nat.mul_one, ← Nat.mul_assoc, Nat.mul_comm q 2, Nat.two_mul, Nat.add_mul]
  omega
theorem rel_even (p q m N : Nat) (h : p + q * m = N) (hm : m % 2 = 0) : p + (q + q) * (m / 2) = N := by
  have e : m = 2 * (m / 2) := by omega
  generalize m / 2 = j at e ⊢
  subst e
  rw [← h, ← Nat.mul_assoc, Nat.mul_comm q 2, Nat.two_mul]

set_option maxRecDepth 100000 in
set_option maxHeartbeats 400000 in
theorem zeros_any (a : BitVec 32) (n : Nat) (hn : n ≤ 1125899906842624) (w : World) :
    Calls Try.prog 24 #[.int .u32 (iv a), .int .i64 n] w fun e w' => e = .returned (.int .u32 (iv (stepsB (8 * n) a))) ∧ w = w' := by
  go_enter Try.func24, Try.ntmps24
  go_wp2
  go_loop [0, 1, 5] (fun va vn vf => ∃ p q m : Nat, m ≤ n ∧ p + q * m = 8 * n ∧ va = .int .u32 (iv (stepsB p a)) ∧ vn = .int .i64 m ∧ vf = .int .u32 (iv (stepsB q oneB))) (fun _ i _ => (intOf i).toNat)
  case atStart => exact ⟨0, 8, n, Nat.le_refl _, by omega, rfl, rfl, fac_u32⟩
  case round =>
    obtain ⟨p, q, m, hm, hpq, rfl, rfl, rfl⟩ := hrel
    by_cases hlt : 0 < m
    · have HP := Lib.hid hpq
      clear hpq
      have HF : Hid (Value.int .u32 (iv (mulB (stepsB q oneB) (stepsB q oneB))) = .int .u32 (iv (stepsB (q + q) oneB))) := Lib.hid (by rw [mulB_pow, stepsB_add])
      have hb := i64_and1 m (by omega)
      rcases (show m % 2 = 0 ∨ m % 2 = 1 by omega) with hm2 | hm2
      · rw [hm2] at hb
        have HM := Lib.hid hm2
        clear hm2
        go_wp2_with fail
        refine (multiply_any _ _ _).mono ?_
        rintro e w' ⟨rfl, rfl⟩
        go_wp2
        go_round
        case rel => exact ⟨p, q + q, m / 2, by omega, rel_even p q m _ HP.out HM.out, rfl, by go_num, HF.out⟩
        case measure => simp [intOf]; omega
      · rw [hm2] at hb
        have HM := Lib.hid hm2
        clear hm2
        have HA : Hid (Value.int .u32 (iv (mulB (stepsB p a) (stepsB q oneB))) = .int .u32 (iv (stepsB (q + p) a))) := Lib.hid (by rw [mulB_pow, stepsB_add])
        go_wp2_with fail
        refine (multiply_any _ _ _).mono ?_
        rintro e w' ⟨rfl, rfl⟩
        go_wp2_with fail
        refine (multiply_any _ _ _).mono ?_
        rintro e w' ⟨rfl, rfl⟩
        go_wp2
        go_round
        case rel => exact ⟨q + p, q + q, m / 2, by omega, rel_odd p q m _ HP.out HM.out, HA.out, by go_num, HF.out⟩
        case measure => simp [intOf]; omega
    · obtain rfl : m = 0 := by omega
      obtain rfl : p = 8 * n := by omega
      go_wp2
      go_ret
      exact ⟨rfl, rfl⟩

/-- Combine for any numbers of the stated range -/
theorem combine_any (a b : BitVec 32) (n : Nat) (hn : n ≤ 1125899906842624) (w : World) :
    Calls Try.prog 16 #[.int .u32 (iv a), .int .u32 (iv b), .int .i64 n] w fun e w' => e = .returned (.int .u32 (iv (b ^^^ stepsB (8 * n) a))) ∧ w = w' := by
  have hx := bits_xor_iv b (stepsB (8 * n) a)
  go_enter Try.func16, Try.ntmps16
  go_wp2_with fail
  refine (zeros_any _ _ hn _).mono ?_
  rintro e w' ⟨rfl, rfl⟩
  go_wp2
  go_ret
  exact ⟨rfl, rfl⟩
theorem combine_out (a b : Int) (n : Int) (hn : n < 0 ∨ 1125899906842624 < n) (w : World) :
    Calls Try.prog 16 #[.int .u32 a, .int .u32 b, .int .i64 n] w fun e w' => e = .returned (.int .u32 0) ∧ w = w' := by
  go_enter Try.func16, Try.ntmps16
  go_wp2
  all_goals go_ret
  all_goals exact ⟨rfl, rfl⟩
end Go.Proofs.Ytheoklpgnchmcaa
