/-
  Plain mathematics: the product as a product of polynomials over the field with two elements, reduced afterwards.
-/
import Derived.Test.YtbkjocmldeagdaaGMath
namespace Go.Proofs.Ytbkjocmldeagdaa
/-- the product of the polynomials, the lowest i digits of y taken -/
def clP (x y : Nat) : Nat → Nat
  | 0 => 0
  | i + 1 => if y / 2 ^ i % 2 = 1 then clP x y i ^^^ (x * 2 ^ i) else clP x y i
/-- one step of the reduction -/
def redS (p i : Nat) : Nat := if p / 2 ^ i % 2 = 1 then p ^^^ (285 * 2 ^ (i - 8)) else p
/-- k steps, from the digit 15 down -/
def redN (p : Nat) : Nat → Nat
  | 0 => p
  | k + 1 => redS (redN p k) (15 - k)
theorem bit_xor (p q i : Nat) : (p ^^^ q) / 2 ^ i % 2 = (p / 2 ^ i % 2 + q / 2 ^ i % 2) % 2 := by
  have h : ∀ n, n / 2 ^ i % 2 = (n.testBit i).toNat := fun n => by
    rw [Nat.testBit_eq_decide_div_mod_eq]
    by_cases h : n / 2 ^ i % 2 = 1
    · simp [h]
    · have : n / 2 ^ i % 2 = 0 := by omega
      simp [this]
  rw [h, h, h, Nat.testBit_xor]
  cases p.testBit i <;> cases q.testBit i <;> rfl
theorem redS_xor (p q i : Nat) : redS (p ^^^ q) i = redS p i ^^^ redS q i := by
  unfold redS
  rw [bit_xor]
  rcases (show p / 2 ^ i % 2 = 0 ∨ p / 2 ^ i % 2 = 1 by omega) with h1 | h1
  · rcases (show q / 2 ^ i % 2 = 0 ∨ q / 2 ^ i % 2 = 1 by omega) with h2 | h2
    · rw [h1, h2, if_neg (by decide), if_neg (by decide), if_neg (by decide)]
    · rw [h1, h2, if_pos (by decide), if_neg (by decide), if_pos rfl, Nat.xor_assoc]
  · rcases (show q / 2 ^ i % 2 = 0 ∨ q / 2 ^ i % 2 = 1 by omega) with h2 | h2
    · rw [h1, h2, if_pos (by decide), if_pos rfl, if_neg (by decide), Nat.xor_assoc, Nat.xor_assoc, Nat.xor_comm q]
    · rw [h1, h2, if_neg (by decide), if_pos rfl, if_pos rfl, show p ^^^ 285 * 2 ^ (i - 8) ^^^ (q ^^^ 285 * 2 ^ (i - 8)) = p ^^^ q ^^^ (285 * 2 ^ (i - 8) ^^^ 285 * 2 ^ (i - 8)) by ac_rfl, Nat.xor_self, Nat.xor_zero]
theorem redN_xor (p q k : Nat) : redN (p ^^^ q) k = redN p k ^^^ redN q k := by
  induction k with
  | zero => rfl
  | succ k ih => simp only [redN, ih, redS_xor]
theorem redN_zero (k : Nat) : redN 0 k = 0 := by
  have := redN_xor 0 0 k
  rw [Nat.xor_self] at this
  rw [this, Nat.xor_self]
/-- j doublings -/
def dblN : Nat → UInt8 → UInt8
  | 0, a => a
  | j + 1, a => dblU (dblN j a)
theorem dblN_dbl (j : Nat) (a : UInt8) : dblN j (dblU a) = dblN (j + 1) a := by
  induction j with
  | zero => rfl
  | succ j ih => show dblU (dblN j (dblU a)) = _; rw [ih]; rfl
theorem red_shift : ∀ a : Fin 256, ∀ j : Fin 8, redN (a.val * 2 ^ j.val) 8 = (dblN j.val (UInt8.ofNat a.val)).toNat := by decide +kernel
/-- the sum of the doublings over the lowest i digits -/
def sumL (a : UInt8) (y : Nat) : Nat → UInt8
  | 0 => 0
  | i + 1 => if y / 2 ^ i % 2 = 1 then sumL a y i ^^^ dblN i a else sumL a y i
theorem sumL_first (a : UInt8) (y n : Nat) : sumL a y (n + 1) = if y % 2 = 1 then a ^^^ sumL (dblU a) (y / 2) n else sumL (dblU a) (y / 2) n := by
  induction n with
  | zero =>
    show (if y / 2 ^ 0 % 2 = 1 then (0 : UInt8) ^^^ a else 0) = if y % 2 = 1 then a ^^^ 0 else 0
    rw [Nat.pow_zero, Nat.div_one, UInt8.zero_xor, UInt8.xor_zero]
  | succ n ih =>
    have e : y / 2 ^ (n + 1) = y / 2 / 2 ^ n := by rw [Nat.div_div_eq_div_mul, Nat.pow_succ, Nat.mul_comm]
    show (if y / 2 ^ (n + 1) % 2 = 1 then sumL a y (n + 1) ^^^ dblN (n + 1) a else sumL a y (n + 1)) = if y % 2 = 1 then a ^^^ (if y / 2 / 2 ^ n % 2 = 1 then sumL (dblU a) (y / 2) n ^^^ dblN n (dblU a) else sumL (dblU a) (y / 2) n) else if y / 2 / 2 ^ n % 2 = 1 then sumL (dblU a) (y / 2) n ^^^ dblN n (dblU a) else sumL (dblU a) (y / 2) n
    rw [ih, e, dblN_dbl]
    by_cases h1 : y % 2 = 1 <;> by_cases h2 : y / 2 / 2 ^ n % 2 = 1 <;> simp only [h1, h2, if_true, if_false]
    rw [UInt8.xor_assoc]
theorem sumL_low (a : UInt8) (y n : Nat) : sumL a y n = lowU a y n := by
  induction n generalizing a y with
  | zero => rfl
  | succ n ih => rw [sumL_first, ih]; rfl
theorem red_part (a b : UInt8) (i : Nat) (hi : i ≤ 8) : redN (clP a.toNat b.toNat i) 8 = (sumL a b.toNat i).toNat := by
  induction i with
  | zero => exact redN_zero 8
  | succ i ih =>
    have h := red_shift ⟨a.toNat, a.toNat_lt⟩ ⟨i, by omega⟩
    rw [show UInt8.ofNat a.toNat = a from UInt8.ofNat_toNat] at h
    simp only [clP, sumL]
    split
    · rw [redN_xor, ih (by omega), UInt8.toNat_xor, ← h]
    · exact ih (by omega)
/-- the reduced product of the polynomials is the product -/
theorem red_mul (a b : UInt8) : redN (clP a.toNat b.toNat 8) 8 = (mulU a b).toNat := by
  rw [red_part a b 8 (Nat.le_refl _), sumL_low]
  rfl
theorem clP_lt (x y i : Nat) (hx : x < 256) : clP x y i < 2 ^ (8 + i) := by
  induction i with
  | zero => show (0 : Nat) < _; decide
  | succ i ih =>
    have h1 : clP x y i < 2 ^ (8 + (i + 1)) := Nat.lt_trans ih (Nat.pow_lt_pow_right (by decide) (by omega))
    simp only [clP]
    split
    · refine Nat.xor_lt_two_pow h1 ?_
      rw [show 8 + (i + 1) = 8 + 1 + i by omega, Nat.pow_add]
      exact Nat.mul_lt_mul_of_pos_right (by omega) (Nat.two_pow_pos i)
    · exact h1
theorem redS_lt (p i : Nat) (hi : i ≤ 15) (hp : p < 65536) : redS p i < 65536 := by
  unfold redS
  split
  · refine Nat.xor_lt_two_pow (n := 16) hp ?_
    have : 2 ^ (i - 8) ≤ 2 ^ 7 := Nat.pow_le_pow_right (by decide) (by omega)
    omega
  · exact hp
theorem redN_lt (p k : Nat) (hp : p < 65536) : redN p k < 65536 := by
  induction k with
  | zero => exact hp
  | succ k ih => exact redS_lt _ _ (by omega) ih
end Go.Proofs.Ytbkjocmldeagdaa
