/-
  Plain mathematics of a change within four bytes: its effect on the register, which is never none.
-/
import Derived.Test.YtheoklpgnchmcaaLawComb
namespace Go.Proofs.Ytheoklpgnchmcaa

theorem stepB_ne (v : BitVec 32) (h : stepB v = 0#32) : v = 0#32 := by
  unfold stepB at h
  have htop : (v >>> 1).getLsbD 31 = false := by
    rw [BitVec.getLsbD_ushiftRight]
    exact BitVec.getLsbD_of_ge v (1 + 31) (by decide)
  by_cases hb : v.getLsbD 0 = true
  · rw [if_pos hb] at h
    have h31 : (v >>> 1 ^^^ 2197175160#32).getLsbD 31 = (0#32).getLsbD 31 := by rw [h]
    rw [BitVec.getLsbD_xor, htop] at h31
    exact absurd h31 (by decide)
  · rw [if_neg hb] at h
    apply BitVec.eq_of_getLsbD_eq
    intro i hi
    cases i with
    | zero => simpa using hb
    | succ i =>
      have : (v >>> 1).getLsbD i = (0#32).getLsbD i := by rw [h]
      rw [BitVec.getLsbD_ushiftRight, Nat.add_comm] at this
      rw [this]
      simp
theorem stepsB_ne (n : Nat) (v : BitVec 32) (h : stepsB n v = 0#32) : v = 0#32 := by
  induction n generalizing v with
  | zero => exact h
  | succ n ih => exact stepB_ne v (ih (stepB v) h)
theorem regB_xor (a b : BitVec 32) (l : List (BitVec 32)) : regB (a ^^^ b) l = regB a l ^^^ stepsB (8 * l.length) b := by
  rw [regB_linear (a ^^^ b), regB_linear a, stepsB_xor]
  ac_rfl
theorem regB_set (l : List (BitVec 32)) (r d : BitVec 32) (j : Nat) (h : j < l.length) : regB r (l.set j (l.getD j 0#32 ^^^ d)) = regB r l ^^^ stepsB (8 * (l.length - j)) d := by
  induction l generalizing r j with
  | nil => simp at h
  | cons x l ih =>
    cases j with
    | zero =>
      show regB (afterB r (x ^^^ d)) l = regB (afterB r x) l ^^^ _
      have e : afterB r (x ^^^ d) = afterB r x ^^^ stepsB 8 d := by
        unfold afterB
        rw [← BitVec.xor_assoc, stepsB_xor]
      rw [e, regB_xor, ← stepsB_add]
      congr 2
    | succ j =>
      have h' : j < l.length := by simpa using h
      show regB (afterB r x) (l.set j (l.getD j 0#32 ^^^ d)) = regB (afterB r x) l ^^^ _
      rw [ih (afterB r x) j h']
      congr 3
      simp
/-- byte number k of the word u -/
def byteK (u : BitVec 32) (k : Nat) : BitVec 32 := (u >>> (8 * k)) &&& 255#32
theorem byteK_iv (u : BitVec 32) (k : Nat) : iv (byteK u k) = iv u / (2 : Int) ^ (8 * k) % 256 := by
  unfold byteK
  rw [iv_shrk]
  generalize u >>> (8 * k) = v
  unfold iv
  rw [BitVec.toNat_and, show (255#32).toNat = 2 ^ 8 - 1 from rfl, Nat.and_two_pow_sub_one_eq_mod]
  omega
theorem byteK_lt (u : BitVec 32) (k : Nat) : iv (byteK u k) < 256 := by rw [byteK_iv]; omega
theorem xor_lt (z y : BitVec 32) (hz : iv z < 256) (hy : iv y < 256) : iv (z ^^^ y) < 256 := by
  unfold iv at hz hy ⊢
  rw [BitVec.toNat_xor]
  have := Nat.xor_lt_two_pow (n := 8) (x := z.toNat) (y := y.toNat) (by omega) (by omega)
  omega
theorem bits_xor8 (z y : BitVec 32) (hz : iv z < 256) (hy : iv y < 256) : bits .xor .u8 (iv z) (iv y) = iv (z ^^^ y) := by
  have h0 := iv_lo z
  have h1 := iv_lo y
  rw [u8_xor _ _ h0 (by omega) h1 (by omega)]
  unfold iv
  rw [BitVec.toNat_xor]
  congr 1
theorem steps32 (u : BitVec 32) : stepsB 32 u = stepsB 8 (byteK u 3) ^^^ stepsB 16 (byteK u 2) ^^^ stepsB 24 (byteK u 1) ^^^ stepsB 32 (byteK u 0) := by
  have h0 : stepsB 8 u = (u >>> 8) ^^^ stepsB 8 (byteK u 0) := steps8 u
  have h1 : stepsB 8 (u >>> 8) = (u >>> 16) ^^^ stepsB 8 (byteK u 1) := by
    rw [steps8 (u >>> 8), ← BitVec.shiftRight_add]
    rfl
  have h2 : stepsB 8 (u >>> 16) = (u >>> 24) ^^^ stepsB 8 (byteK u 2) := by
    rw [steps8 (u >>> 16), ← BitVec.shiftRight_add]
    rfl
  have h3 : stepsB 8 (u >>> 24) = stepsB 8 (byteK u 3) := by
    have e : u >>> 24 >>> 8 = 0#32 := by
      rw [← BitVec.shiftRight_add]
      apply BitVec.eq_of_toNat_eq
      rw [BitVec.toNat_ushiftRight, Nat.shiftRight_eq_div_pow]
      have := u.isLt
      show u.toNat / 2 ^ 32 = 0
      omega
    rw [steps8 (u >>> 24), e, BitVec.zero_xor]
    rfl
  rw [show stepsB 32 u = stepsB 8 (stepsB 8 (stepsB 8 (stepsB 8 u))) by rw [← stepsB_add, ← stepsB_add, ← stepsB_add], h0]
  simp only [stepsB_xor, h1, h2, h3]
  simp only [← stepsB_add]
/-- the list after k bytes of the change -/
def chg (xs : List (BitVec 32)) (t : Nat) (u : BitVec 32) : Nat → List (BitVec 32)
  | 0 => xs
  | k + 1 => (chg xs t u k).set (t + k) ((chg xs t u k).getD (t + k) 0#32 ^^^ byteK u k)
theorem chg_zero (xs : List (BitVec 32)) (t : Nat) (u : BitVec 32) : chg xs t u 0 = xs := rfl
theorem chg_length (xs : List (BitVec 32)) (t : Nat) (u : BitVec 32) (k : Nat) : (chg xs t u k).length = xs.length := by
  induction k with
  | zero => rfl
  | succ k ih => simp [chg, ih]
theorem chg_lt (xs : List (BitVec 32)) (t : Nat) (u : BitVec 32) (k : Nat) (hb : ∀ j, j < xs.length → iv (xs.getD j 0#32) < 256) : ∀ j, j < (chg xs t u k).length → iv ((chg xs t u k).getD j 0#32) < 256 := by
  induction k with
  | zero => exact hb
  | succ k ih =>
    intro j hj
    have hj' : j < (chg xs t u k).length := by simpa [chg] using hj
    by_cases e : t + k = j
    · subst e
      have e2 : (chg xs t u (k + 1)).getD (t + k) 0#32 = (chg xs t u k).getD (t + k) 0#32 ^^^ byteK u k := by simp [chg, hj']
      rw [e2]
      exact xor_lt _ _ (ih _ hj') (byteK_lt u k)
    · have e2 : (chg xs t u (k + 1)).getD j 0#32 = (chg xs t u k).getD j 0#32 := by simp [chg, List.getElem?_set_ne e]
      rw [e2]
      exact ih j hj'
theorem chg_reg (xs : List (BitVec 32)) (t : Nat) (u r : BitVec 32) (h : t + 4 ≤ xs.length) : regB r (chg xs t u 4) = regB r xs ^^^ stepsB (8 * (xs.length - t)) u := by
  have step : ∀ k, k < 4 → regB r (chg xs t u (k + 1)) = regB r (chg xs t u k) ^^^ stepsB (8 * (xs.length - (t + k))) (byteK u k) := by
    intro k hk
    show regB r ((chg xs t u k).set (t + k) _) = _
    rw [regB_set _ _ _ _ (by rw [chg_length]; omega), chg_length]
  rw [step 3 (by omega), step 2 (by omega), step 1 (by omega), step 0 (by omega), show chg xs t u 0 = xs from rfl]
  obtain ⟨n, hn⟩ : ∃ n, xs.length = t + 4 + n := ⟨xs.length - (t + 4), by omega⟩
  rw [hn, show 8 * (t + 4 + n - (t + 3)) = 8 * n + 8 by omega, show 8 * (t + 4 + n - (t + 2)) = 8 * n + 16 by omega, show 8 * (t + 4 + n - (t + 1)) = 8 * n + 24 by omega,
    show 8 * (t + 4 + n - (t + 0)) = 8 * n + 32 by omega, show 8 * (t + 4 + n - t) = 8 * n + 32 by omega]
  rw [stepsB_add (8 * n) 32 u, steps32, stepsB_xor, stepsB_xor, stepsB_xor, ← stepsB_add, ← stepsB_add, ← stepsB_add, ← stepsB_add]
  ac_rfl
theorem chg_detected (xs : List (BitVec 32)) (t : Nat) (u : BitVec 32) (h : t + 4 ≤ xs.length) (hu : u ≠ 0#32) : updB 0#32 (chg xs t u 4) ≠ updB 0#32 xs := by
  intro e
  unfold updB at e
  rw [chg_reg xs t u _ h] at e
  have e2 : ∀ a b : BitVec 32, ~~~ (a ^^^ b) = ~~~ a → b = 0#32 := by
    intro a b hab
    have h1 : a ^^^ b = a := by
      have := congrArg (fun v => ~~~ v) hab
      simpa using this
    have h2 : a ^^^ (a ^^^ b) = a ^^^ a := by rw [h1]
    rw [← BitVec.xor_assoc, BitVec.xor_self, BitVec.zero_xor] at h2
    exact h2
  exact hu (stepsB_ne _ _ (e2 _ _ e))
end Go.Proofs.Ytheoklpgnchmcaa
