/-
  Plain mathematics of a linear operation that is given by its values for the 32 single bits.
-/
import Derived.Test.YtheoklpgnchmcaaTab
namespace Go.Proofs.Ytheoklpgnchmcaa

/-- 32 words as an array's cells -/
def row32 (M : Nat → BitVec 32) : List Value := (List.range 32).map fun i => .int .u32 (iv (M i))
theorem row32_length (M : Nat → BitVec 32) : (row32 M).length = 32 := by simp [row32]
theorem row32_get (M : Nat → BitVec 32) (j : Nat) (h : j < 32) : (row32 M)[j]? = some (.int .u32 (iv (M j))) := by simp [row32, h]
theorem row32_congr (M M' : Nat → BitVec 32) (h : ∀ i, i < 32 → M i = M' i) : row32 M = row32 M' := by
  unfold row32
  apply List.map_congr_left
  intro i hi
  rw [h i (List.mem_range.1 hi)]
theorem row32_set (M : Nat → BitVec 32) (j : Nat) (v : BitVec 32) : (row32 M).set j (.int .u32 (iv v)) = row32 (fun i => if i = j then v else M i) := by
  apply List.ext_getElem?
  intro i
  by_cases hi : i < 32
  · rw [row32_get _ _ hi, List.getElem?_set]
    by_cases hj : j = i
    · subst hj
      simp [row32_length, hi]
    · rw [if_neg hj, row32_get _ _ hi, if_neg (fun e => hj e.symm)]
  · rw [List.getElem?_eq_none (by simp [row32_length]; omega), List.getElem?_eq_none (by simp [row32_length]; omega)]
theorem row32_one (M : Nat → BitVec 32) : (row32 M).toArray.all (·.oneCell') = true := by
  rw [Array.all_eq_true]
  intro i hi
  simp [row32, Value.oneCell']

/-- the sum of the first k values over the digits of v -/
def apB (M : Nat → BitVec 32) (v : BitVec 32) : Nat → BitVec 32
  | 0 => 0#32
  | k + 1 => if v.getLsbD k then apB M v k ^^^ M k else apB M v k
def bitsB (v : BitVec 32) : Nat → BitVec 32
  | 0 => 0#32
  | k + 1 => if v.getLsbD k then bitsB v k ^^^ BitVec.twoPow 32 k else bitsB v k
theorem bitsB_get (v : BitVec 32) (k : Nat) (h : k ≤ 32) : ∀ i, i < 32 → (bitsB v k).getLsbD i = (decide (i < k) && v.getLsbD i) := by
  induction k with
  | zero => intro i hi; simp [bitsB]
  | succ k ih =>
    intro i hi
    have ih' := ih (by omega) i hi
    simp only [bitsB]
    by_cases hb : v.getLsbD k
    · rw [if_pos hb, BitVec.getLsbD_xor, ih', BitVec.getLsbD_twoPow]
      by_cases hi2 : i = k
      · subst hi2
        simp [hb]
        omega
      · rw [show decide (i < k + 1) = decide (i < k) from by rw [decide_eq_decide]; omega]
        have h3 : (k = i) = False := by simp; omega
        simp [h3]
    · rw [if_neg hb, ih']
      by_cases hi2 : i = k
      · subst hi2
        simp [hb]
      · rw [show decide (i < k + 1) = decide (i < k) from by rw [decide_eq_decide]; omega]
theorem bitsB_all (v : BitVec 32) : bitsB v 32 = v := by
  apply BitVec.eq_of_getLsbD_eq
  intro i hi
  rw [bitsB_get v 32 (by omega) i hi]
  simp [hi]
/-- the values of n steps for the single bits -/
def stepTab (n i : Nat) : BitVec 32 := stepsB n (BitVec.twoPow 32 i)
theorem apB_step (n : Nat) (v : BitVec 32) (k : Nat) : apB (stepTab n) v k = stepsB n (bitsB v k) := by
  induction k with
  | zero => show 0#32 = stepsB n 0#32; rw [stepsB_zero]
  | succ k ih =>
    simp only [apB, bitsB]
    by_cases hb : v.getLsbD k
    · rw [if_pos hb, if_pos hb, ih, stepsB_xor]
      rfl
    · rw [if_neg hb, if_neg hb, ih]
theorem apB_all (n : Nat) (v : BitVec 32) : apB (stepTab n) v 32 = stepsB n v := by rw [apB_step, bitsB_all]
theorem twoPow_iv (k : Nat) (h : k < 32) : (2 : Int) ^ k % 4294967296 = iv (BitVec.twoPow 32 k) := by
  have hk : (2 : Nat) ^ k < 2 ^ 32 := Nat.pow_lt_pow_right (by decide) h
  unfold iv
  rw [BitVec.toNat_twoPow, Nat.mod_eq_of_lt hk]
  have e : ((2 : Int) ^ k) = ((2 ^ k : Nat) : Int) := by norm_cast
  rw [e]
  generalize (2 : Nat) ^ k = n at hk ⊢
  omega
end Go.Proofs.Ytheoklpgnchmcaa
