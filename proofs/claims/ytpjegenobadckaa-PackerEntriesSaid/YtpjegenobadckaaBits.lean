/-
  Plain mathematics of CRC-32C over 32-bit words, without the program: the step of a register, its linearity, and the numbers that stand for words.
-/
namespace Go.Proofs.Ytpjegenobadckaa
/-- the number that stands for a word; kept closed, so that no rewriting opens it -/
@[irreducible] def iv (u : BitVec 32) : Int := (u.toNat : Int)
theorem iv_lo (u : BitVec 32) : 0 ≤ iv u := by unfold iv; omega
theorem iv_hi (u : BitVec 32) : iv u < 4294967296 := by unfold iv; have := u.isLt; omega
theorem iv_hi' (u : BitVec 32) : iv u ≤ 4294967295 := by have := iv_hi u; omega
theorem iv_inj {u v : BitVec 32} (h : iv u = iv v) : u = v := by unfold iv at h; exact BitVec.eq_of_toNat_eq (by omega)
theorem exists_iv (x : Int) (h0 : 0 ≤ x) (h1 : x < 4294967296) : ∃ u, x = iv u := by
  refine ⟨BitVec.ofNat 32 x.toNat, ?_⟩
  unfold iv
  rw [BitVec.toNat_ofNat, Nat.mod_eq_of_lt (by omega)]
  omega

theorem iv_ofNat (n : Nat) (h : n < 4294967296) : iv (BitVec.ofNat 32 n) = (n : Int) := by unfold iv; rw [BitVec.toNat_ofNat, Nat.mod_eq_of_lt (by omega)]
theorem iv_mk (n : Nat) (x : Int) (hx : x = (n : Int)) (h : n < 4294967296) : x = iv (BitVec.ofNat 32 n) := by rw [iv_ofNat n h]; exact hx
theorem iv_shr (u : BitVec 32) (k : Nat) : iv (u >>> k) = iv u / (2 ^ k : Nat) := by
  unfold iv; rw [BitVec.toNat_ushiftRight, Nat.shiftRight_eq_div_pow, Int.natCast_ediv]
theorem iv_shr1 (u : BitVec 32) : iv u / (2 : Int) = iv (u >>> 1) := (iv_shr u 1).symm
theorem iv_shr8 (u : BitVec 32) : iv u / (256 : Int) = iv (u >>> 8) := (iv_shr u 8).symm
theorem getLsbD_iv (u : BitVec 32) (k : Nat) : u.getLsbD k = decide (iv u / (2 ^ k : Nat) % 2 = 1) := by
  unfold iv
  rw [BitVec.getLsbD, Nat.testBit_eq_decide_div_mod_eq]
  congr 1
  rw [← Int.natCast_ediv]
  apply propext
  constructor <;> intro h <;> omega

/-- one step of a register -/
def stepB (r : BitVec 32) : BitVec 32 := if r.getLsbD 0 then (r >>> 1) ^^^ 2197175160#32 else r >>> 1
/-- n steps -/
def stepsB : Nat → BitVec 32 → BitVec 32
  | 0, r => r
  | n + 1, r => stepsB n (stepB r)
theorem stepsB_succ' (n : Nat) (r : BitVec 32) : stepsB (n + 1) r = stepB (stepsB n r) := by
  induction n generalizing r with
  | zero => rfl
  | succ n ih => exact ih (stepB r)
theorem stepsB_add (m n : Nat) (r : BitVec 32) : stepsB (m + n) r = stepsB m (stepsB n r) := by
  induction n generalizing r with
  | zero => rfl
  | succ n ih => exact ih (stepB r)
theorem stepB_xor (a b : BitVec 32) : stepB (a ^^^ b) = stepB a ^^^ stepB b := by
  unfold stepB
  simp only [BitVec.getLsbD_xor, BitVec.ushiftRight_xor_distrib]
  cases a.getLsbD 0 <;> cases b.getLsbD 0 <;> simp only [Bool.xor_false, Bool.xor_true, Bool.not_true, Bool.not_false, Bool.false_eq_true, if_true, if_false]
  · ac_rfl
  · ac_rfl
  · generalize a >>> 1 = x
    generalize b >>> 1 = y
    rw [show x ^^^ 2197175160#32 ^^^ (y ^^^ 2197175160#32) = (x ^^^ y) ^^^ (2197175160#32 ^^^ 2197175160#32) by ac_rfl]
    simp
theorem stepsB_xor (n : Nat) (a b : BitVec 32) : stepsB n (a ^^^ b) = stepsB n a ^^^ stepsB n b := by
  induction n generalizing a b with
  | zero => rfl
  | succ n ih => show stepsB n (stepB (a ^^^ b)) = _; rw [stepB_xor]; exact ih _ _
theorem stepB_zero : stepB 0#32 = 0#32 := by decide
theorem stepsB_zero (n : Nat) : stepsB n 0#32 = 0#32 := by
  induction n with
  | zero => rfl
  | succ n ih => show stepsB n (stepB 0#32) = _; rw [stepB_zero]; exact ih

theorem iv_shrk (u : BitVec 32) (k : Nat) : iv u / (2 : Int) ^ k = iv (u >>> k) := by rw [iv_shr]; norm_cast
theorem lsb_iv (u : BitVec 32) : iv u % 2 = if u.getLsbD 0 then 1 else 0 := by
  have := iv_lo u
  rw [getLsbD_iv]
  simp only [Nat.pow_zero]
  by_cases h : iv u % 2 = 1
  · rw [if_pos (by simp; omega), h]
  · rw [if_neg (by simp; omega)]; omega

/-- the product's first k members: the sum of the k-th steps of b over the digits of a -/
def prodB (a b : BitVec 32) : Nat → BitVec 32
  | 0 => 0#32
  | k + 1 => if a.getLsbD (31 - k) then prodB a b k ^^^ stepsB k b else prodB a b k
def mulB (a b : BitVec 32) : BitVec 32 := prodB a b 32
theorem prodB_step (a b : BitVec 32) (k : Nat) : prodB a (stepB b) k = stepB (prodB a b k) := by
  induction k with
  | zero => show 0#32 = stepB 0#32; rw [stepB_zero]
  | succ k ih =>
    simp only [prodB]
    cases a.getLsbD (31 - k)
    · simpa using ih
    · simp only [if_true, ih, stepB_xor]
      rw [← stepsB_succ' k b]
      rfl
theorem mulB_steps (a b : BitVec 32) (n : Nat) : mulB a (stepsB n b) = stepsB n (mulB a b) := by
  induction n generalizing b with
  | zero => rfl
  | succ n ih =>
    show mulB a (stepsB n (stepB b)) = stepsB n (stepB (mulB a b))
    rw [ih, show mulB a (stepB b) = stepB (mulB a b) from prodB_step a b 32]
/-- the unit: the word that stands for the power 0 -/
def oneB : BitVec 32 := 2147483648#32
theorem steps_one (k : Nat) (h : k < 32) : stepsB k oneB = BitVec.twoPow 32 (31 - k) := by
  have : ∀ k : Fin 32, stepsB k.val oneB = BitVec.twoPow 32 (31 - k.val) := by decide +kernel
  exact this ⟨k, h⟩
theorem prodB_one (a : BitVec 32) (k : Nat) (h : k ≤ 32) : ∀ i, i < 32 → (prodB a oneB k).getLsbD i = (decide (32 - k ≤ i) && a.getLsbD i) := by
  induction k with
  | zero => intro i hi; simp [prodB]; omega
  | succ k ih =>
    intro i hi
    have ih' := ih (by omega) i hi
    simp only [prodB]
    have e : stepsB k oneB = BitVec.twoPow 32 (31 - k) := steps_one k (by omega)
    by_cases hb : a.getLsbD (31 - k)
    · rw [if_pos hb, BitVec.getLsbD_xor, ih', e, BitVec.getLsbD_twoPow]
      by_cases hi2 : i = 31 - k
      · subst hi2
        have h1 : ¬ (32 - k ≤ 31 - k) := by omega
        simp [h1, hb]
        omega
      · have h3 : (31 - k = i) = False := by simp; omega
        rw [show decide (32 - (k + 1) ≤ i) = decide (32 - k ≤ i) from by rw [decide_eq_decide]; omega]
        simp [h3]
    · rw [if_neg hb, ih']
      by_cases hi2 : i = 31 - k
      · subst hi2
        simp [hb]
      · rw [show decide (32 - (k + 1) ≤ i) = decide (32 - k ≤ i) from by rw [decide_eq_decide]; omega]
theorem mulB_one (a : BitVec 32) : mulB a oneB = a := by
  apply BitVec.eq_of_getLsbD_eq
  intro i hi
  rw [show mulB a oneB = prodB a oneB 32 from rfl, prodB_one a 32 (by omega) i hi]
  simp
/-- multiplying by the m-th power is m steps -/
theorem mulB_pow (a : BitVec 32) (m : Nat) : mulB a (stepsB m oneB) = stepsB m a := by rw [mulB_steps, mulB_one]

/-- the register after a byte -/
def afterB (r x : BitVec 32) : BitVec 32 := stepsB 8 (r ^^^ x)
theorem stepsB_shift (n : Nat) (h : BitVec 32) (hz : ∀ i, i < n → h.getLsbD i = false) : stepsB n h = h >>> n := by
  induction n generalizing h with
  | zero => simp [stepsB]
  | succ n ih =>
    show stepsB n (stepB h) = _
    have e : stepB h = h >>> 1 := by
      unfold stepB
      rw [if_neg (by rw [hz 0 (by omega)]; decide)]
    rw [e, ih]
    · rw [← BitVec.shiftRight_add, Nat.add_comm]
    · intro i hi
      rw [BitVec.getLsbD_ushiftRight]
      exact hz _ (by omega)
theorem split_low (y : BitVec 32) : y = (y &&& 4294967040#32) ^^^ (y &&& 255#32) := by
  apply BitVec.eq_of_getLsbD_eq
  intro i hi
  have hm : ∀ j : Fin 32, (4294967040#32).getLsbD j.val = !(255#32).getLsbD j.val := by decide
  have hm' := hm ⟨i, hi⟩
  simp only at hm'
  rw [BitVec.getLsbD_xor, BitVec.getLsbD_and, BitVec.getLsbD_and, hm']
  cases y.getLsbD i <;> cases (255#32).getLsbD i <;> rfl
theorem steps8 (y : BitVec 32) : stepsB 8 y = (y >>> 8) ^^^ stepsB 8 (y &&& 255#32) := by
  have e : stepsB 8 (y &&& 4294967040#32) = (y &&& 4294967040#32) >>> 8 := by
    refine stepsB_shift 8 _ fun i hi => ?_
    rw [BitVec.getLsbD_and]
    have : (4294967040#32).getLsbD i = false := by
      have : ∀ j : Fin 8, (4294967040#32).getLsbD j.val = false := by decide
      exact this ⟨i, hi⟩
    rw [this, Bool.and_false]
  have e2 : (y &&& 4294967040#32) >>> 8 = y >>> 8 := by
    rw [BitVec.ushiftRight_and_distrib]
    have h2 : (y >>> 8) = (y >>> 8) &&& 16777215#32 := by
      apply BitVec.eq_of_toNat_eq
      rw [BitVec.toNat_and, BitVec.toNat_ushiftRight]
      show _ = _ &&& (2 ^ 24 - 1)
      rw [Nat.and_two_pow_sub_one_eq_mod, Nat.shiftRight_eq_div_pow, Nat.mod_eq_of_lt]
      have := y.isLt
      omega
    exact h2.symm
  conv => lhs; rw [split_low y, stepsB_xor, e, e2]

/-- the register after the bytes of a list -/
def regB (r : BitVec 32) (l : List (BitVec 32)) : BitVec 32 := l.foldl afterB r
theorem regB_take (r : BitVec 32) (l : List (BitVec 32)) (k : Nat) (h : k < l.length) : regB r (l.take (k + 1)) = afterB (regB r (l.take k)) (l.getD k 0#32) := by
  unfold regB
  rw [List.take_succ_eq_append_getElem h, List.foldl_append]
  simp [h]
/-- the checksum that continues another one -/
def updB (s : BitVec 32) (l : List (BitVec 32)) : BitVec 32 := ~~~ (regB (~~~ s) l)
end Go.Proofs.Ytpjegenobadckaa
