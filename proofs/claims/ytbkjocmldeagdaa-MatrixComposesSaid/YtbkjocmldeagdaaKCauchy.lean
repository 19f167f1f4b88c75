/-
  Plain mathematics of Cauchy matrices over the field with 256 elements, without the program: their rows are independent, so each of their minors has an inverse.
-/
import Derived.Test.YtbkjocmldeagdaaKSpan
namespace Go.Proofs.Ytbkjocmldeagdaa
/-- a polynomial of fewer than n + 1 coefficients -/
def Pol (n : Nat) (f : UInt8 → UInt8) : Prop := ∃ l : List UInt8, l.length ≤ n ∧ ∀ z, f z = evalU l z
/-- the sum of two polynomials -/
def addL : List UInt8 → List UInt8 → List UInt8
  | [], l => l
  | l, [] => l
  | a :: l, b :: m => (a ^^^ b) :: addL l m
theorem addL_eval (l m : List UInt8) (z : UInt8) : evalU (addL l m) z = evalU l z ^^^ evalU m z := by
  induction l generalizing m with
  | nil => show evalU m z = 0 ^^^ evalU m z; rw [UInt8.zero_xor]
  | cons a l ih =>
    cases m with
    | nil => show evalU (a :: l) z = evalU (a :: l) z ^^^ 0; rw [UInt8.xor_zero]
    | cons b m =>
      show mulU (evalU (addL l m) z) z ^^^ (a ^^^ b) = mulU (evalU l z) z ^^^ a ^^^ (mulU (evalU m z) z ^^^ b)
      rw [ih, xor_mulU]
      ac_rfl
theorem addL_length (l m : List UInt8) (n : Nat) (hl : l.length ≤ n) (hm : m.length ≤ n) : (addL l m).length ≤ n := by
  induction l generalizing m n with
  | nil => exact hm
  | cons a l ih =>
    cases m with
    | nil => exact hl
    | cons b m =>
      simp only [addL, List.length_cons] at hl hm ⊢
      have := ih m (n - 1) (by omega) (by omega)
      omega
theorem evalU_map (a : UInt8) (l : List UInt8) (z : UInt8) : evalU (l.map (mulU a)) z = mulU a (evalU l z) := by
  induction l with
  | nil => exact (mulU_zero a).symm
  | cons c l ih =>
    show mulU (evalU (l.map (mulU a)) z) z ^^^ mulU a c = mulU a (mulU (evalU l z) z ^^^ c)
    rw [ih, mulU_xor, mulU_assoc]
theorem Pol.add {n : Nat} {f g : UInt8 → UInt8} (hf : Pol n f) (hg : Pol n g) : Pol n fun z => f z ^^^ g z := by
  obtain ⟨l, h1, h2⟩ := hf
  obtain ⟨m, h3, h4⟩ := hg
  exact ⟨addL l m, addL_length l m n h1 h3, fun z => by show f z ^^^ g z = _; rw [addL_eval, h2, h4]⟩
theorem Pol.mul {n : Nat} {f : UInt8 → UInt8} (hf : Pol n f) (a : UInt8) : Pol n fun z => mulU a (f z) := by
  obtain ⟨l, h1, h2⟩ := hf
  exact ⟨l.map (mulU a), by rw [List.length_map]; exact h1, fun z => by show mulU a (f z) = _; rw [evalU_map, h2]⟩
theorem Pol.less {m n : Nat} {f : UInt8 → UInt8} (hf : Pol m f) (h : m ≤ n) : Pol n f := by
  obtain ⟨l, h1, h2⟩ := hf
  exact ⟨l, by omega, h2⟩
theorem Pol.shift {n : Nat} {f : UInt8 → UInt8} (hf : Pol n f) (c : UInt8) : Pol (n + 1) fun z => mulU (f z) (c ^^^ z) := by
  have h1 : Pol (n + 1) fun z => mulU (f z) z := by
    obtain ⟨l, h1, h2⟩ := hf
    exact ⟨0 :: l, by rw [List.length_cons]; omega, fun z => by show mulU (f z) z = mulU (evalU l z) z ^^^ 0; rw [UInt8.xor_zero, h2]⟩
  have h2 := h1.add ((hf.mul c).less (Nat.le_succ n))
  obtain ⟨l, h3, h4⟩ := h2
  refine ⟨l, h3, fun z => ?_⟩
  rw [← h4 z]
  show mulU (f z) (c ^^^ z) = mulU (f z) z ^^^ mulU c (f z)
  rw [mulU_xor, mulU_comm c, UInt8.xor_comm]
theorem Pol.sum (n m : Nat) (f : Nat → UInt8 → UInt8) (hf : ∀ i, i < m → Pol n (f i)) : Pol n fun z => sumU m fun i => f i z := by
  induction m with
  | zero => exact ⟨[], Nat.zero_le _, fun _ => rfl⟩
  | succ m ih => exact (ih fun i hi => hf i (by omega)).add (hf m (by omega))
/-- division by a root's factor -/
theorem divide (l : List UInt8) (r : UInt8) : ∃ q : List UInt8, q.length ≤ l.length - 1 ∧ ∀ z, evalU l z = mulU (evalU q z) (z ^^^ r) ^^^ evalU l r := by
  induction l with
  | nil => exact ⟨[], Nat.zero_le _, fun z => by show (0 : UInt8) = mulU 0 _ ^^^ 0; rw [zero_mulU]; exact (xor_self8 0).symm⟩
  | cons c t ih =>
    cases t with
    | nil => exact ⟨[], Nat.zero_le _, fun z => by rw [evalU_one, evalU_one]; show c = mulU 0 _ ^^^ c; rw [zero_mulU, UInt8.zero_xor]⟩
    | cons c2 t2 =>
      obtain ⟨q, h1, h2⟩ := ih
      refine ⟨evalU (c2 :: t2) r :: q, by simp only [List.length_cons] at h1 ⊢; omega, fun z => ?_⟩
      generalize c2 :: t2 = t at h2 ⊢
      show mulU (evalU t z) z ^^^ c = mulU (mulU (evalU q z) z ^^^ evalU t r) (z ^^^ r) ^^^ (mulU (evalU t r) r ^^^ c)
      rw [h2 z]
      generalize evalU q z = Q
      generalize evalU t r = T
      rw [xor_mulU, xor_mulU, mulU_xor T z r, mulU_assoc Q, mulU_assoc Q, mulU_comm (z ^^^ r) z]
      rw [show mulU Q (mulU z (z ^^^ r)) ^^^ (mulU T z ^^^ mulU T r) ^^^ (mulU T r ^^^ c) = mulU Q (mulU z (z ^^^ r)) ^^^ mulU T z ^^^ c ^^^ (mulU T r ^^^ mulU T r) by ac_rfl, xor_self8, UInt8.xor_zero]
/-- a polynomial with as many different roots as coefficients is 0 -/
theorem roots_zero (n : Nat) (f : UInt8 → UInt8) (hf : Pol n f) (y : Nat → UInt8) (hy : ∀ i j, i < j → j < n → y i ≠ y j) (h0 : ∀ j, j < n → f (y j) = 0) (z : UInt8) : f z = 0 := by
  induction n generalizing f z with
  | zero =>
    obtain ⟨l, h1, h2⟩ := hf
    have hl : l = [] := List.eq_nil_of_length_eq_zero (by omega)
    rw [h2, hl]
    rfl
  | succ n ih =>
    obtain ⟨l, h1, h2⟩ := hf
    obtain ⟨q, h3, h4⟩ := divide l (y n)
    have hz : evalU l (y n) = 0 := by rw [← h2]; exact h0 n (by omega)
    have hfz : ∀ z, f z = mulU (evalU q z) (z ^^^ y n) := fun z => by rw [h2, h4, hz, UInt8.xor_zero]
    have hq : ∀ z, evalU q z = 0 := fun z => ih (evalU q) ⟨q, by omega, fun _ => rfl⟩ (fun i j hi hj => hy i j hi (by omega)) (fun j hj => by
      have h5 := h0 j (by omega)
      rw [hfz] at h5
      rcases mul_eq_zero _ _ h5 with h6 | h6
      · exact h6
      · exact absurd (xor_self_eq h6) (hy j n hj (by omega))) z
    rw [hfz, hq, zero_mulU]

/-- the product of x k + z over all k below n other than i -/
def prX (x : Nat → UInt8) : Nat → Nat → UInt8 → UInt8
  | 0, _, _ => 1
  | n + 1, i, z => if n = i then prX x n i z else mulU (prX x n i z) (x n ^^^ z)
theorem prX_pol (x : Nat → UInt8) (n i : Nat) : Pol (n + 1) (prX x n i) ∧ (i < n → Pol n (prX x n i)) := by
  induction n with
  | zero => exact ⟨⟨[1], Nat.le_refl _, fun z => (evalU_one 1 z).symm⟩, fun h => absurd h (Nat.not_lt_zero _)⟩
  | succ n ih =>
    by_cases e : n = i
    · have h1 : prX x (n + 1) i = prX x n i := funext fun z => if_pos e
      rw [h1]
      exact ⟨ih.1.less (by omega), fun _ => ih.1⟩
    · have h1 : prX x (n + 1) i = fun z => mulU (prX x n i z) (x n ^^^ z) := funext fun z => if_neg e
      rw [h1]
      exact ⟨ih.1.shift (x n), fun h => (ih.2 (by omega)).shift (x n)⟩
theorem prX_full (x : Nat → UInt8) (n i : Nat) (z : UInt8) (hi : i < n) : mulU (prX x n i z) (x i ^^^ z) = prX x n n z := by
  have aux : ∀ m, (m ≤ i → prX x m i z = prX x m n z) ∧ (i < m → m ≤ n → mulU (prX x m i z) (x i ^^^ z) = prX x m n z) := by
    intro m
    induction m with
    | zero => exact ⟨fun _ => rfl, fun h => absurd h (Nat.not_lt_zero _)⟩
    | succ m ih =>
      refine ⟨fun h => ?_, fun h1 h2 => ?_⟩
      · simp only [prX]
        rw [if_neg (by omega), if_neg (by omega), ih.1 (by omega)]
      · simp only [prX]
        rw [if_neg (show ¬ m = n by omega)]
        by_cases e : m = i
        · rw [if_pos e, ih.1 (by omega), e]
        · rw [if_neg e, ← ih.2 (by omega) (by omega), mulU_swap]
  exact (aux n).2 hi (Nat.le_refl _)
theorem prX_zero (x : Nat → UInt8) (n i t : Nat) (ht : t < n) (hne : i ≠ t) : prX x n i (x t) = 0 := by
  induction n with
  | zero => omega
  | succ n ih =>
    simp only [prX]
    by_cases e : n = t
    · subst e
      rw [if_neg (fun h => hne h.symm), xor_self8, mulU_zero]
    · rw [ih (by omega), zero_mulU]
      split <;> rfl
theorem prX_ne (x : Nat → UInt8) (n t : Nat) (z : UInt8) (h : ∀ k, k < n → k ≠ t → x k ≠ z) : prX x n t z ≠ 0 := by
  induction n with
  | zero => show (1 : UInt8) ≠ 0; decide
  | succ n ih =>
    simp only [prX]
    by_cases e : n = t
    · rw [if_pos e]; exact ih fun k hk => h k (by omega)
    · rw [if_neg e]
      intro h0
      rcases mul_eq_zero _ _ h0 with h1 | h1
      · exact ih (fun k hk => h k (by omega)) h1
      · exact h n (by omega) e (xor_self_eq h1)
/-- the rows of a square matrix of inverses of sums of different elements are independent -/
theorem cauchy_indep (n : Nat) (x y : Nat → UInt8) (hx : ∀ i j, i < j → j < n → x i ≠ x j) (hy : ∀ i j, i < j → j < n → y i ≠ y j) (hxy : ∀ i j, i < n → j < n → x i ≠ y j)
    (d : Nat → UInt8) (h : ∀ k, k < n → comb n d (fun i j => invU (x i ^^^ y j)) k = 0) : ∀ i, i < n → d i = 0 := by
  have hpol : Pol n fun z => sumU n fun i => mulU (d i) (prX x n i z) := Pol.sum n n _ fun i hi => ((prX_pol x n i).2 hi).mul (d i)
  have hval : ∀ j, j < n → (sumU n fun i => mulU (d i) (prX x n i (y j))) = 0 := fun j hj => by
    have e1 : (sumU n fun i => mulU (d i) (prX x n i (y j))) = sumU n fun i => mulU (prX x n n (y j)) (mulU (d i) (invU (x i ^^^ y j))) := sumU_congr _ _ _ fun i hi => by
      have hne : x i ^^^ y j ≠ 0 := fun h0 => hxy i j hi hj (xor_self_eq h0)
      have e2 : prX x n i (y j) = mulU (prX x n n (y j)) (invU (x i ^^^ y j)) := by
        rw [← prX_full x n i (y j) hi, mulU_assoc, mul_inv _ hne, mulU_one]
      rw [e2, ← mulU_assoc, mulU_comm (d i), mulU_assoc]
    rw [e1, sumU_mul]
    have := h j hj
    unfold comb at this
    rw [this, mulU_zero]
  have hzero := roots_zero n _ hpol y hy hval
  intro t ht
  have e3 : (sumU n fun i => mulU (d i) (prX x n i (x t))) = mulU (d t) (prX x n t (x t)) := sumU_one n t _ ht fun i _ hne => by rw [prX_zero x n i t ht hne, mulU_zero]
  have e4 := hzero (x t)
  rw [e3] at e4
  rcases mul_eq_zero _ _ e4 with h1 | h1
  · exact h1
  · refine absurd h1 (prX_ne x n t (x t) fun k hk hne => ?_)
    rcases Nat.lt_or_gt_of_ne hne with h' | h'
    · exact hx k t h' ht
    · exact fun e => hx t k h' hk e.symm
theorem cauchy_inv (n : Nat) (x y : Nat → UInt8) (hx : ∀ i j, i < j → j < n → x i ≠ x j) (hy : ∀ i j, i < j → j < n → y i ≠ y j) (hxy : ∀ i j, i < n → j < n → x i ≠ y j) : ∃ A, Inv n A fun i j => invU (x i ^^^ y j) :=
  inv_of_indep n _ fun d hd => cauchy_indep n x y hx hy hxy d hd
end Go.Proofs.Ytbkjocmldeagdaa
