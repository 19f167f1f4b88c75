/-
  Plain mathematics of the field with 256 elements, without the program: doubling, products, powers of the generator, inverses.
  Plain mathematics of sums over the field with 256 elements, without the program: linear combinations; a homogeneous system with more unknowns than equations has a solution other than 0.
  Plain mathematics of matrices over the field with 256 elements, without the program: the first columns of the vectors that rows span, the rank, inverses.
  Plain mathematics of Cauchy matrices over the field with 256 elements, without the program: their rows are independent, so each of their minors has an inverse.
  Plain mathematics: the product as a product of polynomials over the field with two elements, reduced afterwards.
  Plain mathematics of elimination: what a round of the reduced form keeps; the rank and the inverse at its end.
  Matrices as lists of rows: products, vectors, the identity matrix, Cauchy matrices, their minors.
-/

namespace Go.Proofs.Ytinfjidclkgfnaa
theorem all_u8 {P : UInt8 → Prop} (h : ∀ i : Fin 256, P (UInt8.ofNat i.val)) (x : UInt8) : P x := by
  have := h ⟨x.toNat, x.toNat_lt⟩
  rwa [show UInt8.ofNat x.toNat = x from UInt8.ofNat_toNat] at this

/-- doubling: the product with the generator -/
def dblB (a : BitVec 8) : BitVec 8 := if a.msb then (a <<< 1) ^^^ 29#8 else a <<< 1
def dblU (a : UInt8) : UInt8 := ⟨dblB a.toBitVec⟩
theorem dblB_xor (a b : BitVec 8) : dblB (a ^^^ b) = dblB a ^^^ dblB b := by
  unfold dblB
  rw [BitVec.msb_xor, BitVec.shiftLeft_xor_distrib]
  generalize a <<< 1 = x
  generalize b <<< 1 = y
  cases a.msb <;> cases b.msb <;> simp only [Bool.xor_false, Bool.xor_true, Bool.not_true, Bool.not_false, Bool.false_eq_true, if_true, if_false]
  · ac_rfl
  · ac_rfl
  · rw [show x ^^^ 29#8 ^^^ (y ^^^ 29#8) = (x ^^^ y) ^^^ (29#8 ^^^ 29#8) by ac_rfl]
    simp
theorem dblU_xor (a b : UInt8) : dblU (a ^^^ b) = dblU a ^^^ dblU b := by
  apply UInt8.toBitVec_inj.1
  show dblB (a ^^^ b).toBitVec = _
  rw [UInt8.toBitVec_xor, dblB_xor]
  rfl
theorem dblU_zero : dblU 0 = 0 := by decide
theorem dbl_lo (a : UInt8) : a.toNat < 128 → (dblU a).toNat = 2 * a.toNat := all_u8 (P := fun a => a.toNat < 128 → (dblU a).toNat = 2 * a.toNat) (by decide +kernel) a
theorem dbl_hi (a : UInt8) : 128 ≤ a.toNat → (dblU a).toNat = (2 * a.toNat - 256) ^^^ 29 := all_u8 (P := fun a => 128 ≤ a.toNat → (dblU a).toNat = (2 * a.toNat - 256) ^^^ 29) (by decide +kernel) a
theorem dbl_hi' (a : UInt8) : 128 ≤ a.toNat → (dblU a).toNat = (2 * a.toNat) ^^^ 285 := all_u8 (P := fun a => 128 ≤ a.toNat → (dblU a).toNat = (2 * a.toNat) ^^^ 285) (by decide +kernel) a
theorem xor_self8 (a : UInt8) : a ^^^ a = 0 := UInt8.xor_self

/-- the sum of the doublings of a over the lowest n binary digits of y -/
def lowU (a : UInt8) (y : Nat) : Nat → UInt8
  | 0 => 0
  | n + 1 => if y % 2 = 1 then a ^^^ lowU (dblU a) (y / 2) n else lowU (dblU a) (y / 2) n
theorem lowU_xor (a b : UInt8) (y n : Nat) : lowU (a ^^^ b) y n = lowU a y n ^^^ lowU b y n := by
  induction n generalizing a b y with
  | zero => simp [lowU]
  | succ n ih =>
    simp only [lowU, dblU_xor, ih]
    split
    · ac_rfl
    · rfl
theorem lowU_dbl (a : UInt8) (y n : Nat) : lowU (dblU a) y n = dblU (lowU a y n) := by
  induction n generalizing a y with
  | zero => simp [lowU, dblU_zero]
  | succ n ih =>
    simp only [lowU]
    rw [ih (dblU a)]
    split
    · rw [dblU_xor]
    · rfl
theorem lowU_zero_right (a : UInt8) (n : Nat) : lowU a 0 n = 0 := by
  induction n generalizing a with
  | zero => rfl
  | succ n ih => simp [lowU, ih]
theorem lowU_zero_left (y n : Nat) : lowU 0 y n = 0 := by
  induction n generalizing y with
  | zero => rfl
  | succ n ih => simp [lowU, dblU_zero, ih]
theorem lowU_comm (x : UInt8) (y n z m : Nat) : lowU (lowU x y n) z m = lowU (lowU x z m) y n := by
  induction n generalizing x y with
  | zero => simp [lowU, lowU_zero_left]
  | succ n ih =>
    have e : lowU (dblU (lowU x z m)) (y / 2) n = lowU (lowU (dblU x) (y / 2) n) z m := by rw [ih, lowU_dbl x z m]
    simp only [lowU]
    split
    · rw [lowU_xor, e]
    · rw [e]
theorem lowU_top (a : UInt8) (b k : Nat) (hk : k < 8) :
    lowU a (b / 2 ^ (7 - k)) (k + 1) = if b / 2 ^ (7 - k) % 2 = 1 then dblU (lowU a (b / 2 ^ (8 - k)) k) ^^^ a else dblU (lowU a (b / 2 ^ (8 - k)) k) := by
  have e : b / 2 ^ (7 - k) / 2 = b / 2 ^ (8 - k) := by rw [Nat.div_div_eq_div_mul, ← Nat.pow_succ, show (7 - k).succ = 8 - k by omega]
  simp only [lowU, e, lowU_dbl]
  split
  · rw [UInt8.xor_comm]
  · rfl

/-- the product -/
def mulU (a b : UInt8) : UInt8 := lowU a b.toNat 8
theorem one_mulU (a : UInt8) : mulU 1 a = a := all_u8 (P := fun a => mulU 1 a = a) (by decide +kernel) a
theorem mulU_swap (x a b : UInt8) : mulU (mulU x a) b = mulU (mulU x b) a := lowU_comm x a.toNat 8 b.toNat 8
theorem mulU_comm (a b : UInt8) : mulU a b = mulU b a := by
  have := mulU_swap 1 a b
  rwa [one_mulU, one_mulU] at this
theorem mulU_assoc (a b c : UInt8) : mulU (mulU a b) c = mulU a (mulU b c) := by rw [mulU_comm a b, mulU_swap b a c, mulU_comm a]
theorem mulU_one (a : UInt8) : mulU a 1 = a := by rw [mulU_comm, one_mulU]
theorem zero_mulU (a : UInt8) : mulU 0 a = 0 := lowU_zero_left _ _
theorem mulU_zero (a : UInt8) : mulU a 0 = 0 := by rw [mulU_comm, zero_mulU]
theorem xor_mulU (a b c : UInt8) : mulU (a ^^^ b) c = mulU a c ^^^ mulU b c := lowU_xor a b _ _
theorem mulU_xor (a b c : UInt8) : mulU a (b ^^^ c) = mulU a b ^^^ mulU a c := by rw [mulU_comm, xor_mulU, mulU_comm b, mulU_comm c]
theorem dbl_mulU (a b : UInt8) : mulU (dblU a) b = dblU (mulU a b) := lowU_dbl a _ _
theorem mulU_dbl (a b : UInt8) : mulU a (dblU b) = dblU (mulU a b) := by rw [mulU_comm, dbl_mulU, mulU_comm]

/-- the powers of the generator -/
def gp : Nat → UInt8
  | 0 => 1
  | n + 1 => dblU (gp n)
theorem gp_add (i j : Nat) : gp (i + j) = mulU (gp i) (gp j) := by
  induction i with
  | zero => rw [Nat.zero_add]; show _ = mulU 1 _; rw [one_mulU]
  | succ i ih => rw [show i + 1 + j = (i + j) + 1 by omega]; show dblU (gp (i + j)) = mulU (dblU (gp i)) (gp j); rw [ih, dbl_mulU]
theorem gp_255 : gp 255 = 1 := by decide +kernel
theorem gp_mul_255 (k : Nat) : gp (255 * k) = 1 := by
  induction k with
  | zero => rfl
  | succ k ih => rw [Nat.mul_succ, gp_add, ih, gp_255, one_mulU]
theorem gp_mod (k : Nat) : gp (k % 255) = gp k := by
  conv => rhs; rw [← Nat.div_add_mod k 255, gp_add, gp_mul_255, one_mulU]
/-- one of the next n doublings of c is x -/
def hits (x : UInt8) : Nat → UInt8 → Bool
  | 0, _ => false
  | n + 1, c => c == x || hits x n (dblU c)
theorem hits_all : ∀ i : Fin 256, i.val ≠ 0 → hits (UInt8.ofNat i.val) 255 1 = true := by decide +kernel
theorem hits_gp (x : UInt8) (n k : Nat) (h : hits x n (gp k) = true) : ∃ i, i < k + n ∧ gp i = x := by
  induction n generalizing k with
  | zero => simp [hits] at h
  | succ n ih =>
    simp only [hits, Bool.or_eq_true, beq_iff_eq] at h
    rcases h with h | h
    · exact ⟨k, by omega, h⟩
    · obtain ⟨i, h1, h2⟩ := ih (k + 1) h
      exact ⟨i, by omega, h2⟩
theorem exists_log (x : UInt8) (hx : x ≠ 0) : ∃ i, i < 255 ∧ gp i = x := by
  have h := hits_all ⟨x.toNat, x.toNat_lt⟩ (fun h => hx (UInt8.toNat_inj.1 h))
  rw [show UInt8.ofNat x.toNat = x from UInt8.ofNat_toNat] at h
  obtain ⟨i, h1, h2⟩ := hits_gp x 255 0 h
  exact ⟨i, by omega, h2⟩

/-- powers -/
def powU (a : UInt8) : Nat → UInt8
  | 0 => 1
  | n + 1 => mulU (powU a n) a
theorem powU_add (a : UInt8) (m n : Nat) : powU a (m + n) = mulU (powU a m) (powU a n) := by
  induction n with
  | zero => show powU a m = mulU _ 1; rw [mulU_one]
  | succ n ih => show mulU (powU a (m + n)) a = mulU (powU a m) (mulU (powU a n) a); rw [ih, mulU_assoc]
theorem powU_gp (e n : Nat) : powU (gp e) n = gp (e * n) := by
  induction n with
  | zero => rfl
  | succ n ih => show mulU (powU (gp e) n) (gp e) = _; rw [ih, ← gp_add, Nat.mul_succ]
theorem powU_zero (n : Nat) (h : n ≠ 0) : powU 0 n = 0 := by
  cases n with
  | zero => exact absurd rfl h
  | succ n => exact mulU_zero _
theorem powU_255 (a : UInt8) (h : a ≠ 0) : powU a 255 = 1 := by
  obtain ⟨e, _, rfl⟩ := exists_log a h
  rw [powU_gp, Nat.mul_comm, gp_mul_255]
theorem powU_double (a : UInt8) (n : Nat) : powU (mulU a a) n = powU a (2 * n) := by
  induction n with
  | zero => rfl
  | succ n ih => show mulU (powU (mulU a a) n) (mulU a a) = _; rw [ih, Nat.mul_succ, powU_add a (2 * n) 2]; show _ = mulU _ (mulU (mulU 1 a) a); rw [one_mulU]
theorem powU_even (a : UInt8) (n : Nat) (h : n % 2 = 0) : powU (mulU a a) (n / 2) = powU a n := by rw [powU_double, show 2 * (n / 2) = n by omega]
theorem powU_odd (a : UInt8) (n : Nat) (h : n % 2 = 1) : mulU a (powU (mulU a a) (n / 2)) = powU a n := by
  rw [powU_double, mulU_comm]
  show powU a (2 * (n / 2) + 1) = _
  rw [show 2 * (n / 2) + 1 = n by omega]

/-- the inverse -/
def invU (a : UInt8) : UInt8 := powU a 254
theorem inv_zero : invU 0 = 0 := powU_zero 254 (by decide)
theorem mul_inv (a : UInt8) (h : a ≠ 0) : mulU a (invU a) = 1 := by rw [mulU_comm]; exact powU_255 a h
theorem inv_uniq (a x : UInt8) (h : mulU a x = 1) : x = invU a := by
  have ha : a ≠ 0 := by
    rintro rfl
    rw [zero_mulU] at h
    exact absurd h (by decide)
  have e : mulU (mulU (invU a) a) x = invU a := by rw [mulU_assoc, h, mulU_one]
  rw [mulU_comm (invU a), mul_inv a ha, one_mulU] at e
  exact e
theorem mul_eq_zero (a b : UInt8) (h : mulU a b = 0) : a = 0 ∨ b = 0 := by
  by_cases ha : a = 0
  · exact .inl ha
  · right
    have e : mulU (mulU a (invU a)) b = mulU (invU a) (mulU a b) := by rw [mulU_comm a, mulU_assoc]
    rwa [mul_inv a ha, one_mulU, h, mulU_zero] at e
theorem inv_pos (a : UInt8) (h : a ≠ 0) : invU a ≠ 0 := by
  intro e
  have := mul_inv a h
  rw [e, mulU_zero] at this
  exact absurd this (by decide)

/-- the exponents after n rounds: the last one below n whose power is x, else 0 -/
def expA : Nat → UInt8 → Nat
  | 0, _ => 0
  | n + 1, x => if x = gp n then n else expA n x
theorem expA_hit (x : UInt8) (n i : Nat) (hi : i < n) (h : gp i = x) : gp (expA n x) = x := by
  induction n with
  | zero => omega
  | succ n ih =>
    simp only [expA]
    by_cases hx : x = gp n
    · rw [if_pos hx, hx]
    · rw [if_neg hx]
      refine ih ?_
      rcases Nat.lt_or_ge i n with h' | h'
      · exact h'
      · exact absurd (by rw [show n = i by omega, h]) hx
theorem expA_lt (x : UInt8) (n : Nat) (hn : n ≤ 255) : expA n x < 255 := by
  induction n with
  | zero => simp [expA]
  | succ n ih =>
    simp only [expA]
    split
    · omega
    · exact ih (by omega)
def logU (x : UInt8) : Nat := expA 255 x
theorem logU_gp (x : UInt8) (h : x ≠ 0) : gp (logU x) = x := by
  obtain ⟨i, h1, h2⟩ := exists_log x h
  exact expA_hit x 255 i h1 h2
theorem pow_log (a : UInt8) (n : Nat) (h : a ≠ 0) : gp (logU a * (n % 255) % 255) = powU a n := by
  conv => rhs; rw [← logU_gp a h]
  rw [powU_gp, gp_mod, ← gp_mod (logU a * n), ← gp_mod (logU a * (n % 255)), Nat.mul_mod, Nat.mod_mod, ← Nat.mul_mod]

/-- the value of a polynomial, the constant coefficient first -/
def evalU : List UInt8 → UInt8 → UInt8
  | [], _ => 0
  | c :: t, x => mulU (evalU t x) x ^^^ c
theorem evalU_one (c x : UInt8) : evalU [c] x = c := by show mulU 0 x ^^^ c = c; rw [zero_mulU, UInt8.zero_xor]
theorem evalU_take (l : List UInt8) (x : UInt8) (i : Nat) (h : i < l.length) : evalU (l.take (i + 1)) x = evalU (l.take i) x ^^^ mulU l[i] (powU x i) := by
  induction l generalizing i with
  | nil => simp at h
  | cons c t ih =>
    cases i with
    | zero =>
      rw [List.take_succ_cons, List.take_zero, List.take_zero]
      show mulU 0 x ^^^ c = 0 ^^^ mulU c 1
      rw [zero_mulU, mulU_one]
    | succ i =>
      have hi : i < t.length := by simpa using h
      rw [List.take_succ_cons, List.take_succ_cons]
      show mulU (evalU (t.take (i + 1)) x) x ^^^ c = mulU (evalU (t.take i) x) x ^^^ c ^^^ mulU t[i] (mulU (powU x i) x)
      rw [ih i hi, xor_mulU, mulU_assoc]
      ac_rfl
theorem evalU_drop (l : List UInt8) (x : UInt8) (i : Nat) (h : i < l.length) : evalU (l.drop i) x = mulU (evalU (l.drop (i + 1)) x) x ^^^ l[i] := by
  rw [List.drop_eq_getElem_cons h]
  rfl
theorem evalU_zeros (n : Nat) (x : UInt8) : evalU (List.replicate n 0) x = 0 := by
  induction n with
  | zero => rfl
  | succ n ih => rw [List.replicate_succ]; show mulU (evalU (List.replicate n 0) x) x ^^^ 0 = 0; rw [ih, zero_mulU]; rfl
theorem evalU_set (l : List UInt8) (x v : UInt8) (i : Nat) (h : i < l.length) : evalU (l.set i (l[i] ^^^ v)) x = evalU l x ^^^ mulU v (powU x i) := by
  induction l generalizing i with
  | nil => simp at h
  | cons c t ih =>
    cases i with
    | zero =>
      show mulU (evalU t x) x ^^^ (c ^^^ v) = mulU (evalU t x) x ^^^ c ^^^ mulU v 1
      rw [mulU_one]
      ac_rfl
    | succ i =>
      have hi : i < t.length := by simpa using h
      show mulU (evalU (t.set i (t[i] ^^^ v)) x) x ^^^ c = mulU (evalU t x) x ^^^ c ^^^ mulU v (mulU (powU x i) x)
      rw [ih i hi, xor_mulU, mulU_assoc]
      ac_rfl
/-- one coefficient's share more of a product -/
theorem times_step (l p q : List UInt8) (x : UInt8) (i k : Nat) (hi : i < p.length) (hk : k < q.length) (hl : i + k < l.length)
    (h : evalU l x = mulU (evalU (p.take i) x) (evalU q x) ^^^ mulU (mulU p[i] (powU x i)) (evalU (q.take k) x)) :
    evalU (l.set (i + k) (l[i + k] ^^^ mulU p[i] q[k])) x = mulU (evalU (p.take i) x) (evalU q x) ^^^ mulU (mulU p[i] (powU x i)) (evalU (q.take (k + 1)) x) := by
  rw [evalU_set _ _ _ _ hl, h, evalU_take q x k hk, mulU_xor (mulU p[i] (powU x i)), powU_add, UInt8.xor_assoc]
  congr 2
  rw [mulU_assoc, mulU_assoc, ← mulU_assoc q[k], ← mulU_assoc (powU x i), mulU_comm q[k] (powU x i)]
theorem times_row (p q : List UInt8) (x : UInt8) (i : Nat) (hi : i < p.length) :
    mulU (evalU (p.take i) x) (evalU q x) ^^^ mulU (mulU p[i] (powU x i)) (evalU (q.take q.length) x) = mulU (evalU (p.take (i + 1)) x) (evalU q x) := by
  rw [List.take_length, evalU_take p x i hi, xor_mulU]
end Go.Proofs.Ytinfjidclkgfnaa
namespace Go.Proofs.Ytinfjidclkgfnaa
/-- the sum of f 0 to f (n - 1) -/
def sumU : Nat → (Nat → UInt8) → UInt8
  | 0, _ => 0
  | n + 1, f => sumU n f ^^^ f n
theorem sumU_congr (n : Nat) (f g : Nat → UInt8) (h : ∀ i, i < n → f i = g i) : sumU n f = sumU n g := by
  induction n with
  | zero => rfl
  | succ n ih => simp only [sumU]; rw [ih (fun i hi => h i (by omega)), h n (by omega)]
theorem sumU_zero (n : Nat) : sumU n (fun _ => 0) = 0 := by
  induction n with
  | zero => rfl
  | succ n ih => simp only [sumU, ih]; rfl
theorem sumU_none (n : Nat) (f : Nat → UInt8) (h : ∀ i, i < n → f i = 0) : sumU n f = 0 := (sumU_congr n f (fun _ => 0) h).trans (sumU_zero n)
theorem sumU_xor (n : Nat) (f g : Nat → UInt8) : sumU n (fun i => f i ^^^ g i) = sumU n f ^^^ sumU n g := by
  induction n with
  | zero => exact (xor_self8 0).symm
  | succ n ih => simp only [sumU, ih]; ac_rfl
theorem sumU_mul (n : Nat) (a : UInt8) (f : Nat → UInt8) : sumU n (fun i => mulU a (f i)) = mulU a (sumU n f) := by
  induction n with
  | zero => exact (mulU_zero a).symm
  | succ n ih => simp only [sumU, ih, mulU_xor]
theorem sumU_mul_right (n : Nat) (a : UInt8) (f : Nat → UInt8) : sumU n (fun i => mulU (f i) a) = mulU (sumU n f) a := by
  rw [mulU_comm, ← sumU_mul]
  exact sumU_congr _ _ _ fun i _ => mulU_comm _ _
theorem sumU_swap (m n : Nat) (f : Nat → Nat → UInt8) : sumU m (fun i => sumU n (fun j => f i j)) = sumU n (fun j => sumU m (fun i => f i j)) := by
  induction m with
  | zero => exact (sumU_zero n).symm
  | succ m ih => simp only [sumU, ih, sumU_xor]
theorem sumU_one (n k : Nat) (f : Nat → UInt8) (hk : k < n) (h : ∀ i, i < n → i ≠ k → f i = 0) : sumU n f = f k := by
  induction n with
  | zero => omega
  | succ n ih =>
    simp only [sumU]
    by_cases e : k = n
    · subst e
      rw [sumU_none k f (fun i hi => h i (by omega) (by omega)), UInt8.zero_xor]
    · rw [ih (by omega) (fun i hi => h i (by omega)), h n (by omega) (by omega), UInt8.xor_zero]
theorem xor_self_eq {a b : UInt8} (h : a ^^^ b = 0) : a = b := UInt8.xor_eq_zero_iff.1 h

/-- the unit vectors -/
def dl (i j : Nat) : UInt8 := if i = j then 1 else 0
theorem dl_same (i : Nat) : dl i i = 1 := if_pos rfl
theorem dl_ne {i j : Nat} (h : i ≠ j) : dl i j = 0 := if_neg h
theorem sumU_dl (n k : Nat) (f : Nat → UInt8) (hk : k < n) : sumU n (fun i => mulU (dl k i) (f i)) = f k := by
  rw [sumU_one n k _ hk (fun i _ hi => by rw [dl_ne (fun e => hi e.symm), zero_mulU]), dl_same, one_mulU]

/-- the combination of r rows of M with the factors c, at column j -/
def comb (r : Nat) (c : Nat → UInt8) (M : Nat → Nat → UInt8) (j : Nat) : UInt8 := sumU r (fun i => mulU (c i) (M i j))
theorem comb_congr {r : Nat} {c c' : Nat → UInt8} {M M' : Nat → Nat → UInt8} {j : Nat} (h : ∀ i, i < r → c i = c' i) (h2 : ∀ i, i < r → M i j = M' i j) : comb r c M j = comb r c' M' j :=
  sumU_congr _ _ _ fun i hi => by rw [h i hi, h2 i hi]
theorem comb_add (r : Nat) (c d : Nat → UInt8) (M : Nat → Nat → UInt8) (j : Nat) : comb r (fun i => c i ^^^ d i) M j = comb r c M j ^^^ comb r d M j := by
  unfold comb
  rw [← sumU_xor]
  exact sumU_congr _ _ _ fun i _ => xor_mulU _ _ _
theorem comb_mul (r : Nat) (a : UInt8) (c : Nat → UInt8) (M : Nat → Nat → UInt8) (j : Nat) : comb r (fun i => mulU a (c i)) M j = mulU a (comb r c M j) := by
  unfold comb
  rw [← sumU_mul]
  exact sumU_congr _ _ _ fun i _ => mulU_assoc _ _ _
theorem comb_dl (r k : Nat) (M : Nat → Nat → UInt8) (j : Nat) (hk : k < r) : comb r (dl k) M j = M k j := sumU_dl r k (fun i => M i j) hk
theorem comb_zero (r : Nat) (c : Nat → UInt8) (M : Nat → Nat → UInt8) (j : Nat) (h : ∀ i, i < r → c i = 0) : comb r c M j = 0 :=
  sumU_none _ _ fun i hi => by rw [h i hi, zero_mulU]
/-- a combination of combinations -/
theorem comb_comb (r s : Nat) (c : Nat → UInt8) (A M : Nat → Nat → UInt8) (j : Nat) : comb s c (fun i j => comb r (A i) M j) j = comb r (fun k => comb s c A k) M j := by
  unfold comb
  have h1 : sumU s (fun i => mulU (c i) (sumU r fun k => mulU (A i k) (M k j))) = sumU s (fun i => sumU r fun k => mulU (mulU (c i) (A i k)) (M k j)) :=
    sumU_congr _ _ _ fun i _ => by rw [← sumU_mul]; exact sumU_congr _ _ _ fun k _ => (mulU_assoc _ _ _).symm
  rw [h1, sumU_swap]
  exact sumU_congr _ _ _ fun k _ => sumU_mul_right _ _ _
theorem comb_dl_right (r : Nat) (c : Nat → UInt8) (j : Nat) (hj : j < r) : comb r c dl j = c j := by
  unfold comb
  rw [sumU_one r j _ hj (fun i _ hi => by rw [dl_ne hi, mulU_zero]), dl_same, mulU_one]

/-- the numbers i and n exchanged -/
def sw (i n k : Nat) : Nat := if k = i then n else if k = n then i else k
theorem sw_sw (i n k : Nat) : sw i n (sw i n k) = k := by
  unfold sw
  by_cases h1 : k = i
  · subst h1
    rw [if_pos rfl]
    by_cases h2 : n = k
    · rw [if_pos h2]; exact h2
    · rw [if_neg h2, if_pos rfl]
  · rw [if_neg h1]
    by_cases h2 : k = n
    · subst h2; rw [if_pos rfl, if_pos rfl]
    · rw [if_neg h2, if_neg h1, if_neg h2]
theorem sw_lt {i n k s : Nat} (hi : i < s) (hn : n < s) (hk : k < s) : sw i n k < s := by
  unfold sw
  split
  · exact hn
  · split
    · exact hi
    · exact hk
theorem sumU_last (n : Nat) (i : Nat) (f : Nat → UInt8) (hi : i ≤ n) : sumU (n + 1) (fun k => f (sw i n k)) = sumU (n + 1) f := by
  by_cases h : i = n
  · subst h
    exact sumU_congr _ _ _ fun k _ => by unfold sw; split <;> simp_all
  · -- both are the sum over the rest, and f i and f n
    have aux : ∀ m, (i < m → m ≤ n → sumU m (fun k => f (sw i n k)) = sumU m f ^^^ f i ^^^ f n) ∧ (m ≤ i → sumU m (fun k => f (sw i n k)) = sumU m f) := by
      intro m
      induction m with
      | zero => exact ⟨fun h _ => by omega, fun _ => rfl⟩
      | succ m ih =>
        refine ⟨fun h1 h2 => ?_, fun h1 => ?_⟩
        · simp only [sumU]
          by_cases e : m = i
          · subst e
            rw [ih.2 (Nat.le_refl _), show sw m n m = n by unfold sw; rw [if_pos rfl]]
            rw [UInt8.xor_assoc (sumU m f), xor_self8, UInt8.xor_zero]
          · rw [ih.1 (by omega) (by omega), show sw i n m = m by unfold sw; rw [if_neg e, if_neg (by omega)]]
            ac_rfl
        · simp only [sumU]
          rw [ih.2 (by omega), show sw i n m = m by unfold sw; rw [if_neg (by omega), if_neg (by omega)]]
    simp only [sumU]
    rw [(aux n).1 (by omega) (Nat.le_refl _), show sw i n n = i by unfold sw; rw [if_neg (fun e => h e.symm), if_pos rfl]]
    rw [show sumU n f ^^^ f i ^^^ f n ^^^ f i = sumU n f ^^^ f n ^^^ (f i ^^^ f i) by ac_rfl, xor_self8, UInt8.xor_zero]

/-- more unknowns than equations: a solution other than 0 -/
theorem more_unknowns (r : Nat) : ∀ (s : Nat) (c : Nat → Nat → UInt8), r < s → ∃ d : Nat → UInt8, (∃ i, i < s ∧ d i ≠ 0) ∧ ∀ k, k < r → comb s d c k = 0 := by
  induction r with
  | zero => exact fun s c hs => ⟨dl 0, ⟨0, hs, by rw [dl_same]; decide⟩, fun k hk => by omega⟩
  | succ r ih =>
    intro s c hs
    by_cases hall : ∀ i, i < s → c i r = 0
    · obtain ⟨d, h1, h2⟩ := ih s c (by omega)
      refine ⟨d, h1, fun k hk => ?_⟩
      by_cases e : k = r
      · subst e
        exact sumU_none _ _ fun i hi => by rw [hall i hi, mulU_zero]
      · exact h2 k (by omega)
    · obtain ⟨i0, hi0, hne⟩ : ∃ i, i < s ∧ c i r ≠ 0 := by
        refine Classical.byContradiction fun h => hall fun i hi => ?_
        refine Classical.byContradiction fun h' => h ⟨i, hi, h'⟩
      obtain ⟨t, rfl⟩ : ∃ t, s = t + 1 := ⟨s - 1, by omega⟩
      -- the equation's coefficients in the order in which i0 is the last
      let c' : Nat → Nat → UInt8 := fun i k => c (sw i0 t i) k
      have hlast : c' t r ≠ 0 := by
        show c (sw i0 t t) r ≠ 0
        have : sw i0 t t = i0 := by unfold sw; by_cases e : t = i0 <;> simp [e]
        rw [this]; exact hne
      let q : UInt8 := invU (c' t r)
      have hq : mulU (c' t r) q = 1 := mul_inv _ hlast
      let e' : Nat → Nat → UInt8 := fun i k => c' i k ^^^ mulU (mulU (c' i r) q) (c' t k)
      obtain ⟨d, ⟨i1, hi1, hd1⟩, h2⟩ := ih t e' (by omega)
      let dt : UInt8 := sumU t (fun i => mulU (d i) (mulU (c' i r) q))
      let D : Nat → UInt8 := fun i => if i < t then d i else dt
      have hD : ∀ k, comb (t + 1) D c' k = comb t d e' k := by
        intro k
        have h3 : comb (t + 1) D c' k = comb t d c' k ^^^ mulU dt (c' t k) := by
          show sumU t (fun i => mulU (D i) (c' i k)) ^^^ mulU (D t) (c' t k) = _
          rw [show D t = dt from if_neg (Nat.lt_irrefl t)]
          congr 1
          exact sumU_congr _ _ _ fun i hi => by rw [show D i = d i from if_pos hi]
        rw [h3]
        show comb t d c' k ^^^ mulU dt (c' t k) = sumU t (fun i => mulU (d i) (c' i k ^^^ mulU (mulU (c' i r) q) (c' t k)))
        rw [show (fun i => mulU (d i) (c' i k ^^^ mulU (mulU (c' i r) q) (c' t k))) = fun i => mulU (d i) (c' i k) ^^^ mulU (mulU (d i) (mulU (c' i r) q)) (c' t k) from funext fun i => by rw [mulU_xor, mulU_assoc (d i)]]
        rw [sumU_xor, sumU_mul_right]
        rfl
      have hz : ∀ k, k < r + 1 → comb (t + 1) D c' k = 0 := by
        intro k hk
        rw [hD k]
        by_cases e : k = r
        · subst e
          refine sumU_none _ _ fun i _ => ?_
          show mulU (d i) (c' i k ^^^ mulU (mulU (c' i k) q) (c' t k)) = 0
          rw [mulU_assoc (c' i k), mulU_comm q, hq, mulU_one, xor_self8, mulU_zero]
        · exact h2 k (by omega)
      refine ⟨fun i => D (sw i0 t i), ⟨sw i0 t i1, sw_lt hi0 (by omega) (by omega), ?_⟩, fun k hk => ?_⟩
      · show D (sw i0 t (sw i0 t i1)) ≠ 0
        rw [sw_sw, show D i1 = d i1 from if_pos hi1]
        exact hd1
      · have := sumU_last t i0 (fun i => mulU (D (sw i0 t i)) (c i k)) (by omega)
        show sumU (t + 1) (fun i => mulU (D (sw i0 t i)) (c i k)) = 0
        rw [← this]
        rw [show (fun i => mulU (D (sw i0 t (sw i0 t i))) (c (sw i0 t i) k)) = fun i => mulU (D i) (c' i k) from funext fun i => by rw [sw_sw]]
        exact hz k hk
end Go.Proofs.Ytinfjidclkgfnaa
namespace Go.Proofs.Ytinfjidclkgfnaa

/-- how many of the first n numbers have the property -/
noncomputable def cnt (P : Nat → Prop) : Nat → Nat
  | 0 => 0
  | n + 1 => cnt P n + @ite _ (P n) (Classical.propDecidable _) 1 0
theorem cnt_le (P : Nat → Prop) (n : Nat) : cnt P n ≤ n := by
  induction n with
  | zero => exact Nat.le_refl _
  | succ n ih => simp only [cnt]; split <;> omega
theorem cnt_yes {P : Nat → Prop} {n : Nat} (h : P n) : cnt P (n + 1) = cnt P n + 1 := by simp only [cnt]; rw [if_pos h]
theorem cnt_no {P : Nat → Prop} {n : Nat} (h : ¬ P n) : cnt P (n + 1) = cnt P n := by simp only [cnt]; rw [if_neg h]; rfl
theorem cnt_mono {P Q : Nat → Prop} (n : Nat) (h : ∀ j, j < n → P j → Q j) : cnt P n ≤ cnt Q n := by
  induction n with
  | zero => exact Nat.le_refl _
  | succ n ih =>
    have ih' := ih fun j hj => h j (by omega)
    by_cases hp : P n
    · rw [cnt_yes hp, cnt_yes (h n (by omega) hp)]; omega
    · rw [cnt_no hp]
      by_cases hq : Q n
      · rw [cnt_yes hq]; omega
      · rw [cnt_no hq]; exact ih'
theorem cnt_congr {P Q : Nat → Prop} (n : Nat) (h : ∀ j, j < n → (P j ↔ Q j)) : cnt P n = cnt Q n :=
  Nat.le_antisymm (cnt_mono n fun j hj => (h j hj).1) (cnt_mono n fun j hj => (h j hj).2)
theorem cnt_full {P : Nat → Prop} (n : Nat) (h : cnt P n = n) : ∀ j, j < n → P j := by
  induction n with
  | zero => intro j hj; omega
  | succ n ih =>
    have hl := cnt_le P n
    by_cases hp : P n
    · rw [cnt_yes hp] at h
      intro j hj
      by_cases e : j = n
      · subst e; exact hp
      · exact ih (by omega) j (by omega)
    · rw [cnt_no hp] at h; omega
theorem cnt_all {P : Nat → Prop} (n : Nat) (h : ∀ j, j < n → P j) : cnt P n = n := by
  induction n with
  | zero => rfl
  | succ n ih => rw [cnt_yes (h n (by omega)), ih fun j hj => h j (by omega)]
theorem cnt_enum (P : Nat → Prop) (n : Nat) : ∃ en : Nat → Nat, (∀ t, t < cnt P n → en t < n ∧ P (en t)) ∧ (∀ s t, s < t → t < cnt P n → en s < en t) ∧ ∀ j, j < n → P j → ∃ t, t < cnt P n ∧ en t = j := by
  induction n with
  | zero => exact ⟨id, fun t ht => absurd ht (Nat.not_lt_zero _), fun s t _ ht => absurd ht (Nat.not_lt_zero _), fun j hj => absurd hj (Nat.not_lt_zero _)⟩
  | succ n ih =>
    obtain ⟨en, h1, h2, h3⟩ := ih
    by_cases hp : P n
    · rw [cnt_yes hp]
      refine ⟨fun t => if t = cnt P n then n else en t, fun t ht => ?_, fun s t hs ht => ?_, fun j hj hj2 => ?_⟩
      · show (if t = cnt P n then n else en t) < n + 1 ∧ P (if t = cnt P n then n else en t)
        by_cases e : t = cnt P n
        · rw [if_pos e]; exact ⟨by omega, hp⟩
        · rw [if_neg e]; have := h1 t (by omega); exact ⟨by omega, this.2⟩
      · show (if s = cnt P n then n else en s) < (if t = cnt P n then n else en t)
        rw [if_neg (by omega)]
        by_cases e : t = cnt P n
        · rw [if_pos e]; exact (h1 s (by omega)).1
        · rw [if_neg e]; exact h2 s t hs (by omega)
      · by_cases e : j = n
        · exact ⟨cnt P n, by omega, by show (if cnt P n = cnt P n then n else en (cnt P n)) = j; rw [if_pos rfl, e]⟩
        · obtain ⟨t, ht, he⟩ := h3 j (by omega) hj2
          exact ⟨t, by omega, by show (if t = cnt P n then n else en t) = j; rw [if_neg (by omega), he]⟩
    · rw [cnt_no hp]
      refine ⟨en, fun t ht => ⟨by have := (h1 t ht).1; omega, (h1 t ht).2⟩, h2, fun j hj hj2 => ?_⟩
      refine h3 j ?_ hj2
      rcases Nat.lt_or_ge j n with h | h
      · exact h
      · exact absurd (by rwa [show j = n by omega] at hj2) hp
/-- as many as an increasing list of them has -/
theorem cnt_pivots {P : Nat → Prop} (n R : Nat) (p : Nat → Nat) (h1 : ∀ t, t < R → p t < n) (h2 : ∀ s t, s < t → t < R → p s < p t) (h3 : ∀ j, j < n → (P j ↔ ∃ t, t < R ∧ p t = j)) : cnt P n = R := by
  have aux : ∀ k, k ≤ n → ∀ m, m ≤ R → (∀ t, t < R → (p t < k ↔ t < m)) → cnt P k = m := by
    intro k
    induction k with
    | zero =>
      intro _ m hm hk
      by_cases e : m = 0
      · rw [e]; rfl
      · have := (hk 0 (by omega)).2 (by omega); omega
    | succ k ih =>
      intro hk m hm hp
      by_cases hP : P k
      · obtain ⟨t, ht, he⟩ := (h3 k (by omega)).1 hP
        have htm : t < m := (hp t ht).1 (by omega)
        have hmt : m = t + 1 := by
          rcases Nat.lt_or_ge (t + 1) m with h | h
          · have h4 := h2 t (t + 1) (by omega) (by omega)
            have h5 := (hp (t + 1) (by omega)).2 h
            omega
          · omega
        rw [cnt_yes hP, ih (by omega) t (by omega) ?_, hmt]
        intro u hu
        constructor
        · intro h
          rcases Nat.lt_trichotomy u t with h' | h' | h'
          · exact h'
          · subst h'; omega
          · have := h2 t u h' hu; omega
        · intro h
          have := h2 u t h ht
          omega
      · rw [cnt_no hP, ih (by omega) m hm ?_]
        intro u hu
        rw [← hp u hu]
        constructor
        · intro h; omega
        · intro h
          rcases Nat.lt_or_ge (p u) k with h' | h'
          · exact h'
          · exact absurd ((h3 k (by omega)).2 ⟨u, hu, by omega⟩) hP
  exact aux n (Nat.le_refl _) R (Nat.le_refl _) fun t ht => ⟨fun _ => ht, fun _ => h1 t ht⟩

/-- j is the first column, other than 0, of a vector that the rows span -/
def Lead (r C : Nat) (M : Nat → Nat → UInt8) (j : Nat) : Prop := j < C ∧ ∃ c, comb r c M j ≠ 0 ∧ ∀ k, k < j → comb r c M k = 0
/-- the rank of r rows of C columns -/
noncomputable def rankF (r C : Nat) (M : Nat → Nat → UInt8) : Nat := cnt (Lead r C M) C
/-- the rows of M' are combinations of the rows of M -/
def Inside (r' r C : Nat) (M' M : Nat → Nat → UInt8) : Prop := ∀ i, i < r' → ∃ c, ∀ j, j < C → M' i j = comb r c M j
theorem Inside.comb {r' r C : Nat} {M' M : Nat → Nat → UInt8} (h : Inside r' r C M' M) (c : Nat → UInt8) : ∃ d, ∀ j, j < C → Proofs.Ytinfjidclkgfnaa.comb r' c M' j = Proofs.Ytinfjidclkgfnaa.comb r d M j := by
  have hx : ∀ i, ∃ e : Nat → UInt8, i < r' → ∀ j, j < C → M' i j = Proofs.Ytinfjidclkgfnaa.comb r e M j := fun i => by
    by_cases hi : i < r'
    · obtain ⟨e, he⟩ := h i hi; exact ⟨e, fun _ => he⟩
    · exact ⟨fun _ => 0, fun h' => absurd h' hi⟩
  obtain ⟨A, hA⟩ := Classical.axiomOfChoice hx
  refine ⟨fun k => Proofs.Ytinfjidclkgfnaa.comb r' c A k, fun j hj => ?_⟩
  rw [← comb_comb]
  exact comb_congr (fun _ _ => rfl) fun i hi => hA i hi j hj
theorem Inside.refl (r C : Nat) (M : Nat → Nat → UInt8) : Inside r r C M M := fun i hi => ⟨dl i, fun j _ => (comb_dl r i M j hi).symm⟩
theorem Inside.trans {r r' r'' C : Nat} {M M' M'' : Nat → Nat → UInt8} (h : Inside r r' C M M') (k : Inside r' r'' C M' M'') : Inside r r'' C M M'' := fun i hi => by
  obtain ⟨c, hc⟩ := h i hi
  obtain ⟨d, hd⟩ := k.comb c
  exact ⟨d, fun j hj => (hc j hj).trans (hd j hj)⟩
theorem Inside.less {r r' C C' : Nat} {M M' : Nat → Nat → UInt8} (h : Inside r r' C M M') (hC : C' ≤ C) : Inside r r' C' M M' := fun i hi => by
  obtain ⟨c, hc⟩ := h i hi
  exact ⟨c, fun j hj => hc j (by omega)⟩
theorem Lead.inside {r' r C j : Nat} {M' M : Nat → Nat → UInt8} (hl : Lead r' C M' j) (h : Inside r' r C M' M) : Lead r C M j := by
  obtain ⟨hj, c, h1, h2⟩ := hl
  obtain ⟨d, hd⟩ := h.comb c
  exact ⟨hj, d, by rw [← hd j hj]; exact h1, fun k hk => by rw [← hd k (by omega)]; exact h2 k hk⟩
theorem rank_mono {r' r C : Nat} {M' M : Nat → Nat → UInt8} (h : Inside r' r C M' M) : rankF r' C M' ≤ rankF r C M := cnt_mono C fun _ _ hl => hl.inside h
theorem rank_eq {r' r C : Nat} {M' M : Nat → Nat → UInt8} (h : Inside r' r C M' M) (k : Inside r r' C M M') : rankF r' C M' = rankF r C M := Nat.le_antisymm (rank_mono h) (rank_mono k)

/-- vectors with different first columns are independent -/
theorem lead_indep (S : Nat) (u : Nat → Nat → UInt8) (le : Nat → Nat) (h1 : ∀ t, t < S → u t (le t) ≠ 0 ∧ ∀ k, k < le t → u t k = 0) (h2 : ∀ s t, s < t → t < S → le s < le t) (d : Nat → UInt8) (h : ∀ t, t < S → comb S d u (le t) = 0) : ∀ t, t < S → d t = 0 := by
  intro t
  induction t using Nat.strongRecOn with
  | _ t ih =>
    intro ht
    have h3 : comb S d u (le t) = mulU (d t) (u t (le t)) := sumU_one S t _ ht fun i hi hne => by
      rcases Nat.lt_or_gt_of_ne hne with h' | h'
      · rw [ih i h' hi, zero_mulU]
      · rw [(h1 i hi).2 _ (h2 t i h' hi), mulU_zero]
    rw [h t ht] at h3
    rcases mul_eq_zero _ _ h3.symm with h4 | h4
    · exact h4
    · exact absurd h4 (h1 t ht).1
/-- n independent vectors of n columns span the unit vectors -/
theorem span_units (n : Nat) (v : Nat → Nat → UInt8) (hi : ∀ d : Nat → UInt8, (∀ k, k < n → comb n d v k = 0) → ∀ i, i < n → d i = 0) (j : Nat) : ∃ x, ∀ k, k < n → comb n x v k = dl j k := by
  obtain ⟨d, ⟨i0, hi0, hd⟩, hz⟩ := more_unknowns n (n + 1) (fun i k => if i < n then v i k else dl j k) (Nat.lt_succ_self n)
  have hs : ∀ k, k < n → comb n d v k ^^^ mulU (d n) (dl j k) = 0 := fun k hk => by
    have := hz k hk
    unfold comb at this
    simp only [sumU] at this
    rw [if_neg (Nat.lt_irrefl n)] at this
    rw [← this]
    congr 1
    exact sumU_congr _ _ _ fun i hi => by rw [if_pos hi]
  have hn : d n ≠ 0 := by
    intro h0
    have hz2 : ∀ i, i < n → d i = 0 := hi d fun k hk => by
      have := hs k hk
      rwa [h0, zero_mulU, UInt8.xor_zero] at this
    by_cases e : i0 = n
    · subst e; exact hd h0
    · exact hd (hz2 i0 (by omega))
  refine ⟨fun i => mulU (invU (d n)) (d i), fun k hk => ?_⟩
  rw [comb_mul, xor_self_eq (hs k hk), ← mulU_assoc, mulU_comm (invU (d n)), mul_inv _ hn, one_mulU]

/-- A is a left inverse of M -/
def Inv (n : Nat) (A M : Nat → Nat → UInt8) : Prop := ∀ i, i < n → ∀ j, j < n → comb n (A i) M j = dl i j
theorem Inv.other {n : Nat} {A M : Nat → Nat → UInt8} (h : Inv n A M) : Inv n M A := by
  intro j hj k hk
  obtain ⟨d, ⟨i0, hi0, hd⟩, hz⟩ := more_unknowns n (n + 1) (fun i k => if i < n then A i k else dl j k) (Nat.lt_succ_self n)
  have hs : ∀ k, k < n → comb n d A k = mulU (d n) (dl j k) := fun k hk => by
    have := hz k hk
    unfold comb at this
    simp only [sumU] at this
    rw [if_neg (Nat.lt_irrefl n)] at this
    refine xor_self_eq ?_
    rw [← this]
    congr 1
    exact sumU_congr _ _ _ fun i hi => by rw [if_pos hi]
  -- multiplied by M: the factors
  have hl : ∀ l, l < n → d l = mulU (d n) (M j l) := fun l hl => by
    have e1 : comb n d (fun i q => comb n (A i) M q) l = d l := by
      rw [show comb n d (fun i q => comb n (A i) M q) l = comb n d dl l from comb_congr (fun _ _ => rfl) fun i hi => h i hi l hl]
      exact comb_dl_right n d l hl
    rw [comb_comb] at e1
    rw [← e1, show comb n (fun k => comb n d A k) M l = comb n (fun k => mulU (d n) (dl j k)) M l from comb_congr (fun k hk => hs k hk) (fun _ _ => rfl), comb_mul, comb_dl n j M l hj]
  have hn : d n ≠ 0 := by
    intro h0
    by_cases e : i0 = n
    · subst e; exact hd h0
    · have := hl i0 (by omega)
      rw [h0, zero_mulU] at this
      exact hd this
  have e2 : mulU (d n) (comb n (M j) A k) = mulU (d n) (dl j k) := by
    rw [← comb_mul, ← hs k hk]
    exact comb_congr (fun l hl' => (hl l hl').symm) (fun _ _ => rfl)
  have e3 := congrArg (mulU (invU (d n))) e2
  rw [← mulU_assoc, ← mulU_assoc, mulU_comm (invU (d n)), mul_inv _ hn, one_mulU, one_mulU] at e3
  exact e3
theorem Inv.unique {n : Nat} {A B M : Nat → Nat → UInt8} (h : Inv n A M) (k : Inv n B M) : ∀ i, i < n → ∀ j, j < n → A i j = B i j := by
  intro i hi j hj
  have e1 : comb n (A i) (fun p q => comb n (M p) B q) j = A i j := by
    rw [show comb n (A i) (fun p q => comb n (M p) B q) j = comb n (A i) dl j from comb_congr (fun _ _ => rfl) fun p hp => k.other p hp j hj]
    exact comb_dl_right n (A i) j hj
  rw [← e1, comb_comb, show comb n (fun q => comb n (A i) M q) B j = comb n (dl i) B j from comb_congr (fun q hq => h i hi q hq) (fun _ _ => rfl), comb_dl n i B j hi]
theorem Inv.rank {n : Nat} {A M : Nat → Nat → UInt8} (h : Inv n A M) : rankF n n M = n :=
  cnt_all n fun j hj => ⟨hj, A j, by rw [h j hj j hj, dl_same]; decide, fun k hk => by rw [h j hj k (by omega), dl_ne (by omega)]⟩
theorem inv_of_indep (n : Nat) (M : Nat → Nat → UInt8) (hi : ∀ d : Nat → UInt8, (∀ k, k < n → comb n d M k = 0) → ∀ i, i < n → d i = 0) : ∃ A, Inv n A M := by
  obtain ⟨A, hA⟩ := Classical.axiomOfChoice (span_units n M hi)
  exact ⟨A, fun i _ j hj => hA i j hj⟩
theorem inv_of_rank (n : Nat) (M : Nat → Nat → UInt8) (h : rankF n n M = n) : ∃ A, Inv n A M := by
  have hall := cnt_full n h
  have hx : ∀ t, ∃ c : Nat → UInt8, t < n → comb n c M t ≠ 0 ∧ ∀ k, k < t → comb n c M k = 0 := fun t => by
    by_cases ht : t < n
    · obtain ⟨_, c, h1, h2⟩ := hall t ht; exact ⟨c, fun _ => ⟨h1, h2⟩⟩
    · exact ⟨fun _ => 0, fun h' => absurd h' ht⟩
  obtain ⟨B, hB⟩ := Classical.axiomOfChoice hx
  have hspan := span_units n (fun t k => comb n (B t) M k) fun d hd =>
    lead_indep n (fun t k => comb n (B t) M k) id (fun t ht => hB t ht) (fun s t hs _ => hs) d (fun t ht => hd t ht)
  obtain ⟨X, hX⟩ := Classical.axiomOfChoice hspan
  refine ⟨fun i k => comb n (X i) B k, fun i _ j hj => ?_⟩
  show comb n (fun k => comb n (X i) B k) M j = dl i j
  rw [← comb_comb]
  exact hX i j hj
theorem inv_iff_rank (n : Nat) (M : Nat → Nat → UInt8) : (∃ A, Inv n A M) ↔ rankF n n M = n := ⟨fun ⟨_, h⟩ => h.rank, inv_of_rank n M⟩

/-- the vectors that rows span are combinations of as many as the rank -/
theorem span_basis (r C : Nat) (M : Nat → Nat → UInt8) : ∃ b : Nat → Nat → UInt8, ∀ c, ∃ d, ∀ j, j < C → comb r c M j = comb (rankF r C M) d b j := by
  obtain ⟨en, h1, h2, h3⟩ := cnt_enum (Lead r C M) C
  have hx : ∀ t, ∃ c : Nat → UInt8, t < cnt (Lead r C M) C → comb r c M (en t) ≠ 0 ∧ ∀ k, k < en t → comb r c M k = 0 := fun t => by
    by_cases ht : t < cnt (Lead r C M) C
    · obtain ⟨_, c, h4, h5⟩ := (h1 t ht).2; exact ⟨c, fun _ => ⟨h4, h5⟩⟩
    · exact ⟨fun _ => 0, fun h' => absurd h' ht⟩
  obtain ⟨B, hB⟩ := Classical.axiomOfChoice hx
  refine ⟨fun t k => comb r (B t) M k, ?_⟩
  have aux : ∀ m z, z + m = C → ∀ c, (∀ k, k < z → comb r c M k = 0) → ∃ d, ∀ j, j < C → comb r c M j = comb (rankF r C M) d (fun t k => comb r (B t) M k) j := by
    intro m
    induction m with
    | zero =>
      intro z hz c hc
      refine ⟨fun _ => 0, fun j hj => ?_⟩
      rw [hc j (by omega), comb_zero _ _ _ _ fun _ _ => rfl]
    | succ m ih =>
      intro z hz c hc
      by_cases h0 : comb r c M z = 0
      · refine ih (z + 1) (by omega) c fun k hk => ?_
        by_cases e : k = z
        · subst e; exact h0
        · exact hc k (by omega)
      · obtain ⟨t, ht, he⟩ := h3 z (by omega) ⟨by omega, c, h0, hc⟩
        obtain ⟨hb1, hb2⟩ := hB t ht
        rw [he] at hb1 hb2
        let q := mulU (comb r c M z) (invU (comb r (B t) M z))
        have hq : mulU q (comb r (B t) M z) = comb r c M z := by
          show mulU (mulU (comb r c M z) (invU (comb r (B t) M z))) (comb r (B t) M z) = _
          rw [mulU_assoc, mulU_comm (invU _), mul_inv _ hb1, mulU_one]
        have hc' : ∀ k, comb r (fun i => c i ^^^ mulU q (B t i)) M k = comb r c M k ^^^ mulU q (comb r (B t) M k) := fun k => by rw [comb_add, comb_mul]
        obtain ⟨d, hd⟩ := ih (z + 1) (by omega) (fun i => c i ^^^ mulU q (B t i)) fun k hk => by
          rw [hc' k]
          by_cases e : k = z
          · subst e; rw [hq, xor_self8]
          · rw [hc k (by omega), hb2 k (by omega), mulU_zero]; exact xor_self8 0
        refine ⟨fun s => d s ^^^ mulU q (dl t s), fun j hj => ?_⟩
        have h4 := hd j hj
        rw [hc' j] at h4
        rw [comb_add, comb_mul, comb_dl (rankF r C M) t _ j ht, ← h4, UInt8.xor_assoc, xor_self8, UInt8.xor_zero]
  exact fun c => aux C 0 (by omega) c fun k hk => by omega
/-- the rank of a product is at most that of the first factor -/
theorem rank_first (r K C : Nat) (a b : Nat → Nat → UInt8) : rankF r C (fun i j => comb K (a i) b j) ≤ rankF r K a := by
  obtain ⟨w, hw⟩ := span_basis r K a
  obtain ⟨en, h1, h2, _⟩ := cnt_enum (Lead r C (fun i j => comb K (a i) b j)) C
  have hx : ∀ t, ∃ c : Nat → UInt8, t < cnt (Lead r C fun i j => comb K (a i) b j) C → comb r c (fun i j => comb K (a i) b j) (en t) ≠ 0 ∧ ∀ k, k < en t → comb r c (fun i j => comb K (a i) b j) k = 0 := fun t => by
    by_cases ht : t < cnt (Lead r C fun i j => comb K (a i) b j) C
    · obtain ⟨_, c, h4, h5⟩ := (h1 t ht).2; exact ⟨c, fun _ => ⟨h4, h5⟩⟩
    · exact ⟨fun _ => 0, fun h' => absurd h' ht⟩
  obtain ⟨E, hE⟩ := Classical.axiomOfChoice hx
  obtain ⟨D, hD⟩ := Classical.axiomOfChoice fun t => hw (E t)
  rcases Nat.lt_or_ge (rankF r K a) (rankF r C fun i j => comb K (a i) b j) with h | h
  · exfalso
    obtain ⟨d, ⟨i0, hi0, hd⟩, hz⟩ := more_unknowns _ _ D h
    refine hd (lead_indep _ (fun t k => comb r (E t) (fun i j => comb K (a i) b j) k) en (fun t ht => hE t ht) h2 d (fun t ht => ?_) i0 hi0)
    -- the combination is 0 in all columns
    have e1 : ∀ j, comb (rankF r C fun i j => comb K (a i) b j) d (fun t k => comb r (E t) (fun i j => comb K (a i) b j) k) j = comb K (fun k => comb (rankF r C fun i j => comb K (a i) b j) d (fun t k => comb r (E t) a k) k) b j := by
      intro j
      rw [← comb_comb]
      refine comb_congr (fun _ _ => rfl) fun t _ => ?_
      exact comb_comb _ _ _ _ _ _
    show comb (rankF r C fun i j => comb K (a i) b j) d (fun t k => comb r (E t) (fun i j => comb K (a i) b j) k) (en t) = 0
    rw [e1]
    refine comb_zero _ _ _ _ fun k hk => ?_
    rw [show comb (rankF r C fun i j => comb K (a i) b j) d (fun t k => comb r (E t) a k) k = comb (rankF r C fun i j => comb K (a i) b j) d (fun t k => comb (rankF r K a) (D t) w k) k from comb_congr (fun _ _ => rfl) fun t _ => hD t k hk]
    rw [comb_comb]
    exact comb_zero _ _ _ _ fun s hs => hz s hs
  · exact h
/-- .. and of the second one -/
theorem rank_second (r K C : Nat) (a b : Nat → Nat → UInt8) : rankF r C (fun i j => comb K (a i) b j) ≤ rankF K C b :=
  rank_mono fun i _ => ⟨a i, fun _ _ => rfl⟩

/-- rows whose first columns increase, and rows of zeros behind them -/
structure Stairs (r C R : Nat) (M : Nat → Nat → UInt8) (p : Nat → Nat) : Prop where
  le : R ≤ r
  at_ : ∀ t, t < R → p t < C ∧ M t (p t) ≠ 0 ∧ ∀ k, k < p t → M t k = 0
  inc : ∀ s t, s < t → t < R → p s < p t
  rest : ∀ i, R ≤ i → i < r → ∀ k, k < C → M i k = 0
theorem Stairs.rank {r C R : Nat} {M : Nat → Nat → UInt8} {p : Nat → Nat} (h : Stairs r C R M p) : rankF r C M = R := by
  refine cnt_pivots C R p (fun t ht => (h.at_ t ht).1) h.inc fun j hj => ⟨fun ⟨_, c, h1, h2⟩ => ?_, fun ⟨t, ht, he⟩ => ?_⟩
  · -- the first factor that is not 0
    by_cases hz : ∀ t, t < R → c t = 0
    · exfalso
      refine h1 (sumU_none _ _ fun i hi => ?_)
      by_cases hiR : i < R
      · rw [hz i hiR, zero_mulU]
      · rw [h.rest i (by omega) hi j hj, mulU_zero]
    · have hmin : ∃ t, t < R ∧ c t ≠ 0 ∧ ∀ s, s < t → c s = 0 := by
        have : ∀ m, (∀ s, s < m → s < R → c s = 0) ∨ ∃ t, t < R ∧ c t ≠ 0 ∧ ∀ s, s < t → c s = 0 := by
          intro m
          induction m with
          | zero => exact .inl fun s hs => absurd hs (Nat.not_lt_zero _)
          | succ m ih =>
            rcases ih with h' | h'
            · by_cases hm : m < R
              · by_cases hc : c m = 0
                · left
                  intro s hs hsR
                  by_cases e : s = m
                  · subst e; exact hc
                  · exact h' s (by omega) hsR
                · exact .inr ⟨m, hm, hc, fun s hs => h' s hs (by omega)⟩
              · exact .inl fun s hs hsR => h' s (by omega) hsR
            · exact .inr h'
        rcases this R with h' | h'
        · exact absurd (fun t ht => h' t ht ht) hz
        · exact h'
      obtain ⟨t, ht, hct, hbef⟩ := hmin
      obtain ⟨hp1, hp2, hp3⟩ := h.at_ t ht
      have hval : ∀ k, k ≤ p t → comb r c M k = mulU (c t) (M t k) := fun k hk => sumU_one r t _ (by have := h.le; omega) fun i hi hne => by
        rcases Nat.lt_or_gt_of_ne hne with h' | h'
        · rw [hbef i h', zero_mulU]
        · by_cases hiR : i < R
          · rw [(h.at_ i hiR).2.2 k (by have := h.inc t i h' hiR; omega), mulU_zero]
          · rw [h.rest i (by omega) hi k (by omega), mulU_zero]
      refine ⟨t, ht, ?_⟩
      rcases Nat.lt_trichotomy j (p t) with h' | h' | h'
      · exact absurd (by rw [hval j (by omega), hp3 j h', mulU_zero]) h1
      · exact h'.symm
      · have := h2 (p t) h'
        rw [hval (p t) (Nat.le_refl _)] at this
        rcases mul_eq_zero _ _ this with h5 | h5
        · exact absurd h5 hct
        · exact absurd h5 hp2
  · subst he
    obtain ⟨hp1, hp2, hp3⟩ := h.at_ t ht
    have hl := h.le
    exact ⟨hj, dl t, by rw [comb_dl r t M _ (by omega)]; exact hp2, fun k hk => by rw [comb_dl r t M _ (by omega)]; exact hp3 k hk⟩
end Go.Proofs.Ytinfjidclkgfnaa
namespace Go.Proofs.Ytinfjidclkgfnaa
/-- a polynomial of fewer than n + 1 coefficients -/
def Pol (n : Nat) (f : UInt8 → UInt8) : Prop := ∃ l : List UInt8, l.length ≤ n ∧ ∀ z, f z = evalU l z
/-- the sum of two polynomials -/
def addL : List UInt8 → List UInt8 → List UInt8
  | [], l => l
  | l, [] => l
  | a :: l, b :: m => (a ^^^ b) :: addL l m
theorem addL_eval (l m : List UInt8) (z : UInt8) : evalU (addL l m) z = evalU l z ^^^ evalU m z := by
  induction l generalizing m with
  | nil => show evalU m z = 0 ^^^ evalU m z; rw [UInt8.zero_xor]
  | cons a l ih =>
    cases m with
    | nil => show evalU (a :: l) z = evalU (a :: l) z ^^^ 0; rw [UInt8.xor_zero]
    | cons b m =>
      show mulU (evalU (addL l m) z) z ^^^ (a ^^^ b) = mulU (evalU l z) z ^^^ a ^^^ (mulU (evalU m z) z ^^^ b)
      rw [ih, xor_mulU]
      ac_rfl
theorem addL_length (l m : List UInt8) (n : Nat) (hl : l.length ≤ n) (hm : m.length ≤ n) : (addL l m).length ≤ n := by
  induction l generalizing m n with
  | nil => exact hm
  | cons a l ih =>
    cases m with
    | nil => exact hl
    | cons b m =>
      simp only [addL, List.length_cons] at hl hm ⊢
      have := ih m (n - 1) (by omega) (by omega)
      omega
theorem evalU_map (a : UInt8) (l : List UInt8) (z : UInt8) : evalU (l.map (mulU a)) z = mulU a (evalU l z) := by
  induction l with
  | nil => exact (mulU_zero a).symm
  | cons c l ih =>
    show mulU (evalU (l.map (mulU a)) z) z ^^^ mulU a c = mulU a (mulU (evalU l z) z ^^^ c)
    rw [ih, mulU_xor, mulU_assoc]
theorem Pol.add {n : Nat} {f g : UInt8 → UInt8} (hf : Pol n f) (hg : Pol n g) : Pol n fun z => f z ^^^ g z := by
  obtain ⟨l, h1, h2⟩ := hf
  obtain ⟨m, h3, h4⟩ := hg
  exact ⟨addL l m, addL_length l m n h1 h3, fun z => by show f z ^^^ g z = _; rw [addL_eval, h2, h4]⟩
theorem Pol.mul {n : Nat} {f : UInt8 → UInt8} (hf : Pol n f) (a : UInt8) : Pol n fun z => mulU a (f z) := by
  obtain ⟨l, h1, h2⟩ := hf
  exact ⟨l.map (mulU a), by rw [List.length_map]; exact h1, fun z => by show mulU a (f z) = _; rw [evalU_map, h2]⟩
theorem Pol.less {m n : Nat} {f : UInt8 → UInt8} (hf : Pol m f) (h : m ≤ n) : Pol n f := by
  obtain ⟨l, h1, h2⟩ := hf
  exact ⟨l, by omega, h2⟩
theorem Pol.shift {n : Nat} {f : UInt8 → UInt8} (hf : Pol n f) (c : UInt8) : Pol (n + 1) fun z => mulU (f z) (c ^^^ z) := by
  have h1 : Pol (n + 1) fun z => mulU (f z) z := by
    obtain ⟨l, h1, h2⟩ := hf
    exact ⟨0 :: l, by rw [List.length_cons]; omega, fun z => by show mulU (f z) z = mulU (evalU l z) z ^^^ 0; rw [UInt8.xor_zero, h2]⟩
  have h2 := h1.add ((hf.mul c).less (Nat.le_succ n))
  obtain ⟨l, h3, h4⟩ := h2
  refine ⟨l, h3, fun z => ?_⟩
  rw [← h4 z]
  show mulU (f z) (c ^^^ z) = mulU (f z) z ^^^ mulU c (f z)
  rw [mulU_xor, mulU_comm c, UInt8.xor_comm]
theorem Pol.sum (n m : Nat) (f : Nat → UInt8 → UInt8) (hf : ∀ i, i < m → Pol n (f i)) : Pol n fun z => sumU m fun i => f i z := by
  induction m with
  | zero => exact ⟨[], Nat.zero_le _, fun _ => rfl⟩
  | succ m ih => exact (ih fun i hi => hf i (by omega)).add (hf m (by omega))
/-- division by a root's factor -/
theorem divide (l : List UInt8) (r : UInt8) : ∃ q : List UInt8, q.length ≤ l.length - 1 ∧ ∀ z, evalU l z = mulU (evalU q z) (z ^^^ r) ^^^ evalU l r := by
  induction l with
  | nil => exact ⟨[], Nat.zero_le _, fun z => by show (0 : UInt8) = mulU 0 _ ^^^ 0; rw [zero_mulU]; exact (xor_self8 0).symm⟩
  | cons c t ih =>
    cases t with
    | nil => exact ⟨[], Nat.zero_le _, fun z => by rw [evalU_one, evalU_one]; show c = mulU 0 _ ^^^ c; rw [zero_mulU, UInt8.zero_xor]⟩
    | cons c2 t2 =>
      obtain ⟨q, h1, h2⟩ := ih
      refine ⟨evalU (c2 :: t2) r :: q, by simp only [List.length_cons] at h1 ⊢; omega, fun z => ?_⟩
      generalize c2 :: t2 = t at h2 ⊢
      show mulU (evalU t z) z ^^^ c = mulU (mulU (evalU q z) z ^^^ evalU t r) (z ^^^ r) ^^^ (mulU (evalU t r) r ^^^ c)
      rw [h2 z]
      generalize evalU q z = Q
      generalize evalU t r = T
      rw [xor_mulU, xor_mulU, mulU_xor T z r, mulU_assoc Q, mulU_assoc Q, mulU_comm (z ^^^ r) z]
      rw [show mulU Q (mulU z (z ^^^ r)) ^^^ (mulU T z ^^^ mulU T r) ^^^ (mulU T r ^^^ c) = mulU Q (mulU z (z ^^^ r)) ^^^ mulU T z ^^^ c ^^^ (mulU T r ^^^ mulU T r) by ac_rfl, xor_self8, UInt8.xor_zero]
/-- a polynomial with as many different roots as coefficients is 0 -/
theorem roots_zero (n : Nat) (f : UInt8 → UInt8) (hf : Pol n f) (y : Nat → UInt8) (hy : ∀ i j, i < j → j < n → y i ≠ y j) (h0 : ∀ j, j < n → f (y j) = 0) (z : UInt8) : f z = 0 := by
  induction n generalizing f z with
  | zero =>
    obtain ⟨l, h1, h2⟩ := hf
    have hl : l = [] := List.eq_nil_of_length_eq_zero (by omega)
    rw [h2, hl]
    rfl
  | succ n ih =>
    obtain ⟨l, h1, h2⟩ := hf
    obtain ⟨q, h3, h4⟩ := divide l (y n)
    have hz : evalU l (y n) = 0 := by rw [← h2]; exact h0 n (by omega)
    have hfz : ∀ z, f z = mulU (evalU q z) (z ^^^ y n) := fun z => by rw [h2, h4, hz, UInt8.xor_zero]
    have hq : ∀ z, evalU q z = 0 := fun z => ih (evalU q) ⟨q, by omega, fun _ => rfl⟩ (fun i j hi hj => hy i j hi (by omega)) (fun j hj => by
      have h5 := h0 j (by omega)
      rw [hfz] at h5
      rcases mul_eq_zero _ _ h5 with h6 | h6
      · exact h6
      · exact absurd (xor_self_eq h6) (hy j n hj (by omega))) z
    rw [hfz, hq, zero_mulU]

/-- the product of x k + z over all k below n other than i -/
def prX (x : Nat → UInt8) : Nat → Nat → UInt8 → UInt8
  | 0, _, _ => 1
  | n + 1, i, z => if n = i then prX x n i z else mulU (prX x n i z) (x n ^^^ z)
theorem prX_pol (x : Nat → UInt8) (n i : Nat) : Pol (n + 1) (prX x n i) ∧ (i < n → Pol n (prX x n i)) := by
  induction n with
  | zero => exact ⟨⟨[1], Nat.le_refl _, fun z => (evalU_one 1 z).symm⟩, fun h => absurd h (Nat.not_lt_zero _)⟩
  | succ n ih =>
    by_cases e : n = i
    · have h1 : prX x (n + 1) i = prX x n i := funext fun z => if_pos e
      rw [h1]
      exact ⟨ih.1.less (by omega), fun _ => ih.1⟩
    · have h1 : prX x (n + 1) i = fun z => mulU (prX x n i z) (x n ^^^ z) := funext fun z => if_neg e
      rw [h1]
      exact ⟨ih.1.shift (x n), fun h => (ih.2 (by omega)).shift (x n)⟩
theorem prX_full (x : Nat → UInt8) (n i : Nat) (z : UInt8) (hi : i < n) : mulU (prX x n i z) (x i ^^^ z) = prX x n n z := by
  have aux : ∀ m, (m ≤ i → prX x m i z = prX x m n z) ∧ (i < m → m ≤ n → mulU (prX x m i z) (x i ^^^ z) = prX x m n z) := by
    intro m
    induction m with
    | zero => exact ⟨fun _ => rfl, fun h => absurd h (Nat.not_lt_zero _)⟩
    | succ m ih =>
      refine ⟨fun h => ?_, fun h1 h2 => ?_⟩
      · simp only [prX]
        rw [if_neg (by omega), if_neg (by omega), ih.1 (by omega)]
      · simp only [prX]
        rw [if_neg (show ¬ m = n by omega)]
        by_cases e : m = i
        · rw [if_pos e, ih.1 (by omega), e]
        · rw [if_neg e, ← ih.2 (by omega) (by omega), mulU_swap]
  exact (aux n).2 hi (Nat.le_refl _)
theorem prX_zero (x : Nat → UInt8) (n i t : Nat) (ht : t < n) (hne : i ≠ t) : prX x n i (x t) = 0 := by
  induction n with
  | zero => omega
  | succ n ih =>
    simp only [prX]
    by_cases e : n = t
    · subst e
      rw [if_neg (fun h => hne h.symm), xor_self8, mulU_zero]
    · rw [ih (by omega), zero_mulU]
      split <;> rfl
theorem prX_ne (x : Nat → UInt8) (n t : Nat) (z : UInt8) (h : ∀ k, k < n → k ≠ t → x k ≠ z) : prX x n t z ≠ 0 := by
  induction n with
  | zero => show (1 : UInt8) ≠ 0; decide
  | succ n ih =>
    simp only [prX]
    by_cases e : n = t
    · rw [if_pos e]; exact ih fun k hk => h k (by omega)
    · rw [if_neg e]
      intro h0
      rcases mul_eq_zero _ _ h0 with h1 | h1
      · exact ih (fun k hk => h k (by omega)) h1
      · exact h n (by omega) e (xor_self_eq h1)
/-- the rows of a square matrix of inverses of sums of different elements are independent -/
theorem cauchy_indep (n : Nat) (x y : Nat → UInt8) (hx : ∀ i j, i < j → j < n → x i ≠ x j) (hy : ∀ i j, i < j → j < n → y i ≠ y j) (hxy : ∀ i j, i < n → j < n → x i ≠ y j)
    (d : Nat → UInt8) (h : ∀ k, k < n → comb n d (fun i j => invU (x i ^^^ y j)) k = 0) : ∀ i, i < n → d i = 0 := by
  have hpol : Pol n fun z => sumU n fun i => mulU (d i) (prX x n i z) := Pol.sum n n _ fun i hi => ((prX_pol x n i).2 hi).mul (d i)
  have hval : ∀ j, j < n → (sumU n fun i => mulU (d i) (prX x n i (y j))) = 0 := fun j hj => by
    have e1 : (sumU n fun i => mulU (d i) (prX x n i (y j))) = sumU n fun i => mulU (prX x n n (y j)) (mulU (d i) (invU (x i ^^^ y j))) := sumU_congr _ _ _ fun i hi => by
      have hne : x i ^^^ y j ≠ 0 := fun h0 => hxy i j hi hj (xor_self_eq h0)
      have e2 : prX x n i (y j) = mulU (prX x n n (y j)) (invU (x i ^^^ y j)) := by
        rw [← prX_full x n i (y j) hi, mulU_assoc, mul_inv _ hne, mulU_one]
      rw [e2, ← mulU_assoc, mulU_comm (d i), mulU_assoc]
    rw [e1, sumU_mul]
    have := h j hj
    unfold comb at this
    rw [this, mulU_zero]
  have hzero := roots_zero n _ hpol y hy hval
  intro t ht
  have e3 : (sumU n fun i => mulU (d i) (prX x n i (x t))) = mulU (d t) (prX x n t (x t)) := sumU_one n t _ ht fun i _ hne => by rw [prX_zero x n i t ht hne, mulU_zero]
  have e4 := hzero (x t)
  rw [e3] at e4
  rcases mul_eq_zero _ _ e4 with h1 | h1
  · exact h1
  · refine absurd h1 (prX_ne x n t (x t) fun k hk hne => ?_)
    rcases Nat.lt_or_gt_of_ne hne with h' | h'
    · exact hx k t h' ht
    · exact fun e => hx t k h' hk e.symm
theorem cauchy_inv (n : Nat) (x y : Nat → UInt8) (hx : ∀ i j, i < j → j < n → x i ≠ x j) (hy : ∀ i j, i < j → j < n → y i ≠ y j) (hxy : ∀ i j, i < n → j < n → x i ≠ y j) : ∃ A, Inv n A fun i j => invU (x i ^^^ y j) :=
  inv_of_indep n _ fun d hd => cauchy_indep n x y hx hy hxy d hd
end Go.Proofs.Ytinfjidclkgfnaa
namespace Go.Proofs.Ytinfjidclkgfnaa
/-- the product of the polynomials, the lowest i digits of y taken -/
def clP (x y : Nat) : Nat → Nat
  | 0 => 0
  | i + 1 => if y / 2 ^ i % 2 = 1 then clP x y i ^^^ (x * 2 ^ i) else clP x y i
/-- one step of the reduction -/
def redS (p i : Nat) : Nat := if p / 2 ^ i % 2 = 1 then p ^^^ (285 * 2 ^ (i - 8)) else p
/-- k steps, from the digit 15 down -/
def redN (p : Nat) : Nat → Nat
  | 0 => p
  | k + 1 => redS (redN p k) (15 - k)
theorem bit_xor (p q i : Nat) : (p ^^^ q) / 2 ^ i % 2 = (p / 2 ^ i % 2 + q / 2 ^ i % 2) % 2 := by
  have h : ∀ n, n / 2 ^ i % 2 = (n.testBit i).toNat := fun n => by
    rw [Nat.testBit_eq_decide_div_mod_eq]
    by_cases h : n / 2 ^ i % 2 = 1
    · simp [h]
    · have : n / 2 ^ i % 2 = 0 := by omega
      simp [this]
  rw [h, h, h, Nat.testBit_xor]
  cases p.testBit i <;> cases q.testBit i <;> rfl
theorem redS_xor (p q i : Nat) : redS (p ^^^ q) i = redS p i ^^^ redS q i := by
  unfold redS
  rw [bit_xor]
  rcases (show p / 2 ^ i % 2 = 0 ∨ p / 2 ^ i % 2 = 1 by omega) with h1 | h1
  · rcases (show q / 2 ^ i % 2 = 0 ∨ q / 2 ^ i % 2 = 1 by omega) with h2 | h2
    · rw [h1, h2, if_neg (by decide), if_neg (by decide), if_neg (by decide)]
    · rw [h1, h2, if_pos (by decide), if_neg (by decide), if_pos rfl, Nat.xor_assoc]
  · rcases (show q / 2 ^ i % 2 = 0 ∨ q / 2 ^ i % 2 = 1 by omega) with h2 | h2
    · rw [h1, h2, if_pos (by decide), if_pos rfl, if_neg (by decide), Nat.xor_assoc, Nat.xor_assoc, Nat.xor_comm q]
    · rw [h1, h2, if_neg (by decide), if_pos rfl, if_pos rfl, show p ^^^ 285 * 2 ^ (i - 8) ^^^ (q ^^^ 285 * 2 ^ (i - 8)) = p ^^^ q ^^^ (285 * 2 ^ (i - 8) ^^^ 285 * 2 ^ (i - 8)) by ac_rfl, Nat.xor_self, Nat.xor_zero]
theorem redN_xor (p q k : Nat) : redN (p ^^^ q) k = redN p k ^^^ redN q k := by
  induction k with
  | zero => rfl
  | succ k ih => simp only [redN, ih, redS_xor]
theorem redN_zero (k : Nat) : redN 0 k = 0 := by
  have := redN_xor 0 0 k
  rw [Nat.xor_self] at this
  rw [this, Nat.xor_self]
/-- j doublings -/
def dblN : Nat → UInt8 → UInt8
  | 0, a => a
  | j + 1, a => dblU (dblN j a)
theorem dblN_dbl (j : Nat) (a : UInt8) : dblN j (dblU a) = dblN (j + 1) a := by
  induction j with
  | zero => rfl
  | succ j ih => show dblU (dblN j (dblU a)) = _; rw [ih]; rfl
theorem red_shift : ∀ a : Fin 256, ∀ j : Fin 8, redN (a.val * 2 ^ j.val) 8 = (dblN j.val (UInt8.ofNat a.val)).toNat := by decide +kernel
/-- the sum of the doublings over the lowest i digits -/
def sumL (a : UInt8) (y : Nat) : Nat → UInt8
  | 0 => 0
  | i + 1 => if y / 2 ^ i % 2 = 1 then sumL a y i ^^^ dblN i a else sumL a y i
theorem sumL_first (a : UInt8) (y n : Nat) : sumL a y (n + 1) = if y % 2 = 1 then a ^^^ sumL (dblU a) (y / 2) n else sumL (dblU a) (y / 2) n := by
  induction n with
  | zero =>
    show (if y / 2 ^ 0 % 2 = 1 then (0 : UInt8) ^^^ a else 0) = if y % 2 = 1 then a ^^^ 0 else 0
    rw [Nat.pow_zero, Nat.div_one, UInt8.zero_xor, UInt8.xor_zero]
  | succ n ih =>
    have e : y / 2 ^ (n + 1) = y / 2 / 2 ^ n := by rw [Nat.div_div_eq_div_mul, Nat.pow_succ, Nat.mul_comm]
    show (if y / 2 ^ (n + 1) % 2 = 1 then sumL a y (n + 1) ^^^ dblN (n + 1) a else sumL a y (n + 1)) = if y % 2 = 1 then a ^^^ (if y / 2 / 2 ^ n % 2 = 1 then sumL (dblU a) (y / 2) n ^^^ dblN n (dblU a) else sumL (dblU a) (y / 2) n) else if y / 2 / 2 ^ n % 2 = 1 then sumL (dblU a) (y / 2) n ^^^ dblN n (dblU a) else sumL (dblU a) (y / 2) n
    rw [ih, e, dblN_dbl]
    by_cases h1 : y % 2 = 1 <;> by_cases h2 : y / 2 / 2 ^ n % 2 = 1 <;> simp only [h1, h2, if_true, if_false]
    rw [UInt8.xor_assoc]
theorem sumL_low (a : UInt8) (y n : Nat) : sumL a y n = lowU a y n := by
  induction n generalizing a y with
  | zero => rfl
  | succ n ih => rw [sumL_first, ih]; rfl
theorem red_part (a b : UInt8) (i : Nat) (hi : i ≤ 8) : redN (clP a.toNat b.toNat i) 8 = (sumL a b.toNat i).toNat := by
  induction i with
  | zero => exact redN_zero 8
  | succ i ih =>
    have h := red_shift ⟨a.toNat, a.toNat_lt⟩ ⟨i, by omega⟩
    rw [show UInt8.ofNat a.toNat = a from UInt8.ofNat_toNat] at h
    simp only [clP, sumL]
    split
    · rw [redN_xor, ih (by omega), UInt8.toNat_xor, ← h]
    · exact ih (by omega)
/-- the reduced product of the polynomials is the product -/
theorem red_mul (a b : UInt8) : redN (clP a.toNat b.toNat 8) 8 = (mulU a b).toNat := by
  rw [red_part a b 8 (Nat.le_refl _), sumL_low]
  rfl
theorem clP_lt (x y i : Nat) (hx : x < 256) : clP x y i < 2 ^ (8 + i) := by
  induction i with
  | zero => show (0 : Nat) < _; decide
  | succ i ih =>
    have h1 : clP x y i < 2 ^ (8 + (i + 1)) := Nat.lt_trans ih (Nat.pow_lt_pow_right (by decide) (by omega))
    simp only [clP]
    split
    · refine Nat.xor_lt_two_pow h1 ?_
      rw [show 8 + (i + 1) = 8 + 1 + i by omega, Nat.pow_add]
      exact Nat.mul_lt_mul_of_pos_right (by omega) (Nat.two_pow_pos i)
    · exact h1
theorem redS_lt (p i : Nat) (hi : i ≤ 15) (hp : p < 65536) : redS p i < 65536 := by
  unfold redS
  split
  · refine Nat.xor_lt_two_pow (n := 16) hp ?_
    have : 2 ^ (i - 8) ≤ 2 ^ 7 := Nat.pow_le_pow_right (by decide) (by omega)
    omega
  · exact hp
theorem redN_lt (p k : Nat) (hp : p < 65536) : redN p k < 65536 := by
  induction k with
  | zero => exact hp
  | succ k ih => exact redS_lt _ _ (by omega) ih
end Go.Proofs.Ytinfjidclkgfnaa
namespace Go.Proofs.Ytinfjidclkgfnaa
theorem Inside.row {r' r C : Nat} {M' M : Nat → Nat → UInt8} (h : ∀ i, i < r' → ∃ k, k < r ∧ ∀ j, j < C → M' i j = M k j) : Inside r' r C M' M := fun i hi => by
  obtain ⟨k, hk, hM⟩ := h i hi
  exact ⟨dl k, fun j hj => by rw [comb_dl r k M j hk]; exact hM j hj⟩
/-- each row is a multiple of a row and a multiple of another one -/
theorem Inside.two {r' r C : Nat} {M' M : Nat → Nat → UInt8} (h : ∀ i, i < r' → ∃ k l a b, k < r ∧ l < r ∧ ∀ j, j < C → M' i j = mulU a (M k j) ^^^ mulU b (M l j)) : Inside r' r C M' M := fun i hi => by
  obtain ⟨k, l, a, b, hk, hl, hM⟩ := h i hi
  refine ⟨fun t => mulU a (dl k t) ^^^ mulU b (dl l t), fun j hj => ?_⟩
  rw [comb_add, comb_mul, comb_mul, comb_dl r k M j hk, comb_dl r l M j hl]
  exact hM j hj

/-- The first j columns of the r rows M are in the reduced form, with the R pivots p; M came of M0 (L columns). -/
structure Reduced (r L : Nat) (M0 M : Nat → Nat → UInt8) (j R : Nat) (p : Nat → Nat) : Prop where
  into : Inside r r L M M0
  back : Inside r r L M0 M
  le : R ≤ r
  pivot : ∀ t, t < R → p t < j ∧ M t (p t) = 1 ∧ (∀ i, i < r → i ≠ t → M i (p t) = 0) ∧ ∀ k, k < p t → M t k = 0
  inc : ∀ s t, s < t → t < R → p s < p t
  rest : ∀ i, R ≤ i → i < r → ∀ k, k < j → M i k = 0
theorem Reduced.start (r L : Nat) (M0 : Nat → Nat → UInt8) : Reduced r L M0 M0 0 0 id :=
  ⟨.refl _ _ _, .refl _ _ _, Nat.zero_le _, fun _ ht => absurd ht (Nat.not_lt_zero _), fun _ _ _ ht => absurd ht (Nat.not_lt_zero _), fun _ _ _ _ hk => absurd hk (Nat.not_lt_zero _)⟩
theorem Reduced.none {r L j R : Nat} {M0 M : Nat → Nat → UInt8} {p : Nat → Nat} (h : Reduced r L M0 M j R p) (hz : ∀ i, R ≤ i → i < r → M i j = 0) : Reduced r L M0 M (j + 1) R p :=
  ⟨h.into, h.back, h.le, fun t ht => ⟨by have := (h.pivot t ht).1; omega, (h.pivot t ht).2⟩, h.inc, fun i hi hir k hk => by
    by_cases e : k = j
    · subst e; exact hz i hi hir
    · exact h.rest i hi hir k (by omega)⟩
/-- the matrix behind a round with the pivot in row a: the rows a and R exchanged, row R divided by the pivot, its multiples added to all others -/
def pivoted (R a j : Nat) (M : Nat → Nat → UInt8) (i k : Nat) : UInt8 :=
  if i = R then mulU (M a k) (invU (M a j)) else M (sw a R i) k ^^^ mulU (M (sw a R i) j) (mulU (M a k) (invU (M a j)))
theorem Reduced.some {r L j R a : Nat} {M0 M : Nat → Nat → UInt8} {p : Nat → Nat} (h : Reduced r L M0 M j R p) (hj : j < L) (ha : R ≤ a) (har : a < r) (hp : M a j ≠ 0) :
    Reduced r L M0 (pivoted R a j M) (j + 1) (R + 1) (fun t => if t = R then j else p t) := by
  have hq : mulU (M a j) (invU (M a j)) = 1 := mul_inv _ hp
  have hRr : R < r := by omega
  have hsw : ∀ i, i < r → sw a R i < r := fun i hi => sw_lt har hRr hi
  have hsR : sw a R R = a := by unfold sw; by_cases e : R = a <;> simp [e]
  have hlow : ∀ t, t < R → sw a R t = t := fun t ht => by unfold sw; rw [if_neg (by omega), if_neg (by omega)]
  have hge : ∀ i, R ≤ i → R ≤ sw a R i := fun i hi => by unfold sw; split; exact Nat.le_refl _; split; exact ha; exact hi
  refine ⟨?_, ?_, by omega, ?_, ?_, ?_⟩
  · -- the new rows are combinations of the old ones
    refine Inside.trans (Inside.two (M := M) fun i hi => ?_) h.into
    by_cases e : i = R
    · exact ⟨a, a, invU (M a j), 0, har, har, fun k _ => by show (if i = R then _ else _) = _; rw [if_pos e, zero_mulU, UInt8.xor_zero, mulU_comm]⟩
    · exact ⟨sw a R i, a, 1, mulU (M (sw a R i) j) (invU (M a j)), hsw i hi, har, fun k _ => by show (if i = R then _ else _) = _; rw [if_neg e, one_mulU, mulU_assoc, mulU_comm (invU (M a j))]⟩
  · -- .. and the old ones of the new ones
    refine Inside.trans h.back (Inside.two fun i hi => ?_)
    by_cases e : i = a
    · exact ⟨R, R, M a j, 0, hRr, hRr, fun k _ => by
        subst e
        rw [zero_mulU, UInt8.xor_zero, show pivoted R i j M R k = mulU (M i k) (invU (M i j)) from if_pos rfl, mulU_comm (M i k), ← mulU_assoc, hq, one_mulU]⟩
    · have hne : sw a R i ≠ R := fun h' => e (by
        have := congrArg (sw a R) h'
        rwa [sw_sw, hsR] at this)
      exact ⟨sw a R i, R, 1, M i j, hsw i hi, hRr, fun k _ => by
        rw [one_mulU, show pivoted R a j M R k = mulU (M a k) (invU (M a j)) from if_pos rfl, show pivoted R a j M (sw a R i) k = M (sw a R (sw a R i)) k ^^^ mulU (M (sw a R (sw a R i)) j) (mulU (M a k) (invU (M a j))) from if_neg hne, sw_sw,
          UInt8.xor_assoc, xor_self8, UInt8.xor_zero]⟩
  · intro t ht
    show (if t = R then j else p t) < j + 1 ∧ pivoted R a j M t (if t = R then j else p t) = 1 ∧ (∀ i, i < r → i ≠ t → pivoted R a j M i (if t = R then j else p t) = 0) ∧ ∀ k, k < (if t = R then j else p t) → pivoted R a j M t k = 0
    by_cases e : t = R
    · rw [if_pos e]
      refine ⟨by omega, ?_, fun i hi hne => ?_, fun k hk => ?_⟩
      · show (if t = R then _ else _) = _
        rw [if_pos e]; exact hq
      · show (if i = R then _ else _) = _
        rw [if_neg (by omega), hq, mulU_one, xor_self8]
      · show (if t = R then _ else _) = _
        rw [if_pos e, h.rest a ha har k hk, zero_mulU]
    · obtain ⟨h1, h2, h3, h4⟩ := h.pivot t (by omega)
      have htR : t < R := by omega
      have haz : M a (p t) = 0 := h3 a har (by omega)
      rw [if_neg e]
      refine ⟨by omega, ?_, fun i hi hne => ?_, fun k hk => ?_⟩
      · show (if t = R then _ else _) = _
        rw [if_neg e, hlow t htR, haz, zero_mulU, mulU_zero, UInt8.xor_zero]; exact h2
      · by_cases ei : i = R
        · show (if i = R then _ else _) = _
          rw [if_pos ei, haz, zero_mulU]
        · show (if i = R then _ else _) = _
          rw [if_neg ei, haz, zero_mulU, mulU_zero, UInt8.xor_zero]
          refine h3 _ (hsw i hi) fun h' => hne ?_
          have := congrArg (sw a R) h'
          rwa [sw_sw, hlow t htR] at this
      · show (if t = R then _ else _) = _
        rw [if_neg e, hlow t htR, h4 k hk, h.rest a ha har k (by omega), zero_mulU, mulU_zero]
        rfl
  · intro s t hs ht
    show (if s = R then j else p s) < (if t = R then j else p t)
    rw [if_neg (show ¬ s = R by omega)]
    by_cases e : t = R
    · rw [if_pos e]; exact (h.pivot s (by omega)).1
    · rw [if_neg e]; exact h.inc s t hs (by omega)
  · intro i hi hir k hk
    show (if i = R then _ else _) = _
    rw [if_neg (by omega)]
    by_cases e : k = j
    · subst e; rw [hq, mulU_one, xor_self8]
    · rw [h.rest (sw a R i) (hge i (by omega)) (hsw i hir) k (by omega), h.rest a ha har k (by omega), zero_mulU, mulU_zero]
      rfl
/-- behind the last row nothing is left to be done -/
theorem Reduced.full {r L j R : Nat} {M0 M : Nat → Nat → UInt8} {p : Nat → Nat} (h : Reduced r L M0 M j R p) (hR : R = r) : Reduced r L M0 M (j + 1) R p := h.none fun i h1 h2 => by omega
theorem Reduced.rank {r L C R : Nat} {M0 M : Nat → Nat → UInt8} {p : Nat → Nat} (h : Reduced r L M0 M C R p) (hC : C ≤ L) : rankF r C M0 = R := by
  rw [rank_eq (h.back.less hC) (h.into.less hC)]
  exact Stairs.rank ⟨h.le, fun t ht => ⟨(h.pivot t ht).1, by rw [(h.pivot t ht).2.1]; decide, (h.pivot t ht).2.2.2⟩, h.inc, h.rest⟩
theorem Reduced.full_any {r L j R : Nat} {M0 M : Nat → Nat → UInt8} {p : Nat → Nat} (h : Reduced r L M0 M j R p) (hR : R = r) (C : Nat) (hC : j ≤ C) : Reduced r L M0 M C R p := by
  obtain ⟨m, rfl⟩ : ∃ m, C = j + m := ⟨C - j, by omega⟩
  clear hC
  induction m with
  | zero => exact h
  | succ m ih => exact ih.full hR
/-- a square matrix with the identity matrix beside it: with all pivots, the inverse stands beside the identity matrix -/
theorem Reduced.inv {n : Nat} {M0 M : Nat → Nat → UInt8} {p : Nat → Nat} (h : Reduced n (n + n) M0 M n n p) (hM : ∀ i, i < n → ∀ j, j < n → M0 i (n + j) = dl i j) : Inv n (fun i j => M i (n + j)) M0 := by
  have hp : ∀ t, t < n → p t = t := by
    have hlo : ∀ t, t < n → t ≤ p t := by
      intro t
      induction t with
      | zero => exact fun _ => Nat.zero_le _
      | succ t ih => intro ht; have h1 := ih (by omega); have h2 := h.inc t (t + 1) (by omega) ht; omega
    have hhi : ∀ m t, t + m + 1 = n → p t ≤ t := by
      intro m
      induction m with
      | zero => intro t ht; have := (h.pivot t (by omega)).1; omega
      | succ m ih => intro t ht; have h1 := ih (t + 1) (by omega); have h2 := h.inc t (t + 1) (by omega) (by omega); omega
    exact fun t ht => Nat.le_antisymm (hhi (n - 1 - t) t (by omega)) (hlo t ht)
  intro i hi j hj
  obtain ⟨c, hc⟩ := h.into i hi
  have hci : ∀ l, l < n → M i (n + l) = c l := fun l hl => by
    rw [hc (n + l) (by omega)]
    unfold Proofs.Ytinfjidclkgfnaa.comb
    rw [sumU_one n l _ hl (fun k hk hne => by rw [hM k hk l hl, dl_ne hne, mulU_zero]), hM l hl l hl, dl_same, mulU_one]
  have h1 : Proofs.Ytinfjidclkgfnaa.comb n (fun l => M i (n + l)) M0 j = M i j := by
    rw [hc j (by omega)]
    exact comb_congr (fun l hl => hci l hl) fun _ _ => rfl
  show Proofs.Ytinfjidclkgfnaa.comb n (fun l => M i (n + l)) M0 j = dl i j
  rw [h1]
  obtain ⟨_, h2, h3, _⟩ := h.pivot j hj
  rw [hp j hj] at h2 h3
  by_cases e : i = j
  · subst e; rw [h2, dl_same]
  · rw [h3 i hi e, dl_ne e]
/-- too few pivots: there is no inverse -/
theorem Reduced.no_inv {n L R : Nat} {M0 M A : Nat → Nat → UInt8} {p : Nat → Nat} (h : Reduced n L M0 M n R p) (hL : n ≤ L) (hR : R < n) : ¬ Inv n A M0 := fun hA => by
  have h1 := hA.rank
  rw [h.rank hL] at h1
  omega
theorem Inv.congr {n : Nat} {A B M N : Nat → Nat → UInt8} (h : Inv n A M) (hA : ∀ i, i < n → ∀ j, j < n → A i j = B i j) (hM : ∀ i, i < n → ∀ j, j < n → M i j = N i j) : Inv n B N := fun i hi j hj => by
  rw [← h i hi j hj]
  exact comb_congr (fun k hk => (hA i hi k hk).symm) fun k hk => (hM k hk j hj).symm
end Go.Proofs.Ytinfjidclkgfnaa
namespace Go.Proofs.Ytinfjidclkgfnaa
/-- the element in row i and column j -/
def ent (M : List (List UInt8)) (i j : Nat) : UInt8 := (M.getD i []).getD j 0
/-- the matrix of r rows and c columns with these elements -/
def matL (r c : Nat) (f : Nat → Nat → UInt8) : List (List UInt8) := (List.range r).map fun i => (List.range c).map (f i)
theorem matL_length (r c : Nat) (f : Nat → Nat → UInt8) : (matL r c f).length = r := by simp [matL]
theorem matL_row (r c i : Nat) (f : Nat → Nat → UInt8) (h : i < (matL r c f).length) : (matL r c f)[i] = (List.range c).map (f i) := by simp [matL]
theorem matL_rows (r c : Nat) (f : Nat → Nat → UInt8) : ∀ row ∈ matL r c f, row.length = c := by
  intro row h
  obtain ⟨i, _, rfl⟩ := List.mem_map.1 h
  simp
theorem matL_ent (r c i j : Nat) (f : Nat → Nat → UInt8) (hi : i < r) (hj : j < c) : ent (matL r c f) i j = f i j := by
  simp [ent, matL, hi, hj]
theorem matL_congr (r c : Nat) (f g : Nat → Nat → UInt8) (h : ∀ i, i < r → ∀ j, j < c → f i j = g i j) : matL r c f = matL r c g := by
  unfold matL
  refine List.map_congr_left fun i hi => List.map_congr_left fun j hj => h i ?_ j ?_
  · simpa using hi
  · simpa using hj
theorem matL_succ (r c : Nat) (f : Nat → Nat → UInt8) : matL (r + 1) c f = matL r c f ++ [(List.range c).map (f r)] := by
  simp [matL, List.range_succ]
theorem row_succ (c : Nat) (g : Nat → UInt8) : (List.range (c + 1)).map g = (List.range c).map g ++ [g c] := by simp [List.range_succ]

/-- the columns of the first row -/
def cols (M : List (List UInt8)) : Nat := (M.headD []).length
structure ValidL (M : List (List UInt8)) : Prop where
  pos : 1 ≤ M.length
  le : M.length ≤ 64
  row : ∀ row ∈ M, row.length = cols M
  cpos : 1 ≤ cols M
  cle : cols M ≤ 64
theorem matL_cols (r c : Nat) (f : Nat → Nat → UInt8) (hr : 1 ≤ r) : cols (matL r c f) = c := by
  obtain ⟨m, rfl⟩ : ∃ m, r = m + 1 := ⟨r - 1, by omega⟩
  unfold cols
  rw [show (matL (m + 1) c f).headD [] = (List.range c).map (f 0) by simp [matL, List.range_succ_eq_map]]
  simp
theorem matL_valid (r c : Nat) (f : Nat → Nat → UInt8) (hr : 1 ≤ r) (hr2 : r ≤ 64) (hc : 1 ≤ c) (hc2 : c ≤ 64) : ValidL (matL r c f) := by
  have h := matL_cols r c f hr
  exact ⟨by rw [matL_length]; exact hr, by rw [matL_length]; exact hr2, fun row hrow => by rw [h]; exact matL_rows r c f row hrow, by rw [h]; exact hc, by rw [h]; exact hc2⟩
/-- a matrix whose rows have c elements is that of its elements -/
theorem matL_self (M : List (List UInt8)) (c : Nat) (h : ∀ row ∈ M, row.length = c) : matL M.length c (ent M) = M := by
  apply List.ext_getElem
  · exact matL_length _ _ _
  · intro i h1 h2
    rw [matL_row _ _ i _ h1]
    apply List.ext_getElem
    · rw [List.length_map, List.length_range]; exact (h _ (List.getElem_mem h2)).symm
    · intro j h3 h4
      simp [ent, h2, h4]
theorem ValidL.self {M : List (List UInt8)} (h : ValidL M) : matL M.length (cols M) (ent M) = M := matL_self M _ h.row

/-- the product of two matrices -/
def mulL (a b : List (List UInt8)) : List (List UInt8) := matL a.length (cols b) fun i j => comb b.length (ent a i) (ent b) j
/-- the product of a matrix and a vector -/
def appL (m : List (List UInt8)) (v : List UInt8) : List UInt8 := (List.range m.length).map fun i => comb v.length (ent m i) (fun k _ => v.getD k 0) 0
def idL (n : Nat) : List (List UInt8) := matL n n dl
def cauL (r c : Nat) : List (List UInt8) := matL r c fun i j => invU (UInt8.ofNat ((c + i) ^^^ j))
theorem appL_length (m : List (List UInt8)) (v : List UInt8) : (appL m v).length = m.length := by simp [appL]
theorem appL_get (m : List (List UInt8)) (v : List UInt8) (i : Nat) (hi : i < m.length) : (appL m v).getD i 0 = comb v.length (ent m i) (fun k _ => v.getD k 0) 0 := by simp [appL, hi]
/-- applying a product is applying both factors -/
theorem appL_mul (a b : List (List UInt8)) (v : List UInt8) (hv : v.length = cols b) : appL (mulL a b) v = appL a (appL b v) := by
  unfold appL
  rw [show (mulL a b).length = a.length from matL_length _ _ _]
  refine List.map_congr_left fun i hi => ?_
  have hi' : i < a.length := by simpa using hi
  have h1 : comb v.length (ent (mulL a b) i) (fun k _ => v.getD k 0) 0 = comb v.length (fun q => comb b.length (ent a i) (ent b) q) (fun k _ => v.getD k 0) 0 :=
    comb_congr (fun q hq => matL_ent _ _ i q _ hi' (by rw [← hv]; exact hq)) fun _ _ => rfl
  rw [h1, ← comb_comb]
  rw [show ((List.range b.length).map fun i => comb v.length (ent b i) (fun k _ => v.getD k 0) 0).length = b.length by simp]
  refine comb_congr (fun _ _ => rfl) fun k hk => ?_
  simp [hk]
theorem rank_mul_first (a b : List (List UInt8)) (K : Nat) (hK : b.length = K) : rankF a.length (cols b) (ent (mulL a b)) ≤ rankF a.length K (ent a) := by
  have h := rank_first a.length b.length (cols b) (ent a) (ent b)
  rw [← hK]
  refine Nat.le_trans (Nat.le_of_eq ?_) h
  refine rank_eq ?_ ?_
  · exact Inside.row fun i hi => ⟨i, hi, fun j hj => matL_ent _ _ i j _ hi hj⟩
  · exact Inside.row fun i hi => ⟨i, hi, fun j hj => (matL_ent a.length (cols b) i j (fun i j => comb b.length (ent a i) (ent b) j) hi hj).symm⟩
theorem rank_mul_second (a b : List (List UInt8)) : rankF a.length (cols b) (ent (mulL a b)) ≤ rankF b.length (cols b) (ent b) :=
  rank_mono fun i hi => ⟨ent a i, fun j hj => matL_ent _ _ i j _ hi hj⟩
/-- the products of a matrix and its inverse -/
theorem mulL_left (n : Nat) (A : Nat → Nat → UInt8) (M : List (List UInt8)) (hM : M.length = n) (hc : cols M = n) (h : Inv n A (ent M)) : mulL (matL n n A) M = idL n := by
  unfold mulL idL
  rw [matL_length, hM, hc]
  exact matL_congr _ _ _ _ fun i hi j hj => by
    rw [show comb n (ent (matL n n A) i) (ent M) j = comb n (A i) (ent M) j from comb_congr (fun k hk => matL_ent n n i k A hi hk) fun _ _ => rfl]
    exact h i hi j hj
theorem mulL_right (n : Nat) (A : Nat → Nat → UInt8) (M : List (List UInt8)) (hM : M.length = n) (hn : 1 ≤ n) (h : Inv n A (ent M)) : mulL M (matL n n A) = idL n := by
  unfold mulL idL
  rw [matL_length, matL_cols n n A hn, hM]
  exact matL_congr _ _ _ _ fun i hi j hj => by
    rw [show comb n (ent M i) (ent (matL n n A)) j = comb n (ent M i) A j from comb_congr (fun _ _ => rfl) fun k hk => matL_ent n n k j A hk hj]
    exact h.other i hi j hj
theorem Inv.back {n : Nat} {A : Nat → Nat → UInt8} {M : List (List UInt8)} (h : Inv n A (ent M)) : Inv n (ent M) (ent (matL n n A)) :=
  h.other.congr (fun _ _ _ _ => rfl) fun i hi j hj => (matL_ent n n i j A hi hj).symm

/-- a minor of a Cauchy matrix -/
theorem minor_inv (n r c : Nat) (R L : Nat → Nat) (hr : ∀ i, i < n → R i < r) (hl : ∀ i, i < n → L i < c) (hs : r + c ≤ 64) (hR : ∀ i j, i < j → j < n → R i ≠ R j) (hL : ∀ i j, i < j → j < n → L i ≠ L j) :
    ∃ A, Inv n A fun i j => ent (cauL r c) (R i) (L j) := by
  have hof : ∀ a b, a < 256 → b < 256 → UInt8.ofNat a = UInt8.ofNat b → a = b := fun a b ha hb h => by
    have := congrArg UInt8.toNat h
    rw [UInt8.toNat_ofNat', UInt8.toNat_ofNat'] at this
    omega
  obtain ⟨A, hA⟩ := cauchy_inv n (fun i => UInt8.ofNat (c + R i)) (fun j => UInt8.ofNat (L j))
    (fun i j hi hj h => hR i j hi hj (by have := hr i (by omega); have := hr j hj; have := hof _ _ (by omega) (by omega) h; omega))
    (fun i j hi hj h => hL i j hi hj (by have := hl i (by omega); have := hl j hj; exact hof _ _ (by omega) (by omega) h))
    (fun i j hi hj h => by have := hr i hi; have := hl j hj; have := hof _ _ (by omega) (by omega) h; omega)
  refine ⟨A, hA.congr (fun _ _ _ _ => rfl) fun i hi j hj => ?_⟩
  show _ = ent (cauL r c) (R i) (L j)
  rw [show ent (cauL r c) (R i) (L j) = invU (UInt8.ofNat ((c + R i) ^^^ L j)) from matL_ent r c (R i) (L j) _ (hr i hi) (hl j hj)]
  congr 1
  apply UInt8.toNat_inj.1
  have h1 := hr i hi
  have h2 := hl j hj
  have h3 : (c + R i) ^^^ L j < 2 ^ 6 := Nat.xor_lt_two_pow (by omega) (by omega)
  rw [UInt8.toNat_xor, UInt8.toNat_ofNat', UInt8.toNat_ofNat', UInt8.toNat_ofNat', Nat.mod_eq_of_lt (by omega), Nat.mod_eq_of_lt (by omega), Nat.mod_eq_of_lt (by omega)]
end Go.Proofs.Ytinfjidclkgfnaa
