/-
  Plain mathematics of the field with 256 elements, without the program: doubling, products, powers of the generator, inverses.
-/
namespace Go.Proofs.Ytpjegenobadckaa
theorem all_u8 {P : UInt8 → Prop} (h : ∀ i : Fin 256, P (UInt8.ofNat i.val)) (x : UInt8) : P x := by
  have := h ⟨x.toNat, x.toNat_lt⟩
  rwa [show UInt8.ofNat x.toNat = x from UInt8.ofNat_toNat] at this

/-- doubling: the product with the generator -/
def dblB (a : BitVec 8) : BitVec 8 := if a.msb then (a <<< 1) ^^^ 29#8 else a <<< 1
def dblU (a : UInt8) : UInt8 := ⟨dblB a.toBitVec⟩
theorem dblB_xor (a b : BitVec 8) : dblB (a ^^^ b) = dblB a ^^^ dblB b := by
  unfold dblB
  rw [BitVec.msb_xor, BitVec.shiftLeft_xor_distrib]
  generalize a <<< 1 = x
  generalize b <<< 1 = y
  cases a.msb <;> cases b.msb <;> simp only [Bool.xor_false, Bool.xor_true, Bool.not_true, Bool.not_false, Bool.false_eq_true, if_true, if_false]
  · ac_rfl
  · ac_rfl
  · rw [show x ^^^ 29#8 ^^^ (y ^^^ 29#8) = (x ^^^ y) ^^^ (29#8 ^^^ 29#8) by ac_rfl]
    simp
theorem dblU_xor (a b : UInt8) : dblU (a ^^^ b) = dblU a ^^^ dblU b := by
  apply UInt8.toBitVec_inj.1
  show dblB (a ^^^ b).toBitVec = _
  rw [UInt8.toBitVec_xor, dblB_xor]
  rfl
theorem dblU_zero : dblU 0 = 0 := by decide
theorem dbl_lo (a : UInt8) : a.toNat < 128 → (dblU a).toNat = 2 * a.toNat := all_u8 (P := fun a => a.toNat < 128 → (dblU a).toNat = 2 * a.toNat) (by decide +kernel) a
theorem dbl_hi (a : UInt8) : 128 ≤ a.toNat → (dblU a).toNat = (2 * a.toNat - 256) ^^^ 29 := all_u8 (P := fun a => 128 ≤ a.toNat → (dblU a).toNat = (2 * a.toNat - 256) ^^^ 29) (by decide +kernel) a
theorem dbl_hi' (a : UInt8) : 128 ≤ a.toNat → (dblU a).toNat = (2 * a.toNat) ^^^ 285 := all_u8 (P := fun a => 128 ≤ a.toNat → (dblU a).toNat = (2 * a.toNat) ^^^ 285) (by decide +kernel) a
theorem xor_self8 (a : UInt8) : a ^^^ a = 0 := UInt8.xor_self

/-- the sum of the doublings of a over the lowest n binary digits of y -/
def lowU (a : UInt8) (y : Nat) : Nat → UInt8
  | 0 => 0
  | n + 1 => if y % 2 = 1 then a ^^^ lowU (dblU a) (y / 2) n else lowU (dblU a) (y / 2) n
theorem lowU_xor (a b : UInt8) (y n : Nat) : lowU (a ^^^ b) y n = lowU a y n ^^^ lowU b y n := by
  induction n generalizing a b y with
  | zero => simp [lowU]
  | succ n ih =>
    simp only [lowU, dblU_xor, ih]
    split
    · ac_rfl
    · rfl
theorem lowU_dbl (a : UInt8) (y n : Nat) : lowU (dblU a) y n = dblU (lowU a y n) := by
  induction n generalizing a y with
  | zero => simp [lowU, dblU_zero]
  | succ n ih =>
    simp only [lowU]
    rw [ih (dblU a)]
    split
    · rw [dblU_xor]
    · rfl
theorem lowU_zero_right (a : UInt8) (n : Nat) : lowU a 0 n = 0 := by
  induction n generalizing a with
  | zero => rfl
  | succ n ih => simp [lowU, ih]
theorem lowU_zero_left (y n : Nat) : lowU 0 y n = 0 := by
  induction n generalizing y with
  | zero => rfl
  | succ n ih => simp [lowU, dblU_zero, ih]
theorem lowU_comm (x : UInt8) (y n z m : Nat) : lowU (lowU x y n) z m = lowU (lowU x z m) y n := by
  induction n generalizing x y with
  | zero => simp [lowU, lowU_zero_left]
  | succ n ih =>
    have e : lowU (dblU (lowU x z m)) (y / 2) n = lowU (lowU (dblU x) (y / 2) n) z m := by rw [ih, lowU_dbl x z m]
    simp only [lowU]
    split
    · rw [lowU_xor, e]
    · rw [e]
theorem lowU_top (a : UInt8) (b k : Nat) (hk : k < 8) :
    lowU a (b / 2 ^ (7 - k)) (k + 1) = if b / 2 ^ (7 - k) % 2 = 1 then dblU (lowU a (b / 2 ^ (8 - k)) k) ^^^ a else dblU (lowU a (b / 2 ^ (8 - k)) k) := by
  have e : b / 2 ^ (7 - k) / 2 = b / 2 ^ (8 - k) := by rw [Nat.div_div_eq_div_mul, ← Nat.pow_succ, show (7 - k).succ = 8 - k by omega]
  simp only [lowU, e, lowU_dbl]
  split
  · rw [UInt8.xor_comm]
  · rfl

/-- the product -/
def mulU (a b : UInt8) : UInt8 := lowU a b.toNat 8
theorem one_mulU (a : UInt8) : mulU 1 a = a := all_u8 (P := fun a => mulU 1 a = a) (by decide +kernel) a
theorem mulU_swap (x a b : UInt8) : mulU (mulU x a) b = mulU (mulU x b) a := lowU_comm x a.toNat 8 b.toNat 8
theorem mulU_comm (a b : UInt8) : mulU a b = mulU b a := by
  have := mulU_swap 1 a b
  rwa [one_mulU, one_mulU] at this
theorem mulU_assoc (a b c : UInt8) : mulU (mulU a b) c = mulU a (mulU b c) := by rw [mulU_comm a b, mulU_swap b a c, mulU_comm a]
theorem mulU_one (a : UInt8) : mulU a 1 = a := by rw [mulU_comm, one_mulU]
theorem zero_mulU (a : UInt8) : mulU 0 a = 0 := lowU_zero_left _ _
theorem mulU_zero (a : UInt8) : mulU a 0 = 0 := by rw [mulU_comm, zero_mulU]
theorem xor_mulU (a b c : UInt8) : mulU (a ^^^ b) c = mulU a c ^^^ mulU b c := lowU_xor a b _ _
theorem mulU_xor (a b c : UInt8) : mulU a (b ^^^ c) = mulU a b ^^^ mulU a c := by rw [mulU_comm, xor_mulU, mulU_comm b, mulU_comm c]
theorem dbl_mulU (a b : UInt8) : mulU (dblU a) b = dblU (mulU a b) := lowU_dbl a _ _
theorem mulU_dbl (a b : UInt8) : mulU a (dblU b) = dblU (mulU a b) := by rw [mulU_comm, dbl_mulU, mulU_comm]

/-- the powers of the generator -/
def gp : Nat → UInt8
  | 0 => 1
  | n + 1 => dblU (gp n)
theorem gp_add (i j : Nat) : gp (i + j) = mulU (gp i) (gp j) := by
  induction i with
  | zero => rw [Nat.zero_add]; show _ = mulU 1 _; rw [one_mulU]
  | succ i ih => rw [show i + 1 + j = (i + j) + 1 by omega]; show dblU (gp (i + j)) = mulU (dblU (gp i)) (gp j); rw [ih, dbl_mulU]
theorem gp_255 : gp 255 = 1 := by decide +kernel
theorem gp_mul_255 (k : Nat) : gp (255 * k) = 1 := by
  induction k with
  | zero => rfl
  | succ k ih => rw [Nat.mul_succ, gp_add, ih, gp_255, one_mulU]
theorem gp_mod (k : Nat) : gp (k % 255) = gp k := by
  conv => rhs; rw [← Nat.div_add_mod k 255, gp_add, gp_mul_255, one_mulU]
/-- one of the next n doublings of c is x -/
def hits (x : UInt8) : Nat → UInt8 → Bool
  | 0, _ => false
  | n + 1, c => c == x || hits x n (dblU c)
theorem hits_all : ∀ i : Fin 256, i.val ≠ 0 → hits (UInt8.ofNat i.val) 255 1 = true := by decide +kernel
theorem hits_gp (x : UInt8) (n k : Nat) (h : hits x n (gp k) = true) : ∃ i, i < k + n ∧ gp i = x := by
  induction n generalizing k with
  | zero => simp [hits] at h
  | succ n ih =>
    simp only [hits, Bool.or_eq_true, beq_iff_eq] at h
    rcases h with h | h
    · exact ⟨k, by omega, h⟩
    · obtain ⟨i, h1, h2⟩ := ih (k + 1) h
      exact ⟨i, by omega, h2⟩
theorem exists_log (x : UInt8) (hx : x ≠ 0) : ∃ i, i < 255 ∧ gp i = x := by
  have h := hits_all ⟨x.toNat, x.toNat_lt⟩ (fun h => hx (UInt8.toNat_inj.1 h))
  rw [show UInt8.ofNat x.toNat = x from UInt8.ofNat_toNat] at h
  obtain ⟨i, h1, h2⟩ := hits_gp x 255 0 h
  exact ⟨i, by omega, h2⟩

/-- powers -/
def powU (a : UInt8) : Nat → UInt8
  | 0 => 1
  | n + 1 => mulU (powU a n) a
theorem powU_add (a : UInt8) (m n : Nat) : powU a (m + n) = mulU (powU a m) (powU a n) := by
  induction n with
  | zero => show powU a m = mulU _ 1; rw [mulU_one]
  | succ n ih => show mulU (powU a (m + n)) a = mulU (powU a m) (mulU (powU a n) a); rw [ih, mulU_assoc]
theorem powU_gp (e n : Nat) : powU (gp e) n = gp (e * n) := by
  induction n with
  | zero => rfl
  | succ n ih => show mulU (powU (gp e) n) (gp e) = _; rw [ih, ← gp_add, Nat.mul_succ]
theorem powU_zero (n : Nat) (h : n ≠ 0) : powU 0 n = 0 := by
  cases n with
  | zero => exact absurd rfl h
  | succ n => exact mulU_zero _
theorem powU_255 (a : UInt8) (h : a ≠ 0) : powU a 255 = 1 := by
  obtain ⟨e, _, rfl⟩ := exists_log a h
  rw [powU_gp, Nat.mul_comm, gp_mul_255]
theorem powU_double (a : UInt8) (n : Nat) : powU (mulU a a) n = powU a (2 * n) := by
  induction n with
  | zero => rfl
  | succ n ih => show mulU (powU (mulU a a) n) (mulU a a) = _; rw [ih, Nat.mul_succ, powU_add a (2 * n) 2]; show _ = mulU _ (mulU (mulU 1 a) a); rw [one_mulU]
theorem powU_even (a : UInt8) (n : Nat) (h : n % 2 = 0) : powU (mulU a a) (n / 2) = powU a n := by rw [powU_double, show 2 * (n / 2) = n by omega]
theorem powU_odd (a : UInt8) (n : Nat) (h : n % 2 = 1) : mulU a (powU (mulU a a) (n / 2)) = powU a n := by
  rw [powU_double, mulU_comm]
  show powU a (2 * (n / 2) + 1) = _
  rw [show 2 * (n / 2) + 1 = n by omega]

/-- the inverse -/
def invU (a : UInt8) : UInt8 := powU a 254
theorem inv_zero : invU 0 = 0 := powU_zero 254 (by decide)
theorem mul_inv (a : UInt8) (h : a ≠ 0) : mulU a (invU a) = 1 := by rw [mulU_comm]; exact powU_255 a h
theorem inv_uniq (a x : UInt8) (h : mulU a x = 1) : x = invU a := by
  have ha : a ≠ 0 := by
    rintro rfl
    rw [zero_mulU] at h
    exact absurd h (by decide)
  have e : mulU (mulU (invU a) a) x = invU a := by rw [mulU_assoc, h, mulU_one]
  rw [mulU_comm (invU a), mul_inv a ha, one_mulU] at e
  exact e
theorem mul_eq_zero (a b : UInt8) (h : mulU a b = 0) : a = 0 ∨ b = 0 := by
  by_cases ha : a = 0
  · exact .inl ha
  · right
    have e : mulU (mulU a (invU a)) b = mulU (invU a) (mulU a b) := by rw [mulU_comm a, mulU_assoc]
    rwa [mul_inv a ha, one_mulU, h, mulU_zero] at e
theorem inv_pos (a : UInt8) (h : a ≠ 0) : invU a ≠ 0 := by
  intro e
  have := mul_inv a h
  rw [e, mulU_zero] at this
  exact absurd this (by decide)

/-- the exponents after n rounds: the last one below n whose power is x, else 0 -/
def expA : Nat → UInt8 → Nat
  | 0, _ => 0
  | n + 1, x => if x = gp n then n else expA n x
theorem expA_hit (x : UInt8) (n i : Nat) (hi : i < n) (h : gp i = x) : gp (expA n x) = x := by
  induction n with
  | zero => omega
  | succ n ih =>
    simp only [expA]
    by_cases hx : x = gp n
    · rw [if_pos hx, hx]
    · rw [if_neg hx]
      refine ih ?_
      rcases Nat.lt_or_ge i n with h' | h'
      · exact h'
      · exact absurd (by rw [show n = i by omega, h]) hx
theorem expA_lt (x : UInt8) (n : Nat) (hn : n ≤ 255) : expA n x < 255 := by
  induction n with
  | zero => simp [expA]
  | succ n ih =>
    simp only [expA]
    split
    · omega
    · exact ih (by omega)
def logU (x : UInt8) : Nat := expA 255 x
theorem logU_gp (x : UInt8) (h : x ≠ 0) : gp (logU x) = x := by
  obtain ⟨i, h1, h2⟩ := exists_log x h
  exact expA_hit x 255 i h1 h2
theorem pow_log (a : UInt8) (n : Nat) (h : a ≠ 0) : gp (logU a * (n % 255) % 255) = powU a n := by
  conv => rhs; rw [← logU_gp a h]
  rw [powU_gp, gp_mod, ← gp_mod (logU a * n), ← gp_mod (logU a * (n % 255)), Nat.mul_mod, Nat.mod_mod, ← Nat.mul_mod]

/-- the value of a polynomial, the constant coefficient first -/
def evalU : List UInt8 → UInt8 → UInt8
  | [], _ => 0
  | c :: t, x => mulU (evalU t x) x ^^^ c
theorem evalU_one (c x : UInt8) : evalU [c] x = c := by show mulU 0 x ^^^ c = c; rw [zero_mulU, UInt8.zero_xor]
theorem evalU_take (l : List UInt8) (x : UInt8) (i : Nat) (h : i < l.length) : evalU (l.take (i + 1)) x = evalU (l.take i) x ^^^ mulU l[i] (powU x i) := by
  induction l generalizing i with
  | nil => simp at h
  | cons c t ih =>
    cases i with
    | zero =>
      rw [List.take_succ_cons, List.take_zero, List.take_zero]
      show mulU 0 x ^^^ c = 0 ^^^ mulU c 1
      rw [zero_mulU, mulU_one]
    | succ i =>
      have hi : i < t.length := by simpa using h
      rw [List.take_succ_cons, List.take_succ_cons]
      show mulU (evalU (t.take (i + 1)) x) x ^^^ c = mulU (evalU (t.take i) x) x ^^^ c ^^^ mulU t[i] (mulU (powU x i) x)
      rw [ih i hi, xor_mulU, mulU_assoc]
      ac_rfl
theorem evalU_drop (l : List UInt8) (x : UInt8) (i : Nat) (h : i < l.length) : evalU (l.drop i) x = mulU (evalU (l.drop (i + 1)) x) x ^^^ l[i] := by
  rw [List.drop_eq_getElem_cons h]
  rfl
theorem evalU_zeros (n : Nat) (x : UInt8) : evalU (List.replicate n 0) x = 0 := by
  induction n with
  | zero => rfl
  | succ n ih => rw [List.replicate_succ]; show mulU (evalU (List.replicate n 0) x) x ^^^ 0 = 0; rw [ih, zero_mulU]; rfl
theorem evalU_set (l : List UInt8) (x v : UInt8) (i : Nat) (h : i < l.length) : evalU (l.set i (l[i] ^^^ v)) x = evalU l x ^^^ mulU v (powU x i) := by
  induction l generalizing i with
  | nil => simp at h
  | cons c t ih =>
    cases i with
    | zero =>
      show mulU (evalU t x) x ^^^ (c ^^^ v) = mulU (evalU t x) x ^^^ c ^^^ mulU v 1
      rw [mulU_one]
      ac_rfl
    | succ i =>
      have hi : i < t.length := by simpa using h
      show mulU (evalU (t.set i (t[i] ^^^ v)) x) x ^^^ c = mulU (evalU t x) x ^^^ c ^^^ mulU v (mulU (powU x i) x)
      rw [ih i hi, xor_mulU, mulU_assoc]
      ac_rfl
/-- one coefficient's share more of a product -/
theorem times_step (l p q : List UInt8) (x : UInt8) (i k : Nat) (hi : i < p.length) (hk : k < q.length) (hl : i + k < l.length)
    (h : evalU l x = mulU (evalU (p.take i) x) (evalU q x) ^^^ mulU (mulU p[i] (powU x i)) (evalU (q.take k) x)) :
    evalU (l.set (i + k) (l[i + k] ^^^ mulU p[i] q[k])) x = mulU (evalU (p.take i) x) (evalU q x) ^^^ mulU (mulU p[i] (powU x i)) (evalU (q.take (k + 1)) x) := by
  rw [evalU_set _ _ _ _ hl, h, evalU_take q x k hk, mulU_xor (mulU p[i] (powU x i)), powU_add, UInt8.xor_assoc]
  congr 2
  rw [mulU_assoc, mulU_assoc, ← mulU_assoc q[k], ← mulU_assoc (powU x i), mulU_comm q[k] (powU x i)]
theorem times_row (p q : List UInt8) (x : UInt8) (i : Nat) (hi : i < p.length) :
    mulU (evalU (p.take i) x) (evalU q x) ^^^ mulU (mulU p[i] (powU x i)) (evalU (q.take q.length) x) = mulU (evalU (p.take (i + 1)) x) (evalU q x) := by
  rw [List.take_length, evalU_take p x i hi, xor_mulU]
end Go.Proofs.Ytpjegenobadckaa
