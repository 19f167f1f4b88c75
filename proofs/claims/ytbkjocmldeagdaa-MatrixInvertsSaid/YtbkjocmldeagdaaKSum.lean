/-
  Plain mathematics of sums over the field with 256 elements, without the program: linear combinations; a homogeneous system with more unknowns than equations has a solution other than 0.
-/
import Derived.Test.YtbkjocmldeagdaaGMath
namespace Go.Proofs.Ytbkjocmldeagdaa
/-- the sum of f 0 to f (n - 1) -/
def sumU : Nat → (Nat → UInt8) → UInt8
  | 0, _ => 0
  | n + 1, f => sumU n f ^^^ f n
theorem sumU_congr (n : Nat) (f g : Nat → UInt8) (h : ∀ i, i < n → f i = g i) : sumU n f = sumU n g := by
  induction n with
  | zero => rfl
  | succ n ih => simp only [sumU]; rw [ih (fun i hi => h i (by omega)), h n (by omega)]
theorem sumU_zero (n : Nat) : sumU n (fun _ => 0) = 0 := by
  induction n with
  | zero => rfl
  | succ n ih => simp only [sumU, ih]; rfl
theorem sumU_none (n : Nat) (f : Nat → UInt8) (h : ∀ i, i < n → f i = 0) : sumU n f = 0 := (sumU_congr n f (fun _ => 0) h).trans (sumU_zero n)
theorem sumU_xor (n : Nat) (f g : Nat → UInt8) : sumU n (fun i => f i ^^^ g i) = sumU n f ^^^ sumU n g := by
  induction n with
  | zero => exact (xor_self8 0).symm
  | succ n ih => simp only [sumU, ih]; ac_rfl
theorem sumU_mul (n : Nat) (a : UInt8) (f : Nat → UInt8) : sumU n (fun i => mulU a (f i)) = mulU a (sumU n f) := by
  induction n with
  | zero => exact (mulU_zero a).symm
  | succ n ih => simp only [sumU, ih, mulU_xor]
theorem sumU_mul_right (n : Nat) (a : UInt8) (f : Nat → UInt8) : sumU n (fun i => mulU (f i) a) = mulU (sumU n f) a := by
  rw [mulU_comm, ← sumU_mul]
  exact sumU_congr _ _ _ fun i _ => mulU_comm _ _
theorem sumU_swap (m n : Nat) (f : Nat → Nat → UInt8) : sumU m (fun i => sumU n (fun j => f i j)) = sumU n (fun j => sumU m (fun i => f i j)) := by
  induction m with
  | zero => exact (sumU_zero n).symm
  | succ m ih => simp only [sumU, ih, sumU_xor]
theorem sumU_one (n k : Nat) (f : Nat → UInt8) (hk : k < n) (h : ∀ i, i < n → i ≠ k → f i = 0) : sumU n f = f k := by
  induction n with
  | zero => omega
  | succ n ih =>
    simp only [sumU]
    by_cases e : k = n
    · subst e
      rw [sumU_none k f (fun i hi => h i (by omega) (by omega)), UInt8.zero_xor]
    · rw [ih (by omega) (fun i hi => h i (by omega)), h n (by omega) (by omega), UInt8.xor_zero]
theorem xor_self_eq {a b : UInt8} (h : a ^^^ b = 0) : a = b := UInt8.xor_eq_zero_iff.1 h

/-- the unit vectors -/
def dl (i j : Nat) : UInt8 := if i = j then 1 else 0
theorem dl_same (i : Nat) : dl i i = 1 := if_pos rfl
theorem dl_ne {i j : Nat} (h : i ≠ j) : dl i j = 0 := if_neg h
theorem sumU_dl (n k : Nat) (f : Nat → UInt8) (hk : k < n) : sumU n (fun i => mulU (dl k i) (f i)) = f k := by
  rw [sumU_one n k _ hk (fun i _ hi => by rw [dl_ne (fun e => hi e.symm), zero_mulU]), dl_same, one_mulU]

/-- the combination of r rows of M with the factors c, at column j -/
def comb (r : Nat) (c : Nat → UInt8) (M : Nat → Nat → UInt8) (j : Nat) : UInt8 := sumU r (fun i => mulU (c i) (M i j))
theorem comb_congr {r : Nat} {c c' : Nat → UInt8} {M M' : Nat → Nat → UInt8} {j : Nat} (h : ∀ i, i < r → c i = c' i) (h2 : ∀ i, i < r → M i j = M' i j) : comb r c M j = comb r c' M' j :=
  sumU_congr _ _ _ fun i hi => by rw [h i hi, h2 i hi]
theorem comb_add (r : Nat) (c d : Nat → UInt8) (M : Nat → Nat → UInt8) (j : Nat) : comb r (fun i => c i ^^^ d i) M j = comb r c M j ^^^ comb r d M j := by
  unfold comb
  rw [← sumU_xor]
  exact sumU_congr _ _ _ fun i _ => xor_mulU _ _ _
theorem comb_mul (r : Nat) (a : UInt8) (c : Nat → UInt8) (M : Nat → Nat → UInt8) (j : Nat) : comb r (fun i => mulU a (c i)) M j = mulU a (comb r c M j) := by
  unfold comb
  rw [← sumU_mul]
  exact sumU_congr _ _ _ fun i _ => mulU_assoc _ _ _
theorem comb_dl (r k : Nat) (M : Nat → Nat → UInt8) (j : Nat) (hk : k < r) : comb r (dl k) M j = M k j := sumU_dl r k (fun i => M i j) hk
theorem comb_zero (r : Nat) (c : Nat → UInt8) (M : Nat → Nat → UInt8) (j : Nat) (h : ∀ i, i < r → c i = 0) : comb r c M j = 0 :=
  sumU_none _ _ fun i hi => by rw [h i hi, zero_mulU]
/-- a combination of combinations -/
theorem comb_comb (r s : Nat) (c : Nat → UInt8) (A M : Nat → Nat → UInt8) (j : Nat) : comb s c (fun i j => comb r (A i) M j) j = comb r (fun k => comb s c A k) M j := by
  unfold comb
  have h1 : sumU s (fun i => mulU (c i) (sumU r fun k => mulU (A i k) (M k j))) = sumU s (fun i => sumU r fun k => mulU (mulU (c i) (A i k)) (M k j)) :=
    sumU_congr _ _ _ fun i _ => by rw [← sumU_mul]; exact sumU_congr _ _ _ fun k _ => (mulU_assoc _ _ _).symm
  rw [h1, sumU_swap]
  exact sumU_congr _ _ _ fun k _ => sumU_mul_right _ _ _
theorem comb_dl_right (r : Nat) (c : Nat → UInt8) (j : Nat) (hj : j < r) : comb r c dl j = c j := by
  unfold comb
  rw [sumU_one r j _ hj (fun i _ hi => by rw [dl_ne hi, mulU_zero]), dl_same, mulU_one]

/-- the numbers i and n exchanged -/
def sw (i n k : Nat) : Nat := if k = i then n else if k = n then i else k
theorem sw_sw (i n k : Nat) : sw i n (sw i n k) = k := by
  unfold sw
  by_cases h1 : k = i
  · subst h1
    rw [if_pos rfl]
    by_cases h2 : n = k
    · rw [if_pos h2]; exact h2
    · rw [if_neg h2, if_pos rfl]
  · rw [if_neg h1]
    by_cases h2 : k = n
    · subst h2; rw [if_pos rfl, if_pos rfl]
    · rw [if_neg h2, if_neg h1, if_neg h2]
theorem sw_lt {i n k s : Nat} (hi : i < s) (hn : n < s) (hk : k < s) : sw i n k < s := by
  unfold sw
  split
  · exact hn
  · split
    · exact hi
    · exact hk
theorem sumU_last (n : Nat) (i : Nat) (f : Nat → UInt8) (hi : i ≤ n) : sumU (n + 1) (fun k => f (sw i n k)) = sumU (n + 1) f := by
  by_cases h : i = n
  · subst h
    exact sumU_congr _ _ _ fun k _ => by unfold sw; split <;> simp_all
  · -- both are the sum over the rest, and f i and f n
    have aux : ∀ m, (i < m → m ≤ n → sumU m (fun k => f (sw i n k)) = sumU m f ^^^ f i ^^^ f n) ∧ (m ≤ i → sumU m (fun k => f (sw i n k)) = sumU m f) := by
      intro m
      induction m with
      | zero => exact ⟨fun h _ => by omega, fun _ => rfl⟩
      | succ m ih =>
        refine ⟨fun h1 h2 => ?_, fun h1 => ?_⟩
        · simp only [sumU]
          by_cases e : m = i
          · subst e
            rw [ih.2 (Nat.le_refl _), show sw m n m = n by unfold sw; rw [if_pos rfl]]
            rw [UInt8.xor_assoc (sumU m f), xor_self8, UInt8.xor_zero]
          · rw [ih.1 (by omega) (by omega), show sw i n m = m by unfold sw; rw [if_neg e, if_neg (by omega)]]
            ac_rfl
        · simp only [sumU]
          rw [ih.2 (by omega), show sw i n m = m by unfold sw; rw [if_neg (by omega), if_neg (by omega)]]
    simp only [sumU]
    rw [(aux n).1 (by omega) (Nat.le_refl _), show sw i n n = i by unfold sw; rw [if_neg (fun e => h e.symm), if_pos rfl]]
    rw [show sumU n f ^^^ f i ^^^ f n ^^^ f i = sumU n f ^^^ f n ^^^ (f i ^^^ f i) by ac_rfl, xor_self8, UInt8.xor_zero]

/-- more unknowns than equations: a solution other than 0 -/
theorem more_unknowns (r : Nat) : ∀ (s : Nat) (c : Nat → Nat → UInt8), r < s → ∃ d : Nat → UInt8, (∃ i, i < s ∧ d i ≠ 0) ∧ ∀ k, k < r → comb s d c k = 0 := by
  induction r with
  | zero => exact fun s c hs => ⟨dl 0, ⟨0, hs, by rw [dl_same]; decide⟩, fun k hk => by omega⟩
  | succ r ih =>
    intro s c hs
    by_cases hall : ∀ i, i < s → c i r = 0
    · obtain ⟨d, h1, h2⟩ := ih s c (by omega)
      refine ⟨d, h1, fun k hk => ?_⟩
      by_cases e : k = r
      · subst e
        exact sumU_none _ _ fun i hi => by rw [hall i hi, mulU_zero]
      · exact h2 k (by omega)
    · obtain ⟨i0, hi0, hne⟩ : ∃ i, i < s ∧ c i r ≠ 0 := by
        refine Classical.byContradiction fun h => hall fun i hi => ?_
        refine Classical.byContradiction fun h' => h ⟨i, hi, h'⟩
      obtain ⟨t, rfl⟩ : ∃ t, s = t + 1 := ⟨s - 1, by omega⟩
      -- the equation's coefficients in the order in which i0 is the last
      let c' : Nat → Nat → UInt8 := fun i k => c (sw i0 t i) k
      have hlast : c' t r ≠ 0 := by
        show c (sw i0 t t) r ≠ 0
        have : sw i0 t t = i0 := by unfold sw; by_cases e : t = i0 <;> simp [e]
        rw [this]; exact hne
      let q : UInt8 := invU (c' t r)
      have hq : mulU (c' t r) q = 1 := mul_inv _ hlast
      let e' : Nat → Nat → UInt8 := fun i k => c' i k ^^^ mulU (mulU (c' i r) q) (c' t k)
      obtain ⟨d, ⟨i1, hi1, hd1⟩, h2⟩ := ih t e' (by omega)
      let dt : UInt8 := sumU t (fun i => mulU (d i) (mulU (c' i r) q))
      let D : Nat → UInt8 := fun i => if i < t then d i else dt
      have hD : ∀ k, comb (t + 1) D c' k = comb t d e' k := by
        intro k
        have h3 : comb (t + 1) D c' k = comb t d c' k ^^^ mulU dt (c' t k) := by
          show sumU t (fun i => mulU (D i) (c' i k)) ^^^ mulU (D t) (c' t k) = _
          rw [show D t = dt from if_neg (Nat.lt_irrefl t)]
          congr 1
          exact sumU_congr _ _ _ fun i hi => by rw [show D i = d i from if_pos hi]
        rw [h3]
        show comb t d c' k ^^^ mulU dt (c' t k) = sumU t (fun i => mulU (d i) (c' i k ^^^ mulU (mulU (c' i r) q) (c' t k)))
        rw [show (fun i => mulU (d i) (c' i k ^^^ mulU (mulU (c' i r) q) (c' t k))) = fun i => mulU (d i) (c' i k) ^^^ mulU (mulU (d i) (mulU (c' i r) q)) (c' t k) from funext fun i => by rw [mulU_xor, mulU_assoc (d i)]]
        rw [sumU_xor, sumU_mul_right]
        rfl
      have hz : ∀ k, k < r + 1 → comb (t + 1) D c' k = 0 := by
        intro k hk
        rw [hD k]
        by_cases e : k = r
        · subst e
          refine sumU_none _ _ fun i _ => ?_
          show mulU (d i) (c' i k ^^^ mulU (mulU (c' i k) q) (c' t k)) = 0
          rw [mulU_assoc (c' i k), mulU_comm q, hq, mulU_one, xor_self8, mulU_zero]
        · exact h2 k (by omega)
      refine ⟨fun i => D (sw i0 t i), ⟨sw i0 t i1, sw_lt hi0 (by omega) (by omega), ?_⟩, fun k hk => ?_⟩
      · show D (sw i0 t (sw i0 t i1)) ≠ 0
        rw [sw_sw, show D i1 = d i1 from if_pos hi1]
        exact hd1
      · have := sumU_last t i0 (fun i => mulU (D (sw i0 t i)) (c i k)) (by omega)
        show sumU (t + 1) (fun i => mulU (D (sw i0 t i)) (c i k)) = 0
        rw [← this]
        rw [show (fun i => mulU (D (sw i0 t (sw i0 t i))) (c (sw i0 t i) k)) = fun i => mulU (D i) (c' i k) from funext fun i => by rw [sw_sw]]
        exact hz k hk
end Go.Proofs.Ytbkjocmldeagdaa
