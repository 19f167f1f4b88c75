/-
  Plain mathematics of matrices over the field with 256 elements, without the program: the first columns of the vectors that rows span, the rank, inverses.
-/
import Derived.Test.YtbkjocmldeagdaaKSum
namespace Go.Proofs.Ytbkjocmldeagdaa

/-- how many of the first n numbers have the property -/
noncomputable def cnt (P : Nat → Prop) : Nat → Nat
  | 0 => 0
  | n + 1 => cnt P n + @ite _ (P n) (Classical.propDecidable _) 1 0
theorem cnt_le (P : Nat → Prop) (n : Nat) : cnt P n ≤ n := by
  induction n with
  | zero => exact Nat.le_refl _
  | succ n ih => simp only [cnt]; split <;> omega
theorem cnt_yes {P : Nat → Prop} {n : Nat} (h : P n) : cnt P (n + 1) = cnt P n + 1 := by simp only [cnt]; rw [if_pos h]
theorem cnt_no {P : Nat → Prop} {n : Nat} (h : ¬ P n) : cnt P (n + 1) = cnt P n := by simp only [cnt]; rw [if_neg h]; rfl
theorem cnt_mono {P Q : Nat → Prop} (n : Nat) (h : ∀ j, j < n → P j → Q j) : cnt P n ≤ cnt Q n := by
  induction n with
  | zero => exact Nat.le_refl _
  | succ n ih =>
    have ih' := ih fun j hj => h j (by omega)
    by_cases hp : P n
    · rw [cnt_yes hp, cnt_yes (h n (by omega) hp)]; omega
    · rw [cnt_no hp]
      by_cases hq : Q n
      · rw [cnt_yes hq]; omega
      · rw [cnt_no hq]; exact ih'
theorem cnt_congr {P Q : Nat → Prop} (n : Nat) (h : ∀ j, j < n → (P j ↔ Q j)) : cnt P n = cnt Q n :=
  Nat.le_antisymm (cnt_mono n fun j hj => (h j hj).1) (cnt_mono n fun j hj => (h j hj).2)
theorem cnt_full {P : Nat → Prop} (n : Nat) (h : cnt P n = n) : ∀ j, j < n → P j := by
  induction n with
  | zero => intro j hj; omega
  | succ n ih =>
    have hl := cnt_le P n
    by_cases hp : P n
    · rw [cnt_yes hp] at h
      intro j hj
      by_cases e : j = n
      · subst e; exact hp
      · exact ih (by omega) j (by omega)
    · rw [cnt_no hp] at h; omega
theorem cnt_all {P : Nat → Prop} (n : Nat) (h : ∀ j, j < n → P j) : cnt P n = n := by
  induction n with
  | zero => rfl
  | succ n ih => rw [cnt_yes (h n (by omega)), ih fun j hj => h j (by omega)]
theorem cnt_enum (P : Nat → Prop) (n : Nat) : ∃ en : Nat → Nat, (∀ t, t < cnt P n → en t < n ∧ P (en t)) ∧ (∀ s t, s < t → t < cnt P n → en s < en t) ∧ ∀ j, j < n → P j → ∃ t, t < cnt P n ∧ en t = j := by
  induction n with
  | zero => exact ⟨id, fun t ht => absurd ht (Nat.not_lt_zero _), fun s t _ ht => absurd ht (Nat.not_lt_zero _), fun j hj => absurd hj (Nat.not_lt_zero _)⟩
  | succ n ih =>
    obtain ⟨en, h1, h2, h3⟩ := ih
    by_cases hp : P n
    · rw [cnt_yes hp]
      refine ⟨fun t => if t = cnt P n then n else en t, fun t ht => ?_, fun s t hs ht => ?_, fun j hj hj2 => ?_⟩
      · show (if t = cnt P n then n else en t) < n + 1 ∧ P (if t = cnt P n then n else en t)
        by_cases e : t = cnt P n
        · rw [if_pos e]; exact ⟨by omega, hp⟩
        · rw [if_neg e]; have := h1 t (by omega); exact ⟨by omega, this.2⟩
      · show (if s = cnt P n then n else en s) < (if t = cnt P n then n else en t)
        rw [if_neg (by omega)]
        by_cases e : t = cnt P n
        · rw [if_pos e]; exact (h1 s (by omega)).1
        · rw [if_neg e]; exact h2 s t hs (by omega)
      · by_cases e : j = n
        · exact ⟨cnt P n, by omega, by show (if cnt P n = cnt P n then n else en (cnt P n)) = j; rw [if_pos rfl, e]⟩
        · obtain ⟨t, ht, he⟩ := h3 j (by omega) hj2
          exact ⟨t, by omega, by show (if t = cnt P n then n else en t) = j; rw [if_neg (by omega), he]⟩
    · rw [cnt_no hp]
      refine ⟨en, fun t ht => ⟨by have := (h1 t ht).1; omega, (h1 t ht).2⟩, h2, fun j hj hj2 => ?_⟩
      refine h3 j ?_ hj2
      rcases Nat.lt_or_ge j n with h | h
      · exact h
      · exact absurd (by rwa [show j = n by omega] at hj2) hp
/-- as many as an increasing list of them has -/
theorem cnt_pivots {P : Nat → Prop} (n R : Nat) (p : Nat → Nat) (h1 : ∀ t, t < R → p t < n) (h2 : ∀ s t, s < t → t < R → p s < p t) (h3 : ∀ j, j < n → (P j ↔ ∃ t, t < R ∧ p t = j)) : cnt P n = R := by
  have aux : ∀ k, k ≤ n → ∀ m, m ≤ R → (∀ t, t < R → (p t < k ↔ t < m)) → cnt P k = m := by
    intro k
    induction k with
    | zero =>
      intro _ m hm hk
      by_cases e : m = 0
      · rw [e]; rfl
      · have := (hk 0 (by omega)).2 (by omega); omega
    | succ k ih =>
      intro hk m hm hp
      by_cases hP : P k
      · obtain ⟨t, ht, he⟩ := (h3 k (by omega)).1 hP
        have htm : t < m := (hp t ht).1 (by omega)
        have hmt : m = t + 1 := by
          rcases Nat.lt_or_ge (t + 1) m with h | h
          · have h4 := h2 t (t + 1) (by omega) (by omega)
            have h5 := (hp (t + 1) (by omega)).2 h
            omega
          · omega
        rw [cnt_yes hP, ih (by omega) t (by omega) ?_, hmt]
        intro u hu
        constructor
        · intro h
          rcases Nat.lt_trichotomy u t with h' | h' | h'
          · exact h'
          · subst h'; omega
          · have := h2 t u h' hu; omega
        · intro h
          have := h2 u t h ht
          omega
      · rw [cnt_no hP, ih (by omega) m hm ?_]
        intro u hu
        rw [← hp u hu]
        constructor
        · intro h; omega
        · intro h
          rcases Nat.lt_or_ge (p u) k with h' | h'
          · exact h'
          · exact absurd ((h3 k (by omega)).2 ⟨u, hu, by omega⟩) hP
  exact aux n (Nat.le_refl _) R (Nat.le_refl _) fun t ht => ⟨fun _ => ht, fun _ => h1 t ht⟩

/-- j is the first column, other than 0, of a vector that the rows span -/
def Lead (r C : Nat) (M : Nat → Nat → UInt8) (j : Nat) : Prop := j < C ∧ ∃ c, comb r c M j ≠ 0 ∧ ∀ k, k < j → comb r c M k = 0
/-- the rank of r rows of C columns -/
noncomputable def rankF (r C : Nat) (M : Nat → Nat → UInt8) : Nat := cnt (Lead r C M) C
/-- the rows of M' are combinations of the rows of M -/
def Inside (r' r C : Nat) (M' M : Nat → Nat → UInt8) : Prop := ∀ i, i < r' → ∃ c, ∀ j, j < C → M' i j = comb r c M j
theorem Inside.comb {r' r C : Nat} {M' M : Nat → Nat → UInt8} (h : Inside r' r C M' M) (c : Nat → UInt8) : ∃ d, ∀ j, j < C → Proofs.Ytbkjocmldeagdaa.comb r' c M' j = Proofs.Ytbkjocmldeagdaa.comb r d M j := by
  have hx : ∀ i, ∃ e : Nat → UInt8, i < r' → ∀ j, j < C → M' i j = Proofs.Ytbkjocmldeagdaa.comb r e M j := fun i => by
    by_cases hi : i < r'
    · obtain ⟨e, he⟩ := h i hi; exact ⟨e, fun _ => he⟩
    · exact ⟨fun _ => 0, fun h' => absurd h' hi⟩
  obtain ⟨A, hA⟩ := Classical.axiomOfChoice hx
  refine ⟨fun k => Proofs.Ytbkjocmldeagdaa.comb r' c A k, fun j hj => ?_⟩
  rw [← comb_comb]
  exact comb_congr (fun _ _ => rfl) fun i hi => hA i hi j hj
theorem Inside.refl (r C : Nat) (M : Nat → Nat → UInt8) : Inside r r C M M := fun i hi => ⟨dl i, fun j _ => (comb_dl r i M j hi).symm⟩
theorem Inside.trans {r r' r'' C : Nat} {M M' M'' : Nat → Nat → UInt8} (h : Inside r r' C M M') (k : Inside r' r'' C M' M'') : Inside r r'' C M M'' := fun i hi => by
  obtain ⟨c, hc⟩ := h i hi
  obtain ⟨d, hd⟩ := k.comb c
  exact ⟨d, fun j hj => (hc j hj).trans (hd j hj)⟩
theorem Inside.less {r r' C C' : Nat} {M M' : Nat → Nat → UInt8} (h : Inside r r' C M M') (hC : C' ≤ C) : Inside r r' C' M M' := fun i hi => by
  obtain ⟨c, hc⟩ := h i hi
  exact ⟨c, fun j hj => hc j (by omega)⟩
theorem Lead.inside {r' r C j : Nat} {M' M : Nat → Nat → UInt8} (hl : Lead r' C M' j) (h : Inside r' r C M' M) : Lead r C M j := by
  obtain ⟨hj, c, h1, h2⟩ := hl
  obtain ⟨d, hd⟩ := h.comb c
  exact ⟨hj, d, by rw [← hd j hj]; exact h1, fun k hk => by rw [← hd k (by omega)]; exact h2 k hk⟩
theorem rank_mono {r' r C : Nat} {M' M : Nat → Nat → UInt8} (h : Inside r' r C M' M) : rankF r' C M' ≤ rankF r C M := cnt_mono C fun _ _ hl => hl.inside h
theorem rank_eq {r' r C : Nat} {M' M : Nat → Nat → UInt8} (h : Inside r' r C M' M) (k : Inside r r' C M M') : rankF r' C M' = rankF r C M := Nat.le_antisymm (rank_mono h) (rank_mono k)

/-- vectors with different first columns are independent -/
theorem lead_indep (S : Nat) (u : Nat → Nat → UInt8) (le : Nat → Nat) (h1 : ∀ t, t < S → u t (le t) ≠ 0 ∧ ∀ k, k < le t → u t k = 0) (h2 : ∀ s t, s < t → t < S → le s < le t) (d : Nat → UInt8) (h : ∀ t, t < S → comb S d u (le t) = 0) : ∀ t, t < S → d t = 0 := by
  intro t
  induction t using Nat.strongRecOn with
  | _ t ih =>
    intro ht
    have h3 : comb S d u (le t) = mulU (d t) (u t (le t)) := sumU_one S t _ ht fun i hi hne => by
      rcases Nat.lt_or_gt_of_ne hne with h' | h'
      · rw [ih i h' hi, zero_mulU]
      · rw [(h1 i hi).2 _ (h2 t i h' hi), mulU_zero]
    rw [h t ht] at h3
    rcases mul_eq_zero _ _ h3.symm with h4 | h4
    · exact h4
    · exact absurd h4 (h1 t ht).1
/-- n independent vectors of n columns span the unit vectors -/
theorem span_units (n : Nat) (v : Nat → Nat → UInt8) (hi : ∀ d : Nat → UInt8, (∀ k, k < n → comb n d v k = 0) → ∀ i, i < n → d i = 0) (j : Nat) : ∃ x, ∀ k, k < n → comb n x v k = dl j k := by
  obtain ⟨d, ⟨i0, hi0, hd⟩, hz⟩ := more_unknowns n (n + 1) (fun i k => if i < n then v i k else dl j k) (Nat.lt_succ_self n)
  have hs : ∀ k, k < n → comb n d v k ^^^ mulU (d n) (dl j k) = 0 := fun k hk => by
    have := hz k hk
    unfold comb at this
    simp only [sumU] at this
    rw [if_neg (Nat.lt_irrefl n)] at this
    rw [← this]
    congr 1
    exact sumU_congr _ _ _ fun i hi => by rw [if_pos hi]
  have hn : d n ≠ 0 := by
    intro h0
    have hz2 : ∀ i, i < n → d i = 0 := hi d fun k hk => by
      have := hs k hk
      rwa [h0, zero_mulU, UInt8.xor_zero] at this
    by_cases e : i0 = n
    · subst e; exact hd h0
    · exact hd (hz2 i0 (by omega))
  refine ⟨fun i => mulU (invU (d n)) (d i), fun k hk => ?_⟩
  rw [comb_mul, xor_self_eq (hs k hk), ← mulU_assoc, mulU_comm (invU (d n)), mul_inv _ hn, one_mulU]

/-- A is a left inverse of M -/
def Inv (n : Nat) (A M : Nat → Nat → UInt8) : Prop := ∀ i, i < n → ∀ j, j < n → comb n (A i) M j = dl i j
theorem Inv.other {n : Nat} {A M : Nat → Nat → UInt8} (h : Inv n A M) : Inv n M A := by
  intro j hj k hk
  obtain ⟨d, ⟨i0, hi0, hd⟩, hz⟩ := more_unknowns n (n + 1) (fun i k => if i < n then A i k else dl j k) (Nat.lt_succ_self n)
  have hs : ∀ k, k < n → comb n d A k = mulU (d n) (dl j k) := fun k hk => by
    have := hz k hk
    unfold comb at this
    simp only [sumU] at this
    rw [if_neg (Nat.lt_irrefl n)] at this
    refine xor_self_eq ?_
    rw [← this]
    congr 1
    exact sumU_congr _ _ _ fun i hi => by rw [if_pos hi]
  -- multiplied by M: the factors
  have hl : ∀ l, l < n → d l = mulU (d n) (M j l) := fun l hl => by
    have e1 : comb n d (fun i q => comb n (A i) M q) l = d l := by
      rw [show comb n d (fun i q => comb n (A i) M q) l = comb n d dl l from comb_congr (fun _ _ => rfl) fun i hi => h i hi l hl]
      exact comb_dl_right n d l hl
    rw [comb_comb] at e1
    rw [← e1, show comb n (fun k => comb n d A k) M l = comb n (fun k => mulU (d n) (dl j k)) M l from comb_congr (fun k hk => hs k hk) (fun _ _ => rfl), comb_mul, comb_dl n j M l hj]
  have hn : d n ≠ 0 := by
    intro h0
    by_cases e : i0 = n
    · subst e; exact hd h0
    · have := hl i0 (by omega)
      rw [h0, zero_mulU] at this
      exact hd this
  have e2 : mulU (d n) (comb n (M j) A k) = mulU (d n) (dl j k) := by
    rw [← comb_mul, ← hs k hk]
    exact comb_congr (fun l hl' => (hl l hl').symm) (fun _ _ => rfl)
  have e3 := congrArg (mulU (invU (d n))) e2
  rw [← mulU_assoc, ← mulU_assoc, mulU_comm (invU (d n)), mul_inv _ hn, one_mulU, one_mulU] at e3
  exact e3
theorem Inv.unique {n : Nat} {A B M : Nat → Nat → UInt8} (h : Inv n A M) (k : Inv n B M) : ∀ i, i < n → ∀ j, j < n → A i j = B i j := by
  intro i hi j hj
  have e1 : comb n (A i) (fun p q => comb n (M p) B q) j = A i j := by
    rw [show comb n (A i) (fun p q => comb n (M p) B q) j = comb n (A i) dl j from comb_congr (fun _ _ => rfl) fun p hp => k.other p hp j hj]
    exact comb_dl_right n (A i) j hj
  rw [← e1, comb_comb, show comb n (fun q => comb n (A i) M q) B j = comb n (dl i) B j from comb_congr (fun q hq => h i hi q hq) (fun _ _ => rfl), comb_dl n i B j hi]
theorem Inv.rank {n : Nat} {A M : Nat → Nat → UInt8} (h : Inv n A M) : rankF n n M = n :=
  cnt_all n fun j hj => ⟨hj, A j, by rw [h j hj j hj, dl_same]; decide, fun k hk => by rw [h j hj k (by omega), dl_ne (by omega)]⟩
theorem inv_of_indep (n : Nat) (M : Nat → Nat → UInt8) (hi : ∀ d : Nat → UInt8, (∀ k, k < n → comb n d M k = 0) → ∀ i, i < n → d i = 0) : ∃ A, Inv n A M := by
  obtain ⟨A, hA⟩ := Classical.axiomOfChoice (span_units n M hi)
  exact ⟨A, fun i _ j hj => hA i j hj⟩
theorem inv_of_rank (n : Nat) (M : Nat → Nat → UInt8) (h : rankF n n M = n) : ∃ A, Inv n A M := by
  have hall := cnt_full n h
  have hx : ∀ t, ∃ c : Nat → UInt8, t < n → comb n c M t ≠ 0 ∧ ∀ k, k < t → comb n c M k = 0 := fun t => by
    by_cases ht : t < n
    · obtain ⟨_, c, h1, h2⟩ := hall t ht; exact ⟨c, fun _ => ⟨h1, h2⟩⟩
    · exact ⟨fun _ => 0, fun h' => absurd h' ht⟩
  obtain ⟨B, hB⟩ := Classical.axiomOfChoice hx
  have hspan := span_units n (fun t k => comb n (B t) M k) fun d hd =>
    lead_indep n (fun t k => comb n (B t) M k) id (fun t ht => hB t ht) (fun s t hs _ => hs) d (fun t ht => hd t ht)
  obtain ⟨X, hX⟩ := Classical.axiomOfChoice hspan
  refine ⟨fun i k => comb n (X i) B k, fun i _ j hj => ?_⟩
  show comb n (fun k => comb n (X i) B k) M j = dl i j
  rw [← comb_comb]
  exact hX i j hj
theorem inv_iff_rank (n : Nat) (M : Nat → Nat → UInt8) : (∃ A, Inv n A M) ↔ rankF n n M = n := ⟨fun ⟨_, h⟩ => h.rank, inv_of_rank n M⟩

/-- the vectors that rows span are combinations of as many as the rank -/
theorem span_basis (r C : Nat) (M : Nat → Nat → UInt8) : ∃ b : Nat → Nat → UInt8, ∀ c, ∃ d, ∀ j, j < C → comb r c M j = comb (rankF r C M) d b j := by
  obtain ⟨en, h1, h2, h3⟩ := cnt_enum (Lead r C M) C
  have hx : ∀ t, ∃ c : Nat → UInt8, t < cnt (Lead r C M) C → comb r c M (en t) ≠ 0 ∧ ∀ k, k < en t → comb r c M k = 0 := fun t => by
    by_cases ht : t < cnt (Lead r C M) C
    · obtain ⟨_, c, h4, h5⟩ := (h1 t ht).2; exact ⟨c, fun _ => ⟨h4, h5⟩⟩
    · exact ⟨fun _ => 0, fun h' => absurd h' ht⟩
  obtain ⟨B, hB⟩ := Classical.axiomOfChoice hx
  refine ⟨fun t k => comb r (B t) M k, ?_⟩
  have aux : ∀ m z, z + m = C → ∀ c, (∀ k, k < z → comb r c M k = 0) → ∃ d, ∀ j, j < C → comb r c M j = comb (rankF r C M) d (fun t k => comb r (B t) M k) j := by
    intro m
    induction m with
    | zero =>
      intro z hz c hc
      refine ⟨fun _ => 0, fun j hj => ?_⟩
      rw [hc j (by omega), comb_zero _ _ _ _ fun _ _ => rfl]
    | succ m ih =>
      intro z hz c hc
      by_cases h0 : comb r c M z = 0
      · refine ih (z + 1) (by omega) c fun k hk => ?_
        by_cases e : k = z
        · subst e; exact h0
        · exact hc k (by omega)
      · obtain ⟨t, ht, he⟩ := h3 z (by omega) ⟨by omega, c, h0, hc⟩
        obtain ⟨hb1, hb2⟩ := hB t ht
        rw [he] at hb1 hb2
        let q := mulU (comb r c M z) (invU (comb r (B t) M z))
        have hq : mulU q (comb r (B t) M z) = comb r c M z := by
          show mulU (mulU (comb r c M z) (invU (comb r (B t) M z))) (comb r (B t) M z) = _
          rw [mulU_assoc, mulU_comm (invU _), mul_inv _ hb1, mulU_one]
        have hc' : ∀ k, comb r (fun i => c i ^^^ mulU q (B t i)) M k = comb r c M k ^^^ mulU q (comb r (B t) M k) := fun k => by rw [comb_add, comb_mul]
        obtain ⟨d, hd⟩ := ih (z + 1) (by omega) (fun i => c i ^^^ mulU q (B t i)) fun k hk => by
          rw [hc' k]
          by_cases e : k = z
          · subst e; rw [hq, xor_self8]
          · rw [hc k (by omega), hb2 k (by omega), mulU_zero]; exact xor_self8 0
        refine ⟨fun s => d s ^^^ mulU q (dl t s), fun j hj => ?_⟩
        have h4 := hd j hj
        rw [hc' j] at h4
        rw [comb_add, comb_mul, comb_dl (rankF r C M) t _ j ht, ← h4, UInt8.xor_assoc, xor_self8, UInt8.xor_zero]
  exact fun c => aux C 0 (by omega) c fun k hk => by omega
/-- the rank of a product is at most that of the first factor -/
theorem rank_first (r K C : Nat) (a b : Nat → Nat → UInt8) : rankF r C (fun i j => comb K (a i) b j) ≤ rankF r K a := by
  obtain ⟨w, hw⟩ := span_basis r K a
  obtain ⟨en, h1, h2, _⟩ := cnt_enum (Lead r C (fun i j => comb K (a i) b j)) C
  have hx : ∀ t, ∃ c : Nat → UInt8, t < cnt (Lead r C fun i j => comb K (a i) b j) C → comb r c (fun i j => comb K (a i) b j) (en t) ≠ 0 ∧ ∀ k, k < en t → comb r c (fun i j => comb K (a i) b j) k = 0 := fun t => by
    by_cases ht : t < cnt (Lead r C fun i j => comb K (a i) b j) C
    · obtain ⟨_, c, h4, h5⟩ := (h1 t ht).2; exact ⟨c, fun _ => ⟨h4, h5⟩⟩
    · exact ⟨fun _ => 0, fun h' => absurd h' ht⟩
  obtain ⟨E, hE⟩ := Classical.axiomOfChoice hx
  obtain ⟨D, hD⟩ := Classical.axiomOfChoice fun t => hw (E t)
  rcases Nat.lt_or_ge (rankF r K a) (rankF r C fun i j => comb K (a i) b j) with h | h
  · exfalso
    obtain ⟨d, ⟨i0, hi0, hd⟩, hz⟩ := more_unknowns _ _ D h
    refine hd (lead_indep _ (fun t k => comb r (E t) (fun i j => comb K (a i) b j) k) en (fun t ht => hE t ht) h2 d (fun t ht => ?_) i0 hi0)
    -- the combination is 0 in all columns
    have e1 : ∀ j, comb (rankF r C fun i j => comb K (a i) b j) d (fun t k => comb r (E t) (fun i j => comb K (a i) b j) k) j = comb K (fun k => comb (rankF r C fun i j => comb K (a i) b j) d (fun t k => comb r (E t) a k) k) b j := by
      intro j
      rw [← comb_comb]
      refine comb_congr (fun _ _ => rfl) fun t _ => ?_
      exact comb_comb _ _ _ _ _ _
    show comb (rankF r C fun i j => comb K (a i) b j) d (fun t k => comb r (E t) (fun i j => comb K (a i) b j) k) (en t) = 0
    rw [e1]
    refine comb_zero _ _ _ _ fun k hk => ?_
    rw [show comb (rankF r C fun i j => comb K (a i) b j) d (fun t k => comb r (E t) a k) k = comb (rankF r C fun i j => comb K (a i) b j) d (fun t k => comb (rankF r K a) (D t) w k) k from comb_congr (fun _ _ => rfl) fun t _ => hD t k hk]
    rw [comb_comb]
    exact comb_zero _ _ _ _ fun s hs => hz s hs
  · exact h
/-- .. and of the second one -/
theorem rank_second (r K C : Nat) (a b : Nat → Nat → UInt8) : rankF r C (fun i j => comb K (a i) b j) ≤ rankF K C b :=
  rank_mono fun i _ => ⟨a i, fun _ _ => rfl⟩

/-- rows whose first columns increase, and rows of zeros behind them -/
structure Stairs (r C R : Nat) (M : Nat → Nat → UInt8) (p : Nat → Nat) : Prop where
  le : R ≤ r
  at_ : ∀ t, t < R → p t < C ∧ M t (p t) ≠ 0 ∧ ∀ k, k < p t → M t k = 0
  inc : ∀ s t, s < t → t < R → p s < p t
  rest : ∀ i, R ≤ i → i < r → ∀ k, k < C → M i k = 0
theorem Stairs.rank {r C R : Nat} {M : Nat → Nat → UInt8} {p : Nat → Nat} (h : Stairs r C R M p) : rankF r C M = R := by
  refine cnt_pivots C R p (fun t ht => (h.at_ t ht).1) h.inc fun j hj => ⟨fun ⟨_, c, h1, h2⟩ => ?_, fun ⟨t, ht, he⟩ => ?_⟩
  · -- the first factor that is not 0
    by_cases hz : ∀ t, t < R → c t = 0
    · exfalso
      refine h1 (sumU_none _ _ fun i hi => ?_)
      by_cases hiR : i < R
      · rw [hz i hiR, zero_mulU]
      · rw [h.rest i (by omega) hi j hj, mulU_zero]
    · have hmin : ∃ t, t < R ∧ c t ≠ 0 ∧ ∀ s, s < t → c s = 0 := by
        have : ∀ m, (∀ s, s < m → s < R → c s = 0) ∨ ∃ t, t < R ∧ c t ≠ 0 ∧ ∀ s, s < t → c s = 0 := by
          intro m
          induction m with
          | zero => exact .inl fun s hs => absurd hs (Nat.not_lt_zero _)
          | succ m ih =>
            rcases ih with h' | h'
            · by_cases hm : m < R
              · by_cases hc : c m = 0
                · left
                  intro s hs hsR
                  by_cases e : s = m
                  · subst e; exact hc
                  · exact h' s (by omega) hsR
                · exact .inr ⟨m, hm, hc, fun s hs => h' s hs (by omega)⟩
              · exact .inl fun s hs hsR => h' s (by omega) hsR
            · exact .inr h'
        rcases this R with h' | h'
        · exact absurd (fun t ht => h' t ht ht) hz
        · exact h'
      obtain ⟨t, ht, hct, hbef⟩ := hmin
      obtain ⟨hp1, hp2, hp3⟩ := h.at_ t ht
      have hval : ∀ k, k ≤ p t → comb r c M k = mulU (c t) (M t k) := fun k hk => sumU_one r t _ (by have := h.le; omega) fun i hi hne => by
        rcases Nat.lt_or_gt_of_ne hne with h' | h'
        · rw [hbef i h', zero_mulU]
        · by_cases hiR : i < R
          · rw [(h.at_ i hiR).2.2 k (by have := h.inc t i h' hiR; omega), mulU_zero]
          · rw [h.rest i (by omega) hi k (by omega), mulU_zero]
      refine ⟨t, ht, ?_⟩
      rcases Nat.lt_trichotomy j (p t) with h' | h' | h'
      · exact absurd (by rw [hval j (by omega), hp3 j h', mulU_zero]) h1
      · exact h'.symm
      · have := h2 (p t) h'
        rw [hval (p t) (Nat.le_refl _)] at this
        rcases mul_eq_zero _ _ this with h5 | h5
        · exact absurd h5 hct
        · exact absurd h5 hp2
  · subst he
    obtain ⟨hp1, hp2, hp3⟩ := h.at_ t ht
    have hl := h.le
    exact ⟨hj, dl t, by rw [comb_dl r t M _ (by omega)]; exact hp2, fun k hk => by rw [comb_dl r t M _ (by omega)]; exact hp3 k hk⟩
end Go.Proofs.Ytbkjocmldeagdaa
