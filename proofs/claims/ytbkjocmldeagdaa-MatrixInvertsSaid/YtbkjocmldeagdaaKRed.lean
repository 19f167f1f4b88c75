/-
  Plain mathematics of elimination: what a round of the reduced form keeps; the rank and the inverse at its end.
-/
import Derived.Test.YtbkjocmldeagdaaKSpan
namespace Go.Proofs.Ytbkjocmldeagdaa
theorem Inside.row {r' r C : Nat} {M' M : Nat → Nat → UInt8} (h : ∀ i, i < r' → ∃ k, k < r ∧ ∀ j, j < C → M' i j = M k j) : Inside r' r C M' M := fun i hi => by
  obtain ⟨k, hk, hM⟩ := h i hi
  exact ⟨dl k, fun j hj => by rw [comb_dl r k M j hk]; exact hM j hj⟩
/-- each row is a multiple of a row and a multiple of another one -/
theorem Inside.two {r' r C : Nat} {M' M : Nat → Nat → UInt8} (h : ∀ i, i < r' → ∃ k l a b, k < r ∧ l < r ∧ ∀ j, j < C → M' i j = mulU a (M k j) ^^^ mulU b (M l j)) : Inside r' r C M' M := fun i hi => by
  obtain ⟨k, l, a, b, hk, hl, hM⟩ := h i hi
  refine ⟨fun t => mulU a (dl k t) ^^^ mulU b (dl l t), fun j hj => ?_⟩
  rw [comb_add, comb_mul, comb_mul, comb_dl r k M j hk, comb_dl r l M j hl]
  exact hM j hj

/-- The first j columns of the r rows M are in the reduced form, with the R pivots p; M came of M0 (L columns). -/
structure Reduced (r L : Nat) (M0 M : Nat → Nat → UInt8) (j R : Nat) (p : Nat → Nat) : Prop where
  into : Inside r r L M M0
  back : Inside r r L M0 M
  le : R ≤ r
  pivot : ∀ t, t < R → p t < j ∧ M t (p t) = 1 ∧ (∀ i, i < r → i ≠ t → M i (p t) = 0) ∧ ∀ k, k < p t → M t k = 0
  inc : ∀ s t, s < t → t < R → p s < p t
  rest : ∀ i, R ≤ i → i < r → ∀ k, k < j → M i k = 0
theorem Reduced.start (r L : Nat) (M0 : Nat → Nat → UInt8) : Reduced r L M0 M0 0 0 id :=
  ⟨.refl _ _ _, .refl _ _ _, Nat.zero_le _, fun _ ht => absurd ht (Nat.not_lt_zero _), fun _ _ _ ht => absurd ht (Nat.not_lt_zero _), fun _ _ _ _ hk => absurd hk (Nat.not_lt_zero _)⟩
theorem Reduced.none {r L j R : Nat} {M0 M : Nat → Nat → UInt8} {p : Nat → Nat} (h : Reduced r L M0 M j R p) (hz : ∀ i, R ≤ i → i < r → M i j = 0) : Reduced r L M0 M (j + 1) R p :=
  ⟨h.into, h.back, h.le, fun t ht => ⟨by have := (h.pivot t ht).1; omega, (h.pivot t ht).2⟩, h.inc, fun i hi hir k hk => by
    by_cases e : k = j
    · subst e; exact hz i hi hir
    · exact h.rest i hi hir k (by omega)⟩
/-- the matrix behind a round with the pivot in row a: the rows a and R exchanged, row R divided by the pivot, its multiples added to all others -/
def pivoted (R a j : Nat) (M : Nat → Nat → UInt8) (i k : Nat) : UInt8 :=
  if i = R then mulU (M a k) (invU (M a j)) else M (sw a R i) k ^^^ mulU (M (sw a R i) j) (mulU (M a k) (invU (M a j)))
theorem Reduced.some {r L j R a : Nat} {M0 M : Nat → Nat → UInt8} {p : Nat → Nat} (h : Reduced r L M0 M j R p) (hj : j < L) (ha : R ≤ a) (har : a < r) (hp : M a j ≠ 0) :
    Reduced r L M0 (pivoted R a j M) (j + 1) (R + 1) (fun t => if t = R then j else p t) := by
  have hq : mulU (M a j) (invU (M a j)) = 1 := mul_inv _ hp
  have hRr : R < r := by omega
  have hsw : ∀ i, i < r → sw a R i < r := fun i hi => sw_lt har hRr hi
  have hsR : sw a R R = a := by unfold sw; by_cases e : R = a <;> simp [e]
  have hlow : ∀ t, t < R → sw a R t = t := fun t ht => by unfold sw; rw [if_neg (by omega), if_neg (by omega)]
  have hge : ∀ i, R ≤ i → R ≤ sw a R i := fun i hi => by unfold sw; split; exact Nat.le_refl _; split; exact ha; exact hi
  refine ⟨?_, ?_, by omega, ?_, ?_, ?_⟩
  · -- the new rows are combinations of the old ones
    refine Inside.trans (Inside.two (M := M) fun i hi => ?_) h.into
    by_cases e : i = R
    · exact ⟨a, a, invU (M a j), 0, har, har, fun k _ => by show (if i = R then _ else _) = _; rw [if_pos e, zero_mulU, UInt8.xor_zero, mulU_comm]⟩
    · exact ⟨sw a R i, a, 1, mulU (M (sw a R i) j) (invU (M a j)), hsw i hi, har, fun k _ => by show (if i = R then _ else _) = _; rw [if_neg e, one_mulU, mulU_assoc, mulU_comm (invU (M a j))]⟩
  · -- .. and the old ones of the new ones
    refine Inside.trans h.back (Inside.two fun i hi => ?_)
    by_cases e : i = a
    · exact ⟨R, R, M a j, 0, hRr, hRr, fun k _ => by
        subst e
        rw [zero_mulU, UInt8.xor_zero, show pivoted R i j M R k = mulU (M i k) (invU (M i j)) from if_pos rfl, mulU_comm (M i k), ← mulU_assoc, hq, one_mulU]⟩
    · have hne : sw a R i ≠ R := fun h' => e (by
        have := congrArg (sw a R) h'
        rwa [sw_sw, hsR] at this)
      exact ⟨sw a R i, R, 1, M i j, hsw i hi, hRr, fun k _ => by
        rw [one_mulU, show pivoted R a j M R k = mulU (M a k) (invU (M a j)) from if_pos rfl, show pivoted R a j M (sw a R i) k = M (sw a R (sw a R i)) k ^^^ mulU (M (sw a R (sw a R i)) j) (mulU (M a k) (invU (M a j))) from if_neg hne, sw_sw,
          UInt8.xor_assoc, xor_self8, UInt8.xor_zero]⟩
  · intro t ht
    show (if t = R then j else p t) < j + 1 ∧ pivoted R a j M t (if t = R then j else p t) = 1 ∧ (∀ i, i < r → i ≠ t → pivoted R a j M i (if t = R then j else p t) = 0) ∧ ∀ k, k < (if t = R then j else p t) → pivoted R a j M t k = 0
    by_cases e : t = R
    · rw [if_pos e]
      refine ⟨by omega, ?_, fun i hi hne => ?_, fun k hk => ?_⟩
      · show (if t = R then _ else _) = _
        rw [if_pos e]; exact hq
      · show (if i = R then _ else _) = _
        rw [if_neg (by omega), hq, mulU_one, xor_self8]
      · show (if t = R then _ else _) = _
        rw [if_pos e, h.rest a ha har k hk, zero_mulU]
    · obtain ⟨h1, h2, h3, h4⟩ := h.pivot t (by omega)
      have htR : t < R := by omega
      have haz : M a (p t) = 0 := h3 a har (by omega)
      rw [if_neg e]
      refine ⟨by omega, ?_, fun i hi hne => ?_, fun k hk => ?_⟩
      · show (if t = R then _ else _) = _
        rw [if_neg e, hlow t htR, haz, zero_mulU, mulU_zero, UInt8.xor_zero]; exact h2
      · by_cases ei : i = R
        · show (if i = R then _ else _) = _
          rw [if_pos ei, haz, zero_mulU]
        · show (if i = R then _ else _) = _
          rw [if_neg ei, haz, zero_mulU, mulU_zero, UInt8.xor_zero]
          refine h3 _ (hsw i hi) fun h' => hne ?_
          have := congrArg (sw a R) h'
          rwa [sw_sw, hlow t htR] at this
      · show (if t = R then _ else _) = _
        rw [if_neg e, hlow t htR, h4 k hk, h.rest a ha har k (by omega), zero_mulU, mulU_zero]
        rfl
  · intro s t hs ht
    show (if s = R then j else p s) < (if t = R then j else p t)
    rw [if_neg (show ¬ s = R by omega)]
    by_cases e : t = R
    · rw [if_pos e]; exact (h.pivot s (by omega)).1
    · rw [if_neg e]; exact h.inc s t hs (by omega)
  · intro i hi hir k hk
    show (if i = R then _ else _) = _
    rw [if_neg (by omega)]
    by_cases e : k = j
    · subst e; rw [hq, mulU_one, xor_self8]
    · rw [h.rest (sw a R i) (hge i (by omega)) (hsw i hir) k (by omega), h.rest a ha har k (by omega), zero_mulU, mulU_zero]
      rfl
/-- behind the last row nothing is left to be done -/
theorem Reduced.full {r L j R : Nat} {M0 M : Nat → Nat → UInt8} {p : Nat → Nat} (h : Reduced r L M0 M j R p) (hR : R = r) : Reduced r L M0 M (j + 1) R p := h.none fun i h1 h2 => by omega
theorem Reduced.rank {r L C R : Nat} {M0 M : Nat → Nat → UInt8} {p : Nat → Nat} (h : Reduced r L M0 M C R p) (hC : C ≤ L) : rankF r C M0 = R := by
  rw [rank_eq (h.back.less hC) (h.into.less hC)]
  exact Stairs.rank ⟨h.le, fun t ht => ⟨(h.pivot t ht).1, by rw [(h.pivot t ht).2.1]; decide, (h.pivot t ht).2.2.2⟩, h.inc, h.rest⟩
theorem Reduced.full_any {r L j R : Nat} {M0 M : Nat → Nat → UInt8} {p : Nat → Nat} (h : Reduced r L M0 M j R p) (hR : R = r) (C : Nat) (hC : j ≤ C) : Reduced r L M0 M C R p := by
  obtain ⟨m, rfl⟩ : ∃ m, C = j + m := ⟨C - j, by omega⟩
  clear hC
  induction m with
  | zero => exact h
  | succ m ih => exact ih.full hR
/-- a square matrix with the identity matrix beside it: with all pivots, the inverse stands beside the identity matrix -/
theorem Reduced.inv {n : Nat} {M0 M : Nat → Nat → UInt8} {p : Nat → Nat} (h : Reduced n (n + n) M0 M n n p) (hM : ∀ i, i < n → ∀ j, j < n → M0 i (n + j) = dl i j) : Inv n (fun i j => M i (n + j)) M0 := by
  have hp : ∀ t, t < n → p t = t := by
    have hlo : ∀ t, t < n → t ≤ p t := by
      intro t
      induction t with
      | zero => exact fun _ => Nat.zero_le _
      | succ t ih => intro ht; have h1 := ih (by omega); have h2 := h.inc t (t + 1) (by omega) ht; omega
    have hhi : ∀ m t, t + m + 1 = n → p t ≤ t := by
      intro m
      induction m with
      | zero => intro t ht; have := (h.pivot t (by omega)).1; omega
      | succ m ih => intro t ht; have h1 := ih (t + 1) (by omega); have h2 := h.inc t (t + 1) (by omega) (by omega); omega
    exact fun t ht => Nat.le_antisymm (hhi (n - 1 - t) t (by omega)) (hlo t ht)
  intro i hi j hj
  obtain ⟨c, hc⟩ := h.into i hi
  have hci : ∀ l, l < n → M i (n + l) = c l := fun l hl => by
    rw [hc (n + l) (by omega)]
    unfold Proofs.Ytbkjocmldeagdaa.comb
    rw [sumU_one n l _ hl (fun k hk hne => by rw [hM k hk l hl, dl_ne hne, mulU_zero]), hM l hl l hl, dl_same, mulU_one]
  have h1 : Proofs.Ytbkjocmldeagdaa.comb n (fun l => M i (n + l)) M0 j = M i j := by
    rw [hc j (by omega)]
    exact comb_congr (fun l hl => hci l hl) fun _ _ => rfl
  show Proofs.Ytbkjocmldeagdaa.comb n (fun l => M i (n + l)) M0 j = dl i j
  rw [h1]
  obtain ⟨_, h2, h3, _⟩ := h.pivot j hj
  rw [hp j hj] at h2 h3
  by_cases e : i = j
  · subst e; rw [h2, dl_same]
  · rw [h3 i hi e, dl_ne e]
/-- too few pivots: there is no inverse -/
theorem Reduced.no_inv {n L R : Nat} {M0 M A : Nat → Nat → UInt8} {p : Nat → Nat} (h : Reduced n L M0 M n R p) (hL : n ≤ L) (hR : R < n) : ¬ Inv n A M0 := fun hA => by
  have h1 := hA.rank
  rw [h.rank hL] at h1
  omega
theorem Inv.congr {n : Nat} {A B M N : Nat → Nat → UInt8} (h : Inv n A M) (hA : ∀ i, i < n → ∀ j, j < n → A i j = B i j) (hM : ∀ i, i < n → ∀ j, j < n → M i j = N i j) : Inv n B N := fun i hi j hj => by
  rw [← h i hi j hj]
  exact comb_congr (fun k hk => (hA i hi k hk).symm) fun k hk => (hM k hk j hj).symm
end Go.Proofs.Ytbkjocmldeagdaa
