/-
  A packing has at least Least containers; two containers of FirstFit together are more than one: plain mathematics.
-/
import Derived.Test.YtgmcniflandmmaaPkFitM
import Derived.Test.YtgmcniflandmmaaPkLeast
namespace Go.Proofs.Ytgmcniflandmmaa
set_option linter.unusedVariables false
theorem sumZ_perm {L : List Int} {a b : List Nat} (h : a.Perm b) : sumZ L a = sumZ L b := by
  induction h with
  | nil => rfl
  | cons x _ ih => simp only [sumZ, ih]
  | swap x y l => simp only [sumZ]; omega
  | trans _ _ h1 h2 => exact h1.trans h2
def bigZ (L : List Int) (c : Int) : List Nat → Nat
  | [] => 0
  | i :: l => (if c < 2 * szL L i then 1 else 0) + bigZ L c l
theorem bigZ_append (L : List Int) (c : Int) (a b : List Nat) : bigZ L c (a ++ b) = bigZ L c a + bigZ L c b := by
  induction a with
  | nil => simp [bigZ]
  | cons x a ih => rw [List.cons_append, bigZ, bigZ, ih]; omega
theorem bigZ_perm {L : List Int} {c : Int} {a b : List Nat} (h : a.Perm b) : bigZ L c a = bigZ L c b := by
  induction h with
  | nil => rfl
  | cons x _ ih => simp only [bigZ, ih]
  | swap x y l => simp only [bigZ]; omega
  | trans _ _ h1 h2 => exact h1.trans h2
theorem sumZ_range (L : List Int) : ∀ k, k ≤ L.length → sumZ L (List.range k) = totL (L.take k)
  | 0, _ => by simp [sumZ, totL]
  | k + 1, h => by
    have hk : k < L.length := by omega
    rw [List.range_succ, sumZ_snoc, sumZ_range L k (by omega), List.take_succ_eq_append_getElem hk, totL_append, szL_get hk]
    simp [totL]
theorem bigZ_range (L : List Int) (c : Int) : ∀ k, k ≤ L.length → bigZ L c (List.range k) = bigL c (L.take k)
  | 0, _ => by simp [bigZ, bigL]
  | k + 1, h => by
    have hk : k < L.length := by omega
    rw [List.range_succ, bigZ_append, bigZ_range L c k (by omega), List.take_succ_eq_append_getElem hk, bigL_append]
    simp [bigZ, bigL, szL_get hk]
theorem sumZ_flat {L : List Int} {c : Int} (ll : List (List Nat)) (h : ∀ l ∈ ll, sumZ L l ≤ c) : sumZ L ll.flatten ≤ c * ll.length := by
  induction ll with
  | nil => simp [sumZ]
  | cons l ll ih =>
    rw [List.flatten_cons, sumZ_append, List.length_cons, Int.natCast_add, Int.mul_add]
    have h1 := h l (by simp)
    have h2 := ih (fun q hq => h q (by simp [hq]))
    omega
theorem bigZ_sum {L : List Int} {c : Int} (hL : ∀ s ∈ L, 0 ≤ s ∧ s ≤ 4096) (l : List Nat) : (c + 1) * (bigZ L c l : Int) ≤ 2 * sumZ L l := by
  induction l with
  | nil => simp [bigZ, sumZ]
  | cons i l ih =>
    have hs := szL_nn hL i
    simp only [bigZ, sumZ]
    split
    · rw [Int.natCast_add, Int.mul_add]
      omega
    · rw [Nat.zero_add]
      omega
theorem bigZ_one {L : List Int} {c : Int} (hc : 1 ≤ c) (hL : ∀ s ∈ L, 0 ≤ s ∧ s ≤ 4096) {l : List Nat} (h : sumZ L l ≤ c) : bigZ L c l ≤ 1 := by
  have h1 := bigZ_sum (c := c) hL l
  rcases Nat.lt_or_ge 1 (bigZ L c l) with h2 | h2
  · have h3 : (c + 1) * 2 ≤ (c + 1) * (bigZ L c l : Int) := Int.mul_le_mul_of_nonneg_left (by omega) (by omega)
    omega
  · exact h2
theorem bigZ_flat {L : List Int} {c : Int} (hc : 1 ≤ c) (hL : ∀ s ∈ L, 0 ≤ s ∧ s ≤ 4096) (ll : List (List Nat)) (h : ∀ l ∈ ll, sumZ L l ≤ c) : bigZ L c ll.flatten ≤ ll.length := by
  induction ll with
  | nil => simp [bigZ]
  | cons l ll ih =>
    rw [List.flatten_cons, bigZ_append, List.length_cons]
    have h1 := bigZ_one hc hL (h l (by simp))
    have h2 := ih (fun q hq => h q (by simp [hq]))
    omega
/-- every packing has at least Least containers -/
theorem least_le {L : List Int} {c : Int} (hv : valU L c = 0) {ll : List (List Nat)} (h : ∀ l ∈ ll, sumZ L l ≤ c) (hp : ll.flatten.Perm (List.range L.length)) : leastU L c ≤ ll.length := by
  have hok := (valU_ok hv).2
  unfold leastU
  rw [if_pos hv]
  have h1 := sumZ_flat ll h
  rw [sumZ_perm hp, sumZ_range L L.length (Nat.le_refl _), List.take_length] at h1
  have h2 := bigZ_flat hok.1.1 hok.2 ll h
  rw [bigZ_perm hp, bigZ_range L c L.length (Nat.le_refl _), List.take_length] at h2
  have h3 : (totL L + c - 1) / c < (ll.length : Int) + 1 := Int.ediv_lt_of_lt_mul (by have := hok.1.1; omega) (by rw [Int.add_mul, Int.mul_comm]; have := hok.1.1; omega)
  omega
theorem mem_flat_len {α : Type} {ll : List (List α)} {l : List α} (h : l ∈ ll) : l.length ≤ ll.flatten.length := by
  induction ll with
  | nil => simp at h
  | cons q ll ih =>
    rw [List.flatten_cons, List.length_append]
    rcases List.mem_cons.1 h with rfl | h
    · omega
    · have := ih h; omega
/-- any two containers together have more than one may have -/
def HvF (L : List Int) (c : Int) (ll : List (List Nat)) : Prop := ∀ i k (hi : i < ll.length) (hk : k < i), c < sumZ L ll[i] + sumZ L (ll[k]'(by omega))
theorem hv_place {L : List Int} {c : Int} (hL : ∀ s ∈ L, 0 ≤ s ∧ s ≤ 4096) {ll : List (List Nat)} {f : Nat} (h64 : ll.flatten.length < 64) (h : HvF L c ll) : HvF L c (placeF L c ll f) := by
  have hs := szL_nn hL f
  rcases Nat.lt_or_ge (atF L c (szL L f) ll) ll.length with h1 | h1
  · rw [place_old h1]
    generalize hA : atF L c (szL L f) ll = A at *
    intro i k hi hk
    have hi' : i < ll.length := by simpa using hi
    have h2 := h i k hi' hk
    simp only [List.getElem_set]
    by_cases e1 : A = i
    · subst e1
      rw [if_pos rfl, if_neg (by omega), sumZ_snoc]
      omega
    · rw [if_neg e1]
      by_cases e2 : A = k
      · subst e2
        rw [if_pos rfl, sumZ_snoc]
        omega
      · rw [if_neg e2]
        exact h2
  · have h1 : atF L c (szL L f) ll = ll.length := Nat.le_antisymm (atF_le _ _ _ _) h1
    rw [place_new h1]
    intro i k hi hk
    rw [List.length_append, List.length_singleton] at hi
    by_cases e : i < ll.length
    · rw [List.getElem_append_left e, List.getElem_append_left (by omega)]
      exact h i k e hk
    · have e2 : i = ll.length := by omega
      subst e2
      rw [List.getElem_append_right (Nat.le_refl _), List.getElem_append_left hk]
      simp only [Nat.sub_self, List.getElem_cons_zero, sumZ]
      have h3 := atF_no (L := L) (c := c) (s := szL L f) (ll := ll) (j := k) (by rw [h1]; exact hk)
      have h4 := mem_flat_len (List.getElem_mem hk)
      have h5 : ¬ sumZ L ll[k] + szL L f ≤ c := fun h' => h3 ⟨h', by omega⟩
      omega
theorem hv_fit {L : List Int} {c : Int} (hL : ∀ s ∈ L, 0 ≤ s ∧ s ≤ 4096) : ∀ (o : List Nat) (ll : List (List Nat)), o.length + ll.flatten.length ≤ 64 → HvF L c ll → HvF L c (fitF L c o ll)
  | [], ll, _, h => h
  | f :: o, ll, h64, h => by
    rw [List.length_cons] at h64
    rw [fitF]
    refine hv_fit hL o _ ?_ (hv_place hL (by omega) h)
    rw [(place_perm (L := L) (c := c) ll f).length_eq, List.length_cons]
    omega
/-- what a packing that went well is -/
theorem ffU_ok {L : List Int} {c : Int} {o : List Nat} (h : (ffU L c o).2 = 0) : valU L c = 0 ∧ (ffU L c o).1 = fitF L c o [] ∧ ∀ i, i < L.length → szL L i ≤ c := by
  unfold ffU at h ⊢
  by_cases hv : valU L c = 0
  · rw [if_pos hv] at h ⊢
    unfold fitU at h ⊢
    by_cases hb : L.any (fun s => decide (c < s)) = true
    · rw [if_pos hb] at h
      exact absurd h (by decide)
    · rw [if_neg hb]
      refine ⟨hv, rfl, fun i hi => ?_⟩
      rw [Bool.not_eq_true, List.any_eq_false] at hb
      have := hb _ (List.getElem_mem hi)
      rw [szL_get hi]
      simpa using this
  · rw [if_neg hv] at h
    exact absurd h hv
/-- both have the same error -/
theorem ffU_same (L : List Int) (c : Int) (o p : List Nat) : (ffU L c o).2 = (ffU L c p).2 := by
  unfold ffU fitU
  split
  · split <;> rfl
  · rfl
theorem ffU_perm {L : List Int} {c : Int} {o : List Nat} (h : (ffU L c o).2 = 0) (ho : o.Perm (List.range L.length)) : GoodF L c (ffU L c o).1 ∧ (ffU L c o).1.flatten.Perm (List.range L.length) := by
  obtain ⟨hv, he, hs⟩ := ffU_ok h
  rw [he]
  have h1 := fit_good hs o [] (fun i hi => List.mem_range.1 (ho.mem_iff.1 hi)) (GoodF.nil L c)
  refine ⟨h1.1, h1.2.trans ?_⟩
  simpa using ho
end Go.Proofs.Ytgmcniflandmmaa
