/-
  First fit, the order of descending sizes, the least number: plain mathematics.
-/
import Derived.Test.YtpjegenobadckaaPkMath
namespace Go.Proofs.Ytpjegenobadckaa
set_option linter.unusedVariables false
/-- the size of a file -/
def szL (L : List Int) (i : Nat) : Int := L.getD i 0
theorem szL_get {L : List Int} {i : Nat} (h : i < L.length) : szL L i = L[i] := by unfold szL; simp [h]
/-- the sum of the sizes of some files -/
def sumZ (L : List Int) : List Nat → Int
  | [] => 0
  | i :: l => szL L i + sumZ L l
theorem sumZ_append (L : List Int) (a b : List Nat) : sumZ L (a ++ b) = sumZ L a + sumZ L b := by
  induction a with
  | nil => simp [sumZ]
  | cons x a ih => rw [List.cons_append, sumZ, sumZ, ih]; omega
theorem sumZ_snoc (L : List Int) (a : List Nat) (x : Nat) : sumZ L (a ++ [x]) = sumZ L a + szL L x := by rw [sumZ_append]; simp [sumZ]
theorem szL_nn {L : List Int} (h : ∀ s ∈ L, 0 ≤ s ∧ s ≤ 4096) (i : Nat) : 0 ≤ szL L i ∧ szL L i ≤ 4096 := by
  by_cases hi : i < L.length
  · rw [szL_get hi]; exact h _ (List.getElem_mem hi)
  · unfold szL; simp [hi]
theorem sumZ_nn {L : List Int} (h : ∀ s ∈ L, 0 ≤ s ∧ s ≤ 4096) (l : List Nat) : 0 ≤ sumZ L l ∧ sumZ L l ≤ 4096 * l.length := by
  induction l with
  | nil => simp [sumZ]
  | cons x l ih =>
    have := szL_nn h x
    simp only [sumZ, List.length_cons]
    omega
theorem sumZ_take {L : List Int} (h : ∀ s ∈ L, 0 ≤ s ∧ s ≤ 4096) (l : List Nat) (i : Nat) : 0 ≤ sumZ L (l.take i) ∧ sumZ L (l.take i) ≤ sumZ L l := by
  have h1 := sumZ_nn h (l.take i)
  have h2 := sumZ_nn h (l.drop i)
  have h3 := sumZ_append L (l.take i) (l.drop i)
  rw [List.take_append_drop] at h3
  omega
/-- there is space for it -/
def roomF (L : List Int) (c s : Int) (l : List Nat) : Bool := decide (sumZ L l + s ≤ c) && decide (l.length < 64)
theorem roomF_iff {L : List Int} {c s : Int} {l : List Nat} : roomF L c s l = true ↔ sumZ L l + s ≤ c ∧ l.length < 64 := by unfold roomF; simp
/-- the first container with space, or the number of containers -/
def atF (L : List Int) (c s : Int) (ll : List (List Nat)) : Nat := ll.findIdx (roomF L c s)
theorem atF_le (L : List Int) (c s : Int) (ll : List (List Nat)) : atF L c s ll ≤ ll.length := List.findIdx_le_length
theorem atF_yes {L : List Int} {c s : Int} {ll : List (List Nat)} (h : atF L c s ll < ll.length) : sumZ L ll[atF L c s ll] + s ≤ c ∧ (ll[atF L c s ll]).length < 64 := roomF_iff.1 (List.findIdx_getElem (w := h))
theorem atF_no {L : List Int} {c s : Int} {ll : List (List Nat)} {j : Nat} (h : j < atF L c s ll) : ¬ (sumZ L (ll[j]'(Nat.lt_of_lt_of_le h (atF_le L c s ll))) + s ≤ c ∧ (ll[j]'(Nat.lt_of_lt_of_le h (atF_le L c s ll))).length < 64) := by
  have := List.not_of_lt_findIdx h
  rw [← roomF_iff]
  simpa using this
theorem atF_eq {L : List Int} {c s : Int} {ll : List (List Nat)} {k : Nat} (hk : k < ll.length) (h : sumZ L ll[k] + s ≤ c ∧ (ll[k]).length < 64) (hall : ∀ j (hj : j < ll.length), j < k → ¬ (sumZ L ll[j] + s ≤ c ∧ (ll[j]).length < 64)) : atF L c s ll = k := by
  unfold atF
  rw [List.findIdx_eq hk]
  refine ⟨roomF_iff.2 h, fun j hj => ?_⟩
  have := hall j (by omega) hj
  rw [← roomF_iff] at this
  simpa using this
theorem atF_end {L : List Int} {c s : Int} {ll : List (List Nat)} (hall : ∀ j (hj : j < ll.length), ¬ (sumZ L ll[j] + s ≤ c ∧ (ll[j]).length < 64)) : atF L c s ll = ll.length := by
  unfold atF
  rw [List.findIdx_eq_length]
  intro x hx
  obtain ⟨j, hj, rfl⟩ := List.getElem_of_mem hx
  have := hall j hj
  rw [← roomF_iff] at this
  simpa using this
/-- the containers with one more, if there is no space -/
def openF (L : List Int) (c : Int) (ll : List (List Nat)) (i : Nat) : List (List Nat) := if atF L c (szL L i) ll = ll.length then ll ++ [[]] else ll
def placeF (L : List Int) (c : Int) (ll : List (List Nat)) (i : Nat) : List (List Nat) :=
  let k := atF L c (szL L i) ll
  (openF L c ll i).set k ((openF L c ll i).getD k [] ++ [i])
def fitF (L : List Int) (c : Int) : List Nat → List (List Nat) → List (List Nat)
  | [], ll => ll
  | i :: r, ll => fitF L c r (placeF L c ll i)
theorem place_new {L : List Int} {c : Int} {ll : List (List Nat)} {i : Nat} (h : atF L c (szL L i) ll = ll.length) : placeF L c ll i = ll ++ [[i]] := by
  unfold placeF
  simp only [openF, h, if_true]
  rw [List.set_append_right _ _ (Nat.le_refl _)]
  simp
theorem place_old {L : List Int} {c : Int} {ll : List (List Nat)} {i : Nat} (h : atF L c (szL L i) ll < ll.length) : placeF L c ll i = ll.set (atF L c (szL L i) ll) (ll[atF L c (szL L i) ll] ++ [i]) := by
  unfold placeF
  simp only [openF, if_neg (show ¬ atF L c (szL L i) ll = ll.length by omega)]
  congr 2
  simp [h]
/-- what the packing keeps -/
structure GoodF (L : List Int) (c : Int) (ll : List (List Nat)) : Prop where
  len : ∀ l ∈ ll, l.length ≤ 64 ∧ 0 < l.length
  use : ∀ l ∈ ll, sumZ L l ≤ c
  num : ∀ l ∈ ll, ∀ i ∈ l, i < L.length
theorem GoodF.nil (L : List Int) (c : Int) : GoodF L c [] := ⟨by simp, by simp, by simp⟩
theorem mem_set_cases {α : Type} {l : List α} {i : Nat} {a x : α} (h : x ∈ l.set i a) : x = a ∨ x ∈ l := by
  rcases List.mem_or_eq_of_mem_set h with h | h
  · exact .inr h
  · exact .inl h
theorem GoodF.place {L : List Int} {c : Int} {ll : List (List Nat)} {i : Nat} (h : GoodF L c ll) (hi : i < L.length) (hs : szL L i ≤ c) : GoodF L c (placeF L c ll i) ∧ (placeF L c ll i).length ≤ ll.length + 1 := by
  rcases Nat.lt_or_ge (atF L c (szL L i) ll) ll.length with h1 | h1
  · rw [place_old h1]
    obtain ⟨h2, h3⟩ := atF_yes h1
    generalize hk : atF L c (szL L i) ll = k at *
    have hm : ll[k] ∈ ll := List.getElem_mem _
    refine ⟨⟨fun l hl => ?_, fun l hl => ?_, fun l hl => ?_⟩, by simp⟩
    · rcases mem_set_cases hl with rfl | hl
      · simp; omega
      · exact h.len l hl
    · rcases mem_set_cases hl with rfl | hl
      · rw [sumZ_snoc]; exact h2
      · exact h.use l hl
    · rcases mem_set_cases hl with rfl | hl
      · intro j hj
        rcases List.mem_append.1 hj with hj | hj
        · exact h.num _ hm j hj
        · rw [List.mem_singleton.1 hj]; exact hi
      · exact h.num l hl
  · have h1 : atF L c (szL L i) ll = ll.length := Nat.le_antisymm (atF_le _ _ _ _) h1
    rw [place_new h1]
    refine ⟨⟨fun l hl => ?_, fun l hl => ?_, fun l hl => ?_⟩, by simp⟩
    · rcases List.mem_append.1 hl with hl | hl
      · exact h.len l hl
      · rw [List.mem_singleton.1 hl]; simp
    · rcases List.mem_append.1 hl with hl | hl
      · exact h.use l hl
      · rw [List.mem_singleton.1 hl]; simp [sumZ]; exact hs
    · rcases List.mem_append.1 hl with hl | hl
      · exact h.num l hl
      · rw [List.mem_singleton.1 hl]; simp; exact hi
theorem place_perm {L : List Int} {c : Int} (ll : List (List Nat)) (i : Nat) : (placeF L c ll i).flatten.Perm (i :: ll.flatten) := by
  rcases Nat.lt_or_ge (atF L c (szL L i) ll) ll.length with h1 | h1
  · rw [place_old h1]
    generalize hk : atF L c (szL L i) ll = k at *
    have h2 : ll = ll.take k ++ ll[k] :: ll.drop (k + 1) := by rw [List.getElem_cons_drop, List.take_append_drop]
    have h3 : ll.set k (ll[k] ++ [i]) = ll.take k ++ (ll[k] ++ [i]) :: ll.drop (k + 1) := by rw [List.set_eq_take_append_cons_drop, if_pos h1]
    rw [h3]
    conv => rhs; rw [h2]
    simp only [List.flatten_append, List.flatten_cons, List.append_assoc]
    refine List.Perm.trans (List.Perm.append_left _ ?_) List.perm_middle
    rw [List.cons_append, List.nil_append]
    exact List.perm_middle
  · have h1 : atF L c (szL L i) ll = ll.length := Nat.le_antisymm (atF_le _ _ _ _) h1
    rw [place_new h1]
    simp only [List.flatten_append, List.flatten_cons, List.flatten_nil, List.append_nil]
    exact List.perm_append_singleton _ _
theorem fit_good {L : List Int} {c : Int} (hs : ∀ i, i < L.length → szL L i ≤ c) : ∀ (o : List Nat) (ll : List (List Nat)), (∀ i ∈ o, i < L.length) → GoodF L c ll → GoodF L c (fitF L c o ll) ∧ (fitF L c o ll).flatten.Perm (o ++ ll.flatten)
  | [], ll, _, h => ⟨h, List.Perm.refl _⟩
  | i :: o, ll, hi, h => by
    obtain ⟨h1, h2⟩ := fit_good hs o (placeF L c ll i) (fun j hj => hi j (by simp [hj])) (h.place (hi i (by simp)) (hs i (hi i (by simp)))).1
    refine ⟨h1, h2.trans ?_⟩
    refine (List.Perm.append_left o (place_perm ll i)).trans ?_
    exact List.perm_middle
/-- the answer of a packing in an order -/
noncomputable def fitU (L : List Int) (c : Int) (o : List Nat) : List (List Nat) × Int := if L.any (fun s => decide (c < s)) then ([], 12) else (fitF L c o [], 0)
noncomputable def ffU (L : List Int) (c : Int) (o : List Nat) : List (List Nat) × Int := if valU L c = 0 then fitU L c o else ([], valU L c)
/-- the files of a size -/
def ofSz (L : List Int) (s : Nat) : List Nat := (List.range L.length).filter fun i => szL L i == (s : Int)
/-- the files by descending sizes, those below s -/
def ordF (L : List Int) : Nat → List Nat
  | 0 => []
  | s + 1 => ofSz L s ++ ordF L s
def ltD (L : List Int) (a b : Nat) : Prop := szL L b < szL L a ∨ (szL L a = szL L b ∧ a < b)
theorem ofSz_mem {L : List Int} {s i : Nat} : i ∈ ofSz L s ↔ i < L.length ∧ szL L i = (s : Int) := by unfold ofSz; simp
theorem ordF_mem {L : List Int} : ∀ {n i : Nat}, i ∈ ordF L n ↔ i < L.length ∧ (∃ s : Nat, s < n ∧ szL L i = (s : Int))
  | 0, i => by simp [ordF]
  | n + 1, i => by
    rw [ordF, List.mem_append, ofSz_mem, ordF_mem]
    constructor
    · rintro (⟨h1, h2⟩ | ⟨h1, s, hs, h2⟩)
      · exact ⟨h1, n, by omega, h2⟩
      · exact ⟨h1, s, by omega, h2⟩
    · rintro ⟨h1, s, hs, h2⟩
      by_cases e : s = n
      · subst e; exact .inl ⟨h1, h2⟩
      · exact .inr ⟨h1, s, by omega, h2⟩
theorem ordF_sorted {L : List Int} : ∀ (n : Nat), (ordF L n).Pairwise (ltD L)
  | 0 => by simp [ordF]
  | n + 1 => by
    rw [ordF, List.pairwise_append]
    refine ⟨?_, ordF_sorted n, fun a ha b hb => ?_⟩
    · have : (List.range L.length).Pairwise (· < ·) := List.pairwise_lt_range
      unfold ofSz
      refine (this.filter _).imp_of_mem ?_
      intro a b ha hb hab
      have h1 := (List.mem_filter.1 ha).2
      have h2 := (List.mem_filter.1 hb).2
      rw [beq_iff_eq] at h1 h2
      exact .inr ⟨h1.trans h2.symm, hab⟩
    · obtain ⟨_, h1⟩ := ofSz_mem.1 ha
      obtain ⟨_, s, hs, h2⟩ := ordF_mem.1 hb
      exact .inl (by omega)
theorem ltD_irrefl {L : List Int} {a : Nat} : ¬ ltD L a a := by unfold ltD; omega
theorem ordF_nodup {L : List Int} (n : Nat) : (ordF L n).Nodup := (ordF_sorted n).imp fun {a b} h e => by subst e; exact ltD_irrefl h
/-- the order of Decreasing -/
def ordD (L : List Int) : List Nat := ordF L 4097
theorem ordD_perm {L : List Int} (h : ∀ s ∈ L, 0 ≤ s ∧ s ≤ 4096) : (ordD L).Perm (List.range L.length) := by
  refine (List.perm_ext_iff_of_nodup (ordF_nodup _) List.nodup_range).2 fun i => ?_
  rw [ordF_mem, List.mem_range]
  refine ⟨fun h => h.1, fun hi => ⟨hi, (szL L i).toNat, ?_⟩⟩
  have := szL_nn h i
  omega
/-- one order alone -/
theorem ord_unique {L : List Int} {a b : List Nat} (hp : a.Perm b) (ha : a.Pairwise (ltD L)) (hb : b.Pairwise (ltD L)) : a = b := by
  refine List.Perm.eq_of_pairwise (le := ltD L) ?_ ha hb hp
  intro x y _ _ h1 h2
  unfold ltD at h1 h2
  omega
end Go.Proofs.Ytpjegenobadckaa
