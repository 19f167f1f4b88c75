/-
  Plain mathematics: chosen shards, when enough are chosen; a code word, some of whose shards are empty; a column times the inverse.
-/
import Derived.Test.YtinfjidclkgfnaaERecM
import Derived.Test.YtinfjidclkgfnaaQRows
namespace Go.Proofs.Ytinfjidclkgfnaa
open Go.RowKit
theorem count_mono (hs : List Bool) (i j : Nat) (h : i ≤ j) : (hs.take i).count true ≤ (hs.take j).count true := by
  have e : hs.take i = (hs.take j).take i := by rw [List.take_take, Nat.min_eq_left h]
  rw [e]
  exact (List.take_sublist _ _).count_le _
/-- once enough are chosen, no further one is -/
theorem pick_full {α : Type} (xs : List α) (hs : List Bool) (k i : Nat) (hl : xs.length = hs.length) (hc : k ≤ (hs.take i).count true) : ∀ d, i + d ≤ hs.length → (pick (xs.take (i + d)) (hs.take (i + d))).take k = (pick (xs.take i) (hs.take i)).take k := by
  intro d
  induction d with
  | zero => intro _; rfl
  | succ d ih =>
    intro h
    have h1 := ih (by omega)
    rw [← h1]
    exact take_pick_pass xs hs k (i + d) (by omega) (by omega) (.inr (by have := count_mono hs i (i + d) (by omega); omega))
theorem pick_all {α : Type} (xs : List α) (hs : List Bool) (k i : Nat) (hl : xs.length = hs.length) (hi : i ≤ hs.length) (h : i = hs.length ∨ k ≤ ((pick (xs.take i) (hs.take i)).take k).length) : (pick (xs.take i) (hs.take i)).take k = (pick xs hs).take k := by
  rcases h with h | h
  · rw [h, List.take_of_length_le (l := xs) (by omega), List.take_of_length_le (l := hs) (Nat.le_refl _)]
  · rw [List.length_take, pick_length _ _ (by rw [List.length_take, List.length_take]; omega)] at h
    have := pick_full xs hs k i hl (by omega) (hs.length - i) (by omega)
    rw [show i + (hs.length - i) = hs.length by omega, List.take_of_length_le (l := xs) (by omega), List.take_of_length_le (l := hs) (Nat.le_refl _)] at this
    exact this.symm
theorem pick_len {α : Type} (xs : List α) (hs : List Bool) (k i : Nat) (hl : xs.length = hs.length) : ((pick (xs.take i) (hs.take i)).take k).length = min k ((hs.take i).count true) := by
  rw [List.length_take, pick_length _ _ (by rw [List.length_take, List.length_take]; omega)]
/-- what is there, and nothing in the place of what is lost; the first i are looked at -/
def torL (all : List (List UInt8)) (hs : List Bool) (i : Nat) : List (List UInt8) := (List.range all.length).map fun t => if t < i ∧ hs.getD t false = false then [] else all.getD t []
section
variable {all : List (List UInt8)} {hs : List Bool} {i : Nat}
theorem torL_length : (torL all hs i).length = all.length := by simp [torL]
theorem torL_get (t : Nat) (h : t < (torL all hs i).length) (h2 : t < all.length) : (torL all hs i)[t] = if t < i ∧ hs.getD t false = false then [] else all[t] := by
  simp [torL, h2]
theorem torL_zero : torL all hs 0 = all := by
  apply List.ext_getElem
  · exact torL_length
  · intro t h1 h2
    rw [torL_get t h1 h2, if_neg (fun h => Nat.not_lt_zero _ h.1)]
theorem torL_keep (h : i < hs.length) (hx : hs[i] = true) : torL all hs (i + 1) = torL all hs i := by
  apply List.ext_getElem
  · rw [torL_length, torL_length]
  · intro t h1 h2
    have h3 : t < all.length := by rw [torL_length] at h1; exact h1
    rw [torL_get t h1 h3, torL_get t h2 h3]
    by_cases e : t = i
    · subst e
      have : hs.getD t false = true := by simp [h, hx]
      rw [if_neg (by rw [this]; simp), if_neg (by rw [this]; simp)]
    · by_cases h4 : t < i ∧ hs.getD t false = false
      · rw [if_pos h4, if_pos ⟨by omega, h4.2⟩]
      · rw [if_neg h4, if_neg (fun h5 => h4 ⟨by omega, h5.2⟩)]
theorem torL_drop (h : i < hs.length) (hx : hs[i] = false) : torL all hs (i + 1) = (torL all hs i).set i [] := by
  apply List.ext_getElem
  · rw [torL_length, List.length_set, torL_length]
  · intro t h1 h2
    have h3 : t < all.length := by rw [torL_length] at h1; exact h1
    rw [torL_get t h1 h3, List.getElem_set]
    by_cases e : i = t
    · subst e
      rw [if_pos rfl, if_pos ⟨Nat.lt_succ_self _, by simp [h, hx]⟩]
    · rw [if_neg e, torL_get t (by rw [torL_length]; exact h3) h3]
      by_cases h4 : t < i ∧ hs.getD t false = false
      · rw [if_pos h4, if_pos ⟨by omega, h4.2⟩]
      · rw [if_neg h4, if_neg (fun h5 => h4 ⟨by omega, h5.2⟩)]
theorem tor_there (t : Nat) (h : t < (torL all hs i).length) (h2 : t < all.length) (hx : hs.getD t false = true) : (torL all hs i)[t] = all[t] := by
  rw [torL_get t h h2, if_neg (by rw [hx]; simp)]
theorem pick_same {α : Type} (xs ys : List α) (hs : List Bool) (hx : xs.length = hs.length) (hy : ys.length = hs.length) (h : ∀ t (h1 : t < xs.length) (h2 : t < ys.length), hs.getD t false = true → xs[t] = ys[t]) : pick xs hs = pick ys hs := by
  have gen : ∀ i, i ≤ hs.length → pick (xs.take i) (hs.take i) = pick (ys.take i) (hs.take i) := by
    intro i
    induction i with
    | zero => intro _; rw [List.take_zero, List.take_zero, List.take_zero]
    | succ i ih =>
      intro hi
      rw [pick_take xs hs i (by omega) (by omega), pick_take ys hs i (by omega) (by omega), ih (by omega)]
      by_cases hb : hs[i] = true
      · rw [if_pos hb, if_pos hb, h i (by omega) (by omega) (by simp [show i < hs.length by omega, hb])]
      · rw [if_neg hb, if_neg hb]
  have := gen hs.length (Nat.le_refl _)
  rwa [List.take_of_length_le (by omega), List.take_of_length_le (l := hs) (Nat.le_refl _), List.take_of_length_le (by omega)] at this
end
section
variable {D : List (List UInt8)} {k q : Nat} {hs : List Bool}
theorem tor_pick (h : hs.length = (D ++ parL D q).length) (i : Nat) : pick (torL (D ++ parL D q) hs i) hs = pick (D ++ parL D q) hs :=
  pick_same _ _ hs (by rw [torL_length, h]) h.symm fun t h1 h2 hx => tor_there t h1 h2 hx
theorem all_same (hs2 : sameL D = true) : sameL (pick (D ++ parL D q) hs) = true := by
  rw [sameL_iff]
  intro r hr
  have hr2 := code_row (q := q) hs2 r (pick_mem _ _ r hr)
  have hp : 0 < (pick (D ++ parL D q) hs).length := by cases hpp : pick (D ++ parL D q) hs with | nil => rw [hpp] at hr; simp at hr | cons => simp
  rw [cols_first _ hp, hr2]
  exact (code_row (q := q) hs2 _ (pick_mem _ _ _ (List.getElem_mem hp))).symm
theorem tor_recE (hD : D.length = k) (hs2 : sameL D = true) (hv : vc (k : Int) q = true) (h : hs.length = k + q) (hc : k ≤ hs.count true) (i : Nat) : recE (torL (D ++ parL D q) hs i) hs q = 0 := by
  have hal : (D ++ parL D q).length = k + q := by rw [List.length_append, parL_length, hD]
  have hgl : (torL (D ++ parL D q) hs i).length = k + q := by rw [torL_length, hal]
  have hvv : vc (((torL (D ++ parL D q) hs i).length : Int) - (q : Int)) q = true := by rw [hgl, show ((k + q : Nat) : Int) - (q : Int) = k by omega]; exact hv
  exact recE_ok hvv (by rw [hgl]; exact h) (by rw [tor_pick (by rw [hal]; exact h)]; exact all_same hs2) hgl hc
theorem tor_recR (hD : D.length = k) (hs2 : sameL D = true) (hv : vc (k : Int) q = true) (h : hs.length = k + q) (hc : k ≤ hs.count true) (i : Nat) : recR (torL (D ++ parL D q) hs i) hs q = D ++ parL D q := by
  have hal : (D ++ parL D q).length = k + q := by rw [List.length_append, parL_length, hD]
  have hgl : (torL (D ++ parL D q) hs i).length = k + q := by rw [torL_length, hal]
  have hvv := (vc_iff _ _).1 hv
  rw [recR_ok (k := k) (tor_recE hD hs2 hv h hc i) hgl, dataL_back (k := k) (p := q) D hD (by omega) hs2 h hc (by omega) hgl fun t ht hx => ⟨by rw [hal, ← hgl]; exact ht, tor_there t ht (by rw [hal, ← hgl]; exact ht) hx⟩]
theorem tor_row (hs2 : sameL D = true) (i : Nat) : ∀ r ∈ torL (D ++ parL D q) hs i, r.length ≤ cols D := fun r hr => by
  obtain ⟨t, ht, rfl⟩ := List.mem_iff_getElem.1 hr
  have h2 : t < (D ++ parL D q).length := by rw [torL_length] at ht; exact ht
  rw [torL_get t ht h2]
  split
  · exact Nat.zero_le _
  · rw [code_row (q := q) hs2 _ (List.getElem_mem h2)]; exact Nat.le_refl _
/-- a column of the chosen shards -/
def colL (us : List (List UInt8)) (c : Nat) : List UInt8 := us.map fun r => r.getD c 0
theorem colL_length (us : List (List UInt8)) (c : Nat) : (colL us c).length = us.length := by simp [colL]
theorem colL_take (us : List (List UInt8)) (c i : Nat) (h : i < us.length) (h2 : c < (us[i]).length) : colL (us.take (i + 1)) c = colL (us.take i) c ++ [(us[i])[c]] := by
  unfold colL
  rw [List.take_add_one, List.getElem?_eq_getElem h, List.map_append]
  congr 1
  show [(us[i]).getD c 0] = _
  rw [show (us[i]).getD c 0 = (us[i])[c] by simp [h2]]
/-- the inverse times a column of the chosen shards is a column of the data -/
theorem col_back (hD : D.length = k) (hk : 1 ≤ k) (hkp : k + q ≤ 64) (hs2 : sameL D = true) (h : hs.length = k + q) (hc : k ≤ hs.count true) (A : Nat → Nat → UInt8) (hA : Inv k A (ent (rowsL k q hs))) (c : Nat) (i : Nat) (hi : i < (appL (matL k k A) (colL (knownL k (D ++ parL D q) hs) c)).length) (hi2 : i < D.length) (hc2 : c < (D[i]).length) :
    (appL (matL k k A) (colL (knownL k (D ++ parL D q) hs) c))[i] = (D[i])[c] := by
  have hal : (D ++ parL D q).length = k + q := by rw [List.length_append, parL_length, hD]
  have hkl : (knownL k (D ++ parL D q) hs).length = k := known_length (by omega) hc
  have hdl : dataL k q (D ++ parL D q) hs = D := dataL_back D hD hk hs2 h hc hkp hal fun t ht _ => ⟨ht, rfl⟩
  rw [dataL_eq A hA] at hdl
  have hik : i < k := by omega
  have hcol : cols (knownL k (D ++ parL D q) hs) = cols D := by
    have h0 : 0 < (knownL k (D ++ parL D q) hs).length := by omega
    rw [cols_first _ h0]
    exact code_row (q := q) hs2 _ (pick_mem _ _ _ (List.mem_of_mem_take (List.getElem_mem h0)))
  have e1 : (appL (matL k k A) (colL (knownL k (D ++ parL D q) hs) c))[i] = comb k (A i) (fun j _ => (colL (knownL k (D ++ parL D q) hs) c).getD j 0) 0 := by
    have gen : ∀ (l : List UInt8) (h : i < l.length), l = rowF (matL k k A).length (apF (matL k k A) (colL (knownL k (D ++ parL D q) hs) c) (colL (knownL k (D ++ parL D q) hs) c).length) → l[i] = apF (matL k k A) (colL (knownL k (D ++ parL D q) hs) c) (colL (knownL k (D ++ parL D q) hs) c).length i := fun l h e => by subst e; exact rowF_get _ _ _ h
    rw [gen _ hi (appL_eq _ _), colL_length, hkl]
    unfold apF
    exact comb_congr (fun t ht => ent_row _ i t k (A i) (by rw [matL_length]; exact hik) (matL_rowF _ _ _ _ _) ht) fun _ _ => rfl
  have e2 : (D[i])[c] = comb k (A i) (ent (knownL k (D ++ parL D q) hs)) c := by
    have gen : ∀ (M : List (List UInt8)) (h : i < M.length) (h2 : c < (M[i]).length), M = prodL (matL k k A) (knownL k (D ++ parL D q) hs) → (M[i])[c] = comb k (A i) (ent (knownL k (D ++ parL D q) hs)) c := fun M h h2 e => by
      subst e
      have hm : i < (matL k k A).length := by rw [matL_length]; exact hik
      have e3 : ∀ (r : List UInt8) (h : c < r.length), r = combL ((matL k k A)[i]) (knownL k (D ++ parL D q) hs) → r[c] = comb k (A i) (ent (knownL k (D ++ parL D q) hs)) c := fun r h e => by
        subst e
        rw [combL_get, hkl]
        refine comb_congr (fun t ht => ?_) fun _ _ => rfl
        rw [matL_rowF, rowF_getD _ _ t ht]
      exact e3 _ h2 (prodL_get _ _ i hm h)
    exact gen D hi2 hc2 hdl.symm
  rw [e1, e2]
  show sumU k _ = sumU k _
  refine sumU_congr _ _ _ fun j hj => ?_
  have hj2 : j < (knownL k (D ++ parL D q) hs).length := by omega
  show mulU (A i j) ((colL (knownL k (D ++ parL D q) hs) c).getD j 0) = mulU (A i j) (ent (knownL k (D ++ parL D q) hs) j c)
  congr 1
  unfold colL ent
  simp [hj2]
end
end Go.Proofs.Ytinfjidclkgfnaa
