/-
  Plain mathematics: one data shard changed; a slice of a list of the call's own replaced.
-/
import Derived.Test.YtinfjidclkgfnaaEUpdM
import Derived.Test.YtinfjidclkgfnaaERecM
namespace Go.Proofs.Ytinfjidclkgfnaa
open Go.RowKit
theorem parL_get (D : List (List UInt8)) (q i : Nat) (hi : i < q) (h : i < (parL D q).length) : (parL D q)[i] = rowF (cols D) (fun a => comb D.length (cauF D.length i) (ent D) a) := by
  have hic : i < (cauL q D.length).length := by rw [cauL_length]; exact hi
  have e1 : (parL D q)[i] = combL ((cauL q D.length)[i]) D := prodL_get _ _ i hic h
  rw [e1]
  refine rowF_self _ _ (fun a ha => ?_) _ (combL_length _ _).symm
  rw [combL_get]
  refine comb_congr (fun t ht => ?_) fun _ _ => rfl
  have g3 : ∀ (l : List (List UInt8)) (h : i < l.length), l = matL q D.length (cauF D.length) → (l[i]).getD t 0 = cauF D.length i t := fun l h e => by
    subst e
    rw [matL_rowF, rowF_getD _ _ t ht]
  exact g3 _ hic (cauL_eq _ _)
section
variable {D : List (List UInt8)} {x : Nat} {new : List UInt8}
theorem set_cols (hx : x < D.length) (hn : new.length = cols D) : cols (D.set x new) = cols D := by
  cases D with
  | nil => simp at hx
  | cons r D =>
    cases x with
    | zero => exact hn
    | succ x => rfl
theorem set_same (hs : sameL D = true) (hx : x < D.length) (hn : new.length = cols D) : sameL (D.set x new) = true := by
  rw [sameL_iff, set_cols hx hn]
  intro r hr
  rcases List.mem_or_eq_of_mem_set hr with h | h
  · exact (sameL_iff D).1 hs r h
  · rw [h]; exact hn
theorem set_ent (hx : x < D.length) (j a : Nat) : ent (D.set x new) j a = if j = x then new.getD a 0 else ent D j a := by
  unfold ent
  by_cases h : j = x
  · subst h
    rw [if_pos rfl, show (D.set j new).getD j [] = new by simp [hx]]
  · rw [if_neg h, show (D.set x new).getD j [] = D.getD j [] by simp [Ne.symm h]]
theorem par_set (q i : Nat) (hx : x < D.length) (hn : new.length = cols D) (hi : i < q) (h : i < (parL (D.set x new) q).length) :
    (parL (D.set x new) q)[i] = rowF (cols D) (fun a => comb D.length (cauF D.length i) (ent D) a ^^^ mulU (cauF D.length i x) (ent D x a ^^^ new.getD a 0)) := by
  rw [parL_get _ q i hi h, set_cols hx hn]
  refine List.map_congr_left fun a _ => ?_
  rw [List.length_set]
  refine Eq.trans (comb_congr (M' := fun j q => if j = x then new.getD q 0 else ent D j q) (fun _ _ => rfl) fun j _ => set_ent hx j a) ?_
  exact code_change D.length x (ent D) (fun a => new.getD a 0) a hx _
/-- Update gives the parity shards of the changed ones -/
theorem up_set (q : Nat) (hs : sameL D = true) (hx : x < D.length) (hn : new.length = cols D) : upL (parL D q) D.length x (D[x]) new = parL (D.set x new) q := by
  apply List.ext_getElem
  · rw [upL_length, parL_length, parL_length]
  · intro i h1 h2
    rw [upL_length, parL_length] at h1
    have hip : i < (parL D q).length := by rw [parL_length]; exact h1
    rw [upL_get _ _ _ _ _ i hip, par_set q i hx hn h1 h2]
    have hxl : (D[x]).length = cols D := sameL_len hs x hx
    have hpl : ((parL D q)[i]).length = cols D := parL_row D q _ (List.getElem_mem hip)
    have hcl : (combL [1, 1] [D[x], new]).length = cols D := by rw [combL_two_length]; exact hxl
    refine rowF_self _ _ (fun a ha => ?_) _ (by rw [combL_two_length]; exact hpl.symm)
    rw [combL_two_length, hpl] at ha
    rw [combL_two _ _ _ _ a (by rw [hpl]; exact ha) (by rw [hcl]; exact ha), combL_two _ _ _ _ a (by rw [hxl]; exact ha) (by rw [hn]; exact ha)]
    rw [one_mulU, one_mulU, one_mulU]
    have e1 : ((parL D q)[i])[a]'(by rw [hpl]; exact ha) = comb D.length (cauF D.length i) (ent D) a := by
      have gen : ∀ (r : List UInt8) (h : a < r.length), r = rowF (cols D) (fun a => comb D.length (cauF D.length i) (ent D) a) → r[a] = comb D.length (cauF D.length i) (ent D) a := fun r h e => by subst e; exact rowF_get _ _ _ h
      exact gen _ _ (parL_get D q i h1 hip)
    rw [e1, ent_get D x a hx (by rw [hxl]; exact ha), show new[a]'(by rw [hn]; exact ha) = new.getD a 0 by simp [show a < new.length by rw [hn]; exact ha]]
/-- the sum of a shard and another one in its place, zeros elsewhere -/
def oneR (D : List (List UInt8)) (x : Nat) (new : List UInt8) (i : Nat) : List UInt8 := rowF (cols D) fun a => if i = x then ent D x a ^^^ new.getD a 0 else 0
def oneL (D : List (List UInt8)) (x : Nat) (new : List UInt8) (n : Nat) : List (List UInt8) := (List.range n).map (oneR D x new)
theorem oneL_zero : oneL D x new 0 = [] := by unfold oneL; rfl
theorem oneL_length (n : Nat) : (oneL D x new n).length = n := by simp [oneL]
theorem oneL_succ (n : Nat) : oneL D x new (n + 1) = oneL D x new n ++ [oneR D x new n] := by simp [oneL, List.range_succ]
theorem oneL_get (n j : Nat) (h : j < (oneL D x new n).length) : (oneL D x new n)[j] = oneR D x new j := by simp [oneL]
theorem oneR_length (i : Nat) : (oneR D x new i).length = cols D := rowF_length _ _
theorem oneL_row (n : Nat) : ∀ r ∈ oneL D x new n, r.length = cols D := fun r hr => by
  unfold oneL at hr
  obtain ⟨i, _, rfl⟩ := List.mem_map.1 hr
  exact oneR_length i
theorem oneL_cols (n : Nat) (hn : 1 ≤ n) : cols (oneL D x new n) = cols D := by
  have h0 : 0 < (oneL D x new n).length := by rw [oneL_length]; omega
  rw [cols_first _ h0]
  exact oneL_row n _ (List.getElem_mem h0)
theorem oneL_same (n : Nat) (hn : 1 ≤ n) : sameL (oneL D x new n) = true := by
  rw [sameL_iff, oneL_cols n hn]
  exact oneL_row n
theorem oneL_ent (n j a : Nat) (hj : j < n) (ha : a < cols D) : ent (oneL D x new n) j a = if j = x then ent D x a ^^^ new.getD a 0 else 0 := by
  have h : j < (oneL D x new n).length := by rw [oneL_length]; exact hj
  exact ent_row _ j a (cols D) (fun a => if j = x then ent D x a ^^^ new.getD a 0 else 0) h (oneL_get n j h) ha
theorem row_at (r : List UInt8) (L a : Nat) (f : Nat → UInt8) (h : a < r.length) (e : r = rowF L f) : r[a] = f a := by subst e; exact rowF_get _ _ _ h
attribute [local irreducible] parL cauF mulU ent oneL
/-- the parity of the sum is the sum of the parities -/
theorem par_one (q i a : Nat) (hx : x < D.length) (hn : new.length = cols D) (hi : i < q) (ha : a < cols D) (h1 : i < (parL (oneL D x new D.length) q).length) (h2 : i < (parL D q).length) (h3 : i < (parL (D.set x new) q).length)
    (g1 : a < ((parL (oneL D x new D.length) q)[i]).length) (g2 : a < ((parL D q)[i]).length) (g3 : a < ((parL (D.set x new) q)[i]).length) :
    ((parL (oneL D x new D.length) q)[i])[a] = ((parL D q)[i])[a] ^^^ ((parL (D.set x new) q)[i])[a] := by
  have hp : 1 ≤ D.length := Nat.succ_le_of_lt (Nat.lt_of_le_of_lt (Nat.zero_le x) hx)
  have e1 := parL_get (oneL D x new D.length) q i hi h1
  rw [oneL_cols _ hp, oneL_length] at e1
  rw [row_at _ _ a _ g1 e1, row_at _ _ a _ g2 (parL_get D q i hi h2), row_at _ _ a _ g3 (par_set q i hx hn hi h3)]
  rw [← UInt8.xor_assoc, UInt8.xor_self, UInt8.zero_xor]
  show sumU D.length (fun j => mulU (cauF D.length i j) (ent (oneL D x new D.length) j a)) = _
  rw [sumU_one D.length x _ hx fun j hj hjx => by rw [oneL_ent _ j a hj ha, if_neg hjx, mulU_zero], oneL_ent _ x a hx ha, if_pos rfl]
end
/-- a slice of a list of the call's own is replaced -/
theorem Lq.set_ {w : World} {B C : Nat} {v : Value} {ls : List (List UInt8)} (h : Lq w B C v ls) (i : Nat) (hi : i < ls.length) (c : Value) (l : List UInt8) (hc : ∃ ad cap, c = .slice ad l.length cap ∧ LieX w C v.ownBlock ad l ∧ l.length ≤ cap ∧ cap ≤ maxLen ∧ (ad = none → cap = 0)) :
    ∃ g cap, v = .slice (some ⟨g, 0, none⟩) ls.length cap ∧ B ≤ g ∧ g < w.heap.size ∧ ls.length ≤ cap ∧ cap ≤ maxLen ∧ (∃ u, w.cell? ⟨g, i, none⟩ = some u) ∧ w.frozen? ⟨g, i, none⟩ = false ∧ Lq (w.setCell ⟨g, i, none⟩ c) B C v (ls.set i l) := by
  obtain ⟨cs, h1, h2⟩ := h
  have hcl : cs.length = ls.length := row_len h1
  rcases h1.2 with ⟨_, h0⟩ | ⟨g, cap, cur, rfl, hB, hg, hle, hm, hsz, htake⟩
  · omega
  have hkeep : ∀ (ad : Option Addr) (r : List UInt8), LieX w C (some g) ad r → LieX (w.setCell ⟨g, i, none⟩ c) C (some g) ad r := fun ad r hr => by
    rcases hr with h0 | ⟨b, off, e, h3, h4, h5, h6⟩
    · exact .inl h0
    · exact .inr ⟨b, off, e, h3, by simpa using h4, h5, fun j hj => by rw [World.cell?_setCell_far _ _ _ _ (fun e => h5 (congrArg some e.symm))]; exact h6 j hj⟩
  refine ⟨g, cap, rfl, hB, (Array.getElem?_eq_some_iff.1 hg).1, hle, hm, ?_, by simp [World.frozen?, hg], cs.set i c, ?_, fun j hj => ?_⟩
  · rw [cell_of_row w g i cur 33 (0, 0) hg]
    exact ⟨_, Array.getElem?_eq_getElem (by omega)⟩
  · refine ⟨by simpa using h1.1, .inr ⟨g, cap, cur.setIfInBounds i c, by rw [List.length_set], hB, heap_set_same w g i c cur _ _ hg, by rw [List.length_set]; exact hle, hm, by simpa using hsz, ?_⟩⟩
    rw [List.length_set, Array.toList_setIfInBounds, List.take_set, htake]
  · rw [List.length_set] at hj
    rw [List.getElem?_set, List.getElem_set]
    by_cases e : i = j
    · subst e
      obtain ⟨ad, cap', e1, h3, h4⟩ := hc
      rw [if_pos rfl, if_pos (by omega), if_pos rfl]
      exact ⟨ad, cap', by rw [e1], hkeep ad l h3, h4⟩
    · rw [if_neg e, if_neg e]
      obtain ⟨ad, cap', e1, h3, h4⟩ := h2 j hj
      exact ⟨ad, cap', e1, hkeep ad _ h3, h4⟩
end Go.Proofs.Ytinfjidclkgfnaa
