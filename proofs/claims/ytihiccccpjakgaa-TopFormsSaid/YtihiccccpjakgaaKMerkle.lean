/-
  Plain mathematics of Merkle trees, over any hash of two hashes.
-/
import Derived.RowKit
namespace Go.Proofs.Ytihiccccpjakgaa
/-- the greatest power of 2 less than n -/
def spl (n : Nat) : Nat := 2 ^ Nat.log2 (n - 1)
theorem spl_pos (n : Nat) : 1 ≤ spl n := Nat.one_le_two_pow
theorem spl_lt {n : Nat} (h : 2 ≤ n) : spl n < n := by
  have := Nat.log2_self_le (n := n - 1) (by omega)
  unfold spl
  omega
theorem spl_half {n : Nat} (h : 2 ≤ n) : n ≤ 2 * spl n := by
  have := Nat.lt_log2_self (n := n - 1)
  rw [Nat.pow_succ] at this
  unfold spl
  omega
/-- the only power of 2 there -/
theorem spl_unique {n d : Nat} (h1 : 2 ^ d < n) (h2 : n ≤ 2 * 2 ^ d) : spl n = 2 ^ d := by
  unfold spl
  have hn : n - 1 ≠ 0 := by have := Nat.one_le_two_pow (n := d); omega
  have e : Nat.log2 (n - 1) = d := by
    rw [Nat.log2_eq_iff hn, Nat.pow_succ]
    omega
  rw [e]
/-- a beginning that reaches behind the split has the same split -/
theorem spl_begin {n m : Nat} (hn : 2 ≤ n) (h1 : spl n < m) (h2 : m ≤ n) : spl m = spl n :=
  spl_unique h1 (by have := spl_half hn; unfold spl at this; omega)
section
variable {α : Type} (nd : α → α → α) (e : α)
/-- the root of the tree -/
def rootM (l : List α) : α :=
  if _h : 2 ≤ l.length then nd (rootM (l.take (spl l.length))) (rootM (l.drop (spl l.length))) else l.headD e
termination_by l.length
decreasing_by
  · have := spl_lt _h; rw [List.length_take]; omega
  · have := spl_pos l.length; rw [List.length_drop]; omega
/-- the path to leaf i -/
def pathM (l : List α) (i : Nat) : List α :=
  if _h : 2 ≤ l.length then
    if i < spl l.length then pathM (l.take (spl l.length)) i ++ [rootM nd e (l.drop (spl l.length))]
    else pathM (l.drop (spl l.length)) (i - spl l.length) ++ [rootM nd e (l.take (spl l.length))]
  else []
termination_by l.length
decreasing_by
  · have := spl_lt _h; rw [List.length_take]; omega
  · have := spl_pos l.length; rw [List.length_drop]; omega
/-- what results from a proof, and whether it has the right length -/
def reachM (leaf : α) (i n : Nat) (p : List α) : α × Bool :=
  if _h : 2 ≤ n then
    match p.getLast? with
    | none => (e, false)
    | some x =>
      if i < spl n then (nd (reachM leaf i (spl n) p.dropLast).1 x, (reachM leaf i (spl n) p.dropLast).2)
      else (nd x (reachM leaf (i - spl n) (n - spl n) p.dropLast).1, (reachM leaf (i - spl n) (n - spl n) p.dropLast).2)
  else (leaf, decide (p.length = 0))
termination_by n
decreasing_by
  all_goals first
    | exact spl_lt _h
    | (have := spl_pos n; omega)
/-- the link of a beginning -/
def linkM (l : List α) (m : Nat) (flag : Bool) : List α :=
  if m = l.length then (if flag then [] else [rootM nd e l])
  else if _h : 2 ≤ l.length then
    if m ≤ spl l.length then linkM (l.take (spl l.length)) m flag ++ [rootM nd e (l.drop (spl l.length))]
    else linkM (l.drop (spl l.length)) (m - spl l.length) false ++ [rootM nd e (l.take (spl l.length))]
  else []
termination_by l.length
decreasing_by
  · have := spl_lt _h; rw [List.length_take]; omega
  · have := spl_pos l.length; rw [List.length_drop]; omega
/-- the two hashes that result from a link, and whether it has the right length -/
def growM (old : α) (m n : Nat) (flag : Bool) (p : List α) : α × α × Bool :=
  if m = n then (if flag then (old, old, decide (p.length = 0)) else if p.length = 1 then (p.headD e, p.headD e, true) else (e, e, false))
  else if _h : 2 ≤ n then
    match p.getLast? with
    | none => (e, e, false)
    | some x =>
      if m ≤ spl n then ((growM old m (spl n) flag p.dropLast).1, nd (growM old m (spl n) flag p.dropLast).2.1 x, (growM old m (spl n) flag p.dropLast).2.2)
      else (nd x (growM old (m - spl n) (n - spl n) false p.dropLast).1, nd x (growM old (m - spl n) (n - spl n) false p.dropLast).2.1, (growM old (m - spl n) (n - spl n) false p.dropLast).2.2)
  else (e, e, false)
termination_by n
decreasing_by
  all_goals first
    | exact spl_lt _h
    | (have := spl_pos n; omega)
variable {nd e}
theorem rootM_two {l : List α} (h : 2 ≤ l.length) : rootM nd e l = nd (rootM nd e (l.take (spl l.length))) (rootM nd e (l.drop (spl l.length))) := by rw [rootM, dif_pos h]
theorem rootM_one {l : List α} (h : ¬ 2 ≤ l.length) : rootM nd e l = l.headD e := by rw [rootM, dif_neg h]
/-- every proof that is made is verified -/
theorem reach_path {e' : α} (N : Nat) : ∀ (l : List α) (i : Nat) (x : α), l[i]? = some x → l.length ≤ N → reachM nd e' x i l.length (pathM nd e l i) = (rootM nd e l, true) := by
  induction N with
  | zero =>
    intro l i x hi h
    have := (List.getElem?_eq_some_iff.1 hi).1
    omega
  | succ N ih =>
    intro l i x hx hN
    have hi := (List.getElem?_eq_some_iff.1 hx).1
    by_cases h : 2 ≤ l.length
    · have hs := spl_lt h
      have hp := spl_pos l.length
      rw [rootM_two h, pathM, dif_pos h]
      by_cases hk : i < spl l.length
      · have hl : (l.take (spl l.length)).length = spl l.length := by rw [List.length_take]; omega
        have := ih (l.take (spl l.length)) i x (by rw [List.getElem?_take_of_lt hk]; exact hx) (by omega)
        rw [hl] at this
        rw [if_pos hk, reachM, dif_pos h, List.getLast?_concat]
        simp only [List.dropLast_concat, if_pos hk, this]
      · have hl : (l.drop (spl l.length)).length = l.length - spl l.length := List.length_drop
        have := ih (l.drop (spl l.length)) (i - spl l.length) x (by rw [List.getElem?_drop, show spl l.length + (i - spl l.length) = i by omega]; exact hx) (by omega)
        rw [hl] at this
        rw [if_neg hk, reachM, dif_pos h, List.getLast?_concat]
        simp only [List.dropLast_concat, if_neg hk, this]
    · have h1 : l.length = 1 := by omega
      obtain ⟨y, rfl⟩ := List.length_eq_one_iff.1 h1
      obtain rfl : i = 0 := by simpa using hi
      have hxy : y = x := by simpa using hx
      rw [rootM_one h, pathM, dif_neg h, reachM, dif_neg h, hxy]
      rfl
/-- a proof is short -/
theorem path_length (d : Nat) : ∀ (l : List α) (i : Nat), l.length ≤ 2 ^ d → (pathM nd e l i).length ≤ d := by
  induction d with
  | zero => intro l i h; rw [pathM, dif_neg (by omega)]; exact Nat.le_refl _
  | succ d ih =>
    intro l i hl
    rw [pathM]
    by_cases h : 2 ≤ l.length
    · rw [dif_pos h]
      have hs := spl_lt h
      have hh := spl_half h
      have hk : spl l.length ≤ 2 ^ d := by
        have h2 : 2 ^ Nat.log2 (l.length - 1) < 2 ^ (d + 1) := by unfold spl at hs; omega
        have h3 := (Nat.pow_lt_pow_iff_right (by omega : 1 < 2)).1 h2
        exact Nat.pow_le_pow_right (by omega) (by omega)
      split
      · have := ih (l.take (spl l.length)) i (by rw [List.length_take]; omega)
        rw [List.length_append, List.length_singleton]; omega
      · have := ih (l.drop (spl l.length)) (i - spl l.length) (by rw [List.length_drop]; omega)
        rw [List.length_append, List.length_singleton]; omega
    · rw [dif_neg h]; exact Nat.zero_le _
/-- the link of every beginning shows that the tree extends it -/
theorem grow_link {e' : α} (N : Nat) : ∀ (l : List α) (m : Nat) (flag : Bool), 1 ≤ m → m ≤ l.length → l.length ≤ N → ∀ old, (flag = true → old = rootM nd e (l.take m)) → growM nd e' old m l.length flag (linkM nd e l m flag) = (rootM nd e (l.take m), rootM nd e l, true) := by
  induction N with
  | zero => intro l m flag h1 h2 h3; omega
  | succ N ih =>
    intro l m flag h1 h2 hN old hold
    rw [linkM, growM]
    by_cases hm : m = l.length
    · rw [if_pos hm, if_pos hm]
      have ht : l.take m = l := by rw [hm]; exact List.take_length
      rw [ht] at hold ⊢
      cases flag
      · simp
      · simp [hold rfl]
    · have h : 2 ≤ l.length := by omega
      have hs := spl_lt h
      have hp := spl_pos l.length
      rw [if_neg hm, if_neg hm, dif_pos h, dif_pos h]
      by_cases hk : m ≤ spl l.length
      · have hl : (l.take (spl l.length)).length = spl l.length := by rw [List.length_take]; omega
        have ht : (l.take (spl l.length)).take m = l.take m := by rw [List.take_take, Nat.min_eq_left hk]
        have := ih (l.take (spl l.length)) m flag h1 (by omega) (by omega) old (by rw [ht]; exact hold)
        rw [hl, ht] at this
        rw [if_pos hk, List.getLast?_concat]
        simp only [List.dropLast_concat, if_pos hk, this]
        rw [← rootM_two (nd := nd) (e := e) h]
      · have hl : (l.drop (spl l.length)).length = l.length - spl l.length := List.length_drop
        have := ih (l.drop (spl l.length)) (m - spl l.length) false (by omega) (by omega) (by omega) old (fun h => by cases h)
        rw [hl] at this
        rw [if_neg hk, List.getLast?_concat]
        simp only [List.dropLast_concat, if_neg hk, this]
        have hlm : (l.take m).length = m := by rw [List.length_take]; omega
        have hsm : spl m = spl l.length := spl_begin h (by omega) (by omega)
        have e1 : rootM nd e (l.take m) = nd (rootM nd e (l.take (spl l.length))) (rootM nd e ((l.drop (spl l.length)).take (m - spl l.length))) := by
          rw [rootM_two (l := l.take m) (by omega), hlm, hsm, List.take_take, Nat.min_eq_left (by omega), List.drop_take]
        rw [← e1, ← rootM_two (nd := nd) (e := e) h]
end
end Go.Proofs.Ytihiccccpjakgaa
