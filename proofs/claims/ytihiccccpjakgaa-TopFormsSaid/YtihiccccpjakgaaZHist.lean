/-
  What Pack knows of earlier positions, and the longest copy, as plain mathematics.
-/
import Derived.Test.YtihiccccpjakgaaZKey
import Derived.Maps.OwnRows
import Derived.Maps.Views
namespace Go.Proofs.Ytihiccccpjakgaa
open Go.RowKit Go.Maps Go.ChangeShapes
set_option linter.unusedVariables false
set_option linter.unusedSimpArgs false
attribute [local irreducible] kyA
/-- the positions before k with the key q, ascending -/
def hist (xs : List UInt8) (k q : Nat) : List Nat := (List.range k).filter fun p => decide (kyA xs p = q)
theorem hist_succ (xs : List UInt8) (k q : Nat) : hist xs (k + 1) q = if kyA xs k = q then hist xs k q ++ [k] else hist xs k q := by
  unfold hist
  rw [List.range_succ, List.filter_append]
  by_cases h : kyA xs k = q
  · rw [if_pos h]; simp [h]
  · rw [if_neg h]; simp [h]
theorem mem_hist {xs : List UInt8} {k q p : Nat} : p ∈ hist xs k q ↔ p < k ∧ kyA xs p = q := by unfold hist; simp
theorem hist_lt (xs : List UInt8) (k q : Nat) : (hist xs k q).Pairwise (· < ·) := List.Pairwise.filter _ List.pairwise_lt_range
theorem hist_len (xs : List UInt8) (k q : Nat) : (hist xs k q).length ≤ k := by
  have := List.length_filter_le (fun p => decide (kyA xs p = q)) (List.range k)
  rw [List.length_range] at this
  exact this
/-- the map of all positions before k -/
def gD (xs : List UInt8) : Nat → DataW Unit
  | 0 => .map []
  | k + 1 => (gD xs k).put (.int .u32 (kyA xs k : Nat)) (.slice (lits .i64 ((hist xs k (kyA xs k) ++ [k]).map fun p : Nat => (p : Int))) [])
theorem gD_map (xs : List UInt8) (k : Nat) : IsMap (gD xs k) := by
  induction k with
  | zero => exact isMap_empty
  | succ k ih => exact ih.put _ _
theorem gD_at (xs : List UInt8) (k q : Nat) : (gD xs k).atKey (.int .u32 (q : Nat)) .nil = if hist xs k q = [] then .nil else .slice (lits .i64 ((hist xs k q).map fun p : Nat => (p : Int))) [] := by
  induction k with
  | zero => rfl
  | succ k ih =>
    rw [hist_succ, gD]
    by_cases h : kyA xs k = q
    · subst h
      rw [if_pos rfl, if_neg (by simp), atKey_put_same (gD_map xs k) (by trivial)]
    · rw [if_neg h, atKey_put_other (fun e => h (by injection e with _ e; exact (Int.ofNat.inj e).symm)), ih]
/-- what a row of numbers is, where the map says it -/
theorem hist_of {xs : List UInt8} {k q base : Nat} {v : Value} {zs : List Int} {w : World} {e : TypeId} (hat : (gD xs k).atKey (.int .u32 (q : Nat)) .nil = rowDatum .i64 v zs) (ho : w.ownsInts base e .i64 v zs) : zs = (hist xs k q).map fun p : Nat => (p : Int) := by
  rw [gD_at] at hat
  by_cases h : hist xs k q = []
  · rw [if_pos h] at hat
    rcases ho.datum (H := Unit) with ⟨_, h2⟩ | h2
    · rw [h2, h]; rfl
    · rw [h2] at hat; cases hat
  · rw [if_neg h] at hat
    rcases ho.datum (H := Unit) with ⟨h2, _⟩ | h2
    · rw [h2] at hat; cases hat
    · rw [h2] at hat
      injection hat with h3 _
      exact ((List.map_inj_right (fun (a b : Int) hab => by cases hab; rfl)).1 h3).symm
end Go.Proofs.Ytihiccccpjakgaa
