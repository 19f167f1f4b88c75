/-
  A unit that is repeated, as plain mathematics.
-/
import Derived.RowKit
namespace Go.Proofs.Ytihiccccpjakgaa
/-- the unit u, t times -/
def repU {α : Type} (u : List α) : Nat → List α
  | 0 => []
  | t + 1 => repU u t ++ u
theorem repU_length {α : Type} (u : List α) (t : Nat) : (repU u t).length = t * u.length := by
  induction t with
  | zero => simp [repU]
  | succ t ih => rw [repU, List.length_append, ih, Nat.succ_mul]
theorem repU_get {α : Type} (u : List α) (t : Nat) : ∀ j (hj : j < (repU u t).length) (hu : 0 < u.length), (repU u t)[j] = u[j % u.length]'(Nat.mod_lt _ hu) := by
  induction t with
  | zero => intro j hj _; simp [repU] at hj
  | succ t ih =>
    intro j hj hu
    have hl := repU_length u t
    by_cases h : j < (repU u t).length
    · have : (repU u (t + 1))[j] = (repU u t)[j] := List.getElem_append_left h
      rw [this, ih j h hu]
    · have h2 : j - (repU u t).length < u.length := by
        have h3 : (repU u (t + 1)).length = (repU u t).length + u.length := by rw [repU, List.length_append]
        omega
      have : (repU u (t + 1))[j] = u[j - (repU u t).length] := List.getElem_append_right (by omega)
      rw [this]
      congr 1
      rw [hl] at h h2 ⊢
      have e : (j - t * u.length) + u.length * t = j := by rw [Nat.mul_comm u.length t]; omega
      have h5 : ((j - t * u.length) + u.length * t) % u.length = j - t * u.length := by rw [Nat.add_mul_mod_self_left, Nat.mod_eq_of_lt h2]
      rw [e] at h5
      exact h5.symm
/-- it comes again after each unit -/
theorem repU_again {α : Type} (u : List α) (t j : Nat) (hj : j < (repU u t).length) (hp : u.length ≤ j) (hu : 0 < u.length) : (repU u t)[j] = (repU u t)[j - u.length]'(by omega) := by
  rw [repU_get u t j hj hu, repU_get u t (j - u.length) (by omega) hu]
  congr 1
  rw [Nat.mod_eq_sub_mod hp]
end Go.Proofs.Ytihiccccpjakgaa
