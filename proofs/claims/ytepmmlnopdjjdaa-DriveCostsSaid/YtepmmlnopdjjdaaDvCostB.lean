/-
  The passes of some cartridges and of the drive that holds them (for DriveCosts): no program.
-/
import Derived.Test.YtepmmlnopdjjdaaDvCostM
namespace Go.Proofs.Ytepmmlnopdjjdaa
open Go.RowKit
set_option linter.unusedVariables false
/-- the passes of some cartridges together -/
def sumP : List Crt → Int
  | [] => 0
  | c :: l => c.pa + sumP l
theorem sumP_snoc (l : List Crt) (c : Crt) : sumP (l ++ [c]) = sumP l + c.pa := by
  induction l with
  | nil => show c.pa + 0 = 0 + c.pa; omega
  | cons a l ih => show a.pa + sumP (l ++ [c]) = a.pa + sumP l + c.pa; omega
theorem sumP_set : ∀ (l : List Crt) (i : Nat) (h : i < l.length) (c : Crt), sumP (l.set i c) = sumP l - l[i].pa + c.pa
  | a :: l, 0, h, c => by show c.pa + sumP l = a.pa + sumP l - a.pa + c.pa; omega
  | a :: l, i + 1, h, c => by
    have hi : i < l.length := by simpa using h
    have ih := sumP_set l i hi c
    show a.pa + sumP (l.set i c) = a.pa + sumP l - l[i].pa + c.pa
    omega
theorem sumP_bd {B : Int} (hB : 0 ≤ B) : ∀ (l : List Crt), (∀ c ∈ l, 0 ≤ c.pa ∧ c.pa ≤ B) → 0 ≤ sumP l ∧ sumP l ≤ B * l.length
  | [], _ => ⟨Int.le_refl _, by show 0 ≤ B * ((0 : Nat) : Int); simp⟩
  | a :: l, h => by
    have h1 := h a (by simp)
    have h2 := sumP_bd hB l (fun c hc => h c (by simp [hc]))
    show 0 ≤ a.pa + sumP l ∧ a.pa + sumP l ≤ B * (((l.length + 1 : Nat)) : Int)
    rw [Int.natCast_add, Int.mul_add]
    have h3 : B * ((1 : Nat) : Int) = B := by simp
    omega
/-- behind k operations: the drive's passes are those that its cartridges have got -/
def Pz (s0 : Int) (d : Drv) (es : List Crt) (k : Nat) : Prop := d.pa = sumP es - s0 ∧ (0 ≤ d.pa ∧ d.pa ≤ 5000000 * (k : Int)) ∧ ∀ c ∈ es, 0 ≤ c.pa ∧ c.pa ≤ 140737488355328 + 5000000 * (k : Int)
theorem Pz.up {s0 : Int} {d : Drv} {es : List Crt} {k : Nat} (h : Pz s0 d es k) : Pz s0 d es (k + 1) := ⟨h.1, by have := h.2.1; omega, fun c hc => by have := h.2.2 c hc; omega⟩
theorem Pz.set {s0 : Int} {d : Drv} {es : List Crt} {k : Nat} (h : Pz s0 d es k) {W : Nat} (hW : W < es.length) {d2 : Drv} {c2 : Crt} (h1 : d2.pa - d.pa = c2.pa - es[W].pa) (h2 : 0 ≤ d2.pa - d.pa) (h3 : d2.pa - d.pa ≤ 5000000) : Pz s0 d2 (es.set W c2) (k + 1) := by
  have h4 := h.2.2 _ (List.getElem_mem hW)
  have h5 := h.2.1
  have h0 := h.1
  have h7 := sumP_set es W hW c2
  refine ⟨by omega, by omega, fun c hc => ?_⟩
  rcases List.mem_or_eq_of_mem_set hc with h6 | rfl
  · have := h.2.2 c h6; omega
  · omega
end Go.Proofs.Ytepmmlnopdjjdaa
