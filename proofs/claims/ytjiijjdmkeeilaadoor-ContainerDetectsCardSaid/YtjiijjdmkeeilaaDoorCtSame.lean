/-
  The specification's SameBlocks.
-/
import Derived.Test.YtjiijjdmkeeilaaDoorCAM
import Derived.Test.YtjiijjdmkeeilaaDoorCAQ
import Derived.Test.YtjiijjdmkeeilaaDoorCAG
import Derived.Deep.LoopGhost
namespace Go.Proofs.YtjiijjdmkeeilaaDoor
open Go.RowKit
set_option linter.unusedVariables false
theorem textC_inj {xs ys : List UInt8} (h : xs ≠ ys) : ¬ (⟨xs.toArray⟩ : ByteArray) = ⟨ys.toArray⟩ := fun e => h (by
  have := congrArg ByteArray.data e
  simpa using this)
theorem textC_beq {S T : ByteArray} (h : ¬ S = T) : (S.toList == T.toList) = false := by
  rw [beq_eq_false_iff_ne]
  intro h'
  rw [ByteArray.toList_eq, ByteArray.toList_eq] at h'
  exact h (Go.WideShapes.bytes_inj h')
/-- two lists of blocks are equal -/
def eqK (l m : List Blk) : Bool := decide (l = m)
theorem eqK_yes {l m : List Blk} (h : l = m) : eqK l m = true := decide_eq_true h
theorem eqK_no {l m : List Blk} (h : l ≠ m) : eqK l m = false := decide_eq_false h
theorem eqK_at {l m : List Blk} {i : Nat} (h : i < l.length) (h' : i < m.length) (hne : l[i].m ≠ m[i].m ∨ l[i].bad ≠ m[i].bad ∨ l[i].d ≠ m[i].d) : eqK l m = false :=
  eqK_no fun e => by subst e; rcases hne with h | h | h <;> exact h rfl
theorem eqK_all {l m : List Blk} (h : l.length = m.length) (ha : ∀ i (h : i < l.length) (h' : i < m.length), l[i] = m[i]) : eqK l m = true :=
  eqK_yes (List.ext_getElem h ha)
theorem blk_eq {x y : Blk} (h1 : x.m = y.m) (h2 : x.bad = y.bad) (h3 : x.d = y.d) : x = y := by
  cases x; cases y; simp only at h1 h2 h3; subst h1 h2 h3; rfl
attribute [local irreducible] eqK
end Go.Proofs.YtjiijjdmkeeilaaDoor
