/-
  What the calls of the package give, for any arguments.
-/
import Derived.Test.YtgnidlhijmageaaNGrowM
import Derived.Test.YtgnidlhijmageaaNPath
import Derived.Test.YtgnidlhijmageaaNLink
namespace Go.Proofs.Ytgnidlhijmageaa
open Go.RowKit
def proI (xs : List UInt64) (i : Int) : List UInt64 × Bool := if 0 ≤ i ∧ i < xs.length then (pathU xs i.toNat, true) else ([], false)
def preI (xs : List UInt64) (m : Int) : List UInt64 × Bool := if 1 ≤ m ∧ m ≤ xs.length then (linkU xs m.toNat true, true) else ([], false)
def verI (root leaf : UInt64) (i n : Int) (p : List UInt64) : Bool := if 0 ≤ i ∧ i < n then (reachU leaf i.toNat n.toNat p).2 && decide ((reachU leaf i.toNat n.toNat p).1 = root) else false
def extI (old root : UInt64) (m n : Int) (p : List UInt64) : Bool :=
  if 1 ≤ m ∧ m ≤ n then (growU old m.toNat n.toNat true p).2.2 && (decide ((growU old m.toNat n.toNat true p).1 = old) && decide ((growU old m.toNat n.toNat true p).2.1 = root)) else false
theorem proI_no (xs : List UInt64) (i : Int) (h : ¬ (0 ≤ i ∧ i < xs.length)) : proI xs i = ([], false) := if_neg h
theorem proI_yes (xs : List UInt64) (i : Nat) (h : i < xs.length) : proI xs i = (pathU xs i, true) := by unfold proI; rw [if_pos (by omega), Int.toNat_natCast]
theorem preI_no (xs : List UInt64) (m : Int) (h : ¬ (1 ≤ m ∧ m ≤ xs.length)) : preI xs m = ([], false) := if_neg h
theorem preI_yes (xs : List UInt64) (m : Nat) (h1 : 1 ≤ m) (h : m ≤ xs.length) : preI xs m = (linkU xs m true, true) := by unfold preI; rw [if_pos (by omega), Int.toNat_natCast]
theorem verI_no (root leaf : UInt64) (i n : Int) (p : List UInt64) (h : ¬ (0 ≤ i ∧ i < n)) : verI root leaf i n p = false := if_neg h
theorem verI_yes (root leaf : UInt64) (i n : Nat) (p : List UInt64) (h : i < n) : verI root leaf i n p = ((reachU leaf i n p).2 && decide ((reachU leaf i n p).1 = root)) := by unfold verI; rw [if_pos (by omega), Int.toNat_natCast, Int.toNat_natCast]
theorem extI_no (old root : UInt64) (m n : Int) (p : List UInt64) (h : ¬ (1 ≤ m ∧ m ≤ n)) : extI old root m n p = false := if_neg h
theorem extI_yes (old root : UInt64) (m n : Nat) (p : List UInt64) (h1 : 1 ≤ m) (h : m ≤ n) : extI old root m n p = ((growU old m n true p).2.2 && (decide ((growU old m n true p).1 = old) && decide ((growU old m n true p).2.1 = root))) := by unfold extI; rw [if_pos (by omega), Int.toNat_natCast, Int.toNat_natCast]
/-- a call gives a new list and a Boolean -/
def GivesNB (w : World) (x : List UInt64 × Bool) (e : Ending) (w' : World) : Prop := ∃ v, e = .returned (.tuple #[v, .bool x.2]) ∧ Onu w' w.heap.size v x.1 ∧ Below w.heap.size w w'
theorem GivesNB.no {w : World} {x : List UInt64 × Bool} (h : x = ([], false)) : GivesNB w x (.returned (.tuple #[.slice none 0 0, .bool false])) w := ⟨_, by rw [h], by rw [h]; exact Onu.ofNil _ _, Below.refl _ _⟩
theorem GivesNB.yes {w w' : World} {x : List UInt64 × Bool} {l : List UInt64} {v : Value} (h : x = (l, true)) (ho : Onu w' w.heap.size v l) (hb : Below w.heap.size w w') : GivesNB w x (.returned (.tuple #[v, .bool true])) w' := ⟨v, by rw [h], by rw [h]; exact ho, hb⟩
/-- a call gives a Boolean -/
def GivesB (w : World) (b : Bool) (e : Ending) (w' : World) : Prop := e = .returned (.bool b) ∧ Below w.heap.size w w'
theorem GivesB.mk' {w w' : World} {b c : Bool} (h : b = c) (hb : Below w.heap.size w w') : GivesB w b (.returned (.bool c)) w' := ⟨by rw [h], hb⟩
theorem ver_of {r : UInt64 × Bool} {root x : UInt64} {c b : Bool} (hr : r = (x, c)) (hb : b = (r.2 && decide (r.1 = root))) : b = (c && decide (x = root)) := by subst hr; exact hb
theorem and_no {c : Bool} {p : Prop} [Decidable p] (h : c = false) : (c && decide p) = false := by rw [h]; rfl
theorem ext_no {b c : Bool} {p q : Prop} [Decidable p] [Decidable q] (h : b = (c && (decide p && decide q))) (hc : c = false ∨ ¬ p ∨ ¬ q) : b = false := by
  rw [h]; rcases hc with rfl | hp | hq
  · rfl
  · simp [hp]
  · simp [hq]
theorem ext_yes {b c : Bool} {p q : Prop} [Decidable p] [Decidable q] (h : b = (c && (decide p && decide q))) (hc : c = true) (hp : p) (hq : q) : b = true := by
  rw [h, hc]; simp [hp, hq]
theorem gv_ne {a b : UInt64} (h : a ≠ b) : ¬ gv a = gv b := fun e => h (gv_inj e)
end Go.Proofs.Ytgnidlhijmageaa
