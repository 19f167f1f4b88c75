/-
  What perform is handed: a function that changes the robot in its box.
-/
import Derived.Test.YtmhaeipklifhcaaRbPk
import Derived.Deep.DeepCutAuto
namespace Go.Proofs.Ytmhaeipklifhcaa
open Go.RowKit
set_option linter.unusedVariables false
/-- beside the robot's box and its list all is as it was -/
structure DoK (g C : Nat) (X X' : World) : Prop where
  b : Below g X X'
  rest : ∀ k o, k ≠ g → k < C → X.heap[k]? = some o → X'.heap[k]? = some o
theorem DoK.below {g C : Nat} {X Y : World} (h : Below X.heap.size X Y) (hg : g ≤ X.heap.size) : DoK g C X Y := ⟨h.mono hg, fun k o _ _ e => row_step e h⟩
theorem DoK.trans {g C : Nat} {X Y Z : World} (h : DoK g C X Y) (k : DoK g C Y Z) : DoK g C X Z := ⟨h.b.trans k.b, fun j o h1 h2 e => k.rest j o h1 h2 (h.rest j o h1 h2 e)⟩
theorem DoK.set {g C b j : Nat} {X : World} (u : Value) (hb : b = g ∨ (C ≤ b ∧ g ≤ b)) : DoK g C X (X.setCell ⟨b, j, none⟩ u) := by
  refine ⟨(Below.refl g X).setCell (p := ⟨b, j, none⟩) (by show g ≤ b; omega) _, fun k o h1 h2 e => far_set e (by omega) _ _⟩
/-- where perform calls it -/
structure DoC (r : Rbt) (n : Nat) (k i : Int) : Prop where
  kind : k = 0 ∨ k = 1 ∨ k = 2
  slot : k = 0 → 0 ≤ i ∧ i < (n : Int)
  le : n ≤ 1000
  z : ∀ s ∈ allR r, s.size ≤ maxLen
structure Does (w : World) (fn : Nat) (cs : Array Value) (k i : Int) (D : Rbt → Int × Rbt) : Prop where
  enter : ∀ args X, (callFunc fn args).run Try.prog X = .ok (.enter fn args) X
  calls : ∀ (X : World) (g C : Nat) (r : Rbt) (ad : Option Addr) (n cap : Nat), Below w.heap.size w X → w.heap.size ≤ g → g < C → C ≤ X.heap.size → X.heap[g]? = some (boxR r ad n cap) → Sq X C (.slice ad n cap) r.l → n = r.l.length → DoC r n k i →
    Calls Try.prog fn (#[.pointer (some ⟨g, 0, none⟩)] ++ cs) X fun e X' => e = .returned (.int .i64 (D r).1) ∧ ((D r).1 = 0 → X'.heap[g]? = some (boxR (D r).2 ad n cap) ∧ Sq X' C (.slice ad n cap) (D r).2.l) ∧ DoK g C X X'
/-- what Pick does -/
def dpk (k i : Int) (b : ByteArray) (r : Rbt) : Int × Rbt :=
  if r.ha ≠ emp then (14, r)
  else if k = 1 then (if b = emp ∨ (finR r b).2.2 = true then (8, r) else (0, { r with ha := b }))
  else if k = 0 then (if r.l.getD i.toNat emp = emp then (11, r) else (0, { r with l := r.l.set i.toNat emp, ha := r.l.getD i.toNat emp }))
  else (if r.po = emp then (11, r) else (0, { r with po := emp, ha := r.po }))
/-- what Put does -/
def dpt (k i : Int) (r : Rbt) : Int × Rbt :=
  if r.ha = emp then (11, r)
  else if k = 1 then (0, { r with ha := emp })
  else if k = 0 then (if r.l.getD i.toNat emp ≠ emp then (12, r) else (0, { r with l := r.l.set i.toNat r.ha, ha := emp }))
  else (if r.po ≠ emp then (12, r) else (0, { r with po := r.ha, ha := emp }))
/-- what perform answers -/
def perR (m : Rmd) (r : Rbt) (k i t : Int) (D : Rbt → Int × Rbt) : Rbt × Int × Int :=
  if (reaR m r k i).2 ≠ 0 then (rz, 0, (reaR m r k i).2)
  else if (D { r with p := (reaR m r k i).1 }).1 ≠ 0 then (rz, 0, (D { r with p := (reaR m r k i).1 }).1)
  else ((D { r with p := (reaR m r k i).1 }).2, t + trvR m r.p (reaR m r k i).1, 0)
theorem finR_p (r : Rbt) (p : Int) (b : ByteArray) : finR { r with p := p } b = finR r b := rfl
theorem per_pick (m : Rmd) (r : Rbt) (k i : Int) (b : ByteArray) : perR m r k i m.pk (dpk k i b) = picR m r k i b := by
  unfold perR picR dpk
  simp only [finR_p]
  by_cases h : (reaR m r k i).2 = 0
  · by_cases hh : r.ha = emp
    · by_cases h1 : k = 1
      · by_cases h2 : b = emp ∨ (finR r b).2.2 = true
        · subst h1; simp [h, hh, h2]
        · subst h1; simp [h, hh, h2, Int.add_comm]
      · by_cases h0 : k = 0
        · subst h0
          by_cases h2 : r.l.getD i.toNat emp = emp
          · simp only [h2]; simp [h, hh]
          · simp only [if_neg h2]; simp [h, hh, Int.add_comm]
        · by_cases h2 : r.po = emp
          · simp [h, hh, h1, h0, h2]
          · simp [h, hh, h1, h0, h2, Int.add_comm]
    · simp [h, hh]
  · simp [h]
theorem per_put (m : Rmd) (r : Rbt) (k i : Int) : perR m r k i m.pt (dpt k i) = putR m r k i := by
  unfold perR putR dpt
  by_cases h : (reaR m r k i).2 = 0
  · by_cases hh : r.ha = emp
    · simp [h, hh]
    · by_cases h1 : k = 1
      · subst h1; simp [h, hh, Int.add_comm]
      · by_cases h0 : k = 0
        · subst h0
          by_cases h2 : r.l.getD i.toNat emp = emp
          · simp only [h2]; simp [h, hh, Int.add_comm]
          · simp only [ne_eq, h2, not_false_eq_true, if_true]; simp [h, hh]
        · by_cases h2 : r.po = emp
          · simp [h, hh, h1, h0, h2, Int.add_comm]
          · simp [h, hh, h1, h0, h2]
  · simp [h]
end Go.Proofs.Ytmhaeipklifhcaa
