/-
  What results from a link, as plain mathematics over the program's hash.
-/
import Derived.Test.YtgnidlhijmageaaNFollow
namespace Go.Proofs.Ytgnidlhijmageaa
open Go.RowKit
abbrev growU (old : UInt64) (m n : Nat) (f : Bool) (p : List UInt64) : UInt64 × UInt64 × Bool := growM nodeU 0 old m n f p
theorem growU_all (old : UInt64) (m n : Nat) (p : List UInt64) (h : m = n) : growU old m n true p = (old, old, decide (p.length = 0)) := by unfold growU; rw [growM, if_pos h]; rfl
theorem growU_no (old : UInt64) (m n : Nat) (p : List UInt64) (h : m = n) (hp : p.length ≠ 1) : growU old m n false p = (0, 0, false) := by
  unfold growU; rw [growM, if_pos h]; simp [hp]
theorem growU_yes (old : UInt64) (m n q : Nat) (p : List UInt64) (h : m = n) (hp : p.length = q + 1) (hq : q = 0) : growU old m n false p = (p[q]'(by omega), p[q]'(by omega), true) := by
  subst hq
  unfold growU; rw [growM, if_pos h]
  obtain ⟨y, rfl⟩ := List.length_eq_one_iff.1 hp
  simp
theorem growU_nil (old : UInt64) (m n : Nat) (f : Bool) (p : List UInt64) (h : m ≠ n) (h2 : 2 ≤ n) (hp : p.length = 0) : growU old m n f p = (0, 0, false) := by
  unfold growU; rw [List.eq_nil_of_length_eq_zero hp, growM, if_neg h, dif_pos h2]; rfl
theorem growU_left (old : UInt64) (m n q : Nat) (f : Bool) (p : List UInt64) (h : m ≠ n) (h2 : 2 ≤ n) (hp : p.length = q + 1) (hi : m ≤ spl n) :
    growU old m n f p = ((growU old m (spl n) f (p.take q)).1, nodeU (growU old m (spl n) f (p.take q)).2.1 (p[q]'(by omega)), (growU old m (spl n) f (p.take q)).2.2) := by
  obtain ⟨e1, e2⟩ := last_take hp
  unfold growU
  rw [growM, if_neg h, dif_pos h2, e1]
  simp only [e2, if_pos hi]
theorem growU_right (old : UInt64) (m n q : Nat) (f : Bool) (p : List UInt64) (h : m ≠ n) (h2 : 2 ≤ n) (hp : p.length = q + 1) (hi : ¬ m ≤ spl n) :
    growU old m n f p = (nodeU (p[q]'(by omega)) (growU old (m - spl n) (n - spl n) false (p.take q)).1, nodeU (p[q]'(by omega)) (growU old (m - spl n) (n - spl n) false (p.take q)).2.1, (growU old (m - spl n) (n - spl n) false (p.take q)).2.2) := by
  obtain ⟨e1, e2⟩ := last_take hp
  unfold growU
  rw [growM, if_neg h, dif_pos h2, e1]
  simp only [e2, if_neg hi]
/-- a call gives two hashes and a Boolean: the hashes are told where the Boolean is true -/
def GivesHH (w : World) (x : UInt64 × UInt64 × Bool) (e : Ending) (w' : World) : Prop :=
  ∃ a b c, e = .returned (.tuple #[.int .u64 (gv a), .int .u64 (gv b), .bool c]) ∧ c = x.2.2 ∧ (c = true → a = x.1 ∧ b = x.2.1) ∧ Below w.heap.size w w'
theorem GivesHH.mk' {w w' : World} {a b : UInt64} {c : Bool} {x : UInt64 × UInt64 × Bool} (h : x = (a, b, c)) (hb : Below w.heap.size w w') : GivesHH w x (.returned (.tuple #[.int .u64 (gv a), .int .u64 (gv b), .bool c])) w' := ⟨a, b, c, rfl, by rw [h], fun _ => by rw [h]; exact ⟨rfl, rfl⟩, hb⟩
theorem GivesHH.zero {w w' : World} {x : UInt64 × UInt64 × Bool} (h : x = (0, 0, false)) (hb : Below w.heap.size w w') : GivesHH w x (.returned (.tuple #[.int .u64 0, .int .u64 0, .bool false])) w' := ⟨0, 0, false, by rw [gv_zero], by rw [h], (fun h => nomatch h), hb⟩
theorem GivesHH.no {w w' : World} {a b : UInt64} {x y : UInt64 × UInt64 × Bool} (h : x = y) (hy : y.2.2 = false) (hb : Below w.heap.size w w') : GivesHH w x (.returned (.tuple #[.int .u64 (gv a), .int .u64 (gv b), .bool false])) w' := ⟨a, b, false, rfl, by rw [h, hy], (fun h => nomatch h), hb⟩
theorem GivesHH.of {w w' : World} {a b : UInt64} {c : Bool} {x : UInt64 × UInt64 × Bool} (h : c = x.2.2 ∧ (c = true → a = x.1 ∧ b = x.2.1)) (hb : Below w.heap.size w w') : GivesHH w x (.returned (.tuple #[.int .u64 (gv a), .int .u64 (gv b), .bool c])) w' := ⟨a, b, c, rfl, h.1, h.2, hb⟩
theorem both_left {α : Type} {nd : α → α → α} {g r : α × α × Bool} {x x1 y1 : α} {c1 : Bool} (hg : g = (r.1, nd r.2.1 x, r.2.2)) (h1 : c1 = r.2.2) (h2 : c1 = true → x1 = r.1 ∧ y1 = r.2.1) : c1 = g.2.2 ∧ (c1 = true → x1 = g.1 ∧ nd y1 x = g.2.1) := by
  subst hg
  exact ⟨h1, fun h => ⟨(h2 h).1, by rw [(h2 h).2]⟩⟩
theorem both_right {α : Type} {nd : α → α → α} {g r : α × α × Bool} {x x1 y1 : α} {c1 : Bool} (hg : g = (nd x r.1, nd x r.2.1, r.2.2)) (h1 : c1 = r.2.2) (h2 : c1 = true → x1 = r.1 ∧ y1 = r.2.1) : c1 = g.2.2 ∧ (c1 = true → nd x x1 = g.1 ∧ nd x y1 = g.2.1) := by
  subst hg
  exact ⟨h1, fun h => ⟨by rw [(h2 h).1], by rw [(h2 h).2]⟩⟩
end Go.Proofs.Ytgnidlhijmageaa
