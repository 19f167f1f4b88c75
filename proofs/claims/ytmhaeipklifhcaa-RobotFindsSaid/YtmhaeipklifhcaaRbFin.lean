/-
  What RobotFinds needs of a robot, and its boxes.
-/
import Derived.Test.YtmhaeipklifhcaaRbLawA
import Derived.Test.YtmhaeipklifhcaaRbMove
namespace Go.Proofs.Ytmhaeipklifhcaa
open Go.RowKit
set_option linter.unusedVariables false
theorem cn_pos {r : Rbt} {b : ByteArray} (h : b ∈ allR r) : 0 < (allR r).count b := List.count_pos_iff.2 h
/-- where a barcode is found, or that it is nowhere -/
theorem fin_cases {r : Rbt} {b : ByteArray} (hb : b ≠ emp) :
    (∃ (i : Nat) (hi : i < r.l.length), finR r b = (0, (i : Int), true) ∧ r.l[i] = b ∧ 0 < (allR r).count b) ∨
    (finR r b = (2, 0, true) ∧ r.po = b ∧ 0 < (allR r).count b) ∨ (finR r b = (3, 0, true) ∧ r.ha = b ∧ 0 < (allR r).count b) ∨
    (finR r b = (0, 0, false) ∧ (allR r).count b = 0) := by
  cases h : r.l.findIdx? (fun x => decide (x = b)) with
  | some i =>
    rw [List.findIdx?_eq_some_iff_getElem] at h
    obtain ⟨hi, hx, hn⟩ := h
    have hx : r.l[i] = b := by simpa using hx
    exact .inl ⟨i, hi, fin_slot hb hi (fun j hj h => by simpa using hn j h) hx, hx, cn_pos (all_mem.2 (.inl (hx ▸ List.getElem_mem hi)))⟩
  | none =>
    rw [List.findIdx?_eq_none_iff] at h
    have hn : ∀ j (h : j < r.l.length), r.l[j] ≠ b := fun j hj => by simpa using h _ (List.getElem_mem hj)
    by_cases hp : r.po = b
    · exact .inr (.inl ⟨fin_port hb hn hp, hp, cn_pos (all_mem.2 (.inr (.inl hp.symm)))⟩)
    · by_cases hh : r.ha = b
      · exact .inr (.inr (.inl ⟨fin_hand hb hn hp hh, hh, cn_pos (all_mem.2 (.inr (.inr hh.symm)))⟩))
      · have hf := fin_none hn hp hh
        exact .inr (.inr (.inr ⟨hf, fin_absent hb (by rw [hf])⟩))
/-- the first empty slot, or that none is -/
theorem emp_cases (l : List ByteArray) : (empR l = (0, false) ∧ l.count emp = 0) ∨ ∃ (i : Nat) (hi : i < l.length), empR l = ((i : Int), true) ∧ l[i] = emp ∧ (l.take i).count emp = 0 := by
  cases h : l.findIdx? (fun x => decide (x = emp)) with
  | some i =>
    have he := emp_at h
    rw [List.findIdx?_eq_some_iff_getElem] at h
    obtain ⟨hi, hx, hn⟩ := h
    refine .inr ⟨i, hi, he, by simpa using hx, ?_⟩
    rw [List.count_eq_zero]
    intro hm
    obtain ⟨j, hj, e⟩ := List.mem_take_iff_getElem.1 hm
    exact absurd e (by simpa using hn j (by omega))
  | none =>
    have he := emp_no h
    rw [List.findIdx?_eq_none_iff] at h
    refine .inl ⟨he, ?_⟩
    rw [List.count_eq_zero]
    intro hm
    simpa using h _ hm
/-- the law's boxes: robot, element -/
structure Fx (w X : World) (r : Rbt) (ad : Option Addr) (n cap g : Nat) (k i : Int) : Prop where
  b : Below w.heap.size w X
  row : X.heap[w.heap.size]? = some (boxR r ad n cap)
  el : ElAt X g k i
  ri : RoIn X r ad n cap
theorem Fx.next {w X Y : World} {r : Rbt} {ad : Option Addr} {n cap g : Nat} {k i : Int} (h : Fx w X r ad n cap g k i) (hb : Below X.heap.size X Y) : Fx w Y r ad n cap g k i :=
  ⟨h.b.trans (hb.mono h.b.size), row_step h.row hb, h.el.step hb, h.ri.below hb⟩
end Go.Proofs.Ytmhaeipklifhcaa
