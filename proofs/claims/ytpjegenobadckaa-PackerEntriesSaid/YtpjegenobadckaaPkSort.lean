/-
  slices.SortFunc over places: FirstFit's and Decreasing's order.
-/
import Derived.Test.YtpjegenobadckaaPkShelf
import Derived.Test.YtpjegenobadckaaPkFitS
namespace Go.Proofs.Ytpjegenobadckaa
open Go.RowKit
set_option linter.unusedVariables false
set_option linter.unusedSimpArgs false
def encF {m : Nat} (x : Fin (m + 1)) : Value := .int .i64 (x.val : Int)
/-- what a comparison of places owes: a function of both, read in a world that keeps I -/
structure CmpI (fn : Nat) (cb : Array Value) (m : Nat) (cf : Fin (m + 1) → Fin (m + 1) → Int) (I : World → Prop) : Prop where
  enter : ∀ args w, (callFunc fn args).run Try.prog w = .ok (.enter fn args) w
  calls : ∀ (x y : Fin (m + 1)) (w : World), I w → Calls Try.prog fn (#[encF x, encF y] ++ cb) w fun e w' => e = .returned (.int .i64 (cf x y)) ∧ ∃ q os', w' = Sort.grow (w.drewN q) os'
theorem below_sortW {α : Type} [Inhabited α] {enc : α → Value} {B g off n : Nat} {w : World} {d : Array α} {os : Array Obj} (hB : B ≤ g) (hw : B ≤ w.heap.size) : Below B w (Go.Proofs.sortWorld enc w g off n d os) := by
  unfold Go.Proofs.sortWorld
  refine ⟨rfl, rfl, rfl, ?_, fun k hk => ?_⟩
  · show w.heap.size ≤ ((Sort.putRow enc (Sort.ahead w n) g off d).heap ++ os).size
    rw [Array.size_append, Sort.size_putRow]
    exact Nat.le_add_right _ _
  · have h1 : k < (Sort.putRow enc (Sort.ahead w n) g off d).heap.size := by rw [Sort.size_putRow]; show k < w.heap.size; omega
    rw [Sort.heap_grow_old _ os h1]
    show ((Sort.ahead w n).heap.modify g _)[k]? = _
    rw [Array.getElem?_modify, if_neg (by omega)]
    rfl
theorem encF_one {m : Nat} : Go.Proofs.OneCell (encF (m := m)) := fun x => rfl
theorem ofn_flat (l : List Nat) : l.flatMap naC = l.map fun (x : Nat) => Value.int .i64 (x : Int) := by
  induction l with
  | nil => rfl
  | cons x l ih => rw [List.flatMap_cons, ih]; rfl
/-- what a list of places holds once its row is put anew -/
theorem ofn_put {m g cap n : Nat} {w : World} {B : Nat} {l : List Nat} {d : List (Fin (m + 1))} {os : Array Obj} (h : OfN w B (.slice (some ⟨g, 0, none⟩) l.length cap) l) (hd : d.length = l.length) : OfN (Go.Proofs.sortWorld encF w g 0 n d.toArray os) B (.slice (some ⟨g, 0, none⟩) l.length cap) (d.map (·.val)) := by
  have h1 := h.row
  unfold OfN Of
  rw [List.length_map, hd]
  refine ⟨by rw [ofn_flat]; simp [hd], ?_⟩
  rcases h1.2 with ⟨e, _⟩ | ⟨g', cap', cur, e, hB, hh, hn, hm, hs, ht⟩
  · cases e
  · cases e
    have hlt := (Array.getElem?_eq_some_iff.1 hh).1
    refine .inr ⟨g, cap, Sort.putCells encF 0 d.toArray cur, rfl, hB, ?_, hn, hm, by unfold Sort.putCells; simpa using hs, ?_⟩
    · unfold Go.Proofs.sortWorld
      rw [Sort.heap_grow_old _ os (by rw [Sort.size_putRow]; exact hlt)]
      show ((Sort.ahead w n).heap.modify g _)[g]? = _
      rw [Array.getElem?_modify, if_pos rfl]
      show Option.map _ (w.heap[g]?) = _
      rw [hh]
      rfl
    · rw [ofn_flat]
      apply List.ext_getElem
      · simp only [List.length_take, Array.length_toList, List.length_map]
        unfold Sort.putCells
        simp only [Array.size_mapIdx]
        omega
      · intro i h2 h3
        have hi : i < d.length := by simpa using h3
        simp only [List.getElem_take, Array.getElem_toList, List.getElem_map]
        unfold Sort.putCells
        simp only [Array.getElem_mapIdx, Nat.zero_le, true_and, Nat.zero_add, Nat.sub_zero]
        rw [if_pos (by simpa using hi), getElem!_pos d.toArray i (by simpa using hi)]
        rfl
set_option maxHeartbeats 4000000 in
theorem sort_by (fn : Nat) (cb : Array Value) (m : Nat) (cf : Fin (m + 1) → Fin (m + 1) → Int) (I : World → Prop) (hc : CmpI fn cb m cf I) (hO : Sort.SWO (Go.Proofs.ltOf cf)) (hT : ∀ x y, Go.Proofs.ltOf cf x y = false → Go.Proofs.ltOf cf y x = false → x = y)
    (B : Nat) (v : Value) (w : World) (hI : ∀ W, Below B w W → I W) (h : OfN w B v (List.range (m + 1))) (hB : B ≤ w.heap.size) (hm : m < 10000) :
    Calls Try.prog 44 #[v, .func (.func fn) #[] cb] w fun e w' => e = .returned (.tuple #[]) ∧ OfN w' B v (((List.finRange (m + 1)).mergeSort fun x y => !(Go.Proofs.ltOf cf) y x).map (·.val)) ∧ Below B w w' := by
  obtain ⟨ad, cap, rfl, hl, -⟩ := h.read
  obtain ⟨b, off, rfl, hlt, -⟩ := hl.get celN (i := 0) (by simp)
  obtain ⟨cur, hcu⟩ := h.typ (g := b) rfl
  have hbB := (h.lt b rfl).1
  have hoff : off = 0 := by
    rcases h.row.2 with ⟨e, _⟩ | ⟨g', cap', cur, e, -⟩
    · cases e
    · cases e; rfl
  subst hoff
  have hlen : (List.range (m + 1)).length = m + 1 := List.length_range
  have hH : Sort.Holds (encF (m := m)) w b 0 (List.finRange (m + 1)).toArray := by
    intro j hj
    have hj' : j < m + 1 := by simpa using hj
    refine ⟨?_, by simp [World.frozen?, hcu]⟩
    rw [getElem!_pos _ j hj]
    obtain ⟨b2, off2, e, -, hc2⟩ := hl.get celN (i := j) (by simpa using hj')
    cases e
    have := hc2 0 _ (by decide) rfl
    simp only [List.getElem_range] at this
    simpa [encF] using this
  have hcm : Go.Proofs.CmpLays1 Try.prog fn cb encF cf b 0 (List.finRange (m + 1)).toArray.size w := by
    intro k os dk hdk x y
    exact hc.calls x y _ (hI _ (below_sortW hbB hB))
  have h1 := Go.Proofs.Any.slices_SortFunc_total shI encF encF_one cf hO fn cb b 0 cap (List.finRange (m + 1)).toArray w (hc.enter) hcm hH hlt (by simp; omega) hT
  rw [hlen]
  rw [show (List.finRange (m + 1)).toArray.size = m + 1 by simp] at h1
  refine Calls.mono (show Calls Try.prog 44 _ w _ from h1) ?_
  rintro e w' ⟨rfl, n, os, rfl⟩
  have hsz : ((List.finRange (m + 1)).mergeSort fun x y => !(Go.Proofs.ltOf cf) y x).length = (List.range (m + 1)).length := by rw [List.length_mergeSort]; simp
  refine ⟨rfl, ?_, below_sortW hbB hB⟩
  have h2 := ofn_put (d := (List.finRange (m + 1)).mergeSort fun x y => !(Go.Proofs.ltOf cf) y x) (n := n) (os := os) h hsz
  rw [hlen] at h2
  simpa using h2
end Go.Proofs.Ytpjegenobadckaa
