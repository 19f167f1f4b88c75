/-
  The parts of a string, as plain mathematics; how a list of the call's own is kept.
-/
import Derived.Test.YtgnidlhijmageaaNLeaf
import Derived.Test.YtgnidlhijmageaaNLin
namespace Go.Proofs.Ytgnidlhijmageaa
open Go.RowKit
/-- the parts of s bytes each -/
def partsF (s : Nat) (xs : List UInt8) : List (List UInt8) :=
  if _h : 1 ≤ s ∧ 0 < xs.length then xs.take s :: partsF s (xs.drop s) else []
termination_by xs.length
decreasing_by rw [List.length_drop]; omega
theorem parts_nil (s : Nat) (xs : List UInt8) (h : ¬ 0 < xs.length) : partsF s xs = [] := by rw [partsF, dif_neg (by omega)]
theorem parts_cons (s : Nat) (xs : List UInt8) (h1 : 1 ≤ s) (h : 0 < xs.length) : partsF s xs = xs.take s :: partsF s (xs.drop s) := by rw [partsF, dif_pos ⟨h1, h⟩]
theorem take_min (s : Nat) (xs : List UInt8) (c : Nat) (hc : c = min s xs.length) : xs.take s = xs.take c := by
  subst hc
  rw [List.take_eq_take_iff]; omega
theorem parts_take (s i c : Nat) (xs : List UInt8) (h1 : 1 ≤ s) (hi : i < xs.length) (hc : c = min s (xs.length - i)) : partsF s (xs.drop i) = (xs.drop i).take c :: partsF s (xs.drop (i + s)) := by
  rw [parts_cons s _ h1 (by rw [List.length_drop]; omega), take_min s _ c (by rw [List.length_drop]; exact hc), List.drop_drop]
theorem parts_next (s i c : Nat) (xs : List UInt8) (h1 : 1 ≤ s) (hi : i < xs.length) (hc : c = min s (xs.length - i)) : partsF s (xs.drop i) = (xs.drop i).take c :: partsF s (xs.drop (i + c)) := by
  rw [parts_take s i c xs h1 hi hc]
  by_cases h : s ≤ xs.length - i
  · rw [show c = s by omega]
  · rw [parts_nil s _ (by rw [List.length_drop]; omega), parts_nil s _ (by rw [List.length_drop]; omega)]
theorem parts_end (s i : Nat) (xs : List UInt8) (h : xs.length ≤ i) : partsF s (xs.drop i) = [] := parts_nil s _ (by rw [List.length_drop]; omega)
theorem part_len (i c : Nat) (xs : List UInt8) (h : i + c ≤ xs.length) : c = ((xs.drop i).take c).length := by rw [List.length_take, List.length_drop]; omega
/-- the leaves of the parts -/
def blkU (xs : List UInt8) (size : Int) : List UInt64 := if size < 1 then [] else (partsF size.toNat xs).map leafU
theorem blkU_no (xs : List UInt8) (size : Int) (h : size < 1) : blkU xs size = [] := if_pos h
theorem blkU_yes (xs : List UInt8) (s : Nat) (h : 1 ≤ s) : blkU xs s = (partsF s xs).map leafU := by unfold blkU; rw [if_neg (by omega), Int.toNat_natCast]
theorem Lie.sub {w : World} {b off : Nat} {xs : List UInt8} (h : Lie w (some ⟨b, off, none⟩) xs) (i c : Nat) : Lie w (some ⟨b, off + i, none⟩) ((xs.drop i).take c) := by
  rcases h.at_ with h0 | ⟨b', off', h1, hlt, hc⟩
  · subst h0; exact ⟨.inl (by simp)⟩
  · cases h1
    exact ⟨.inr ⟨b, off + i, rfl, hlt, fun j hj => by
      have hj' : i + j < xs.length := by rw [List.length_take, List.length_drop] at hj; omega
      have := hc (i + j) hj'
      rw [Nat.add_assoc, this]; simp⟩⟩
theorem Onu.kept {w w' : World} {B : Nat} {v : Value} {l : List UInt64} {row : Option Nat} (h : Onu w B v l) (hg : w.grownBy w' row) (hne : v.ownBlock = none ∨ v.ownBlock ≠ row) : Onu w' B v l := h.row.kept hg hne
theorem Onu.own {w : World} {B : Nat} {v : Value} {l : List UInt64} (h : Onu w B v l) : ∀ k, v.ownBlock = some k → B ≤ k ∧ k < w.heap.size ∧ ∃ cur, w.heap[k]? = some (.cells cur 23 (0, 0)) := by
  intro k hk
  rcases h.row.2 with ⟨rfl, _⟩ | ⟨g, cap, cur, rfl, hB, hgg, _⟩
  · cases hk
  · have e : some g = some k := hk
    cases e
    exact ⟨hB, (Array.getElem?_eq_some_iff.1 hgg).1, cur, hgg⟩
end Go.Proofs.Ytgnidlhijmageaa
