/-
  Slices of the call's own, written place by place; the sum of a list and a multiple of a list.
-/
import Derived.Test.YtbkjocmldeagdaaGLie
import Derived.Test.YtbkjocmldeagdaaApp
namespace Go.Proofs.Ytbkjocmldeagdaa
open Go.RowKit

/-- a call gives a new slice with the bytes l, and what was there is as it was -/
def GivesU (w : World) (l : List UInt8) (e : Ending) (w' : World) : Prop := ∃ v, e = .returned v ∧ Own w' w.heap.size v l ∧ Below w.heap.size w w'
theorem below_app {w0 w w' : World} {v : Value} {l : List UInt8} (hb : Below w0.heap.size w0 w) (ho : Own w w0.heap.size v l) (hg : w.grownBy w' v.ownBlock) : Below w0.heap.size w0 w' :=
  hb.grown hg hb.size (fun k hk => (ho.lt k hk).1)

/-- what a value that owns bytes gives and takes, place by place -/
theorem Own.at_ {w : World} {B : Nat} {v : Value} {l : List UInt8} (h : Own w B v l) (N : Nat) (hN : l.length = N) (hp : 0 < N) :
    ∃ g cap, v = .slice (some ⟨g, 0, none⟩) N cap ∧ B ≤ g ∧ g < w.heap.size ∧ (∀ i (hi : i < l.length), w.cell? ⟨g, i, none⟩ = some (.int .u8 (ev (l[i]'hi))) ∧ w.frozen? ⟨g, i, none⟩ = false) ∧
      ∀ i c, i < l.length → Own (w.setCell ⟨g, i, none⟩ (.int .u8 (ev c))) B v (l.set i c) := by
  subst hN
  rcases h.row.2 with ⟨_, h0⟩ | ⟨g, cap, cur, hv, hB, hg, hle, hm, hsz, htake⟩
  · omega
  · have hget : ∀ i (hi : i < l.length), cur[i]? = some (.int .u8 (ev (l[i]'hi))) := fun i hi => by
      have h1 : (cur.toList.take (l.length * 1))[i]? = some (.int .u8 ((l[i]'hi).toNat : Int)) := by rw [htake]; exact cellsU_get l i hi
      rw [List.getElem?_take_of_lt (by omega)] at h1
      rw [ev_nat]
      simpa using h1
    refine ⟨g, cap, hv, hB, (Array.getElem?_eq_some_iff.1 hg).1, fun i hi => ⟨?_, ?_⟩, fun i c hi => ?_⟩
    · rw [cell_of_row w g i cur 5 (0, 0) hg]; exact hget i hi
    · simp [World.frozen?, hg]
    · have hlen : (l.set i c).length = l.length := List.length_set
      refine ⟨by rw [cellsU_length, hlen]; omega, .inr ⟨g, cap, cur.setIfInBounds i (.int .u8 (ev c)), by rw [hlen]; exact hv, hB, ?_, by rw [hlen]; exact hle, hm, by simpa using hsz, ?_⟩⟩
      · simp [World.setCell, Array.getElem?_modify, hg]
      · rw [hlen, Array.toList_setIfInBounds, List.take_set, htake, ev_nat]
        simp [cellsU, List.map_set]

/-- the sum of dst and the multiple of src with b -/
def sc : List UInt8 → List UInt8 → UInt8 → List UInt8
  | [], _, _ => []
  | d :: ds, [], _ => d :: ds
  | d :: ds, s :: ss, b => (d ^^^ mulU s b) :: sc ds ss b
theorem sc_nil (d : List UInt8) (b : UInt8) : sc d [] b = d := by cases d <;> rfl
theorem sc_length (d s : List UInt8) (b : UInt8) : (sc d s b).length = d.length := by
  induction d generalizing s with
  | nil => rfl
  | cons x d ih => cases s with
    | nil => rfl
    | cons y s => simp [sc, ih]
theorem sc_at (d s : List UInt8) (b : UInt8) (k : Nat) (hd : k < d.length) (h : k < (sc d (s.take k) b).length) : (sc d (s.take k) b)[k] = d[k] := by
  induction d generalizing s k with
  | nil => simp at hd
  | cons x d ih =>
    cases s with
    | nil => simp [sc_nil]
    | cons y s =>
      cases k with
      | zero => simp [sc_nil]
      | succ k =>
        simp only [List.take_succ_cons, sc, List.getElem_cons_succ]
        exact ih s k (by simpa using hd) _
theorem sc_next (d s : List UInt8) (b : UInt8) (k : Nat) (hd : k < d.length) (hs : k < s.length) : (sc d (s.take k) b).set k (d[k] ^^^ mulU s[k] b) = sc d (s.take (k + 1)) b := by
  induction d generalizing s k with
  | nil => simp at hd
  | cons x d ih =>
    cases s with
    | nil => simp at hs
    | cons y s =>
      cases k with
      | zero => simp [sc_nil, sc]
      | succ k =>
        simp only [List.take_succ_cons, sc, List.set_cons_succ, List.getElem_cons_succ]
        rw [ih s k (by simpa using hd) (by simpa using hs)]
theorem sc_end (d s : List UInt8) (b : UInt8) (k : Nat) (h : k = min d.length s.length) : sc d (s.take k) b = sc d s b := by
  subst h
  induction d generalizing s with
  | nil => rfl
  | cons x d ih =>
    cases s with
    | nil => rfl
    | cons y s =>
      rw [List.length_cons, List.length_cons, Nat.succ_min_succ, List.take_succ_cons]
      simp only [sc]
      rw [ih s]
theorem sc_twice (d s : List UInt8) (a b : UInt8) : sc (sc d s a) s b = sc d s (a ^^^ b) := by
  induction d generalizing s with
  | nil => rfl
  | cons x d ih =>
    cases s with
    | nil => rfl
    | cons y s => simp only [sc, ih, mulU_xor, UInt8.xor_assoc]
end Go.Proofs.Ytbkjocmldeagdaa
