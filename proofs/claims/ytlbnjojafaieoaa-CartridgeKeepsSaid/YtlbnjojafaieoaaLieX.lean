/-
  Bytes that lie in a block at or behind another, other than a given one (what the elements of a list of the call's own hold).
-/
import Derived.Test.YtlbnjojafaieoaaApp
namespace Go.Proofs.Ytlbnjojafaieoaa
open Go.RowKit

/-- The bytes l lie at ad, in a block at or behind C, other than x. -/
def LieX (w : World) (C : Nat) (x : Option Nat) (ad : Option Addr) (l : List UInt8) : Prop :=
  l = [] ∨ ∃ b off, ad = some ⟨b, off, none⟩ ∧ C ≤ b ∧ b < w.heap.size ∧ some b ≠ x ∧ ∀ j (h : j < l.length), w.cell? ⟨b, off + j, none⟩ = some (.int .u8 ((l[j]'h).toNat : Int))
section
variable {w w' w0 : World} {B C C' D : Nat} {x : Option Nat} {ad : Option Addr} {l : List UInt8}
theorem LieX.lie (h : LieX w C x ad l) : Lie w ad l := by
  rcases h with h0 | ⟨b, off, e, _, hb, _, hc⟩
  · exact ⟨.inl h0⟩
  · exact ⟨.inr ⟨b, off, e, hb, hc⟩⟩
theorem LieX.of_low (h : Lie w0 ad l) (hb : Below w0.heap.size w0 w) (hx : ∀ g, x = some g → w0.heap.size ≤ g) : LieX w 0 x ad l := by
  rcases h.at_ with h0 | ⟨b, off, e, hlt, hc⟩
  · exact .inl h0
  · exact .inr ⟨b, off, e, Nat.zero_le _, Nat.lt_of_lt_of_le hlt hb.size, fun e' => by have := hx b e'.symm; omega, fun j hj => (hb.cell (p := ⟨b, off + j, none⟩) hlt).trans (hc j hj)⟩
theorem LieX.mono (h : LieX w C x ad l) (hC : C' ≤ C) : LieX w C' x ad l := by
  rcases h with h0 | ⟨b, off, e, h1, h2⟩
  · exact .inl h0
  · exact .inr ⟨b, off, e, Nat.le_trans hC h1, h2⟩
theorem LieX.grown {y : Option Nat} (h : LieX w C x ad l) (hg : w.grownBy w' x) (hy : y = x ∨ y = some w.heap.size) : LieX w' C y ad l := by
  rcases h with h0 | ⟨b, off, e, h1, h2, h3, hc⟩
  · exact .inl h0
  · refine .inr ⟨b, off, e, h1, Nat.lt_of_lt_of_le h2 hg.size, fun e' => ?_, fun j hj => (World.cell?_of_block (a := ⟨b, off + j, none⟩) (hg.block b h2 h3)).trans (hc j hj)⟩
    rcases hy with hy | hy
    · exact h3 (e'.trans hy)
    · rw [hy] at e'
      cases e'
      omega
theorem grown_below (hb : Below w.heap.size w w') (x : Option Nat) : w.grownBy w' x := ⟨hb.os, hb.tape, hb.output, hb.size, fun k hk _ => hb.block k hk⟩
theorem LieX.below (h : LieX w C x ad l) (hb : Below w.heap.size w w') : LieX w' C x ad l := h.grown (grown_below hb x) (.inl rfl)
theorem LieX.other {y : Option Nat} (h : LieX w C x ad l) (hy : ∀ g, y = some g → g < C) : LieX w C y ad l := by
  rcases h with h0 | ⟨b, off, e, h1, h2, h3, hc⟩
  · exact .inl h0
  · exact .inr ⟨b, off, e, h1, h2, fun e' => by have := hy b e'.symm; omega, hc⟩
theorem LieX.of_own {v : Value} (h : Own w D v l) (hx : ∀ g, x = some g → g < D) : ∃ ad cap, v = .slice ad l.length cap ∧ LieX w D x ad l ∧ l.length ≤ cap ∧ cap ≤ maxLen ∧ (ad = none → cap = 0) := by
  obtain ⟨ad, cap, e, hl, h1, h2, h3⟩ := h.slice
  refine ⟨ad, cap, e, ?_, h1, h2, h3⟩
  rcases hl.at_ with h0 | ⟨b, off, e2, hb, hc⟩
  · exact .inl h0
  · have hb2 := (h.lt b (by rw [e, e2]; rfl)).1
    exact .inr ⟨b, off, e2, hb2, hb, fun e' => by have := hx b e'.symm; omega, hc⟩
end
end Go.Proofs.Ytlbnjojafaieoaa
