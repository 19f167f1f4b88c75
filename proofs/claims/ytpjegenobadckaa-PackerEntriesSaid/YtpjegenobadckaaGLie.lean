/-
  Bytes that lie, by their numbers.
-/
import Derived.Test.YtpjegenobadckaaGEv
import Derived.Test.YtpjegenobadckaaMem
namespace Go.Proofs.Ytpjegenobadckaa
open Go.RowKit
theorem calls_left {P : Program} {f : FuncId} {args : Array Value} {w : World} {v : Value} (h : Calls P f args w fun e w' => e = .returned v ∧ w = w') : Calls P f args w fun e w' => e = .returned v ∧ w' = w :=
  h.mono fun _ _ ⟨he, hw⟩ => ⟨he, hw.symm⟩
/-- the bytes that lie, by their numbers -/
theorem Lie.ev {w : World} {ad : Option Addr} {xs : List UInt8} (h : Lie w ad xs) (hp : 0 < xs.length) :
    ∃ b off, ad = some ⟨b, off, none⟩ ∧ b < w.heap.size ∧ ∀ j (h : j < xs.length), w.cell? ⟨b, off + j, none⟩ = some (.int .u8 (ev (xs[j]'h))) := by
  rcases h.at_ with h0 | ⟨b, off, h1, h2, h3⟩
  · subst h0; simp at hp
  · exact ⟨b, off, h1, h2, fun j hj => by rw [ev_nat]; exact h3 j hj⟩
theorem below_drewN {B : Nat} {a w : World} (h : Below B a w) (n : Nat) : Below B a (w.drewN n) := ⟨h.os, h.tape, h.output, h.size, h.block⟩
theorem ev_idx (x : UInt8) : (ev x).toNat < 256 := by have := ev_lo x; have := ev_hi x; omega
theorem eval_next (xs : List UInt8) (x c V : UInt8) (j : Nat) (h : j < xs.length) (hc : c = xs[j]) (hV : V = evalU (xs.drop (j + 1)) x) : mulU V x ^^^ c = evalU (xs.drop j) x := by
  subst hc hV
  exact (evalU_drop xs x j h).symm
theorem eval_start (xs : List UInt8) (x : UInt8) : evalU (xs.drop xs.length) x = 0 := by rw [List.drop_length]; rfl
end Go.Proofs.Ytpjegenobadckaa
