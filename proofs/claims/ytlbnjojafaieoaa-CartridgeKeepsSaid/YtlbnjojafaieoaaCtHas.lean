/-
  slices.ContainsFunc over blocks.
-/
import Derived.Test.YtlbnjojafaieoaaCtIdx
namespace Go.Proofs.Ytlbnjojafaieoaa
open Go.RowKit
set_option linter.unusedVariables false
attribute [local irreducible] fixI
attribute [local irreducible] anyI
set_option maxRecDepth 100000 in
set_option maxHeartbeats 1000000 in
theorem contains_any (fn : Nat) (p : Bool → Bool → Nat → Bool) (hp : Says fn p) (ad : Option Addr) (n cap : Nat) (l : List Blk) (w : World) (hl : Ki w ad l) (hn : n = l.length) (hs : n ≤ 9223372036854775807) :
    Calls Try.prog 37 #[.slice ad n cap, .func (.func fn) #[] #[]] w fun e w' => e = .returned (.bool (anyI p l)) ∧ Below w.heap.size w w' := by
  have HX := Lib.hid (fun X (h : Below w.heap.size w X) => index_any fn p hp ad n cap l X (hl.below h) hn hs)
  clear hp hl hn
  have HF := Lib.hid (show anyI p l = decide (0 ≤ fixI p l) by unfold anyI; rfl)
  go_enter Try.func37, Try.ntmps37
  go_wp2_with fail
  refine (HX.out w (Below.refl _ _)).mono ?_
  clear HX
  generalize fixI p l = r at *
  rintro e w1 ⟨rfl, hb⟩
  go_wp2
  go_ret
  exact ⟨by rw [HF.out]; rfl, hb⟩
end Go.Proofs.Ytlbnjojafaieoaa
