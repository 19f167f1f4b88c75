/-
  A law of a row's operation, for one operation of a region that draws its order; steps of such regions.
-/
import Derived.Test.YtpjegenobadckaaHeld
import Derived.Test.YtpjegenobadckaaNHeld
import Derived.Deep.RegionWith
namespace Go.Proofs.Ytpjegenobadckaa
open Go.RowKit
set_option linter.unusedVariables false
def onlyN (K : Act → World → Prop) : Exit → Act → World → Prop
  | .normal, a, w => K a w
  | _, _, _ => False
theorem oper_of_list {P : Program} {ops : Array Oper} {o : Oper} {a : Act} {w : World} {K : Act → World → Prop} {Q : Exit → Act → World → Prop} (hg : Region.wanted o (yielded ops a.tmps) = true) (h : wpList P ops (onlyN K) [o] a w) : o.wp P a w K Q := by
  unfold wpList at h
  rw [if_pos hg] at h
  have hl : ¬ LetsOut (onlyN K) := fun ⟨_, _, h⟩ => h
  rcases h with h | ⟨_, h⟩
  · replace h : Oper.wp P o a w K (onlyN K) := h
    unfold Oper.wp at *
    generalize (execOp a.eval o).run P w = r at *
    cases r with
    | ok n w' =>
      cases n <;> simp only [Oper.upon] at h ⊢
      all_goals first
        | exact h
        | exact Calls.mono h (fun e w'' he => by
            cases e
            · exact he
            · exact False.elim he
            · exact absurd he hl)
    | halt x w' =>
      cases x <;> simp only [Oper.upon] at h ⊢
      all_goals first | exact h | exact False.elim h
  · exact absurd h hl
theorem onlyN_end {P : Program} {ops : Array Oper} {K : Act → World → Prop} {a : Act} {w : World} (h : K a w) : wpList P ops (onlyN K) [] a w := h
end Go.Proofs.Ytpjegenobadckaa
