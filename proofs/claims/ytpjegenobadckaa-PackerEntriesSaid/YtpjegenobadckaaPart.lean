/-
  A part of a slice of bytes, whatever its place: one value, and the bytes that it holds.
-/
import Derived.Test.YtpjegenobadckaaApp
import Derived.Laws.Slices
namespace Go.Proofs.Ytpjegenobadckaa
open Go.RowKit
set_option maxRecDepth 100000
/-- where a part lies -/
@[irreducible] def ptA (ad : Option Addr) (cap a : Nat) : Option Addr := if cap = a then ad else ad.map (·.add a)
theorem cellsU1 : (sizeOf (Try.prog.elem 47)).run Try.prog = fun w => .ok 1 w := by funext w; go_simp
theorem run_part (ad : Option Addr) (n cap a b : Nat) (w : World) (h0 : a ≤ b) (h1 : b ≤ cap) :
    (Instr.sliceAt 47 (.slice ad n cap) (some (.int .i64 (a : Int))) (some (.int .i64 (b : Int))) none).run Try.prog w = .ok (.slice (ptA ad cap a) (b - a) (cap - a)) w := by
  rw [run_sliceAt_slice w _ _ _ _ _ Try.underlying47, run_slice_lh w _ ad n cap Try.underlying47 .i64 .i64 a b (by omega) (by omega) (by omega), cellsU1]
  simp [Result.andThen, sliced, ptA]
theorem run_front (ad : Option Addr) (n cap b : Nat) (w : World) (h1 : b ≤ cap) :
    (Instr.sliceAt 47 (.slice ad n cap) none (some (.int .i64 (b : Int))) none).run Try.prog w = .ok (.slice (ptA ad cap 0) b cap) w := by
  rw [run_sliceAt_slice w _ _ _ _ _ Try.underlying47, run_slice_h w _ ad n cap Try.underlying47 .i64 b (by omega) (by omega), cellsU1]
  simp [Result.andThen, sliced, ptA]
theorem run_rest (ad : Option Addr) (n cap a : Nat) (w : World) (h0 : a ≤ n) :
    (Instr.sliceAt 47 (.slice ad n cap) (some (.int .i64 (a : Int))) none none).run Try.prog w = .ok (.slice (ptA ad cap a) (n - a) (cap - a)) w := by
  rw [run_sliceAt_slice w _ _ _ _ _ Try.underlying47, run_slice_l w _ ad n cap Try.underlying47 .i64 a (by omega) (by omega), cellsU1]
  simp [Result.andThen, sliced, ptA]
theorem Lie.pt {w : World} {ad : Option Addr} {xs : List UInt8} (h : Lie w ad xs) {cap : Nat} (hc : xs.length ≤ cap) (a m : Nat) : Lie w (ptA ad cap a) ((xs.drop a).take m) := by
  unfold ptA
  by_cases e : cap = a
  · rw [if_pos e, List.drop_eq_nil_of_le (by omega)]
    exact ⟨.inl (by simp)⟩
  · rw [if_neg e]
    rcases h.at_ with h0 | ⟨b, off, rfl, hlt, hcell⟩
    · subst h0
      exact ⟨.inl (by simp)⟩
    · refine ⟨.inr ⟨b, off + a, congrArg some (Go.WideShapes.add_plain b off a), hlt, fun j hj => ?_⟩⟩
      simp only [List.length_take, List.length_drop] at hj
      have := hcell (a + j) (by omega)
      rw [Nat.add_assoc, this]
      simp
theorem ptA_nil {ad : Option Addr} {cap : Nat} (h : ad = none → cap = 0) (a : Nat) : ptA ad cap a = none → cap - a = 0 := by
  unfold ptA
  intro e
  split at e
  · omega
  · cases ad with
    | none => have := h rfl; omega
    | some x => cases e
end Go.Proofs.Ytpjegenobadckaa
