/-
  The text that a slice of bytes converts to.
-/
import Derived.Test.YtlbnjojafaieoaaMem
import Derived.Laws.IdiomStrings
namespace Go.Proofs.Ytlbnjojafaieoaa
open Go.RowKit

theorem conv_lie {w : World} {ad : Option Addr} {l : List UInt8} (c : Nat) (h : Lie w ad l) : (convert 54 9 (.slice ad l.length c)).run Try.prog w = .ok (.string ⟨l.toArray⟩) w := by
  rcases h.at_ with rfl | ⟨b, off, rfl, _, hc⟩
  · rw [run_convert_bytes_string w _ _ 5 ad _ c Try.underlying54 Try.underlying5 Try.underlying9]
    cases ad with
    | none => simp [Conv.bytesToString]; rfl
    | some a =>
      have hl := run_loadCells_list (P := Try.prog) w a [] (fun j v hj => by simp at hj)
      have := run_bytesToString (P := Try.prog) w a 0 c [] (by simpa using hl)
      simp only [List.foldl_nil] at this
      exact this
  · refine run_convert_bytes_back w _ _ 5 _ c l Try.underlying54 Try.underlying5 Try.underlying9 fun j hj => ?_
    rw [Go.WideShapes.add_plain]
    exact hc j hj
end Go.Proofs.Ytlbnjojafaieoaa
