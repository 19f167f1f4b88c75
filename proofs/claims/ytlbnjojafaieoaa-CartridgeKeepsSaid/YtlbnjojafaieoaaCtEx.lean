/-
  The chapter's examples: what each call gives.
-/
import Derived.Test.YtlbnjojafaieoaaCtLaw
import Derived.Test.YtlbnjojafaieoaaCtWriteP
import Derived.Test.YtlbnjojafaieoaaCtMarksP
import Derived.Test.YtlbnjojafaieoaaCtReadP
import Derived.Test.YtlbnjojafaieoaaCtEraseP
import Derived.Test.YtlbnjojafaieoaaCtNewP
import Derived.Test.YtlbnjojafaieoaaCtFreeP
namespace Go.Proofs.Ytlbnjojafaieoaa
open Go.RowKit
set_option linter.unusedVariables false
abbrev bcA : ByteArray := ⟨#[65, 49]⟩
def crA : Crt := ⟨bcA, 1, 3, 0, 0, 0, 0, false, false, [], 0, 0, 0⟩
def zA : List Blk := [⟨false, false, [120]⟩, ⟨true, false, []⟩]
def crD : Crt := ⟨bcA, 1, 3, 0, 0, 0, 0, false, false, zA, 0, 0, 0⟩
def crE : Crt := ⟨bcA, 1, 3, 0, 0, 0, 0, false, false, [], 1, 0, 0⟩
theorem exVld : Vld 1 3 0 0 0 0 := ⟨by decide, by decide, by decide, by decide, by decide, by decide, by decide, by decide, by decide, by decide, by decide, by decide, by decide⟩
theorem exCap : capU 1 3 0 0 0 0 = 3 := by rw [capU_yes exVld]; rfl
theorem exBar : bar bcA = true := by rfl
theorem ex_vld (l : List Blk) (ep : Int) (h1 : l.length ≤ 3) (h2 : allB l = true) (h3 : cnt ep = true) : vldC ⟨bcA, 1, 3, 0, 0, 0, 0, false, false, l, ep, 0, 0⟩ = true := by
  rw [vldC_eq, exBar, vld_iff.2 exVld, exCap, h2, h3, decide_eq_true (by omega)]
  rfl
theorem vA : vldC crA = true := ex_vld [] 0 (by decide) rfl rfl
theorem vD : vldC crD = true := ex_vld zA 0 (by decide) (by rfl) rfl
theorem nA : newC bcA 1 3 0 0 0 0 false = (crA, 0) := by
  unfold newC
  rw [if_pos exBar, if_pos (vld_iff.2 exVld)]
  rfl
theorem wA : wriC (vldC crA) crA 0 zA = (crD, 0) := by
  have h1 : zA.all okW = true := by rfl
  have h2 : capU crA.W crA.L crA.S crA.T crA.J crA.R = 3 := exCap
  have h3 : crA.lk = false := rfl
  have h4 : crA.wo = false := rfl
  have h5 : crA.l.length = 0 := rfl
  have h6 : zA.length = 2 := rfl
  rw [vA]
  unfold wriC
  rw [if_pos rfl, if_pos h1, if_neg (by rw [h3]; simp), if_neg (by rw [h5]; omega), if_neg (by rw [h4]; simp), if_neg (by rw [h2, h6]; omega), if_neg (by intro h; cases h)]
  rfl
theorem mA : marksC (vldC crD) crD.l 0 1 = (2, 0) := by rw [vD]; rfl
theorem rA : readC (vldC crD) crD.l 0 3 = (zA, 7) := by rw [vD]; rfl
theorem eA : eraC crD = (crE, 0) := by
  unfold eraC
  rw [if_pos vD, if_neg (by decide), if_neg (by decide)]
  rfl
theorem fA : freeC crD = 1 := by
  have h2 : capU crD.W crD.L crD.S crD.T crD.J crD.R = 3 := exCap
  unfold freeC
  rw [vD, if_pos (by decide), h2]
  rfl
abbrev crAv (ad : Option Addr) (n cap : Nat) (ep : Int) : Value := crW bcA 1 3 0 0 0 0 false false ad n cap ep 0 0
theorem exNew (X : World) : Calls Try.prog 12 #[.string bcA, .agg #[.int .i64 1, .int .i64 3, .int .i64 0, .int .i64 0, .int .i64 0, .int .i64 0], .bool false] X fun e w' => ∃ ad cap, e = .returned (.tuple #[crAv ad 0 cap 0, .int .i64 0]) ∧ CrIn w' crA ad cap ∧ Below X.heap.size X w' := by
  have h := new_any bcA 1 3 0 0 0 0 false X (by decide)
  rw [nA] at h
  exact h
theorem exWrite (ad : Option Addr) (cap : Nat) (zd : Option Addr) (X : World) (h1 : CrIn X crA ad cap) (h2 : Ki X zd zA) (h3 : zd ≠ none) : Calls Try.prog 21 #[crAv ad 0 cap 0, .int .i64 0, .slice zd 2 2] X fun e w' => ∃ ad cap, e = .returned (.tuple #[crAv ad 2 cap 0, .int .i64 0]) ∧ CrIn w' crD ad cap ∧ Below X.heap.size X w' := by
  have h := write_any crA ad cap 0 zd 2 2 zA X h1 h2 rfl (by decide) (fun h => absurd h h3) (by decide) (by decide)
  rw [wA] at h
  exact h.mono fun e w' h => h.toC
theorem exMarks (ad : Option Addr) (cap : Nat) (X : World) (h1 : CrIn X crD ad cap) : Calls Try.prog 26 #[crAv ad 2 cap 0, .int .i64 0, .int .i64 1] X fun e w' => e = .returned (.tuple #[.int .i64 2, .int .i64 0]) ∧ Below X.heap.size X w' := by
  have h := marks_any crD ad cap 0 1 X h1 (by decide) (by decide)
  rw [mA] at h
  exact h
theorem exRead (ad : Option Addr) (cap : Nat) (X : World) (h1 : CrIn X crD ad cap) : Calls Try.prog 24 #[crAv ad 2 cap 0, .agg #[.int .i64 0, .int .i64 3]] X fun e w' => ∃ ad2 cap2, e = .returned (.tuple #[.slice ad2 2 cap2, .int .i64 7]) ∧ Below X.heap.size X w' := by
  have h := read_any crD ad cap 0 3 X h1 (by decide) (by decide)
  rw [rA] at h
  refine h.mono fun e w' ⟨v, h1, h2, h3⟩ => ?_
  obtain ⟨ad2, cap2, rfl, -⟩ := h2.read
  exact ⟨ad2, cap2, h1, h3⟩
theorem exErase (ad : Option Addr) (cap : Nat) (X : World) (h1 : CrIn X crD ad cap) : Calls Try.prog 28 #[crAv ad 2 cap 0] X fun e w' => ∃ ad cap, e = .returned (.tuple #[crAv ad 0 cap 1, .int .i64 0]) ∧ Below X.heap.size X w' := by
  have h := erase_any crD ad cap X h1
  rw [eA] at h
  exact h.mono fun e w' ⟨ad, cap, h1, _, h3⟩ => ⟨ad, cap, h1, h3⟩
theorem exValid (ad : Option Addr) (cap : Nat) (X : World) (h1 : CrIn X crD ad cap) : Calls Try.prog 14 #[crAv ad 2 cap 0] X fun e w' => e = .returned (.bool true) ∧ Below X.heap.size X w' := by
  have h := valc_any crD ad cap X h1
  rw [vD] at h
  exact h
theorem exFree (ad : Option Addr) (cap : Nat) (X : World) (h1 : CrIn X crD ad cap) : Calls Try.prog 17 #[crAv ad 2 cap 0] X fun e w' => e = .returned (.int .i64 1) ∧ Below X.heap.size X w' := by
  have h := free_any crD ad cap X h1 (by decide)
  rw [fA] at h
  exact h
/-- the blocks of the example, as they are laid -/
theorem ex_blocks (w : World) (fr : Nat × Nat) : Ki ((w.alloc (.cells #[.int .u8 120] 5 fr)).alloc (.cells #[.bool false, .bool false, .slice (some ⟨w.heap.size, 0, none⟩) 1 1, .bool true, .bool false, .slice none 0 0] 56)) (some ⟨w.heap.size + 1, 0, none⟩) zA := by
  refine ⟨[⟨⟨false, false, [120]⟩, some ⟨w.heap.size, 0, none⟩, 1⟩, ⟨⟨true, false, []⟩, none, 0⟩], rfl, .inr ⟨w.heap.size + 1, 0, rfl, by simp, fun j u hu => ?_⟩, ?_⟩
  · have e : (w.alloc (.cells #[.int .u8 120] 5 fr)).heap.size = w.heap.size + 1 := by simp
    rw [Nat.zero_add, ← e, World.cell?_alloc_mark]
    simpa [cellsB, Bk.cells] using hu
  · intro k hk
    have hk2 : k = ⟨⟨false, false, [120]⟩, some ⟨w.heap.size, 0, none⟩, 1⟩ ∨ k = ⟨⟨true, false, []⟩, none, 0⟩ := by simpa using hk
    rcases hk2 with rfl | rfl
    · refine ⟨⟨.inr ⟨w.heap.size, 0, rfl, by simp; omega, fun j hj => ?_⟩⟩, Nat.le_refl 1, show (1 : Nat) ≤ maxLen by unfold maxLen; decide, fun h => by cases h⟩
      have hj0 : j = 0 := by simpa using hj
      subst hj0
      rw [(below_boxC (w.alloc (.cells #[.int .u8 120] 5 fr)) _).cell (by simp), World.cell?_alloc_mark]
      rfl
    · exact ⟨.nil _ _, Nat.le_refl _, Nat.zero_le _, fun _ => rfl⟩
end Go.Proofs.Ytlbnjojafaieoaa
