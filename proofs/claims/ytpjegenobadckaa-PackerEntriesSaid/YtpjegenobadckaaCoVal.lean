/-
  The specification's in, Entry, Place, Valid.
-/
import Derived.Test.YtpjegenobadckaaCoMem
import Derived.Deep.LoopGhost
namespace Go.Proofs.Ytpjegenobadckaa
open Go.RowKit
set_option linter.unusedVariables false
/-- an entry is valid -/
def VEnt (e : Ent) : Prop := (1 ≤ e.f ∧ e.f ≤ 1125899906842624) ∧ (1 ≤ e.v ∧ e.v ≤ 1125899906842624) ∧ (0 ≤ e.o ∧ e.o ≤ 4096) ∧ (0 ≤ e.n ∧ e.n ≤ 4096) ∧ e.o + e.n ≤ 4096
def VPlc (h : Hdr) : Prop :=
  if h.st = 0 then (h.kd ≠ 1 ∧ h.ix = 0 ∧ h.da = 0 ∧ h.pa = 0) else
    ((1 ≤ h.st ∧ h.st ≤ 1125899906842624) ∧ h.kd ≠ 2 ∧ (1 ≤ h.da ∧ h.da ≤ 16) ∧ (0 ≤ h.pa ∧ h.pa ≤ 16) ∧ h.da + h.pa ≤ 16 ∧
      if h.kd = 0 then (0 ≤ h.ix ∧ h.ix ≤ h.da - 1) else (h.da ≤ h.ix ∧ h.ix ≤ h.da + h.pa - 1))
/-- the lengths of some entries -/
def sumE : List Ent → Int
  | [] => 0
  | e :: l => e.n + sumE l
def VNum (h : Hdr) : Prop := (0 ≤ h.kd ∧ h.kd ≤ 2) ∧ (1 ≤ h.vr ∧ h.vr ≤ 2) ∧ (0 ≤ h.cm ∧ h.cm ≤ 1125899906842624) ∧ (0 ≤ h.sz ∧ h.sz ≤ 262144)
def VId (h : Hdr) : Prop := if h.kd = 2 then h.id = 0 else (1 ≤ h.id ∧ h.id ≤ 1125899906842624)
def VEs (h : Hdr) : Prop := if h.kd ≠ 0 then h.es = [] else (h.es.length ≤ 64 ∧ (∀ e ∈ h.es, VEnt e) ∧ sumE h.es = h.sz)
/-- a header is valid -/
def VHdr (h : Hdr) : Prop := VNum h ∧ VPlc h ∧ VId h ∧ VEs h
open Classical in
noncomputable def entB (e : Ent) : Bool := decide (VEnt e)
open Classical in
noncomputable def plcB (h : Hdr) : Bool := decide (VPlc h)
open Classical in
noncomputable def vldH (h : Hdr) : Bool := decide (VHdr h)
open Classical in
theorem entB_yes {e : Ent} (h : VEnt e) : entB e = true := by unfold entB; exact decide_eq_true h
open Classical in
theorem entB_no {e : Ent} (h : ¬ VEnt e) : entB e = false := by unfold entB; exact decide_eq_false h
open Classical in
theorem plcB_yes {e : Hdr} (h : VPlc e) : plcB e = true := by unfold plcB; exact decide_eq_true h
open Classical in
theorem plcB_no {e : Hdr} (h : ¬ VPlc e) : plcB e = false := by unfold plcB; exact decide_eq_false h
open Classical in
theorem vldH_yes {e : Hdr} (h : VHdr e) : vldH e = true := by unfold vldH; exact decide_eq_true h
open Classical in
theorem vldH_no {e : Hdr} (h : ¬ VHdr e) : vldH e = false := by unfold vldH; exact decide_eq_false h
open Classical in
theorem entB_iff {e : Ent} : entB e = true ↔ VEnt e := by unfold entB; exact decide_eq_true_iff
open Classical in
theorem plcB_iff {e : Hdr} : plcB e = true ↔ VPlc e := by unfold plcB; exact decide_eq_true_iff
open Classical in
theorem vldH_iff {e : Hdr} : vldH e = true ↔ VHdr e := by unfold vldH; exact decide_eq_true_iff
theorem eq_t {a b : Int} (h : a = b) : (a == b) = true := by rw [beq_iff_eq]; exact h
theorem eq_f {a b : Int} (h : a ≠ b) : (a == b) = false := by rw [beq_eq_false_iff_ne]; exact h
theorem ne_t {a b : Int} (h : a ≠ b) : (a != b) = true := by rw [bne_iff_ne]; exact h
theorem ne_f {a b : Int} (h : a = b) : (a != b) = false := by subst h; simp
end Go.Proofs.Ytpjegenobadckaa
