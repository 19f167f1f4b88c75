/-
  The specification's in, Entry, Place, Valid.
  A guarded operation that is wanted, as one without a guard.
-/
import Derived.Test.YtjiijjdmkeeilaaDoorCAA
import Derived.Deep.LoopGhost
import Derived.Test.YtjiijjdmkeeilaaDoorRows
import Derived.WalkKit
namespace Go.Proofs.YtjiijjdmkeeilaaDoor
open Go.RowKit
set_option linter.unusedVariables false
/-- an entry is valid -/
def VEnt (e : Ent) : Prop := (1 ≤ e.f ∧ e.f ≤ 1125899906842624) ∧ (1 ≤ e.v ∧ e.v ≤ 1125899906842624) ∧ (0 ≤ e.o ∧ e.o ≤ 4096) ∧ (0 ≤ e.n ∧ e.n ≤ 4096) ∧ e.o + e.n ≤ 4096
def VPlc (h : Hdr) : Prop :=
  if h.st = 0 then (h.kd ≠ 1 ∧ h.ix = 0 ∧ h.da = 0 ∧ h.pa = 0) else
    ((1 ≤ h.st ∧ h.st ≤ 1125899906842624) ∧ h.kd ≠ 2 ∧ (1 ≤ h.da ∧ h.da ≤ 16) ∧ (0 ≤ h.pa ∧ h.pa ≤ 16) ∧ h.da + h.pa ≤ 16 ∧
      if h.kd = 0 then (0 ≤ h.ix ∧ h.ix ≤ h.da - 1) else (h.da ≤ h.ix ∧ h.ix ≤ h.da + h.pa - 1))
/-- the lengths of some entries -/
def sumE : List Ent → Int
  | [] => 0
  | e :: l => e.n + sumE l
def VNum (h : Hdr) : Prop := (0 ≤ h.kd ∧ h.kd ≤ 2) ∧ (1 ≤ h.vr ∧ h.vr ≤ 2) ∧ (0 ≤ h.cm ∧ h.cm ≤ 1125899906842624) ∧ (0 ≤ h.sz ∧ h.sz ≤ 262144)
def VId (h : Hdr) : Prop := if h.kd = 2 then h.id = 0 else (1 ≤ h.id ∧ h.id ≤ 1125899906842624)
def VEs (h : Hdr) : Prop := if h.kd ≠ 0 then h.es = [] else (h.es.length ≤ 64 ∧ (∀ e ∈ h.es, VEnt e) ∧ sumE h.es = h.sz)
/-- a header is valid -/
def VHdr (h : Hdr) : Prop := VNum h ∧ VPlc h ∧ VId h ∧ VEs h
open Classical in
noncomputable def entB (e : Ent) : Bool := decide (VEnt e)
open Classical in
noncomputable def plcB (h : Hdr) : Bool := decide (VPlc h)
open Classical in
noncomputable def vldH (h : Hdr) : Bool := decide (VHdr h)
open Classical in
theorem entB_yes {e : Ent} (h : VEnt e) : entB e = true := by unfold entB; exact decide_eq_true h
open Classical in
theorem entB_no {e : Ent} (h : ¬ VEnt e) : entB e = false := by unfold entB; exact decide_eq_false h
open Classical in
theorem plcB_yes {e : Hdr} (h : VPlc e) : plcB e = true := by unfold plcB; exact decide_eq_true h
open Classical in
theorem plcB_no {e : Hdr} (h : ¬ VPlc e) : plcB e = false := by unfold plcB; exact decide_eq_false h
open Classical in
theorem vldH_yes {e : Hdr} (h : VHdr e) : vldH e = true := by unfold vldH; exact decide_eq_true h
open Classical in
theorem vldH_no {e : Hdr} (h : ¬ VHdr e) : vldH e = false := by unfold vldH; exact decide_eq_false h
open Classical in
theorem entB_iff {e : Ent} : entB e = true ↔ VEnt e := by unfold entB; exact decide_eq_true_iff
open Classical in
theorem plcB_iff {e : Hdr} : plcB e = true ↔ VPlc e := by unfold plcB; exact decide_eq_true_iff
open Classical in
theorem vldH_iff {e : Hdr} : vldH e = true ↔ VHdr e := by unfold vldH; exact decide_eq_true_iff
theorem eq_t {a b : Int} (h : a = b) : (a == b) = true := by rw [beq_iff_eq]; exact h
theorem eq_f {a b : Int} (h : a ≠ b) : (a == b) = false := by rw [beq_eq_false_iff_ne]; exact h
theorem ne_t {a b : Int} (h : a ≠ b) : (a != b) = true := by rw [bne_iff_ne]; exact h
theorem ne_f {a b : Int} (h : a = b) : (a != b) = false := by subst h; simp
set_option maxRecDepth 100000 in
set_option maxHeartbeats 400000 in
theorem in_yes (n lo hi : Int) (w : World) (h : lo ≤ n ∧ n ≤ hi) :
    Calls Tryd.prog 49 #[.int .i64 n, .int .i64 lo, .int .i64 hi] w fun e w' => e = .returned (.bool true) ∧ w = w' := by
  obtain ⟨h1, h2⟩ := h
  have d2 : decide (n ≤ hi) = true := decide_eq_true h2
  go_enter Tryd.func49, Tryd.ntmps49
  go_wp2
  go_ret
  exact ⟨by first | simp | simp [d2], rfl⟩
set_option maxRecDepth 100000 in
set_option maxHeartbeats 400000 in
theorem in_no (n lo hi : Int) (w : World) (h : ¬ (lo ≤ n ∧ n ≤ hi)) :
    Calls Tryd.prog 49 #[.int .i64 n, .int .i64 lo, .int .i64 hi] w fun e w' => e = .returned (.bool false) ∧ w = w' := by
  by_cases h1 : lo ≤ n
  · have d2 : decide (n ≤ hi) = false := decide_eq_false (fun h2 => h ⟨h1, h2⟩)
    clear h
    go_enter Tryd.func49, Tryd.ntmps49
    go_wp2
    go_ret
    exact ⟨by first | simp | simp [d2], rfl⟩
  · clear h
    go_enter Tryd.func49, Tryd.ntmps49
    go_wp2
    go_ret
    exact ⟨rfl, rfl⟩
set_option maxRecDepth 100000 in
set_option maxHeartbeats 1000000 in
theorem rentry_any (x : Ent) (w : World) (hs : x.s < 4294967296) :
    Calls Tryd.prog 51 #[enV x] w fun e w' => e = .returned (.bool (entB x)) ∧ Below w.heap.size w w' := by
  have HY := Lib.hid (@entB_yes x)
  have HN := Lib.hid (@entB_no x)
  unfold VEnt at HY HN
  obtain ⟨f, v, o, n, s⟩ := x
  dsimp only at HY HN ⊢
  generalize entB ⟨f, v, o, n, s⟩ = V at *
  by_cases g0 : 1 ≤ f ∧ f ≤ 1125899906842624
  rotate_left
  · have HR := Lib.hid (HN.out (by omega))
    clear HY HN
    go_enter Tryd.func51, Tryd.ntmps51
    go_wp2_with (go_at_call 49; first | ((with_reducible refine (in_yes _ _ _ _ (by omega)).mono ?_); rintro e w' ⟨rfl, rfl⟩) | ((with_reducible refine (in_no _ _ _ _ (by omega)).mono ?_); rintro e w' ⟨rfl, rfl⟩))
    go_ret
    exact ⟨by rw [HR.out]; try rfl, co_box1 _ _⟩
  by_cases g1 : 1 ≤ v ∧ v ≤ 1125899906842624
  rotate_left
  · have HR := Lib.hid (HN.out (by omega))
    clear HY HN
    go_enter Tryd.func51, Tryd.ntmps51
    go_wp2_with (go_at_call 49; first | ((with_reducible refine (in_yes _ _ _ _ (by omega)).mono ?_); rintro e w' ⟨rfl, rfl⟩) | ((with_reducible refine (in_no _ _ _ _ (by omega)).mono ?_); rintro e w' ⟨rfl, rfl⟩))
    go_ret
    exact ⟨by rw [HR.out]; try rfl, co_box1 _ _⟩
  by_cases g2 : 0 ≤ o ∧ o ≤ 4096
  rotate_left
  · have HR := Lib.hid (HN.out (by omega))
    clear HY HN
    go_enter Tryd.func51, Tryd.ntmps51
    go_wp2_with (go_at_call 49; first | ((with_reducible refine (in_yes _ _ _ _ (by omega)).mono ?_); rintro e w' ⟨rfl, rfl⟩) | ((with_reducible refine (in_no _ _ _ _ (by omega)).mono ?_); rintro e w' ⟨rfl, rfl⟩))
    go_ret
    exact ⟨by rw [HR.out]; try rfl, co_box1 _ _⟩
  by_cases g3 : 0 ≤ n ∧ n ≤ 4096
  rotate_left
  · have HR := Lib.hid (HN.out (by omega))
    clear HY HN
    go_enter Tryd.func51, Tryd.ntmps51
    go_wp2_with (go_at_call 49; first | ((with_reducible refine (in_yes _ _ _ _ (by omega)).mono ?_); rintro e w' ⟨rfl, rfl⟩) | ((with_reducible refine (in_no _ _ _ _ (by omega)).mono ?_); rintro e w' ⟨rfl, rfl⟩))
    go_ret
    exact ⟨by rw [HR.out]; try rfl, co_box1 _ _⟩
  by_cases g4 : o + n ≤ 4096
  rotate_left
  · have HR := Lib.hid (HN.out (by omega))
    have d4 : decide (o + n ≤ 4096) = false := decide_eq_false g4
    clear HY HN
    go_enter Tryd.func51, Tryd.ntmps51
    go_wp2_with (go_at_call 49; first | ((with_reducible refine (in_yes _ _ _ _ (by omega)).mono ?_); rintro e w' ⟨rfl, rfl⟩) | ((with_reducible refine (in_no _ _ _ _ (by omega)).mono ?_); rintro e w' ⟨rfl, rfl⟩))
    go_ret
    exact ⟨by rw [HR.out]; try rfl, co_box1 _ _⟩
  have HR := Lib.hid (HY.out (by omega))
  have d4 : decide (o + n ≤ 4096) = true := decide_eq_true g4
  clear HY HN
  go_enter Tryd.func51, Tryd.ntmps51
  go_wp2_with (go_at_call 49; first | ((with_reducible refine (in_yes _ _ _ _ (by omega)).mono ?_); rintro e w' ⟨rfl, rfl⟩) | ((with_reducible refine (in_no _ _ _ _ (by omega)).mono ?_); rintro e w' ⟨rfl, rfl⟩))
  go_ret
  exact ⟨by rw [HR.out]; try rfl, co_box1 _ _⟩
set_option maxRecDepth 100000 in
set_option maxHeartbeats 2000000 in
theorem rplaceh_any (h : Hdr) (ad : Option Addr) (n cap : Nat) (w : World) :
    Calls Tryd.prog 50 #[hdV h ad n cap] w fun e w' => e = .returned (.bool (plcB h)) ∧ Below w.heap.size w w' := by
  have HY := Lib.hid (@plcB_yes h)
  have HN := Lib.hid (@plcB_no h)
  unfold VPlc at HY HN
  obtain ⟨id, kd, vr, st, ix, da, pa, cm, es, sz, sm⟩ := h
  dsimp only at HY HN ⊢
  generalize plcB ⟨id, kd, vr, st, ix, da, pa, cm, es, sz, sm⟩ = V at *
  by_cases g0 : st = 0
  · replace HY := Lib.hid (fun h => HY.out (by rw [if_pos g0]; exact h))
    replace HN := Lib.hid (fun h => HN.out (by rw [if_pos g0]; exact h))
    have k0 := eq_t g0
    by_cases q0 : kd ≠ 1
    rotate_left
    · have HR := Lib.hid (HN.out (by omega))
      have b0 := eq_t (Decidable.not_not.1 q0)
      have c0 := ne_f (Decidable.not_not.1 q0)
      clear HY HN
      go_enter Tryd.func50, Tryd.ntmps50
      go_wp2_with (go_at_call 49; first | ((with_reducible refine (in_yes _ _ _ _ (by omega)).mono ?_); rintro e w' ⟨rfl, rfl⟩) | ((with_reducible refine (in_no _ _ _ _ (by omega)).mono ?_); rintro e w' ⟨rfl, rfl⟩))
      go_ret
      exact ⟨by rw [HR.out]; try rfl, co_box1 _ _⟩
    have b0 := eq_f q0
    have c0 := ne_t q0
    by_cases q1 : ix = 0
    rotate_left
    · have HR := Lib.hid (HN.out (by omega))
      have b1 := eq_f q1
      have c1 := ne_t q1
      clear HY HN
      go_enter Tryd.func50, Tryd.ntmps50
      go_wp2_with (go_at_call 49; first | ((with_reducible refine (in_yes _ _ _ _ (by omega)).mono ?_); rintro e w' ⟨rfl, rfl⟩) | ((with_reducible refine (in_no _ _ _ _ (by omega)).mono ?_); rintro e w' ⟨rfl, rfl⟩))
      go_ret
      exact ⟨by rw [HR.out]; try rfl, co_box1 _ _⟩
    have b1 := eq_t q1
    have c1 := ne_f q1
    by_cases q2 : da = 0
    rotate_left
    · have HR := Lib.hid (HN.out (by omega))
      have b2 := eq_f q2
      have c2 := ne_t q2
      clear HY HN
      go_enter Tryd.func50, Tryd.ntmps50
      go_wp2_with (go_at_call 49; first | ((with_reducible refine (in_yes _ _ _ _ (by omega)).mono ?_); rintro e w' ⟨rfl, rfl⟩) | ((with_reducible refine (in_no _ _ _ _ (by omega)).mono ?_); rintro e w' ⟨rfl, rfl⟩))
      go_ret
      exact ⟨by rw [HR.out]; try rfl, co_box1 _ _⟩
    have b2 := eq_t q2
    have c2 := ne_f q2
    by_cases q3 : pa = 0
    rotate_left
    · have HR := Lib.hid (HN.out (by omega))
      have b3 := eq_f q3
      have c3 := ne_t q3
      clear HY HN
      go_enter Tryd.func50, Tryd.ntmps50
      go_wp2_with (go_at_call 49; first | ((with_reducible refine (in_yes _ _ _ _ (by omega)).mono ?_); rintro e w' ⟨rfl, rfl⟩) | ((with_reducible refine (in_no _ _ _ _ (by omega)).mono ?_); rintro e w' ⟨rfl, rfl⟩))
      go_ret
      exact ⟨by rw [HR.out]; try rfl, co_box1 _ _⟩
    have b3 := eq_t q3
    have c3 := ne_f q3
    have HR := Lib.hid (HY.out (by omega))
    clear HY HN
    go_enter Tryd.func50, Tryd.ntmps50
    go_wp2_with (go_at_call 49; first | ((with_reducible refine (in_yes _ _ _ _ (by omega)).mono ?_); rintro e w' ⟨rfl, rfl⟩) | ((with_reducible refine (in_no _ _ _ _ (by omega)).mono ?_); rintro e w' ⟨rfl, rfl⟩))
    go_ret
    exact ⟨by rw [HR.out]; try rfl, co_box1 _ _⟩
  replace HY := Lib.hid (fun h => HY.out (by rw [if_neg g0]; exact h))
  replace HN := Lib.hid (fun h => HN.out (by rw [if_neg g0]; exact h))
  have k0 := eq_f g0
  by_cases q0 : 1 ≤ st ∧ st ≤ 1125899906842624
  rotate_left
  · have HR := Lib.hid (HN.out (by omega))
    clear HY HN
    go_enter Tryd.func50, Tryd.ntmps50
    go_wp2_with (go_at_call 49; first | ((with_reducible refine (in_yes _ _ _ _ (by omega)).mono ?_); rintro e w' ⟨rfl, rfl⟩) | ((with_reducible refine (in_no _ _ _ _ (by omega)).mono ?_); rintro e w' ⟨rfl, rfl⟩))
    go_ret
    exact ⟨by rw [HR.out]; try rfl, co_box1 _ _⟩
  by_cases q1 : kd ≠ 2
  rotate_left
  · have HR := Lib.hid (HN.out (by omega))
    have b1 := eq_t (Decidable.not_not.1 q1)
    have c1 := ne_f (Decidable.not_not.1 q1)
    clear HY HN
    go_enter Tryd.func50, Tryd.ntmps50
    go_wp2_with (go_at_call 49; first | ((with_reducible refine (in_yes _ _ _ _ (by omega)).mono ?_); rintro e w' ⟨rfl, rfl⟩) | ((with_reducible refine (in_no _ _ _ _ (by omega)).mono ?_); rintro e w' ⟨rfl, rfl⟩))
    go_ret
    exact ⟨by rw [HR.out]; try rfl, co_box1 _ _⟩
  have b1 := eq_f q1
  have c1 := ne_t q1
  by_cases q2 : 1 ≤ da ∧ da ≤ 16
  rotate_left
  · have HR := Lib.hid (HN.out (by omega))
    clear HY HN
    go_enter Tryd.func50, Tryd.ntmps50
    go_wp2_with (go_at_call 49; first | ((with_reducible refine (in_yes _ _ _ _ (by omega)).mono ?_); rintro e w' ⟨rfl, rfl⟩) | ((with_reducible refine (in_no _ _ _ _ (by omega)).mono ?_); rintro e w' ⟨rfl, rfl⟩))
    go_ret
    exact ⟨by rw [HR.out]; try rfl, co_box1 _ _⟩
  by_cases q3 : 0 ≤ pa ∧ pa ≤ 16
  rotate_left
  · have HR := Lib.hid (HN.out (by omega))
    clear HY HN
    go_enter Tryd.func50, Tryd.ntmps50
    go_wp2_with (go_at_call 49; first | ((with_reducible refine (in_yes _ _ _ _ (by omega)).mono ?_); rintro e w' ⟨rfl, rfl⟩) | ((with_reducible refine (in_no _ _ _ _ (by omega)).mono ?_); rintro e w' ⟨rfl, rfl⟩))
    go_ret
    exact ⟨by rw [HR.out]; try rfl, co_box1 _ _⟩
  by_cases q4 : da + pa ≤ 16
  rotate_left
  · have HR := Lib.hid (HN.out (by omega))
    have d4 : decide (16 < da + pa) = true := decide_eq_true (by omega)
    clear HY HN
    go_enter Tryd.func50, Tryd.ntmps50
    go_wp2_with (go_at_call 49; first | ((with_reducible refine (in_yes _ _ _ _ (by omega)).mono ?_); rintro e w' ⟨rfl, rfl⟩) | ((with_reducible refine (in_no _ _ _ _ (by omega)).mono ?_); rintro e w' ⟨rfl, rfl⟩))
    go_ret
    exact ⟨by rw [HR.out]; try rfl, co_box1 _ _⟩
  have d4 : decide (16 < da + pa) = false := decide_eq_false (by omega)
  by_cases q5 : kd = 0
  · have b5 := eq_t q5
    by_cases q6 : 0 ≤ ix ∧ ix ≤ da - 1
    · have HR := Lib.hid (HY.out ⟨q0, q1, q2, q3, q4, by rw [if_pos q5]; exact q6⟩)
      clear HY HN
      go_enter Tryd.func50, Tryd.ntmps50
      go_wp2_with (go_at_call 49; first | ((with_reducible refine (in_yes _ _ _ _ (by omega)).mono ?_); rintro e w' ⟨rfl, rfl⟩) | ((with_reducible refine (in_no _ _ _ _ (by omega)).mono ?_); rintro e w' ⟨rfl, rfl⟩))
      go_ret
      exact ⟨by rw [HR.out]; try rfl, co_box1 _ _⟩
    · have HR := Lib.hid (HN.out (fun h => q6 (by have := h.2.2.2.2.2; rwa [if_pos q5] at this)))
      clear HY HN
      go_enter Tryd.func50, Tryd.ntmps50
      go_wp2_with (go_at_call 49; first | ((with_reducible refine (in_yes _ _ _ _ (by omega)).mono ?_); rintro e w' ⟨rfl, rfl⟩) | ((with_reducible refine (in_no _ _ _ _ (by omega)).mono ?_); rintro e w' ⟨rfl, rfl⟩))
      go_ret
      exact ⟨by rw [HR.out]; try rfl, co_box1 _ _⟩
  · have b5 := eq_f q5
    by_cases q6 : da ≤ ix ∧ ix ≤ da + pa - 1
    · have HR := Lib.hid (HY.out ⟨q0, q1, q2, q3, q4, by rw [if_neg q5]; exact q6⟩)
      clear HY HN
      go_enter Tryd.func50, Tryd.ntmps50
      go_wp2_with (go_at_call 49; first | ((with_reducible refine (in_yes _ _ _ _ (by omega)).mono ?_); rintro e w' ⟨rfl, rfl⟩) | ((with_reducible refine (in_no _ _ _ _ (by omega)).mono ?_); rintro e w' ⟨rfl, rfl⟩))
      go_ret
      exact ⟨by rw [HR.out]; try rfl, co_box1 _ _⟩
    · have HR := Lib.hid (HN.out (fun h => q6 (by have := h.2.2.2.2.2; rwa [if_neg q5] at this)))
      clear HY HN
      go_enter Tryd.func50, Tryd.ntmps50
      go_wp2_with (go_at_call 49; first | ((with_reducible refine (in_yes _ _ _ _ (by omega)).mono ?_); rintro e w' ⟨rfl, rfl⟩) | ((with_reducible refine (in_no _ _ _ _ (by omega)).mono ?_); rintro e w' ⟨rfl, rfl⟩))
      go_ret
      exact ⟨by rw [HR.out]; try rfl, co_box1 _ _⟩
end Go.Proofs.YtjiijjdmkeeilaaDoor
namespace Go.Proofs.YtjiijjdmkeeilaaDoor
open Go.RowKit
theorem wpList_unguard {P : Program} {ops : Array Oper} {rest : List Oper} {o : Oper} {a : Act} {w : World} {Q : Exit → Act → World → Prop} (hw : Region.wanted o (yielded ops a.tmps) = true)
    (h : wpList P ops Q ({ o with guard := none } :: rest) a w) : wpList P ops Q (o :: rest) a w := by
  unfold wpList at h ⊢
  rw [if_pos hw]
  rw [if_pos (show Region.wanted { o with guard := none } (yielded ops a.tmps) = true from rfl)] at h
  exact h
end Go.Proofs.YtjiijjdmkeeilaaDoor
