/-
  The program's within, outside, hasNumbers, hasPlace.
-/
import Derived.Test.YtjiijjdmkeeilaaDoorCAB
import Derived.IntWalk
namespace Go.Proofs.YtjiijjdmkeeilaaDoor
open Go.RowKit
set_option linter.unusedVariables false
set_option maxRecDepth 100000 in
set_option maxHeartbeats 400000 in
theorem win_yes (n lo hi : Int) (w : World) (h : lo ≤ n ∧ n ≤ hi) :
    Calls Tryd.prog 66 #[.int .i64 n, .int .i64 lo, .int .i64 hi] w fun e w' => e = .returned (.bool true) ∧ w = w' := by
  obtain ⟨h1, h2⟩ := h
  have d1 : decide (lo ≤ n) = true := decide_eq_true h1
  have d2 : decide (n ≤ hi) = true := decide_eq_true h2
  go_enter Tryd.func66, Tryd.ntmps66
  go_wp2
  go_ret
  exact ⟨by first | simp | simp [d2], rfl⟩
set_option maxRecDepth 100000 in
set_option maxHeartbeats 400000 in
theorem win_no (n lo hi : Int) (w : World) (h : ¬ (lo ≤ n ∧ n ≤ hi)) :
    Calls Tryd.prog 66 #[.int .i64 n, .int .i64 lo, .int .i64 hi] w fun e w' => e = .returned (.bool false) ∧ w = w' := by
  by_cases h1 : lo ≤ n
  · have d2 : decide (n ≤ hi) = false := decide_eq_false (fun h2 => h ⟨h1, h2⟩)
    clear h
    go_enter Tryd.func66, Tryd.ntmps66
    go_wp2
    go_ret
    exact ⟨by first | simp | simp [d2], rfl⟩
  · clear h
    go_enter Tryd.func66, Tryd.ntmps66
    go_wp2
    go_ret
    exact ⟨rfl, rfl⟩
set_option maxRecDepth 100000 in
set_option maxHeartbeats 1000000 in
/-- outside: an entry that is not valid -/
theorem outside_any (x : Ent) (w : World) (hs : x.s < 4294967296) :
    Calls Tryd.prog 80 #[enV x] w fun e w' => e = .returned (.bool (!entB x)) ∧ Below w.heap.size w w' := by
  have HY := Lib.hid (@entB_yes x)
  have HN := Lib.hid (@entB_no x)
  unfold VEnt at HY HN
  obtain ⟨f, v, o, n, s⟩ := x
  dsimp only at HY HN ⊢
  generalize entB ⟨f, v, o, n, s⟩ = V at *
  by_cases g0 : 1 ≤ f ∧ f ≤ 1125899906842624
  rotate_left
  · have HR := Lib.hid (HN.out (by omega))
    clear HY HN
    go_enter Tryd.func80, Tryd.ntmps80
    go_wp2_with (go_at_call 66; first | ((with_reducible refine (win_yes _ _ _ _ (by omega)).mono ?_); rintro e w' ⟨rfl, rfl⟩) | ((with_reducible refine (win_no _ _ _ _ (by omega)).mono ?_); rintro e w' ⟨rfl, rfl⟩))
    go_ret
    exact ⟨by rw [HR.out]; try rfl, co_box1 _ _⟩
  by_cases g1 : 1 ≤ v ∧ v ≤ 1125899906842624
  rotate_left
  · have HR := Lib.hid (HN.out (by omega))
    clear HY HN
    go_enter Tryd.func80, Tryd.ntmps80
    go_wp2_with (go_at_call 66; first | ((with_reducible refine (win_yes _ _ _ _ (by omega)).mono ?_); rintro e w' ⟨rfl, rfl⟩) | ((with_reducible refine (win_no _ _ _ _ (by omega)).mono ?_); rintro e w' ⟨rfl, rfl⟩))
    go_ret
    exact ⟨by rw [HR.out]; try rfl, co_box1 _ _⟩
  by_cases g2 : 0 ≤ o ∧ o ≤ 4096
  rotate_left
  · have HR := Lib.hid (HN.out (by omega))
    clear HY HN
    go_enter Tryd.func80, Tryd.ntmps80
    go_wp2_with (go_at_call 66; first | ((with_reducible refine (win_yes _ _ _ _ (by omega)).mono ?_); rintro e w' ⟨rfl, rfl⟩) | ((with_reducible refine (win_no _ _ _ _ (by omega)).mono ?_); rintro e w' ⟨rfl, rfl⟩))
    go_ret
    exact ⟨by rw [HR.out]; try rfl, co_box1 _ _⟩
  have kw : IntKind.i64.wrap (4096 - o) = 4096 - o := IntWalk.i64_in _ (by omega)
  by_cases g3 : 0 ≤ n ∧ n ≤ 4096 - o
  rotate_left
  · have HR := Lib.hid (HN.out (by omega))
    clear HY HN
    go_enter Tryd.func80, Tryd.ntmps80
    go_wp2_with (go_at_call 66; first | ((with_reducible refine (win_yes _ _ _ _ (by omega)).mono ?_); rintro e w' ⟨rfl, rfl⟩) | ((with_reducible refine (win_no _ _ _ _ (by omega)).mono ?_); rintro e w' ⟨rfl, rfl⟩))
    go_ret
    exact ⟨by rw [HR.out]; try rfl, co_box1 _ _⟩
  have HR := Lib.hid (HY.out (by omega))
  clear HY HN
  go_enter Tryd.func80, Tryd.ntmps80
  go_wp2_with (go_at_call 66; first | ((with_reducible refine (win_yes _ _ _ _ (by omega)).mono ?_); rintro e w' ⟨rfl, rfl⟩) | ((with_reducible refine (win_no _ _ _ _ (by omega)).mono ?_); rintro e w' ⟨rfl, rfl⟩))
  go_ret
  exact ⟨by rw [HR.out]; try rfl, co_box1 _ _⟩
open Classical in
/-- the numbers that concern no erasure set -/
noncomputable def numB (h : Hdr) : Bool := decide (VNum h ∧ VId h)
open Classical in
theorem numB_yes {e : Hdr} (h : VNum e ∧ VId e) : numB e = true := by unfold numB; exact decide_eq_true h
open Classical in
theorem numB_no {e : Hdr} (h : ¬ (VNum e ∧ VId e)) : numB e = false := by unfold numB; exact decide_eq_false h
open Classical in
theorem numB_iff {e : Hdr} : numB e = true ↔ VNum e ∧ VId e := by unfold numB; exact decide_eq_true_iff
set_option maxRecDepth 100000 in
set_option maxHeartbeats 2000000 in
theorem hasnum_any (h : Hdr) (ad : Option Addr) (n cap : Nat) (w : World) :
    Calls Tryd.prog 46 #[hdV h ad n cap] w fun e w' => e = .returned (.bool (numB h)) ∧ Below w.heap.size w w' := by
  have HY := Lib.hid (@numB_yes h)
  have HN := Lib.hid (@numB_no h)
  unfold VNum VId at HY HN
  obtain ⟨id, kd, vr, st, ix, da, pa, cm, es, sz, sm⟩ := h
  dsimp only at HY HN ⊢
  generalize numB ⟨id, kd, vr, st, ix, da, pa, cm, es, sz, sm⟩ = V at *
  by_cases g0 : kd = 2
  · replace HY := Lib.hid (fun h => HY.out (by rw [if_pos g0]; exact h))
    replace HN := Lib.hid (fun h => HN.out (by rw [if_pos g0]; exact h))
    have k0 := eq_t g0
    have g2 : 2 ≤ kd ∧ kd ≤ 2 := by omega
    clear g0
    have q0 : 0 ≤ kd ∧ kd ≤ 2 := by omega
    by_cases q1 : 1 ≤ vr ∧ vr ≤ 2
    rotate_left
    · have HR := Lib.hid (HN.out (by omega))
      clear HY HN
      go_enter Tryd.func46, Tryd.ntmps46
      go_wp2_with (go_at_call 66; first | ((with_reducible refine (win_yes _ _ _ _ (by omega)).mono ?_); rintro e w' ⟨rfl, rfl⟩) | ((with_reducible refine (win_no _ _ _ _ (by omega)).mono ?_); rintro e w' ⟨rfl, rfl⟩))
      go_ret
      exact ⟨by rw [HR.out]; try rfl, co_box1 _ _⟩
    by_cases q2 : 0 ≤ cm ∧ cm ≤ 1125899906842624
    rotate_left
    · have HR := Lib.hid (HN.out (by omega))
      clear HY HN
      go_enter Tryd.func46, Tryd.ntmps46
      go_wp2_with (go_at_call 66; first | ((with_reducible refine (win_yes _ _ _ _ (by omega)).mono ?_); rintro e w' ⟨rfl, rfl⟩) | ((with_reducible refine (win_no _ _ _ _ (by omega)).mono ?_); rintro e w' ⟨rfl, rfl⟩))
      go_ret
      exact ⟨by rw [HR.out]; try rfl, co_box1 _ _⟩
    by_cases q3 : 0 ≤ id ∧ id ≤ 0
    rotate_left
    · have HR := Lib.hid (HN.out (by omega))
      clear HY HN
      go_enter Tryd.func46, Tryd.ntmps46
      go_wp2_with (go_at_call 66; first | ((with_reducible refine (win_yes _ _ _ _ (by omega)).mono ?_); rintro e w' ⟨rfl, rfl⟩) | ((with_reducible refine (win_no _ _ _ _ (by omega)).mono ?_); rintro e w' ⟨rfl, rfl⟩))
      go_ret
      exact ⟨by rw [HR.out]; try rfl, co_box1 _ _⟩
    by_cases q4 : 0 ≤ sz ∧ sz ≤ 262144
    rotate_left
    · have HR := Lib.hid (HN.out (by omega))
      clear HY HN
      go_enter Tryd.func46, Tryd.ntmps46
      go_wp2_with (go_at_call 66; first | ((with_reducible refine (win_yes _ _ _ _ (by omega)).mono ?_); rintro e w' ⟨rfl, rfl⟩) | ((with_reducible refine (win_no _ _ _ _ (by omega)).mono ?_); rintro e w' ⟨rfl, rfl⟩))
      go_ret
      exact ⟨by rw [HR.out]; try rfl, co_box1 _ _⟩
    have HR := Lib.hid (HY.out (by omega))
    clear HY HN
    go_enter Tryd.func46, Tryd.ntmps46
    go_wp2_with (go_at_call 66; first | ((with_reducible refine (win_yes _ _ _ _ (by omega)).mono ?_); rintro e w' ⟨rfl, rfl⟩) | ((with_reducible refine (win_no _ _ _ _ (by omega)).mono ?_); rintro e w' ⟨rfl, rfl⟩))
    go_ret
    exact ⟨by rw [HR.out]; try rfl, co_box1 _ _⟩
  · replace HY := Lib.hid (fun h => HY.out (by rw [if_neg g0]; exact h))
    replace HN := Lib.hid (fun h => HN.out (by rw [if_neg g0]; exact h))
    have k0 := eq_f g0
    by_cases q0 : 0 ≤ kd ∧ kd ≤ 2
    rotate_left
    · have HR := Lib.hid (HN.out (by omega))
      clear HY HN
      go_enter Tryd.func46, Tryd.ntmps46
      go_wp2_with (go_at_call 66; first | ((with_reducible refine (win_yes _ _ _ _ (by omega)).mono ?_); rintro e w' ⟨rfl, rfl⟩) | ((with_reducible refine (win_no _ _ _ _ (by omega)).mono ?_); rintro e w' ⟨rfl, rfl⟩))
      go_ret
      exact ⟨by rw [HR.out]; try rfl, co_box1 _ _⟩
    by_cases q1 : 1 ≤ vr ∧ vr ≤ 2
    rotate_left
    · have HR := Lib.hid (HN.out (by omega))
      clear HY HN
      go_enter Tryd.func46, Tryd.ntmps46
      go_wp2_with (go_at_call 66; first | ((with_reducible refine (win_yes _ _ _ _ (by omega)).mono ?_); rintro e w' ⟨rfl, rfl⟩) | ((with_reducible refine (win_no _ _ _ _ (by omega)).mono ?_); rintro e w' ⟨rfl, rfl⟩))
      go_ret
      exact ⟨by rw [HR.out]; try rfl, co_box1 _ _⟩
    by_cases q2 : 0 ≤ cm ∧ cm ≤ 1125899906842624
    rotate_left
    · have HR := Lib.hid (HN.out (by omega))
      clear HY HN
      go_enter Tryd.func46, Tryd.ntmps46
      go_wp2_with (go_at_call 66; first | ((with_reducible refine (win_yes _ _ _ _ (by omega)).mono ?_); rintro e w' ⟨rfl, rfl⟩) | ((with_reducible refine (win_no _ _ _ _ (by omega)).mono ?_); rintro e w' ⟨rfl, rfl⟩))
      go_ret
      exact ⟨by rw [HR.out]; try rfl, co_box1 _ _⟩
    by_cases q3 : 1 ≤ id ∧ id ≤ 1125899906842624
    rotate_left
    · have HR := Lib.hid (HN.out (by omega))
      clear HY HN
      go_enter Tryd.func46, Tryd.ntmps46
      go_wp2_with (go_at_call 66; first | ((with_reducible refine (win_yes _ _ _ _ (by omega)).mono ?_); rintro e w' ⟨rfl, rfl⟩) | ((with_reducible refine (win_no _ _ _ _ (by omega)).mono ?_); rintro e w' ⟨rfl, rfl⟩))
      go_ret
      exact ⟨by rw [HR.out]; try rfl, co_box1 _ _⟩
    by_cases q4 : 0 ≤ sz ∧ sz ≤ 262144
    rotate_left
    · have HR := Lib.hid (HN.out (by omega))
      clear HY HN
      go_enter Tryd.func46, Tryd.ntmps46
      go_wp2_with (go_at_call 66; first | ((with_reducible refine (win_yes _ _ _ _ (by omega)).mono ?_); rintro e w' ⟨rfl, rfl⟩) | ((with_reducible refine (win_no _ _ _ _ (by omega)).mono ?_); rintro e w' ⟨rfl, rfl⟩))
      go_ret
      exact ⟨by rw [HR.out]; try rfl, co_box1 _ _⟩
    have HR := Lib.hid (HY.out (by omega))
    clear HY HN
    go_enter Tryd.func46, Tryd.ntmps46
    go_wp2_with (go_at_call 66; first | ((with_reducible refine (win_yes _ _ _ _ (by omega)).mono ?_); rintro e w' ⟨rfl, rfl⟩) | ((with_reducible refine (win_no _ _ _ _ (by omega)).mono ?_); rintro e w' ⟨rfl, rfl⟩))
    go_ret
    exact ⟨by rw [HR.out]; try rfl, co_box1 _ _⟩
set_option maxRecDepth 100000 in
set_option maxHeartbeats 2000000 in
theorem hasplace_any (h : Hdr) (ad : Option Addr) (n cap : Nat) (w : World) (hk : 0 ≤ h.kd ∧ h.kd ≤ 2) :
    Calls Tryd.prog 47 #[hdV h ad n cap] w fun e w' => e = .returned (.bool (plcB h)) ∧ Below w.heap.size w w' := by
  have HY := Lib.hid (@plcB_yes h)
  have HN := Lib.hid (@plcB_no h)
  unfold VPlc at HY HN
  obtain ⟨id, kd, vr, st, ix, da, pa, cm, es, sz, sm⟩ := h
  dsimp only at HY HN hk ⊢
  generalize plcB ⟨id, kd, vr, st, ix, da, pa, cm, es, sz, sm⟩ = V at *
  by_cases g0 : st = 0
  · replace HY := Lib.hid (fun h => HY.out (by rw [if_pos g0]; exact h))
    replace HN := Lib.hid (fun h => HN.out (by rw [if_pos g0]; exact h))
    have k0 := eq_t g0
    by_cases q0 : kd ≠ 1
    rotate_left
    · have b0 := eq_t (Decidable.not_not.1 q0)
      have c0 := ne_f (Decidable.not_not.1 q0)
      have HR := Lib.hid (HN.out (by omega))
      clear HY HN
      go_enter Tryd.func47, Tryd.ntmps47
      go_wp2_with (go_at_call 66; first | ((with_reducible refine (win_yes _ _ _ _ (by omega)).mono ?_); rintro e w' ⟨rfl, rfl⟩) | ((with_reducible refine (win_no _ _ _ _ (by omega)).mono ?_); rintro e w' ⟨rfl, rfl⟩))
      go_ret
      exact ⟨by rw [HR.out]; try rfl, co_box1 _ _⟩
    have b0 := eq_f q0
    have c0 := ne_t q0
    by_cases q1 : ix = 0
    rotate_left
    · have b1 := eq_f q1
      have c1 := ne_t q1
      have HR := Lib.hid (HN.out (by omega))
      clear HY HN
      go_enter Tryd.func47, Tryd.ntmps47
      go_wp2_with (go_at_call 66; first | ((with_reducible refine (win_yes _ _ _ _ (by omega)).mono ?_); rintro e w' ⟨rfl, rfl⟩) | ((with_reducible refine (win_no _ _ _ _ (by omega)).mono ?_); rintro e w' ⟨rfl, rfl⟩))
      go_ret
      exact ⟨by rw [HR.out]; try rfl, co_box1 _ _⟩
    have b1 := eq_t q1
    have c1 := ne_f q1
    by_cases q2 : da = 0
    rotate_left
    · have b2 := eq_f q2
      have c2 := ne_t q2
      have HR := Lib.hid (HN.out (by omega))
      clear HY HN
      go_enter Tryd.func47, Tryd.ntmps47
      go_wp2_with (go_at_call 66; first | ((with_reducible refine (win_yes _ _ _ _ (by omega)).mono ?_); rintro e w' ⟨rfl, rfl⟩) | ((with_reducible refine (win_no _ _ _ _ (by omega)).mono ?_); rintro e w' ⟨rfl, rfl⟩))
      go_ret
      exact ⟨by rw [HR.out]; try rfl, co_box1 _ _⟩
    have b2 := eq_t q2
    have c2 := ne_f q2
    by_cases q3 : pa = 0
    rotate_left
    · have b3 := eq_f q3
      have c3 := ne_t q3
      have HR := Lib.hid (HN.out (by omega))
      clear HY HN
      go_enter Tryd.func47, Tryd.ntmps47
      go_wp2_with (go_at_call 66; first | ((with_reducible refine (win_yes _ _ _ _ (by omega)).mono ?_); rintro e w' ⟨rfl, rfl⟩) | ((with_reducible refine (win_no _ _ _ _ (by omega)).mono ?_); rintro e w' ⟨rfl, rfl⟩))
      go_ret
      exact ⟨by rw [HR.out]; try rfl, co_box1 _ _⟩
    have b3 := eq_t q3
    have c3 := ne_f q3
    have HR := Lib.hid (HY.out (by omega))
    clear HY HN
    go_enter Tryd.func47, Tryd.ntmps47
    go_wp2_with (go_at_call 66; first | ((with_reducible refine (win_yes _ _ _ _ (by omega)).mono ?_); rintro e w' ⟨rfl, rfl⟩) | ((with_reducible refine (win_no _ _ _ _ (by omega)).mono ?_); rintro e w' ⟨rfl, rfl⟩))
    go_ret
    exact ⟨by rw [HR.out]; try rfl, co_box1 _ _⟩
  replace HY := Lib.hid (fun h => HY.out (by rw [if_neg g0]; exact h))
  replace HN := Lib.hid (fun h => HN.out (by rw [if_neg g0]; exact h))
  have k0 := eq_f g0
  by_cases q0 : 1 ≤ st ∧ st ≤ 1125899906842624
  rotate_left
  · have HR := Lib.hid (HN.out (by omega))
    clear HY HN
    go_enter Tryd.func47, Tryd.ntmps47
    go_wp2_with (go_at_call 66; first | ((with_reducible refine (win_yes _ _ _ _ (by omega)).mono ?_); rintro e w' ⟨rfl, rfl⟩) | ((with_reducible refine (win_no _ _ _ _ (by omega)).mono ?_); rintro e w' ⟨rfl, rfl⟩))
    go_ret
    exact ⟨by rw [HR.out]; try rfl, co_box1 _ _⟩
  by_cases q1 : kd ≠ 2
  rotate_left
  · have b1 := eq_t (Decidable.not_not.1 q1)
    have c1 := ne_f (Decidable.not_not.1 q1)
    have HR := Lib.hid (HN.out (by omega))
    clear HY HN
    go_enter Tryd.func47, Tryd.ntmps47
    go_wp2_with (go_at_call 66; first | ((with_reducible refine (win_yes _ _ _ _ (by omega)).mono ?_); rintro e w' ⟨rfl, rfl⟩) | ((with_reducible refine (win_no _ _ _ _ (by omega)).mono ?_); rintro e w' ⟨rfl, rfl⟩))
    go_ret
    exact ⟨by rw [HR.out]; try rfl, co_box1 _ _⟩
  have b1 := eq_f q1
  have c1 := ne_t q1
  by_cases q2 : 1 ≤ da ∧ da ≤ 16
  rotate_left
  · have HR := Lib.hid (HN.out (by omega))
    clear HY HN
    go_enter Tryd.func47, Tryd.ntmps47
    go_wp2_with (go_at_call 66; first | ((with_reducible refine (win_yes _ _ _ _ (by omega)).mono ?_); rintro e w' ⟨rfl, rfl⟩) | ((with_reducible refine (win_no _ _ _ _ (by omega)).mono ?_); rintro e w' ⟨rfl, rfl⟩))
    go_ret
    exact ⟨by rw [HR.out]; try rfl, co_box1 _ _⟩
  have kw1 : IntKind.i64.wrap (16 - da) = 16 - da := IntWalk.i64_in _ (by omega)
  by_cases q3 : 0 ≤ pa ∧ pa ≤ 16 - da
  rotate_left
  · have HR := Lib.hid (HN.out (by omega))
    clear HY HN
    go_enter Tryd.func47, Tryd.ntmps47
    go_wp2_with (go_at_call 66; first | ((with_reducible refine (win_yes _ _ _ _ (by omega)).mono ?_); rintro e w' ⟨rfl, rfl⟩) | ((with_reducible refine (win_no _ _ _ _ (by omega)).mono ?_); rintro e w' ⟨rfl, rfl⟩))
    go_ret
    exact ⟨by rw [HR.out]; try rfl, co_box1 _ _⟩
  have kw2 : IntKind.i64.wrap (da + pa) = da + pa := IntWalk.i64_in _ (by omega)
  have kw3 : IntKind.i64.wrap (da + pa - 1) = da + pa - 1 := IntWalk.i64_in _ (by omega)
  have kw4 : IntKind.i64.wrap (da - 1) = da - 1 := IntWalk.i64_in _ (by omega)
  by_cases q5 : kd = 1
  · have b5 := eq_t q5
    by_cases q6 : da ≤ ix ∧ ix ≤ da + pa - 1
    rotate_left
    · have HR := Lib.hid (HN.out (fun hv => q6 (by have := hv.2.2.2.2.2; rwa [if_neg (by omega)] at this)))
      clear HY HN
      go_enter Tryd.func47, Tryd.ntmps47
      go_wp2_with (go_at_call 66; first | ((with_reducible refine (win_yes _ _ _ _ (by omega)).mono ?_); rintro e w' ⟨rfl, rfl⟩) | ((with_reducible refine (win_no _ _ _ _ (by omega)).mono ?_); rintro e w' ⟨rfl, rfl⟩))
      go_ret
      exact ⟨by rw [HR.out]; try rfl, co_box1 _ _⟩
    have HR := Lib.hid (HY.out ⟨q0, q1, q2, by omega, by omega, by rw [if_neg (by omega)]; exact q6⟩)
    clear HY HN
    go_enter Tryd.func47, Tryd.ntmps47
    go_wp2_with (go_at_call 66; first | ((with_reducible refine (win_yes _ _ _ _ (by omega)).mono ?_); rintro e w' ⟨rfl, rfl⟩) | ((with_reducible refine (win_no _ _ _ _ (by omega)).mono ?_); rintro e w' ⟨rfl, rfl⟩))
    go_ret
    exact ⟨by rw [HR.out]; try rfl, co_box1 _ _⟩
  · have b5 := eq_f q5
    by_cases q6 : 0 ≤ ix ∧ ix ≤ da - 1
    rotate_left
    · have HR := Lib.hid (HN.out (fun hv => q6 (by have := hv.2.2.2.2.2; rwa [if_pos (by omega)] at this)))
      clear HY HN
      go_enter Tryd.func47, Tryd.ntmps47
      go_wp2_with (go_at_call 66; first | ((with_reducible refine (win_yes _ _ _ _ (by omega)).mono ?_); rintro e w' ⟨rfl, rfl⟩) | ((with_reducible refine (win_no _ _ _ _ (by omega)).mono ?_); rintro e w' ⟨rfl, rfl⟩))
      go_ret
      exact ⟨by rw [HR.out]; try rfl, co_box1 _ _⟩
    have HR := Lib.hid (HY.out ⟨q0, q1, q2, by omega, by omega, by rw [if_pos (by omega)]; exact q6⟩)
    clear HY HN
    go_enter Tryd.func47, Tryd.ntmps47
    go_wp2_with (go_at_call 66; first | ((with_reducible refine (win_yes _ _ _ _ (by omega)).mono ?_); rintro e w' ⟨rfl, rfl⟩) | ((with_reducible refine (win_no _ _ _ _ (by omega)).mono ?_); rintro e w' ⟨rfl, rfl⟩))
    go_ret
    exact ⟨by rw [HR.out]; try rfl, co_box1 _ _⟩
end Go.Proofs.YtjiijjdmkeeilaaDoor
