/-
  The examples of the chapter: the function that checks them answers true, and lays new memory only.
-/
import Derived.Test.YtkeijphhcapkdaaGTimes
namespace Go.Proofs.Ytkeijphhcapkdaa
open Go.RowKit

theorem lit (n : Nat) (x : UInt8) (h : x.toNat = n) : ev x = (n : Int) := by rw [ev_nat, h]
theorem lie_new (W : World) (l : List UInt8) (C : Array Value) (t : TypeId) (hC : C.toList = l.map fun x => .int .u8 (ev x)) : Lie (W.alloc (.cells C t)) (some ⟨W.heap.size, 0, none⟩) l := by
  refine ⟨.inr ⟨W.heap.size, 0, rfl, by simp, fun j hj => ?_⟩⟩
  rw [Nat.zero_add, World.cell?_alloc_mark, ← ev_nat, ← Array.getElem?_toList, hC]
  simp [hj]
theorem inv_lit (w : World) : Calls Try.prog 14 #[.int .u8 2] w fun e w' => e = .returned (.tuple #[.int .u8 142, .bool true]) ∧ Below w.heap.size w w' := by
  have h := inv_any 2 w
  rwa [show invU 2 = 142 by decide +kernel, show nz 2 = true by decide +kernel, lit 2 2 rfl, lit 142 142 rfl] at h
theorem mul_lit1 (w : World) : Calls Try.prog 11 #[.int .u8 2, .int .u8 128] w fun e w' => e = .returned (.int .u8 29) ∧ w = w' := by
  have h := mul_any 2 128 w
  rwa [show mulU 2 128 = 29 by decide +kernel, lit 2 2 rfl, lit 128 128 rfl, lit 29 29 rfl] at h
theorem mul_lit2 (w : World) : Calls Try.prog 11 #[.int .u8 3, .int .u8 7] w fun e w' => e = .returned (.int .u8 9) ∧ w = w' := by
  have h := mul_any 3 7 w
  rwa [show mulU 3 7 = 9 by decide +kernel, lit 3 3 rfl, lit 7 7 rfl, lit 9 9 rfl] at h
theorem add_lit (w : World) : Calls Try.prog 10 #[.int .u8 3, .int .u8 1] w fun e w' => e = .returned (.int .u8 2) ∧ w = w' := by
  have h := add_any 3 1 w
  rwa [show (3 : UInt8) ^^^ 1 = 2 by decide +kernel, lit 3 3 rfl, lit 1 1 rfl, lit 2 2 rfl] at h
theorem pow_lit (w : World) : Calls Try.prog 17 #[.int .u8 2, .int .i64 8] w fun e w' => e = .returned (.int .u8 29) ∧ Below w.heap.size w w' := by
  have h := pow_any 2 8 w (by decide) (by decide)
  rwa [show powI 2 8 = 29 by decide +kernel, lit 2 2 rfl, lit 29 29 rfl] at h
theorem below_after {W w' : World} {o : Obj} (h : Below (W.alloc o).heap.size (W.alloc o) w') : Below W.heap.size W w' :=
  ((Below.refl _ _).alloc (Nat.le_refl _) o).trans (h.mono (by simp))
theorem eval_lit1 (W : World) (t : TypeId) (cap : Nat) : Calls Try.prog 19 #[.slice (some ⟨W.heap.size, 0, none⟩) 3 cap, .int .u8 7] (W.alloc (.cells #[.int .u8 14, .int .u8 5, .int .u8 1] t)) fun e w' => e = .returned (.int .u8 0) ∧ Below W.heap.size W w' := by
  have h := eval_any (some ⟨W.heap.size, 0, none⟩) cap [14, 5, 1] 7 (W.alloc (.cells #[.int .u8 14, .int .u8 5, .int .u8 1] t)) (lie_new W _ _ t (by rw [List.map, List.map, List.map, List.map, lit 14 14 rfl, lit 5 5 rfl, lit 1 1 rfl]; rfl)) (by decide)
  rw [show evalU [14, 5, 1] 7 = 0 by decide +kernel, lit 7 7 rfl, lit 0 0 rfl] at h
  exact h.mono fun e w' ⟨he, hb⟩ => ⟨he, below_after hb⟩
theorem eval_lit2 (W : World) (t : TypeId) (cap : Nat) : Calls Try.prog 19 #[.slice (some ⟨W.heap.size, 0, none⟩) 2 cap, .int .u8 2] (W.alloc (.cells #[.int .u8 3, .int .u8 1] t)) fun e w' => e = .returned (.int .u8 1) ∧ Below W.heap.size W w' := by
  have h := eval_any (some ⟨W.heap.size, 0, none⟩) cap [3, 1] 2 (W.alloc (.cells #[.int .u8 3, .int .u8 1] t)) (lie_new W _ _ t (by rw [List.map, List.map, List.map, lit 3 3 rfl, lit 1 1 rfl]; rfl)) (by decide)
  rw [show evalU [3, 1] 2 = 1 by decide +kernel, lit 2 2 rfl, lit 1 1 rfl] at h
  exact h.mono fun e w' ⟨he, hb⟩ => ⟨he, below_after hb⟩

set_option maxRecDepth 100000 in
set_option maxHeartbeats 1000000 in
theorem awake_any (w : World) :
    Calls Try.prog 12 #[] w fun e w' => e = .returned (.bool true) ∧ Below w.heap.size w w' := by
  go_enter Try.func12, Try.ntmps12
  go_wp2_with fail
  refine (inv_lit _).mono ?_
  rintro e w1 ⟨rfl, hb1⟩
  have HB1 := Lib.hid hb1
  clear hb1
  go_wp2_with fail
  refine (mul_lit1 _).mono ?_
  rintro e w' ⟨rfl, rfl⟩
  go_wp2_with fail
  refine (mul_lit2 _).mono ?_
  rintro e w' ⟨rfl, rfl⟩
  go_wp2_with fail
  refine (add_lit _).mono ?_
  rintro e w' ⟨rfl, rfl⟩
  go_wp2_with fail
  refine (eval_lit1 _ _ _).mono ?_
  rintro e w2 ⟨rfl, hb2⟩
  have HB2 : Hid (Below w.heap.size w w2) := Lib.hid (HB1.out.trans (hb2.mono HB1.out.size))
  clear hb2
  go_wp2_with fail
  refine (eval_lit2 _ _ _).mono ?_
  rintro e w3 ⟨rfl, hb3⟩
  have HB3 : Hid (Below w.heap.size w w3) := Lib.hid (HB2.out.trans (hb3.mono HB2.out.size))
  clear hb3
  go_wp2_with fail
  refine (pow_lit _).mono ?_
  rintro e w4 ⟨rfl, hb4⟩
  have HB4 : Hid (Below w.heap.size w w4) := Lib.hid (HB3.out.trans (hb4.mono HB3.out.size))
  clear hb4
  go_wp2
  go_ret
  exact ⟨rfl, HB4.out⟩
end Go.Proofs.Ytkeijphhcapkdaa
