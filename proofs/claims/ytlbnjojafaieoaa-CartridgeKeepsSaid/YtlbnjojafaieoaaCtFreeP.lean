/-
  The program's Free.
-/
import Derived.Test.YtlbnjojafaieoaaCtFree
import Derived.Test.YtlbnjojafaieoaaCtValP
namespace Go.Proofs.Ytlbnjojafaieoaa
open Go.RowKit
set_option linter.unusedVariables false
attribute [local irreducible] tim vld bar cnt okB capU allB vldC eqK
set_option maxRecDepth 100000 in
set_option maxHeartbeats 4000000 in
theorem free_any (c : Crt) (ad : Option Addr) (cap : Nat) (w : World) (hin : CrIn w c ad cap) (hs : c.l.length ≤ 100000) :
    Calls Try.prog 17 #[crV c ad cap] w fun e w' => e = .returned (.int .i64 (freeC c)) ∧ Below w.heap.size w w' := by
  have HF := Lib.hid (show freeC c = if (vldC c && !c.lk) = true then capU c.W c.L c.S c.T c.J c.R - (c.l.length : Int) else 0 from rfl)
  obtain ⟨bc, W, L, S, T, J, R, wo, lk, l, ep, lo, pa⟩ := c
  have HVC := Lib.hid (fun X (h : CrIn X ⟨bc, W, L, S, T, J, R, wo, lk, l, ep, lo, pa⟩ ad cap) => valc_any ⟨bc, W, L, S, T, J, R, wo, lk, l, ep, lo, pa⟩ ad cap X h)
  have HI := Lib.hid hin
  clear hin
  generalize hcv : vldC ⟨bc, W, L, S, T, J, R, wo, lk, l, ep, lo, pa⟩ = vv at *
  have HVV := Lib.hid hcv
  clear hcv
  show Calls Try.prog 17 #[crW bc W L S T J R wo lk ad l.length cap ep lo pa] w _
  simp only at HF hs
  have HX := Lib.hid (fun X (h : Below w.heap.size w X) => HVC.out X (HI.out.below h))
  obtain ⟨M, hM⟩ : ∃ M, M = l.length := ⟨_, rfl⟩
  have HX2 : Hid (∀ X, Below w.heap.size w X → Calls Try.prog 14 #[crW bc W L S T J R wo lk ad M cap ep lo pa] X fun e w' => e = .returned (.bool vv) ∧ Below X.heap.size X w') := Lib.hid (by rw [hM]; exact HX.out)
  rw [← hM] at hs HF ⊢
  clear hM HVC HX HI
  have HB0 := Lib.hid (below_box1 w (boxK bc W L S T J R wo lk ad M cap ep lo pa))
  have HC := Lib.hid (CrAt.new w bc W L S T J R wo lk ad M cap ep lo pa 26)
  obtain ⟨c0, c1⟩ := capU_bd W L S T J R
  have hw1 : IntKind.i64.wrap (capU W L S T J R - (M : Int)) = capU W L S T J R - (M : Int) := by rw [IntKind.wrap_i64]; omega
  go_enter Try.func17, Try.ntmps17
  go_wp2_with fail
  generalize World.alloc _ _ = X0 at *
  refine (HX2.out X0 HB0.out).mono ?_
  rintro e w1 ⟨rfl, hb⟩
  have HB1 := Lib.hid (HB0.out.trans (hb.mono HB0.out.size))
  replace HC := Lib.hid (HC.out.below hb HC.out.lt)
  clear hb
  obtain ⟨_, k0, k1, k2, k3, k4, k5, k6, k7, k8, k9, k10, k11, k12⟩ := HC.out
  cases vv
  · go_wp2
    go_ret
    exact ⟨by rw [HF.out]; rfl, HB1.out⟩
  cases lk
  rotate_left
  · go_wp2
    go_ret
    exact ⟨by rw [HF.out]; rfl, HB1.out⟩
  have HBX := Lib.hid (Below.refl w1.heap.size w1).drew
  go_wp2_with fail
  clear k0 k1 k2 k3 k4 k5 k6 k7 k8 k9 k10 k11 k12
  refine wp_region_noPanic ?_
  refine wp_region_held_drew (S := fun X => Below w1.heap.size w1 X) (by kernel_rfl) (HBX.out) (fun hS0 => ?_)
  refine held_take (i := 0) (v := ?_) rfl (by kernel_rfl) (by kernel_rfl) (by kernel_rfl) (fun _ _ _ h => h) (by rfl) ?_ (by assumption) ?_
  rotate_left
  · intro X hSX
    try dsimp only at hSX
    go_simp <;> with_reducible rfl
  simp only [Act.put, List.setIfInBounds_toArray, List.set_cons_zero, List.set_cons_succ]
  refine held_take (i := 1) (v := ?_) rfl (by kernel_rfl) (by kernel_rfl) (by kernel_rfl) (fun _ _ _ h => h) (by rfl) ?_ (by assumption) ?_
  rotate_left
  · intro X hSX
    try dsimp only at hSX
    obtain ⟨_, k0, k1, k2, k3, k4, k5, k6, k7, k8, k9, k10, k11, k12⟩ := HC.out.below hSX HC.out.lt
    go_simp <;> with_reducible rfl
  simp only [Act.put, List.setIfInBounds_toArray, List.set_cons_zero, List.set_cons_succ]
  refine held_take (i := 3) (v := ?_) rfl (by kernel_rfl) (by kernel_rfl) (by kernel_rfl) (fun _ _ _ h => h) (by rfl) ?_ (by assumption) ?_
  rotate_left
  · intro X hSX
    try dsimp only at hSX
    go_simp <;> with_reducible rfl
  simp only [Act.put, List.setIfInBounds_toArray, List.set_cons_zero, List.set_cons_succ]
  refine held_take (i := 4) (v := ?_) rfl (by kernel_rfl) (by kernel_rfl) (by kernel_rfl) (fun _ _ _ h => h) (by rfl) ?_ (by assumption) ?_
  rotate_left
  · intro X hSX
    try dsimp only at hSX
    obtain ⟨_, k0, k1, k2, k3, k4, k5, k6, k7, k8, k9, k10, k11, k12⟩ := HC.out.below hSX HC.out.lt
    go_simp <;> with_reducible rfl
  simp only [Act.put, List.setIfInBounds_toArray, List.set_cons_zero, List.set_cons_succ]
  refine held_take (i := 5) (v := ?_) rfl (by kernel_rfl) (by kernel_rfl) (by kernel_rfl) (fun _ _ _ h => h) (by rfl) ?_ (by assumption) ?_
  rotate_left
  · intro X hSX
    try dsimp only at hSX
    go_simp <;> with_reducible rfl
  simp only [Act.put, List.setIfInBounds_toArray, List.set_cons_zero, List.set_cons_succ]
  refine held_call (i := 2) rfl (by kernel_rfl) (by rfl) (fun K' hK' => ?_)
  go_simp
  refine (capacity_any W L S T J R _).mono ?_
  rintro e w4 ⟨rfl, hb⟩
  replace HBX := Lib.hid (HBX.out.trans (hb.mono HBX.out.size))
  have hS4 := HBX.out
  clear hb
  refine held_go hK' (HBX.out) ?_
  try simp only [Act.put, List.setIfInBounds_toArray, List.set_cons_zero, List.set_cons_succ]
  refine held_take (i := 6) (v := ?_) rfl (by kernel_rfl) (by kernel_rfl) (by kernel_rfl) (fun _ _ _ h => h) (by rfl) ?_ (by assumption) ?_
  rotate_left
  · intro X hSX
    try dsimp only at hSX
    go_simp <;> with_reducible rfl
  simp only [Act.put, List.setIfInBounds_toArray, List.set_cons_zero, List.set_cons_succ]
  refine held_take (i := 7) (v := ?_) rfl (by kernel_rfl) (by kernel_rfl) (by kernel_rfl) (fun _ _ _ h => h) (by rfl) ?_ (by assumption) ?_
  rotate_left
  · intro X hSX
    try dsimp only at hSX
    go_simp <;> with_reducible rfl
  simp only [Act.put, List.setIfInBounds_toArray, List.set_cons_zero, List.set_cons_succ]
  refine wpAnyH_done (by kernel_rfl) ?_ _
  refine NoPanic.normal ?_
  go_wp2
  go_ret
  exact ⟨by rw [HF.out]; rfl, HB1.out.trans (HBX.out.mono HB1.out.size)⟩
end Go.Proofs.Ytlbnjojafaieoaa
