/-
  The specification's Valid of a robot.
-/
import Derived.Test.YtmhaeipklifhcaaRbRef
import Derived.Test.YtmhaeipklifhcaaRbHeld
import Derived.Test.YtmhaeipklifhcaaRbFind
import Derived.Deep.LoopGhost
namespace Go.Proofs.Ytmhaeipklifhcaa
open Go.RowKit
set_option linter.unusedVariables false
/-- no barcode twice among the first i -/
def okTo (L : List ByteArray) (i : Nat) : Prop := ∀ a b (ha : a < L.length) (hb : b < a), a < i → L[a] ≠ emp → L[a] ≠ L[b]'(by omega)
def okAt (L : List ByteArray) (i k : Nat) : Prop := ∀ b (ha : i < L.length) (hb : b < i), b < k → L[i] ≠ emp → L[i] ≠ L[b]'(by omega)
theorem okTo.next {L : List ByteArray} {i : Nat} (h : okTo L i) (h2 : okAt L i i) : okTo L (i + 1) := fun a b ha hb hai => by
  rcases Nat.lt_or_ge a i with h3 | h3
  · exact h a b ha hb h3
  · obtain rfl : a = i := by omega
    exact h2 b ha hb hb
theorem okTo.all {L : List ByteArray} {i : Nat} (h : okTo L i) (hi : L.length ≤ i) : dst L = true := dst_yes fun a b ha hb hne => h a b ha hb (by omega) hne
theorem okAt.next {L : List ByteArray} {i k : Nat} (h : okAt L i k) (hi : i < L.length) (hk : k < i) (h2 : L[i] = emp ∨ L[i] ≠ L[k]) : okAt L i (k + 1) := fun b ha hb hbk hne => by
  rcases Nat.lt_or_ge b k with h3 | h3
  · exact h b ha hb h3 hne
  · obtain rfl : b = k := by omega
    exact h2.resolve_left hne
/-- the robot is valid, part by part -/
theorem vld_no1 {m : Rmd} {r : Rbt} (h : mdlR m = false) : vldR m r = false := by unfold vldR; rw [h]; rfl
theorem vld_no2 {m : Rmd} {r : Rbt} (h : ¬ (r.l.length : Int) = m.s) : vldR m r = false := by unfold vldR; rw [decide_eq_false h]; simp
theorem vld_no3 {m : Rmd} {r : Rbt} (h : inn r.p 0 (rail m) = false) : vldR m r = false := by unfold vldR; rw [h]; simp
theorem vld_eq {m : Rmd} {r : Rbt} (h1 : mdlR m = true) (h2 : (r.l.length : Int) = m.s) (h3 : inn r.p 0 (rail m) = true) : vldR m r = dst (allR r) := by unfold vldR; rw [h1, decide_eq_true h2, h3]; simp
attribute [local irreducible] inn mdlR rail dst vldR
set_option maxRecDepth 100000 in
set_option maxHeartbeats 4000000 in
theorem rvalid_any (m : Rmd) (r : Rbt) (ad : Option Addr) (n cap : Nat) (w : World) (hl : Sx w ad r.l) (hn : n = r.l.length) (hn2 : n ≤ 1000) (hnn : ad = none → cap = 0) :
    Calls Try.prog 17 #[rmV m, roV r ad n cap] w fun e w' => e = .returned (.bool (vldR m r)) ∧ Below w.heap.size w w' := by
  obtain ⟨hB, hM, hR⟩ := box_mr w m r ad n cap
  have HB0 := Lib.hid hB
  have HM := Lib.hid hM
  have HR := Lib.hid (RoAt.of hR)
  have HL := Lib.hid (hl.below hB rfl)
  have HN := Lib.hid hn
  have HNN := Lib.hid hnn
  clear hB hM hR hl hn hnn
  cases hmd : mdlR m
  · have HMD := Lib.hid hmd
    have HV := Lib.hid (vld_no1 (r := r) hmd)
    clear hmd
    go_enter Try.func17, Try.ntmps17
    go_wp2_with fail
    generalize World.alloc _ _ = X0 at *
    have HBX := Lib.hid (Below.refl X0.heap.size X0).drew
    refine wp_region_noPanic ?_
    refine wp_region_held_drew (S := fun X => Below X0.heap.size X0 X) (by kernel_rfl) (HBX.out) (fun hS0 => ?_)
    refine held_take (i := 0) (v := ?_) rfl (by kernel_rfl) (by kernel_rfl) (by kernel_rfl) (fun _ _ _ h => h) (by rfl) ?_ (by assumption) ?_
    rotate_left
    · intro X hSX
      try dsimp only at hSX
      obtain ⟨_, g0, g1, g2, g3, g4, g5, g6⟩ := HM.out.step hSX
      go_simp <;> with_reducible rfl
    simp only [Act.put, List.setIfInBounds_toArray, List.set_cons_zero, List.set_cons_succ]
    refine held_call (i := 1) rfl (by kernel_rfl) (by rfl) (fun K' hK' => ?_)
    go_simp
    refine (rmodel_any m _).mono ?_
    rw [HMD.out]
    rintro e w2 ⟨rfl, hb2⟩
    replace HBX := Lib.hid (HBX.out.trans (hb2.mono HBX.out.size))
    refine held_go hK' (HBX.out) ?_
    try simp only [Act.put, List.setIfInBounds_toArray, List.set_cons_zero, List.set_cons_succ]
    refine held_take (i := 2) (v := ?_) rfl (by kernel_rfl) (by kernel_rfl) (by kernel_rfl) (fun _ _ _ h => h) (by rfl) ?_ (by assumption) ?_
    rotate_left
    · intro X hSX
      try dsimp only at hSX
      go_simp <;> with_reducible rfl
    simp only [Act.put, List.setIfInBounds_toArray, List.set_cons_zero, List.set_cons_succ]
    refine held_take (i := 3) (v := ?_) rfl (by kernel_rfl) (by kernel_rfl) (by kernel_rfl) (fun _ _ _ h => h) (by rfl) ?_ (by assumption) ?_
    rotate_left
    · intro X hSX
      try dsimp only at hSX
      go_simp <;> with_reducible rfl
    simp only [Act.put, List.setIfInBounds_toArray, List.set_cons_zero, List.set_cons_succ]
    refine held_skip (i := 4) rfl (by kernel_rfl) (by kernel_rfl) (by kernel_rfl) (fun _ _ _ h => h) (by rfl) (by assumption) ?_
    simp only [Act.put, List.setIfInBounds_toArray, List.set_cons_zero, List.set_cons_succ]
    refine held_skip (i := 5) rfl (by kernel_rfl) (by kernel_rfl) (by kernel_rfl) (fun _ _ _ h => h) (by rfl) (by assumption) ?_
    simp only [Act.put, List.setIfInBounds_toArray, List.set_cons_zero, List.set_cons_succ]
    refine held_skip (i := 6) rfl (by kernel_rfl) (by kernel_rfl) (by kernel_rfl) (fun _ _ _ h => h) (by rfl) (by assumption) ?_
    simp only [Act.put, List.setIfInBounds_toArray, List.set_cons_zero, List.set_cons_succ]
    refine held_skip (i := 7) rfl (by kernel_rfl) (by kernel_rfl) (by kernel_rfl) (fun _ _ _ h => h) (by rfl) (by assumption) ?_
    simp only [Act.put, List.setIfInBounds_toArray, List.set_cons_zero, List.set_cons_succ]
    refine held_skip (i := 8) rfl (by kernel_rfl) (by kernel_rfl) (by kernel_rfl) (fun _ _ _ h => h) (by rfl) (by assumption) ?_
    simp only [Act.put, List.setIfInBounds_toArray, List.set_cons_zero, List.set_cons_succ]
    refine held_skip (i := 9) rfl (by kernel_rfl) (by kernel_rfl) (by kernel_rfl) (fun _ _ _ h => h) (by rfl) (by assumption) ?_
    simp only [Act.put, List.setIfInBounds_toArray, List.set_cons_zero, List.set_cons_succ]
    refine held_take (i := 10) (v := ?_) rfl (by kernel_rfl) (by kernel_rfl) (by kernel_rfl) (fun _ _ _ h => h) (by rfl) ?_ (by assumption) ?_
    rotate_left
    · intro X hSX
      try dsimp only at hSX
      go_simp <;> with_reducible rfl
    simp only [Act.put, List.setIfInBounds_toArray, List.set_cons_zero, List.set_cons_succ]
    refine held_take (i := 11) (v := ?_) rfl (by kernel_rfl) (by kernel_rfl) (by kernel_rfl) (fun _ _ _ h => h) (by rfl) ?_ (by assumption) ?_
    rotate_left
    · intro X hSX
      try dsimp only at hSX
      go_simp <;> with_reducible rfl
    simp only [Act.put, List.setIfInBounds_toArray, List.set_cons_zero, List.set_cons_succ]
    refine held_skip (i := 12) rfl (by kernel_rfl) (by kernel_rfl) (by kernel_rfl) (fun _ _ _ h => h) (by rfl) (by assumption) ?_
    simp only [Act.put, List.setIfInBounds_toArray, List.set_cons_zero, List.set_cons_succ]
    refine held_skip (i := 13) rfl (by kernel_rfl) (by kernel_rfl) (by kernel_rfl) (fun _ _ _ h => h) (by rfl) (by assumption) ?_
    simp only [Act.put, List.setIfInBounds_toArray, List.set_cons_zero, List.set_cons_succ]
    refine held_skip (i := 14) rfl (by kernel_rfl) (by kernel_rfl) (by kernel_rfl) (fun _ _ _ h => h) (by rfl) (by assumption) ?_
    simp only [Act.put, List.setIfInBounds_toArray, List.set_cons_zero, List.set_cons_succ]
    refine held_skip (i := 15) rfl (by kernel_rfl) (by kernel_rfl) (by kernel_rfl) (fun _ _ _ h => h) (by rfl) (by assumption) ?_
    simp only [Act.put, List.setIfInBounds_toArray, List.set_cons_zero, List.set_cons_succ]
    refine held_skip (i := 16) rfl (by kernel_rfl) (by kernel_rfl) (by kernel_rfl) (fun _ _ _ h => h) (by rfl) (by assumption) ?_
    simp only [Act.put, List.setIfInBounds_toArray, List.set_cons_zero, List.set_cons_succ]
    refine held_skip (i := 17) rfl (by kernel_rfl) (by kernel_rfl) (by kernel_rfl) (fun _ _ _ h => h) (by rfl) (by assumption) ?_
    simp only [Act.put, List.setIfInBounds_toArray, List.set_cons_zero, List.set_cons_succ]
    refine held_take (i := 18) (v := ?_) rfl (by kernel_rfl) (by kernel_rfl) (by kernel_rfl) (fun _ _ _ h => h) (by rfl) ?_ (by assumption) ?_
    rotate_left
    · intro X hSX
      try dsimp only at hSX
      go_simp <;> with_reducible rfl
    simp only [Act.put, List.setIfInBounds_toArray, List.set_cons_zero, List.set_cons_succ]
    refine wpAnyH_done (by kernel_rfl) ?_ _
    refine NoPanic.normal ?_
    have HB1 := Lib.hid (HB0.out.trans (HBX.out.mono HB0.out.size))
    go_wp2
    go_ret
    exact ⟨by rw [HV.out]; rfl, HB1.out⟩
  by_cases hns : (n : Int) = m.s
  rotate_left
  · have HMD := Lib.hid hmd
    have HV := Lib.hid (vld_no2 (m := m) (r := r) (by rw [← HN.out]; exact hns))
    have hne : ((n : Int) != m.s) = true := by simpa using hns
    have HNE := Lib.hid hne
    clear hmd hns hne
    go_enter Try.func17, Try.ntmps17
    go_wp2_with fail
    generalize World.alloc _ _ = X0 at *
    have HBX := Lib.hid (Below.refl X0.heap.size X0).drew
    refine wp_region_noPanic ?_
    refine wp_region_held_drew (S := fun X => Below X0.heap.size X0 X) (by kernel_rfl) (HBX.out) (fun hS0 => ?_)
    refine held_take (i := 0) (v := ?_) rfl (by kernel_rfl) (by kernel_rfl) (by kernel_rfl) (fun _ _ _ h => h) (by rfl) ?_ (by assumption) ?_
    rotate_left
    · intro X hSX
      try dsimp only at hSX
      obtain ⟨_, g0, g1, g2, g3, g4, g5, g6⟩ := HM.out.step hSX
      go_simp <;> with_reducible rfl
    simp only [Act.put, List.setIfInBounds_toArray, List.set_cons_zero, List.set_cons_succ]
    refine held_call (i := 1) rfl (by kernel_rfl) (by rfl) (fun K' hK' => ?_)
    go_simp
    refine (rmodel_any m _).mono ?_
    rw [HMD.out]
    rintro e w2 ⟨rfl, hb2⟩
    replace HBX := Lib.hid (HBX.out.trans (hb2.mono HBX.out.size))
    refine held_go hK' (HBX.out) ?_
    try simp only [Act.put, List.setIfInBounds_toArray, List.set_cons_zero, List.set_cons_succ]
    refine held_take (i := 2) (v := ?_) rfl (by kernel_rfl) (by kernel_rfl) (by kernel_rfl) (fun _ _ _ h => h) (by rfl) ?_ (by assumption) ?_
    rotate_left
    · intro X hSX
      try dsimp only at hSX
      obtain ⟨_, g0, g1, g2, g3, g4, g5, g6⟩ := HM.out.step hSX
      obtain ⟨_, k0, k1, k2, k3, k4⟩ := HR.out.step hSX
      have hne := HNE.out
      go_simp <;> with_reducible rfl
    simp only [Act.put, List.setIfInBounds_toArray, List.set_cons_zero, List.set_cons_succ]
    refine held_take (i := 3) (v := ?_) rfl (by kernel_rfl) (by kernel_rfl) (by kernel_rfl) (fun _ _ _ h => h) (by rfl) ?_ (by assumption) ?_
    rotate_left
    · intro X hSX
      try dsimp only at hSX
      obtain ⟨_, g0, g1, g2, g3, g4, g5, g6⟩ := HM.out.step hSX
      obtain ⟨_, k0, k1, k2, k3, k4⟩ := HR.out.step hSX
      have hne := HNE.out
      go_simp <;> with_reducible rfl
    simp only [Act.put, List.setIfInBounds_toArray, List.set_cons_zero, List.set_cons_succ]
    refine held_take (i := 4) (v := ?_) rfl (by kernel_rfl) (by kernel_rfl) (by kernel_rfl) (fun _ _ _ h => h) (by rfl) ?_ (by assumption) ?_
    rotate_left
    · intro X hSX
      try dsimp only at hSX
      obtain ⟨_, g0, g1, g2, g3, g4, g5, g6⟩ := HM.out.step hSX
      obtain ⟨_, k0, k1, k2, k3, k4⟩ := HR.out.step hSX
      have hne := HNE.out
      go_simp <;> with_reducible rfl
    simp only [Act.put, List.setIfInBounds_toArray, List.set_cons_zero, List.set_cons_succ]
    refine held_take (i := 5) (v := ?_) rfl (by kernel_rfl) (by kernel_rfl) (by kernel_rfl) (fun _ _ _ h => h) (by rfl) ?_ (by assumption) ?_
    rotate_left
    · intro X hSX
      try dsimp only at hSX
      obtain ⟨_, g0, g1, g2, g3, g4, g5, g6⟩ := HM.out.step hSX
      obtain ⟨_, k0, k1, k2, k3, k4⟩ := HR.out.step hSX
      have hne := HNE.out
      go_simp <;> with_reducible rfl
    simp only [Act.put, List.setIfInBounds_toArray, List.set_cons_zero, List.set_cons_succ]
    refine held_take (i := 6) (v := ?_) rfl (by kernel_rfl) (by kernel_rfl) (by kernel_rfl) (fun _ _ _ h => h) (by rfl) ?_ (by assumption) ?_
    rotate_left
    · intro X hSX
      try dsimp only at hSX
      obtain ⟨_, g0, g1, g2, g3, g4, g5, g6⟩ := HM.out.step hSX
      obtain ⟨_, k0, k1, k2, k3, k4⟩ := HR.out.step hSX
      have hne := HNE.out
      go_simp <;> with_reducible rfl
    simp only [Act.put, List.setIfInBounds_toArray, List.set_cons_zero, List.set_cons_succ]
    refine held_take (i := 7) (v := ?_) rfl (by kernel_rfl) (by kernel_rfl) (by kernel_rfl) (fun _ _ _ h => h) (by rfl) ?_ (by assumption) ?_
    rotate_left
    · intro X hSX
      try dsimp only at hSX
      obtain ⟨_, g0, g1, g2, g3, g4, g5, g6⟩ := HM.out.step hSX
      obtain ⟨_, k0, k1, k2, k3, k4⟩ := HR.out.step hSX
      have hne := HNE.out
      go_simp <;> with_reducible rfl
    simp only [Act.put, List.setIfInBounds_toArray, List.set_cons_zero, List.set_cons_succ]
    refine held_take (i := 8) (v := ?_) rfl (by kernel_rfl) (by kernel_rfl) (by kernel_rfl) (fun _ _ _ h => h) (by rfl) ?_ (by assumption) ?_
    rotate_left
    · intro X hSX
      try dsimp only at hSX
      obtain ⟨_, g0, g1, g2, g3, g4, g5, g6⟩ := HM.out.step hSX
      obtain ⟨_, k0, k1, k2, k3, k4⟩ := HR.out.step hSX
      have hne := HNE.out
      go_simp <;> with_reducible rfl
    simp only [Act.put, List.setIfInBounds_toArray, List.set_cons_zero, List.set_cons_succ]
    refine held_take (i := 9) (v := ?_) rfl (by kernel_rfl) (by kernel_rfl) (by kernel_rfl) (fun _ _ _ h => h) (by rfl) ?_ (by assumption) ?_
    rotate_left
    · intro X hSX
      try dsimp only at hSX
      obtain ⟨_, g0, g1, g2, g3, g4, g5, g6⟩ := HM.out.step hSX
      obtain ⟨_, k0, k1, k2, k3, k4⟩ := HR.out.step hSX
      have hne := HNE.out
      go_simp <;> with_reducible rfl
    simp only [Act.put, List.setIfInBounds_toArray, List.set_cons_zero, List.set_cons_succ]
    refine held_take (i := 10) (v := ?_) rfl (by kernel_rfl) (by kernel_rfl) (by kernel_rfl) (fun _ _ _ h => h) (by rfl) ?_ (by assumption) ?_
    rotate_left
    · intro X hSX
      try dsimp only at hSX
      go_simp <;> with_reducible rfl
    simp only [Act.put, List.setIfInBounds_toArray, List.set_cons_zero, List.set_cons_succ]
    refine held_take (i := 11) (v := ?_) rfl (by kernel_rfl) (by kernel_rfl) (by kernel_rfl) (fun _ _ _ h => h) (by rfl) ?_ (by assumption) ?_
    rotate_left
    · intro X hSX
      try dsimp only at hSX
      go_simp <;> with_reducible rfl
    simp only [Act.put, List.setIfInBounds_toArray, List.set_cons_zero, List.set_cons_succ]
    refine held_skip (i := 12) rfl (by kernel_rfl) (by kernel_rfl) (by kernel_rfl) (fun _ _ _ h => h) (by rfl) (by assumption) ?_
    simp only [Act.put, List.setIfInBounds_toArray, List.set_cons_zero, List.set_cons_succ]
    refine held_skip (i := 13) rfl (by kernel_rfl) (by kernel_rfl) (by kernel_rfl) (fun _ _ _ h => h) (by rfl) (by assumption) ?_
    simp only [Act.put, List.setIfInBounds_toArray, List.set_cons_zero, List.set_cons_succ]
    refine held_skip (i := 14) rfl (by kernel_rfl) (by kernel_rfl) (by kernel_rfl) (fun _ _ _ h => h) (by rfl) (by assumption) ?_
    simp only [Act.put, List.setIfInBounds_toArray, List.set_cons_zero, List.set_cons_succ]
    refine held_skip (i := 15) rfl (by kernel_rfl) (by kernel_rfl) (by kernel_rfl) (fun _ _ _ h => h) (by rfl) (by assumption) ?_
    simp only [Act.put, List.setIfInBounds_toArray, List.set_cons_zero, List.set_cons_succ]
    refine held_skip (i := 16) rfl (by kernel_rfl) (by kernel_rfl) (by kernel_rfl) (fun _ _ _ h => h) (by rfl) (by assumption) ?_
    simp only [Act.put, List.setIfInBounds_toArray, List.set_cons_zero, List.set_cons_succ]
    refine held_skip (i := 17) rfl (by kernel_rfl) (by kernel_rfl) (by kernel_rfl) (fun _ _ _ h => h) (by rfl) (by assumption) ?_
    simp only [Act.put, List.setIfInBounds_toArray, List.set_cons_zero, List.set_cons_succ]
    refine held_take (i := 18) (v := ?_) rfl (by kernel_rfl) (by kernel_rfl) (by kernel_rfl) (fun _ _ _ h => h) (by rfl) ?_ (by assumption) ?_
    rotate_left
    · intro X hSX
      try dsimp only at hSX
      go_simp <;> with_reducible rfl
    simp only [Act.put, List.setIfInBounds_toArray, List.set_cons_zero, List.set_cons_succ]
    refine wpAnyH_done (by kernel_rfl) ?_ _
    refine NoPanic.normal ?_
    have HB1 := Lib.hid (HB0.out.trans (HBX.out.mono HB0.out.size))
    go_wp2
    go_ret
    exact ⟨by rw [HV.out]; rfl, HB1.out⟩
  have HMD := Lib.hid hmd
  have HMR := Lib.hid (mdl_iff.1 hmd)
  have hne : ((n : Int) != m.s) = false := by simpa using hns
  have HNE := Lib.hid hne
  have HNS := Lib.hid hns
  clear hmd hns hne
  cases hin : inn r.p 0 (rail m)
  · have HV := Lib.hid (vld_no3 hin)
    have HIN := Lib.hid hin
    clear hin
    go_enter Try.func17, Try.ntmps17
    go_wp2_with fail
    generalize World.alloc _ _ = X0 at *
    have HBX := Lib.hid (Below.refl X0.heap.size X0).drew
    refine wp_region_noPanic ?_
    refine wp_region_held_drew (S := fun X => Below X0.heap.size X0 X) (by kernel_rfl) (HBX.out) (fun hS0 => ?_)
    refine held_take (i := 0) (v := ?_) rfl (by kernel_rfl) (by kernel_rfl) (by kernel_rfl) (fun _ _ _ h => h) (by rfl) ?_ (by assumption) ?_
    rotate_left
    · intro X hSX
      try dsimp only at hSX
      obtain ⟨_, g0, g1, g2, g3, g4, g5, g6⟩ := HM.out.step hSX
      go_simp <;> with_reducible rfl
    simp only [Act.put, List.setIfInBounds_toArray, List.set_cons_zero, List.set_cons_succ]
    refine held_call (i := 1) rfl (by kernel_rfl) (by rfl) (fun K' hK' => ?_)
    go_simp
    refine (rmodel_any m _).mono ?_
    rw [HMD.out]
    rintro e w2 ⟨rfl, hb2⟩
    replace HBX := Lib.hid (HBX.out.trans (hb2.mono HBX.out.size))
    refine held_go hK' (HBX.out) ?_
    try simp only [Act.put, List.setIfInBounds_toArray, List.set_cons_zero, List.set_cons_succ]
    refine held_take (i := 2) (v := ?_) rfl (by kernel_rfl) (by kernel_rfl) (by kernel_rfl) (fun _ _ _ h => h) (by rfl) ?_ (by assumption) ?_
    rotate_left
    · intro X hSX
      try dsimp only at hSX
      obtain ⟨_, g0, g1, g2, g3, g4, g5, g6⟩ := HM.out.step hSX
      obtain ⟨_, k0, k1, k2, k3, k4⟩ := HR.out.step hSX
      have hne := HNE.out
      go_simp <;> with_reducible rfl
    simp only [Act.put, List.setIfInBounds_toArray, List.set_cons_zero, List.set_cons_succ]
    refine held_take (i := 3) (v := ?_) rfl (by kernel_rfl) (by kernel_rfl) (by kernel_rfl) (fun _ _ _ h => h) (by rfl) ?_ (by assumption) ?_
    rotate_left
    · intro X hSX
      try dsimp only at hSX
      obtain ⟨_, g0, g1, g2, g3, g4, g5, g6⟩ := HM.out.step hSX
      obtain ⟨_, k0, k1, k2, k3, k4⟩ := HR.out.step hSX
      have hne := HNE.out
      go_simp <;> with_reducible rfl
    simp only [Act.put, List.setIfInBounds_toArray, List.set_cons_zero, List.set_cons_succ]
    refine held_take (i := 4) (v := ?_) rfl (by kernel_rfl) (by kernel_rfl) (by kernel_rfl) (fun _ _ _ h => h) (by rfl) ?_ (by assumption) ?_
    rotate_left
    · intro X hSX
      try dsimp only at hSX
      obtain ⟨_, g0, g1, g2, g3, g4, g5, g6⟩ := HM.out.step hSX
      obtain ⟨_, k0, k1, k2, k3, k4⟩ := HR.out.step hSX
      have hne := HNE.out
      go_simp <;> with_reducible rfl
    simp only [Act.put, List.setIfInBounds_toArray, List.set_cons_zero, List.set_cons_succ]
    refine held_take (i := 5) (v := ?_) rfl (by kernel_rfl) (by kernel_rfl) (by kernel_rfl) (fun _ _ _ h => h) (by rfl) ?_ (by assumption) ?_
    rotate_left
    · intro X hSX
      try dsimp only at hSX
      obtain ⟨_, g0, g1, g2, g3, g4, g5, g6⟩ := HM.out.step hSX
      obtain ⟨_, k0, k1, k2, k3, k4⟩ := HR.out.step hSX
      have hne := HNE.out
      go_simp <;> with_reducible rfl
    simp only [Act.put, List.setIfInBounds_toArray, List.set_cons_zero, List.set_cons_succ]
    refine held_take (i := 6) (v := ?_) rfl (by kernel_rfl) (by kernel_rfl) (by kernel_rfl) (fun _ _ _ h => h) (by rfl) ?_ (by assumption) ?_
    rotate_left
    · intro X hSX
      try dsimp only at hSX
      obtain ⟨_, g0, g1, g2, g3, g4, g5, g6⟩ := HM.out.step hSX
      obtain ⟨_, k0, k1, k2, k3, k4⟩ := HR.out.step hSX
      have hne := HNE.out
      go_simp <;> with_reducible rfl
    simp only [Act.put, List.setIfInBounds_toArray, List.set_cons_zero, List.set_cons_succ]
    refine held_take (i := 7) (v := ?_) rfl (by kernel_rfl) (by kernel_rfl) (by kernel_rfl) (fun _ _ _ h => h) (by rfl) ?_ (by assumption) ?_
    rotate_left
    · intro X hSX
      try dsimp only at hSX
      obtain ⟨_, g0, g1, g2, g3, g4, g5, g6⟩ := HM.out.step hSX
      obtain ⟨_, k0, k1, k2, k3, k4⟩ := HR.out.step hSX
      have hne := HNE.out
      go_simp <;> with_reducible rfl
    simp only [Act.put, List.setIfInBounds_toArray, List.set_cons_zero, List.set_cons_succ]
    refine held_take (i := 8) (v := ?_) rfl (by kernel_rfl) (by kernel_rfl) (by kernel_rfl) (fun _ _ _ h => h) (by rfl) ?_ (by assumption) ?_
    rotate_left
    · intro X hSX
      try dsimp only at hSX
      obtain ⟨_, g0, g1, g2, g3, g4, g5, g6⟩ := HM.out.step hSX
      obtain ⟨_, k0, k1, k2, k3, k4⟩ := HR.out.step hSX
      have hne := HNE.out
      go_simp <;> with_reducible rfl
    simp only [Act.put, List.setIfInBounds_toArray, List.set_cons_zero, List.set_cons_succ]
    refine held_take (i := 9) (v := ?_) rfl (by kernel_rfl) (by kernel_rfl) (by kernel_rfl) (fun _ _ _ h => h) (by rfl) ?_ (by assumption) ?_
    rotate_left
    · intro X hSX
      try dsimp only at hSX
      obtain ⟨_, g0, g1, g2, g3, g4, g5, g6⟩ := HM.out.step hSX
      obtain ⟨_, k0, k1, k2, k3, k4⟩ := HR.out.step hSX
      have hne := HNE.out
      go_simp <;> with_reducible rfl
    simp only [Act.put, List.setIfInBounds_toArray, List.set_cons_zero, List.set_cons_succ]
    refine held_take (i := 10) (v := ?_) rfl (by kernel_rfl) (by kernel_rfl) (by kernel_rfl) (fun _ _ _ h => h) (by rfl) ?_ (by assumption) ?_
    rotate_left
    · intro X hSX
      try dsimp only at hSX
      obtain ⟨_, g0, g1, g2, g3, g4, g5, g6⟩ := HM.out.step hSX
      obtain ⟨_, k0, k1, k2, k3, k4⟩ := HR.out.step hSX
      go_simp <;> with_reducible rfl
    simp only [Act.put, List.setIfInBounds_toArray, List.set_cons_zero, List.set_cons_succ]
    refine held_take (i := 11) (v := ?_) rfl (by kernel_rfl) (by kernel_rfl) (by kernel_rfl) (fun _ _ _ h => h) (by rfl) ?_ (by assumption) ?_
    rotate_left
    · intro X hSX
      try dsimp only at hSX
      obtain ⟨_, g0, g1, g2, g3, g4, g5, g6⟩ := HM.out.step hSX
      obtain ⟨_, k0, k1, k2, k3, k4⟩ := HR.out.step hSX
      go_simp <;> with_reducible rfl
    simp only [Act.put, List.setIfInBounds_toArray, List.set_cons_zero, List.set_cons_succ]
    refine held_take (i := 12) (v := ?_) rfl (by kernel_rfl) (by kernel_rfl) (by kernel_rfl) (fun _ _ _ h => h) (by rfl) ?_ (by assumption) ?_
    rotate_left
    · intro X hSX
      try dsimp only at hSX
      obtain ⟨_, g0, g1, g2, g3, g4, g5, g6⟩ := HM.out.step hSX
      obtain ⟨_, k0, k1, k2, k3, k4⟩ := HR.out.step hSX
      go_simp <;> with_reducible rfl
    simp only [Act.put, List.setIfInBounds_toArray, List.set_cons_zero, List.set_cons_succ]
    refine held_take (i := 13) (v := ?_) rfl (by kernel_rfl) (by kernel_rfl) (by kernel_rfl) (fun _ _ _ h => h) (by rfl) ?_ (by assumption) ?_
    rotate_left
    · intro X hSX
      try dsimp only at hSX
      obtain ⟨_, g0, g1, g2, g3, g4, g5, g6⟩ := HM.out.step hSX
      obtain ⟨_, k0, k1, k2, k3, k4⟩ := HR.out.step hSX
      go_simp <;> with_reducible rfl
    simp only [Act.put, List.setIfInBounds_toArray, List.set_cons_zero, List.set_cons_succ]
    refine held_take (i := 14) (v := ?_) rfl (by kernel_rfl) (by kernel_rfl) (by kernel_rfl) (fun _ _ _ h => h) (by rfl) ?_ (by assumption) ?_
    rotate_left
    · intro X hSX
      try dsimp only at hSX
      obtain ⟨_, g0, g1, g2, g3, g4, g5, g6⟩ := HM.out.step hSX
      obtain ⟨_, k0, k1, k2, k3, k4⟩ := HR.out.step hSX
      go_simp <;> with_reducible rfl
    simp only [Act.put, List.setIfInBounds_toArray, List.set_cons_zero, List.set_cons_succ]
    refine held_call (i := 15) rfl (by kernel_rfl) (by rfl) (fun K' hK' => ?_)
    go_simp
    refine (rrail_any m _ HMR.out).mono ?_
    rintro e w2 ⟨rfl, hb2⟩
    replace HBX := Lib.hid (HBX.out.trans (hb2.mono HBX.out.size))
    refine held_go hK' (HBX.out) ?_
    try simp only [Act.put, List.setIfInBounds_toArray, List.set_cons_zero, List.set_cons_succ]
    refine held_call (i := 16) rfl (by kernel_rfl) (by rfl) (fun K' hK' => ?_)
    go_simp
    refine (rin_any r.p 0 (rail m) _).mono ?_
    rw [HIN.out]
    rintro e w2 ⟨rfl, rfl⟩
    refine held_go hK' (HBX.out) ?_
    try simp only [Act.put, List.setIfInBounds_toArray, List.set_cons_zero, List.set_cons_succ]
    refine held_take (i := 17) (v := ?_) rfl (by kernel_rfl) (by kernel_rfl) (by kernel_rfl) (fun _ _ _ h => h) (by rfl) ?_ (by assumption) ?_
    rotate_left
    · intro X hSX
      try dsimp only at hSX
      go_simp <;> with_reducible rfl
    simp only [Act.put, List.setIfInBounds_toArray, List.set_cons_zero, List.set_cons_succ]
    refine held_take (i := 18) (v := ?_) rfl (by kernel_rfl) (by kernel_rfl) (by kernel_rfl) (fun _ _ _ h => h) (by rfl) ?_ (by assumption) ?_
    rotate_left
    · intro X hSX
      try dsimp only at hSX
      go_simp <;> with_reducible rfl
    simp only [Act.put, List.setIfInBounds_toArray, List.set_cons_zero, List.set_cons_succ]
    refine wpAnyH_done (by kernel_rfl) ?_ _
    refine NoPanic.normal ?_
    have HB1 := Lib.hid (HB0.out.trans (HBX.out.mono HB0.out.size))
    go_wp2
    go_ret
    exact ⟨by rw [HV.out]; rfl, HB1.out⟩
  have HV := Lib.hid (vld_eq HMD.out (by rw [← HN.out]; exact HNS.out) hin)
  have HIN := Lib.hid hin
  clear hin
  go_enter Try.func17, Try.ntmps17
  go_wp2_with fail
  generalize World.alloc _ _ = X0 at *
  have HBX := Lib.hid (Below.refl X0.heap.size X0).drew
  refine wp_region_noPanic ?_
  refine wp_region_held_drew (S := fun X => Below X0.heap.size X0 X) (by kernel_rfl) (HBX.out) (fun hS0 => ?_)
  refine held_take (i := 0) (v := ?_) rfl (by kernel_rfl) (by kernel_rfl) (by kernel_rfl) (fun _ _ _ h => h) (by rfl) ?_ (by assumption) ?_
  rotate_left
  · intro X hSX
    try dsimp only at hSX
    obtain ⟨_, g0, g1, g2, g3, g4, g5, g6⟩ := HM.out.step hSX
    go_simp <;> with_reducible rfl
  simp only [Act.put, List.setIfInBounds_toArray, List.set_cons_zero, List.set_cons_succ]
  refine held_call (i := 1) rfl (by kernel_rfl) (by rfl) (fun K' hK' => ?_)
  go_simp
  refine (rmodel_any m _).mono ?_
  rw [HMD.out]
  rintro e w2 ⟨rfl, hb2⟩
  replace HBX := Lib.hid (HBX.out.trans (hb2.mono HBX.out.size))
  refine held_go hK' (HBX.out) ?_
  try simp only [Act.put, List.setIfInBounds_toArray, List.set_cons_zero, List.set_cons_succ]
  refine held_take (i := 2) (v := ?_) rfl (by kernel_rfl) (by kernel_rfl) (by kernel_rfl) (fun _ _ _ h => h) (by rfl) ?_ (by assumption) ?_
  rotate_left
  · intro X hSX
    try dsimp only at hSX
    obtain ⟨_, g0, g1, g2, g3, g4, g5, g6⟩ := HM.out.step hSX
    obtain ⟨_, k0, k1, k2, k3, k4⟩ := HR.out.step hSX
    have hne := HNE.out
    go_simp <;> with_reducible rfl
  simp only [Act.put, List.setIfInBounds_toArray, List.set_cons_zero, List.set_cons_succ]
  refine held_take (i := 3) (v := ?_) rfl (by kernel_rfl) (by kernel_rfl) (by kernel_rfl) (fun _ _ _ h => h) (by rfl) ?_ (by assumption) ?_
  rotate_left
  · intro X hSX
    try dsimp only at hSX
    obtain ⟨_, g0, g1, g2, g3, g4, g5, g6⟩ := HM.out.step hSX
    obtain ⟨_, k0, k1, k2, k3, k4⟩ := HR.out.step hSX
    have hne := HNE.out
    go_simp <;> with_reducible rfl
  simp only [Act.put, List.setIfInBounds_toArray, List.set_cons_zero, List.set_cons_succ]
  refine held_take (i := 4) (v := ?_) rfl (by kernel_rfl) (by kernel_rfl) (by kernel_rfl) (fun _ _ _ h => h) (by rfl) ?_ (by assumption) ?_
  rotate_left
  · intro X hSX
    try dsimp only at hSX
    obtain ⟨_, g0, g1, g2, g3, g4, g5, g6⟩ := HM.out.step hSX
    obtain ⟨_, k0, k1, k2, k3, k4⟩ := HR.out.step hSX
    have hne := HNE.out
    go_simp <;> with_reducible rfl
  simp only [Act.put, List.setIfInBounds_toArray, List.set_cons_zero, List.set_cons_succ]
  refine held_take (i := 5) (v := ?_) rfl (by kernel_rfl) (by kernel_rfl) (by kernel_rfl) (fun _ _ _ h => h) (by rfl) ?_ (by assumption) ?_
  rotate_left
  · intro X hSX
    try dsimp only at hSX
    obtain ⟨_, g0, g1, g2, g3, g4, g5, g6⟩ := HM.out.step hSX
    obtain ⟨_, k0, k1, k2, k3, k4⟩ := HR.out.step hSX
    have hne := HNE.out
    go_simp <;> with_reducible rfl
  simp only [Act.put, List.setIfInBounds_toArray, List.set_cons_zero, List.set_cons_succ]
  refine held_take (i := 6) (v := ?_) rfl (by kernel_rfl) (by kernel_rfl) (by kernel_rfl) (fun _ _ _ h => h) (by rfl) ?_ (by assumption) ?_
  rotate_left
  · intro X hSX
    try dsimp only at hSX
    obtain ⟨_, g0, g1, g2, g3, g4, g5, g6⟩ := HM.out.step hSX
    obtain ⟨_, k0, k1, k2, k3, k4⟩ := HR.out.step hSX
    have hne := HNE.out
    go_simp <;> with_reducible rfl
  simp only [Act.put, List.setIfInBounds_toArray, List.set_cons_zero, List.set_cons_succ]
  refine held_take (i := 7) (v := ?_) rfl (by kernel_rfl) (by kernel_rfl) (by kernel_rfl) (fun _ _ _ h => h) (by rfl) ?_ (by assumption) ?_
  rotate_left
  · intro X hSX
    try dsimp only at hSX
    obtain ⟨_, g0, g1, g2, g3, g4, g5, g6⟩ := HM.out.step hSX
    obtain ⟨_, k0, k1, k2, k3, k4⟩ := HR.out.step hSX
    have hne := HNE.out
    go_simp <;> with_reducible rfl
  simp only [Act.put, List.setIfInBounds_toArray, List.set_cons_zero, List.set_cons_succ]
  refine held_take (i := 8) (v := ?_) rfl (by kernel_rfl) (by kernel_rfl) (by kernel_rfl) (fun _ _ _ h => h) (by rfl) ?_ (by assumption) ?_
  rotate_left
  · intro X hSX
    try dsimp only at hSX
    obtain ⟨_, g0, g1, g2, g3, g4, g5, g6⟩ := HM.out.step hSX
    obtain ⟨_, k0, k1, k2, k3, k4⟩ := HR.out.step hSX
    have hne := HNE.out
    go_simp <;> with_reducible rfl
  simp only [Act.put, List.setIfInBounds_toArray, List.set_cons_zero, List.set_cons_succ]
  refine held_take (i := 9) (v := ?_) rfl (by kernel_rfl) (by kernel_rfl) (by kernel_rfl) (fun _ _ _ h => h) (by rfl) ?_ (by assumption) ?_
  rotate_left
  · intro X hSX
    try dsimp only at hSX
    obtain ⟨_, g0, g1, g2, g3, g4, g5, g6⟩ := HM.out.step hSX
    obtain ⟨_, k0, k1, k2, k3, k4⟩ := HR.out.step hSX
    have hne := HNE.out
    go_simp <;> with_reducible rfl
  simp only [Act.put, List.setIfInBounds_toArray, List.set_cons_zero, List.set_cons_succ]
  refine held_take (i := 10) (v := ?_) rfl (by kernel_rfl) (by kernel_rfl) (by kernel_rfl) (fun _ _ _ h => h) (by rfl) ?_ (by assumption) ?_
  rotate_left
  · intro X hSX
    try dsimp only at hSX
    obtain ⟨_, g0, g1, g2, g3, g4, g5, g6⟩ := HM.out.step hSX
    obtain ⟨_, k0, k1, k2, k3, k4⟩ := HR.out.step hSX
    go_simp <;> with_reducible rfl
  simp only [Act.put, List.setIfInBounds_toArray, List.set_cons_zero, List.set_cons_succ]
  refine held_take (i := 11) (v := ?_) rfl (by kernel_rfl) (by kernel_rfl) (by kernel_rfl) (fun _ _ _ h => h) (by rfl) ?_ (by assumption) ?_
  rotate_left
  · intro X hSX
    try dsimp only at hSX
    obtain ⟨_, g0, g1, g2, g3, g4, g5, g6⟩ := HM.out.step hSX
    obtain ⟨_, k0, k1, k2, k3, k4⟩ := HR.out.step hSX
    go_simp <;> with_reducible rfl
  simp only [Act.put, List.setIfInBounds_toArray, List.set_cons_zero, List.set_cons_succ]
  refine held_take (i := 12) (v := ?_) rfl (by kernel_rfl) (by kernel_rfl) (by kernel_rfl) (fun _ _ _ h => h) (by rfl) ?_ (by assumption) ?_
  rotate_left
  · intro X hSX
    try dsimp only at hSX
    obtain ⟨_, g0, g1, g2, g3, g4, g5, g6⟩ := HM.out.step hSX
    obtain ⟨_, k0, k1, k2, k3, k4⟩ := HR.out.step hSX
    go_simp <;> with_reducible rfl
  simp only [Act.put, List.setIfInBounds_toArray, List.set_cons_zero, List.set_cons_succ]
  refine held_take (i := 13) (v := ?_) rfl (by kernel_rfl) (by kernel_rfl) (by kernel_rfl) (fun _ _ _ h => h) (by rfl) ?_ (by assumption) ?_
  rotate_left
  · intro X hSX
    try dsimp only at hSX
    obtain ⟨_, g0, g1, g2, g3, g4, g5, g6⟩ := HM.out.step hSX
    obtain ⟨_, k0, k1, k2, k3, k4⟩ := HR.out.step hSX
    go_simp <;> with_reducible rfl
  simp only [Act.put, List.setIfInBounds_toArray, List.set_cons_zero, List.set_cons_succ]
  refine held_take (i := 14) (v := ?_) rfl (by kernel_rfl) (by kernel_rfl) (by kernel_rfl) (fun _ _ _ h => h) (by rfl) ?_ (by assumption) ?_
  rotate_left
  · intro X hSX
    try dsimp only at hSX
    obtain ⟨_, g0, g1, g2, g3, g4, g5, g6⟩ := HM.out.step hSX
    obtain ⟨_, k0, k1, k2, k3, k4⟩ := HR.out.step hSX
    go_simp <;> with_reducible rfl
  simp only [Act.put, List.setIfInBounds_toArray, List.set_cons_zero, List.set_cons_succ]
  refine held_call (i := 15) rfl (by kernel_rfl) (by rfl) (fun K' hK' => ?_)
  go_simp
  refine (rrail_any m _ HMR.out).mono ?_
  rintro e w2 ⟨rfl, hb2⟩
  replace HBX := Lib.hid (HBX.out.trans (hb2.mono HBX.out.size))
  refine held_go hK' (HBX.out) ?_
  try simp only [Act.put, List.setIfInBounds_toArray, List.set_cons_zero, List.set_cons_succ]
  refine held_call (i := 16) rfl (by kernel_rfl) (by rfl) (fun K' hK' => ?_)
  go_simp
  refine (rin_any r.p 0 (rail m) _).mono ?_
  rw [HIN.out]
  rintro e w2 ⟨rfl, rfl⟩
  refine held_go hK' (HBX.out) ?_
  try simp only [Act.put, List.setIfInBounds_toArray, List.set_cons_zero, List.set_cons_succ]
  refine held_take (i := 17) (v := ?_) rfl (by kernel_rfl) (by kernel_rfl) (by kernel_rfl) (fun _ _ _ h => h) (by rfl) ?_ (by assumption) ?_
  rotate_left
  · intro X hSX
    try dsimp only at hSX
    go_simp <;> with_reducible rfl
  simp only [Act.put, List.setIfInBounds_toArray, List.set_cons_zero, List.set_cons_succ]
  refine held_take (i := 18) (v := ?_) rfl (by kernel_rfl) (by kernel_rfl) (by kernel_rfl) (fun _ _ _ h => h) (by rfl) ?_ (by assumption) ?_
  rotate_left
  · intro X hSX
    try dsimp only at hSX
    go_simp <;> with_reducible rfl
  simp only [Act.put, List.setIfInBounds_toArray, List.set_cons_zero, List.set_cons_succ]
  refine wpAnyH_done (by kernel_rfl) ?_ _
  refine NoPanic.normal ?_
  have HB1 := Lib.hid (HB0.out.trans (HBX.out.mono HB0.out.size))
  have HL2 := Lib.hid ((HL.out.below HBX.out rfl).below (below_box1 w2 (.cells #[] 9)) rfl)
  have HS1 := Lib.hid (below_box1 w2 (.cells #[] 9)).size
  obtain ⟨L, hL⟩ : ∃ L, L = r.l ++ [r.po, r.ha] := ⟨_, rfl⟩
  obtain ⟨N, hN⟩ : ∃ N, N = L.length := ⟨_, rfl⟩
  have HALL := Lib.hid hL
  have HNL := Lib.hid hN
  replace HV := Lib.hid (show vldR m r = dst L by rw [hL]; exact HV.out)
  have hNN : N ≤ 2000 := by rw [hN, hL, List.length_append, ← HN.out]; simp; omega
  have HR2 := Lib.hid (HR.out.step HBX.out)
  obtain ⟨_, k0, k1, k2, k3, k4⟩ := HR2.out
  clear hL hN
  go_wp2_with (first
    | (at_builtin; refine wpList_append_t rfl (.tmp 27) (.tmp 29) rfl w2.heap.size _ [] rfl (Sq.made w2) ad n cap r.l HNN.out HL2.out HN.out rfl (by simp; omega) HS1.out ?_; intro v1 w3 ho1 hg1; rw [List.nil_append] at ho1; have HB3 := Lib.hid (((Below.refl w2.heap.size w2).alloc (Nat.le_refl _) (.cells #[] 9)).grown hg1 HS1.out (fun k e => by cases e; exact Nat.le_refl _)); obtain ⟨_, q0, q1, q2, q3, q4⟩ := HR2.out.step HB3.out; have HO1 := Lib.hid (ho1.below (below_box1 w3 (.cells #[.string r.po, .string r.ha] 9))); have HX2 := Lib.hid (Sx.two w3 r.po r.ha); have HB4 := Lib.hid (HB3.out.alloc HB3.out.size (.cells #[.string r.po, .string r.ha] 9)); have HS2 := Lib.hid HB4.out.size; clear ho1 hg1)
    | (at_builtin; refine wpList_append_t rfl (.tmp 31) (.tmp 36) rfl w2.heap.size v1 r.l rfl HO1.out (some ⟨w3.heap.size, 0, none⟩) 2 2 [r.po, r.ha] (fun h => by cases h) HX2.out rfl rfl (by rw [← HN.out]; omega) HS2.out ?_; intro v2 w4 ho2 hg2; have HB5 := Lib.hid (HB4.out.grown hg2 HS2.out (fun k e => (HO1.out.lt k e).1)); rw [← HALL.out] at ho2; obtain ⟨ad2, cap2, rfl, hx2, -, hm2, -, -⟩ := ho2.read; rw [← HNL.out]; have HX3 := Lib.hid hx2; clear ho2 hg2 hx2))
  clear k0 k1 k2 k3 k4
  go_loopg [6] N (fun gk vi wx => ∃ i : Nat, vi = .int .i64 i ∧ i + gk = N ∧ Hid (Below w4.heap.size w4 wx) ∧ Hid (okTo L i))
  case atStart => exact ⟨0, rfl, by omega, Lib.hid (Below.refl _ _), Lib.hid fun a b ha hb h0 => by omega⟩
  case round =>
    obtain ⟨i, rfl, hi, hB, hok⟩ := hrel
    cases gk with
    | zero =>
      obtain rfl : i = N := by omega
      have HF := Lib.hid (hok.out.all (by have := HNL.out; omega))
      have HB1 := Lib.hid (HB0.out.trans (HBX.out.mono HB0.out.size))
      go_wp2
      go_ret
      exact ⟨by rw [HV.out, HF.out]; rfl, (HB1.out.trans ((HB5.out.trans (hB.out.mono HB5.out.size)).mono HB1.out.size))⟩
    | succ gk0 =>
      have hiN : i < N := by omega
      have hiL : i < L.length := by have := HNL.out; omega
      have HIL := Lib.hid hiL
      clear hiL
      go_wp2
      go_loopg [7] i (fun gj vj wy => ∃ k : Nat, vj = .int .i64 k ∧ k + gj = i ∧ Hid (Below w4.heap.size w4 wy) ∧ Hid (okAt L i k))
      case atStart => exact ⟨0, rfl, by omega, hB, Lib.hid fun b ha hb h0 => by omega⟩
      case round =>
        obtain ⟨k, rfl, hk, hB2, hat⟩ := hrel
        cases gk with
        | zero =>
          obtain rfl : k = i := by omega
          have HNX := Lib.hid (hok.out.next hat.out)
          go_wp2
          go_roundg gk0
          case rel => exact ⟨k + 1, by go_num, by omega, hB2, HNX⟩
          case measure => omega
        | succ gj0 =>
          have hki : k < i := by omega
          obtain ⟨b, off, rfl, hbl, q0⟩ := (HX3.out.below hB2.out rfl).get HIL.out
          obtain ⟨b', off', e', _, q1⟩ := (HX3.out.below hB2.out rfl).get (show k < L.length by have := HIL.out; omega)
          cases e'
          have HNX := Lib.hid (fun h2 => hat.out.next HIL.out hki h2)
          have HNO := Lib.hid (fun hne h2 => dst_no HIL.out hki hne h2)
          generalize L[i]'HIL.out = x at *
          generalize L[k]'(by have := HIL.out; omega) = y at *
          by_cases he : x = emp
          · have hx0 : x.toList.isEmpty = true := by rw [isE]; simp [he]
            have HS9 := Lib.hid (HNX.out (.inl he))
            clear he
            go_wp2_with fail
            go_quiet (fail)
            generalize hX9 : World.drewN wr _ = wr2
            have HB9 := Lib.hid (show Below w4.heap.size w4 wr2 by rw [← hX9]; exact below_drewN hB2.out _)
            clear hX9 q0 q1
            go_wp2
            go_roundg gj0
            case rel => exact ⟨k + 1, by go_num, by omega, HB9, HS9⟩
            case measure => omega
          · have hx0 : x.toList.isEmpty = false := by rw [isE]; simp [he]
            by_cases hq : x = y
            · have hx1 : (x.toList == y.toList) = true := by rw [eqT]; simp [hq]
              have HS9 := Lib.hid (HNO.out he hq)
              clear he hq
              go_wp2_with fail
              go_quiet (fail)
              generalize hX9 : World.drewN wr _ = wr2
              have HB9 := Lib.hid (show Below w4.heap.size w4 wr2 by rw [← hX9]; exact below_drewN hB2.out _)
              have HB1 := Lib.hid (HB0.out.trans (HBX.out.mono HB0.out.size))
              clear hX9 q0 q1
              go_wp2
              go_ret
              exact ⟨by rw [HV.out, HS9.out]; rfl, (HB1.out.trans ((HB5.out.trans (HB9.out.mono HB5.out.size)).mono HB1.out.size))⟩
            · have hx1 : (x.toList == y.toList) = false := by rw [eqT]; simp [hq]
              have HS9 := Lib.hid (HNX.out (.inr hq))
              clear he hq
              go_wp2_with fail
              go_quiet (fail)
              generalize hX9 : World.drewN wr _ = wr2
              have HB9 := Lib.hid (show Below w4.heap.size w4 wr2 by rw [← hX9]; exact below_drewN hB2.out _)
              clear hX9 q0 q1
              go_wp2
              go_roundg gj0
              case rel => exact ⟨k + 1, by go_num, by omega, HB9, HS9⟩
              case measure => omega
end Go.Proofs.Ytmhaeipklifhcaa
