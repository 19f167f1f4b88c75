/-
  The specification's reach.
-/
import Derived.Test.YtmhaeipklifhcaaRbRef2
namespace Go.Proofs.Ytmhaeipklifhcaa
open Go.RowKit
set_option linter.unusedVariables false
theorem rea_no1 {m : Rmd} {r : Rbt} {k i : Int} (h : vldR m r = false) : reaR m r k i = (0, 8) := if_neg (by rw [h]; decide)
theorem rea_no2 {m : Rmd} {r : Rbt} {k i : Int} (h : vldR m r = true) (h2 : r.f = true) : reaR m r k i = (0, 16) := by unfold reaR; rw [if_pos h, if_pos h2]
theorem rea_no3 {m : Rmd} {r : Rbt} {k i : Int} (h : vldR m r = true) (h2 : r.f = false) (h3 : ¬ ((locR m r k i).2 = true ∧ k ≠ 3)) : reaR m r k i = (0, 11) := by unfold reaR; rw [if_pos h, if_neg (by rw [h2]; decide), if_neg h3]
theorem rea_yes {m : Rmd} {r : Rbt} {k i : Int} (h : vldR m r = true) (h2 : r.f = false) (h3 : (locR m r k i).2 = true ∧ k ≠ 3) : reaR m r k i = ((locR m r k i).1, 0) := by unfold reaR; rw [if_pos h, if_neg (by rw [h2]; decide), if_pos h3]
/-- what is known where the hand can be moved -/
structure Rea (m : Rmd) (r : Rbt) (k i : Int) : Prop where
  v : vldR m r = true
  f : r.f = false
  l : (locR m r k i).2 = true
  k3 : k ≠ 3
theorem rea_ok {m : Rmd} {r : Rbt} {k i : Int} (h : (reaR m r k i).2 = 0) : Rea m r k i := by
  cases hv : vldR m r
  · rw [rea_no1 hv] at h; cases h
  cases hf : r.f
  · by_cases h3 : (locR m r k i).2 = true ∧ k ≠ 3
    · exact ⟨hv, hf, h3.1, h3.2⟩
    · rw [rea_no3 hv hf h3] at h; cases h
  · rw [rea_no2 hv hf] at h; cases h
theorem Rea.eq {m : Rmd} {r : Rbt} {k i : Int} (h : Rea m r k i) : reaR m r k i = ((locR m r k i).1, 0) := rea_yes h.v h.f ⟨h.l, h.k3⟩
theorem Rea.kind {m : Rmd} {r : Rbt} {k i : Int} (h : Rea m r k i) : k = 0 ∨ k = 1 ∨ k = 2 := by
  rcases Classical.em (k = 0) with h0 | h0
  · exact .inl h0
  rcases Classical.em (k = 1) with h1 | h1
  · exact .inr (.inl h1)
  rcases Classical.em (k = 2) with h2 | h2
  · exact .inr (.inr h2)
  have := h.l
  rw [loc_no h0 h1 h2 h.k3] at this
  cases this
theorem Rea.slot {m : Rmd} {r : Rbt} {i : Int} (h : Rea m r 0 i) : 0 ≤ i ∧ i < (r.l.length : Int) ∧ (locR m r 0 i).1 = i := by
  obtain ⟨h1, h2, _, _⟩ := vld_iff.1 h.v
  have h3 := h.l
  rw [loc_0] at h3 ⊢
  cases hi : inn i 0 (m.s - 1)
  · rw [hi] at h3; cases h3
  · have := inn_iff.1 hi
    refine ⟨this.1, by omega, ?_⟩
    rw [if_pos rfl]
theorem loc_rail {m : Rmd} {r : Rbt} {k i : Int} (h : Rea m r k i) : 0 ≤ (locR m r k i).1 ∧ (locR m r k i).1 ≤ rail m := by
  obtain ⟨hm, h2, h4, _⟩ := vld_iff.1 h.v
  have hr := rail_ge m
  obtain ⟨s0, s1, d0, d1, a0, a1, p0, p1, _, _, _, _, _, _⟩ := hm
  have h3 := h.l
  rcases h.kind with rfl | rfl | rfl
  · rw [loc_0] at h3 ⊢
    cases hi : inn i 0 (m.s - 1)
    · rw [hi] at h3; cases h3
    · have := inn_iff.1 hi
      rw [if_pos rfl]
      show 0 ≤ i ∧ i ≤ rail m
      omega
  · rw [loc_1] at h3 ⊢
    cases hi : inn i 0 (m.d - 1)
    · rw [hi] at h3; cases h3
    · have := inn_iff.1 hi
      rw [if_pos rfl]
      show 0 ≤ m.da + i ∧ m.da + i ≤ rail m
      omega
  · rw [loc_2] at h3 ⊢
    split at h3
    · rw [if_pos (by assumption)]
      show 0 ≤ m.pa ∧ m.pa ≤ rail m
      omega
    · cases h3
attribute [local irreducible] inn mdlR rail dst vldR trvR finR locR
set_option maxRecDepth 100000 in
set_option maxHeartbeats 2000000 in
theorem rreach_any (m : Rmd) (r : Rbt) (ad : Option Addr) (n cap : Nat) (k i : Int) (w : World) (hin : RoIn w r ad n cap) :
    Calls Try.prog 43 #[rmV m, roV r ad n cap, elV k i] w fun e w' => e = .returned (.tuple #[.int .i64 (reaR m r k i).1, .int .i64 (reaR m r k i).2]) ∧ Below w.heap.size w w' := by
  obtain ⟨hB, hM, hR, hE, hS⟩ := box_mre w m r ad n cap k i
  have HB := Lib.hid hB
  have HM := Lib.hid hM
  have HR := Lib.hid (RoAt.of hR)
  have HE := Lib.hid (ElAt.of hE)
  have HI := Lib.hid (hin.below hB)
  clear hB hM hR hE hS hin
  go_enter Try.func43, Try.ntmps43
  go_wp2_with fail
  generalize World.alloc _ _ = X0 at *
  refine (rvalid_any m r ad n cap _ HI.out.l HI.out.len HI.out.le HI.out.nn).mono ?_
  rintro e w1 ⟨rfl, hb1⟩
  have HB1 := Lib.hid (HB.out.trans (hb1.mono HB.out.size))
  have HM1 := Lib.hid (HM.out.step hb1)
  have HR1 := Lib.hid (HR.out.step hb1)
  have HE1 := Lib.hid (HE.out.step hb1)
  have HI1 := Lib.hid (HI.out.below hb1)
  clear hb1
  cases hv : vldR m r
  · have HP := Lib.hid (rea_no1 (k := k) (i := i) hv)
    clear hv
    go_wp2
    go_ret2
    exact ⟨by rw [HP.out]; rfl, HB1.out⟩
  have HV := Lib.hid hv
  clear hv
  obtain ⟨_, g0, g1, g2, g3, g4, g5, g6⟩ := HM1.out
  obtain ⟨_, k0, k1, k2, k3, k4⟩ := HR1.out
  obtain ⟨_, e0, e1⟩ := HE1.out
  cases hf : r.f
  rotate_left
  · have HP := Lib.hid (rea_no2 (k := k) (i := i) HV.out hf)
    rw [hf] at k1
    clear hf
    go_wp2
    go_ret2
    exact ⟨by rw [HP.out]; rfl, HB1.out⟩
  have HF := Lib.hid hf
  have HQ := Lib.hid (pos_yes (k := k) (i := i) HV.out)
  rw [hf] at k1
  clear hf
  go_upto_region 5 with fail
  clear k1
  obtain ⟨_, _, k1, _, _, _⟩ := HR1.out
  go_wp2_with fail
  refine (rposition_any m r ad n cap k i _ HI1.out).mono ?_
  rintro e w2 ⟨rfl, hb2⟩
  rw [HQ.out]
  have HB2 := Lib.hid (HB1.out.trans (hb2.mono HB1.out.size))
  have HE2 := Lib.hid (HE1.out.step hb2)
  clear hb2 g0 g1 g2 g3 g4 g5 g6 k0 k1 k2 k3 k4 e0 e1
  obtain ⟨_, e0, e1⟩ := HE2.out
  cases hl : (locR m r k i).2
  · have HP := Lib.hid (rea_no3 (m := m) (k := k) (i := i) HV.out HF.out (fun h => by rw [hl] at h; cases h.1))
    clear hl
    go_wp2
    go_ret2
    exact ⟨by rw [HP.out]; rfl, HB2.out⟩
  by_cases hk : k = 3
  · have HP := Lib.hid (rea_no3 (m := m) (k := k) (i := i) HV.out HF.out (fun h => h.2 hk))
    have hk3 : (k == 3) = true := by simpa using hk
    clear hl hk
    go_wp2
    go_ret2
    exact ⟨by rw [HP.out]; rfl, HB2.out⟩
  · have HP := Lib.hid (rea_yes (m := m) HV.out HF.out ⟨hl, hk⟩)
    have hk3 : (k == 3) = false := by simpa using hk
    clear hl hk
    go_wp2
    go_ret2
    exact ⟨by rw [HP.out]; rfl, HB2.out⟩
end Go.Proofs.Ytmhaeipklifhcaa
