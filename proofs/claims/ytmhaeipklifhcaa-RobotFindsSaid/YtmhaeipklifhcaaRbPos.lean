/-
  Position, by both sides.
-/
import Derived.Test.YtmhaeipklifhcaaRbLoc
import Derived.Test.YtmhaeipklifhcaaRbValP
namespace Go.Proofs.Ytmhaeipklifhcaa
open Go.RowKit
set_option linter.unusedVariables false
/-- a robot that is passed: its slots lie -/
structure RoIn (w : World) (r : Rbt) (ad : Option Addr) (n cap : Nat) : Prop where
  l : Sx w ad r.l
  len : n = r.l.length
  le : n ≤ 1000
  nn : ad = none → cap = 0
  z : ∀ s ∈ allR r, s.size ≤ maxLen
theorem RoIn.below {w X : World} {r : Rbt} {ad : Option Addr} {n cap : Nat} (h : RoIn w r ad n cap) (hb : Below w.heap.size w X) : RoIn X r ad n cap := ⟨h.l.below hb rfl, h.len, h.le, h.nn, h.z⟩
theorem pos_yes {m : Rmd} {r : Rbt} {k i : Int} (h : vldR m r = true) : posR m r k i = locR m r k i := by unfold posR; rw [if_pos h]
theorem pos_no {m : Rmd} {r : Rbt} {k i : Int} (h : vldR m r = false) : posR m r k i = (0, false) := by unfold posR; rw [if_neg (by rw [h]; decide)]
attribute [local irreducible] inn mdlR rail dst vldR
set_option maxRecDepth 100000 in
set_option maxHeartbeats 2000000 in
theorem position_any (m : Rmd) (r : Rbt) (ad : Option Addr) (n cap : Nat) (k i : Int) (w : World) (hin : RoIn w r ad n cap) :
    Calls Try.prog 10 #[rmV m, roV r ad n cap, elV k i] w fun e w' => e = .returned (.tuple #[.int .i64 (posR m r k i).1, .bool (posR m r k i).2]) ∧ Below w.heap.size w w' := by
  obtain ⟨hB, hM, hR, hE, hS⟩ := box_mre w m r ad n cap k i
  have HB := Lib.hid hB
  have HM := Lib.hid hM
  have HR := Lib.hid (RoAt.of hR)
  have HE := Lib.hid (ElAt.of hE)
  have HI := Lib.hid (hin.below hB)
  clear hB hM hR hE hS hin
  go_enter Try.func10, Try.ntmps10
  go_wp2_with fail
  generalize World.alloc _ _ = X0 at *
  refine (valid_any m r ad n cap _ HI.out.l HI.out.len HI.out.le HI.out.z).mono ?_
  rintro e w1 ⟨rfl, hb1⟩
  have HB1 := Lib.hid (HB.out.trans (hb1.mono HB.out.size))
  have HM1 := Lib.hid (HM.out.step hb1)
  have HR1 := Lib.hid (HR.out.step hb1)
  have HE1 := Lib.hid (HE.out.step hb1)
  clear hb1
  cases hv : vldR m r
  · have HP := Lib.hid (pos_no (k := k) (i := i) hv)
    clear hv
    go_wp2
    go_ret2
    exact ⟨by rw [HP.out]; rfl, HB1.out⟩
  have HP := Lib.hid (pos_yes (k := k) (i := i) hv)
  obtain ⟨v1, v2, ⟨v3, v4⟩, _⟩ := vld_iff.1 hv
  have HMR := Lib.hid v1
  have hrl := rail_le v1
  have HPB := Lib.hid (show 0 ≤ r.p ∧ r.p ≤ 100000 by omega)
  clear hv v1 v2 v3 v4 hrl
  obtain ⟨_, g0, g1, g2, g3, g4, g5, g6⟩ := HM1.out
  obtain ⟨_, k0, k1, k2, k3, k4⟩ := HR1.out
  obtain ⟨_, e0, e1⟩ := HE1.out
  go_wp2_with fail
  refine (locate_any m r ad n cap k i _ HMR.out HPB.out.1 HPB.out.2).mono ?_
  rintro e w2 ⟨rfl, hb2⟩
  have HB2 := Lib.hid (HB1.out.trans (hb2.mono HB1.out.size))
  clear hb2 g0 g1 g2 g3 g4 g5 g6 k0 k1 k2 k3 k4 e0 e1
  go_wp2
  go_ret2
  exact ⟨by rw [HP.out]; rfl, HB2.out⟩
set_option maxRecDepth 100000 in
set_option maxHeartbeats 2000000 in
theorem rposition_any (m : Rmd) (r : Rbt) (ad : Option Addr) (n cap : Nat) (k i : Int) (w : World) (hin : RoIn w r ad n cap) :
    Calls Try.prog 11 #[rmV m, roV r ad n cap, elV k i] w fun e w' => e = .returned (.tuple #[.int .i64 (posR m r k i).1, .bool (posR m r k i).2]) ∧ Below w.heap.size w w' := by
  obtain ⟨hB, hM, hR, hE, hS⟩ := box_mre w m r ad n cap k i
  have HB := Lib.hid hB
  have HM := Lib.hid hM
  have HR := Lib.hid (RoAt.of hR)
  have HE := Lib.hid (ElAt.of hE)
  have HI := Lib.hid (hin.below hB)
  clear hB hM hR hE hS hin
  go_enter Try.func11, Try.ntmps11
  go_wp2_with fail
  generalize World.alloc _ _ = X0 at *
  refine (rvalid_any m r ad n cap _ HI.out.l HI.out.len HI.out.le HI.out.nn).mono ?_
  rintro e w1 ⟨rfl, hb1⟩
  have HB1 := Lib.hid (HB.out.trans (hb1.mono HB.out.size))
  have HM1 := Lib.hid (HM.out.step hb1)
  have HR1 := Lib.hid (HR.out.step hb1)
  have HE1 := Lib.hid (HE.out.step hb1)
  clear hb1
  cases hv : vldR m r
  · have HP := Lib.hid (pos_no (k := k) (i := i) hv)
    clear hv
    go_wp2
    go_ret2
    exact ⟨by rw [HP.out]; rfl, HB1.out⟩
  have HP := Lib.hid (pos_yes (k := k) (i := i) hv)
  obtain ⟨v1, v2, ⟨v3, v4⟩, _⟩ := vld_iff.1 hv
  have HMR := Lib.hid v1
  have hrl := rail_le v1
  have HPB := Lib.hid (show 0 ≤ r.p ∧ r.p ≤ 100000 by omega)
  clear hv v1 v2 v3 v4 hrl
  obtain ⟨_, g0, g1, g2, g3, g4, g5, g6⟩ := HM1.out
  obtain ⟨_, k0, k1, k2, k3, k4⟩ := HR1.out
  obtain ⟨_, e0, e1⟩ := HE1.out
  obtain ⟨h1, h2, h3, h4, h5, h6, h7, h8, _, _, _, _, _, _⟩ := HMR.out
  by_cases c0 : k = 0
  · subst c0
    have HL := Lib.hid (loc_0 (m := m) (r := r) (i := i))
    go_wp2_with fail
    refine (rin_any i 0 (m.s - 1) _).mono ?_
    rintro e w2 ⟨rfl, rfl⟩
    cases hi : inn i 0 (m.s - 1)
    · rw [hi] at HL
      go_wp2
      go_ret2
      exact ⟨by rw [HP.out, HL.out]; rfl, HB1.out⟩
    · rw [hi] at HL
      go_wp2
      go_ret2
      exact ⟨by rw [HP.out, HL.out]; rfl, HB1.out⟩
  by_cases c1 : k = 1
  · subst c1
    have HL := Lib.hid (loc_1 (m := m) (r := r) (i := i))
    go_wp2_with fail
    refine (rin_any i 0 (m.d - 1) _).mono ?_
    rintro e w2 ⟨rfl, rfl⟩
    cases hi : inn i 0 (m.d - 1)
    · rw [hi] at HL
      go_wp2
      go_ret2
      exact ⟨by rw [HP.out, HL.out]; rfl, HB1.out⟩
    · obtain ⟨i0, i1⟩ := inn_iff.1 hi
      rw [hi] at HL
      go_wp2
      go_ret2
      exact ⟨by rw [HP.out, HL.out]; rfl, HB1.out⟩
  by_cases c2 : k = 2
  · subst c2
    have HL := Lib.hid (loc_2 (m := m) (r := r) (i := i))
    by_cases hi : i = 0
    · rw [if_pos hi] at HL
      go_wp2
      go_ret2
      exact ⟨by rw [HP.out, HL.out]; rfl, HB1.out⟩
    · rw [if_neg hi] at HL
      go_wp2
      go_ret2
      exact ⟨by rw [HP.out, HL.out]; rfl, HB1.out⟩
  by_cases c3 : k = 3
  · subst c3
    have HL := Lib.hid (loc_3 (m := m) (r := r) (i := i))
    by_cases hi : i = 0
    · rw [if_pos hi] at HL
      go_wp2
      go_ret2
      exact ⟨by rw [HP.out, HL.out]; rfl, HB1.out⟩
    · rw [if_neg hi] at HL
      go_wp2
      go_ret2
      exact ⟨by rw [HP.out, HL.out]; rfl, HB1.out⟩
  have HL := Lib.hid (loc_no (m := m) (r := r) (i := i) c0 c1 c2 c3)
  go_wp2
  go_ret2
  exact ⟨by rw [HP.out, HL.out]; rfl, HB1.out⟩
end Go.Proofs.Ytmhaeipklifhcaa
