/-
  Passes of the specification.
-/
import Derived.Test.YtcoijhemnfnghaaSRLoc
namespace Go.Proofs.Ytcoijhemnfnghaa
open Go.RowKit
set_option linter.unusedVariables false
attribute [local irreducible] tim vld hav wr po bk dis pw pp pk opp
set_option maxRecDepth 100000 in
set_option maxHeartbeats 2000000 in
theorem rpasses_any (W L S T J R a b : Int) (w : World) :
    Calls Try.prog 23 #[geV W L S T J R, .int .i64 a, .int .i64 b] w fun e w' => e = .returned (.int .i64 (pas W L S T J R a b)) ∧ Below w.heap.size w w' := by
  have HB0 := Lib.hid (below_box1 w (boxG W L S T J R))
  have HG := Lib.hid (GeoAt.new w W L S T J R 23)
  cases ha : hav W L S T J R a
  · have HR := Lib.hid (show pas W L S T J R a b = 0 from pas_no (by rw [ha]; rfl))
    have HA := Lib.hid ha
    clear ha
    go_enter Try.func23, Try.ntmps23
    go_wp2_with fail
    generalize World.alloc _ _ = X0 at HB0 HG ⊢
    refine (rplace_none W L S T J R a X0 HA.out).mono ?_
    rintro e w1 ⟨rfl, hb1⟩
    have H1 := Lib.hid hb1
    obtain ⟨glt, g0, g1, g2, g3, g4, g5⟩ := HG.out.below hb1 HG.out.lt
    clear hb1
    go_wp2_with fail
    refine (rplace_any W L S T J R b _).mono ?_
    rintro e w2 ⟨rfl, hb2⟩
    have H2 := Lib.hid (two_start (wb := pw W L S T J R b) (pb := pp W L S T J R b) (kb := pk W L S T J R b) HB0.out HG.out H1.out hb2)
    clear hb2 g0 g1 g2 g3 g4 g5 glt
    go_wp2
    go_ret
    exact ⟨by rw [HR.out]; rfl, H2.out.1⟩
  cases hb : hav W L S T J R b
  · have HR := Lib.hid (show pas W L S T J R a b = 0 from pas_no (by rw [hb, Bool.and_false]))
    have HA := Lib.hid ha
    have HB := Lib.hid hb
    clear ha hb
    go_enter Try.func23, Try.ntmps23
    go_wp2_with fail
    generalize World.alloc _ _ = X0 at HB0 HG ⊢
    refine (rplace_yes W L S T J R a X0 HA.out).mono ?_
    rintro e w1 ⟨rfl, hb1⟩
    have H1 := Lib.hid hb1
    obtain ⟨glt, g0, g1, g2, g3, g4, g5⟩ := HG.out.below hb1 HG.out.lt
    clear hb1
    go_wp2_with fail
    refine (rplace_none W L S T J R b _ HB.out).mono ?_
    rintro e w2 ⟨rfl, hb2⟩
    have H2 := Lib.hid (two_start (wb := 0) (pb := 0) (kb := false) HB0.out HG.out H1.out hb2)
    clear hb2 g0 g1 g2 g3 g4 g5 glt
    go_wp2
    go_ret
    exact ⟨by rw [HR.out]; rfl, H2.out.1⟩
  have HR := Lib.hid (show pas W L S T J R a b = (1000 * dis (po W L a) (po W L b) + L - 1) / L from pas_yes (by rw [ha, hb]; rfl))
  have HPa := Lib.hid (fun X => rplace_yes W L S T J R a X ha)
  have HPb := Lib.hid (fun X => rplace_yes W L S T J R b X hb)
  obtain ⟨v, a0, a1⟩ := hav_iff.1 ha
  obtain ⟨_, b0, b1⟩ := hav_iff.1 hb
  obtain ⟨qa0, qa1⟩ := po_bd v.w0 v.l0 a0 a1
  obtain ⟨qb0, qb1⟩ := po_bd v.w0 v.l0 b0 b1
  have l0 := v.l0
  have l1 := v.l1
  have lne : L ≠ 0 := by omega
  clear ha hb v
  generalize wr W L a = wa at *
  generalize po W L a = pa at *
  generalize bk W L a = ka at *
  generalize wr W L b = wb at *
  generalize po W L b = pb at *
  generalize bk W L b = kb at *
  have hd : dis (pb - pa) 0 ≤ 4097 := by rw [dis_zero]; unfold dis; omega
  have hd0 := dis_nonneg (pb - pa) 0
  go_enter Try.func23, Try.ntmps23
  go_wp2_with fail
  generalize World.alloc _ _ = X0 at HB0 HG ⊢
  refine (HPa.out X0).mono ?_
  rintro e w1 ⟨rfl, hb1⟩
  have H1 := Lib.hid hb1
  obtain ⟨glt, g0, g1, g2, g3, g4, g5⟩ := HG.out.below hb1 HG.out.lt
  clear hb1
  go_wp2_with fail
  refine (HPb.out _).mono ?_
  rintro e w2 ⟨rfl, hb2⟩
  obtain ⟨h1, h2, h3, h4⟩ := two_start (wb := wb) (pb := pb) (kb := kb) HB0.out HG.out H1.out hb2
  have HB2 := Lib.hid h1
  clear h1 hb2 g0 g1 g2 g3 g4 g5 glt
  obtain ⟨_, g0, g1, g2, g3, g4, g5⟩ := h2
  obtain ⟨_, p0, p1, p2⟩ := h3
  obtain ⟨_, q0, q1, q2⟩ := h4
  go_wp2_with fail
  generalize World.alloc w2 _ = Y at *
  have HD := Lib.hid (dis_zero pa pb)
  go_quiet ((go_at_call 31; exact Calls.quiet_of_same (rsz_pos _ _ (by omega))))
  go_wp2
  go_ret
  exact ⟨by rw [HR.out, ← HD.out, Int.mul_comm 1000]; rfl, below_drewN HB2.out _⟩
end Go.Proofs.Ytcoijhemnfnghaa
