/-
  Locate and Passes of the specification.
-/
import Derived.Test.YtcoijhemnfnghaaSLoc
import Derived.Test.YtcoijhemnfnghaaSRPlace
namespace Go.Proofs.Ytcoijhemnfnghaa
open Go.RowKit
set_option linter.unusedVariables false
theorem rsz_pos (a : Int) (w : World) (h : -1000000000 ≤ a ∧ a ≤ 1000000000) :
    Calls Try.prog 31 #[.int .i64 a] w fun e w' => e = .returned (.int .i64 (dis a 0)) ∧ w' = w := rsize_any a w h.1 h.2
theorem dis_zero (a b : Int) : dis (b - a) 0 = dis a b := by unfold dis; omega
/-- Place of a block that has one, and of one that has none -/
theorem rplace_yes (W L S T J R b : Int) (w : World) (h : hav W L S T J R b = true) :
    Calls Try.prog 10 #[geV W L S T J R, .int .i64 b] w fun e w' => e = .returned (.tuple #[plV (wr W L b) (po W L b) (bk W L b), .bool true]) ∧ Below w.heap.size w w' := by
  have := rplace_any W L S T J R b w
  rw [show pw W L S T J R b = wr W L b by unfold pw; rw [h]; rfl, show pp W L S T J R b = po W L b by unfold pp; rw [h]; rfl, show pk W L S T J R b = bk W L b by unfold pk; rw [h]; rfl, h] at this
  exact this
theorem rplace_none (W L S T J R b : Int) (w : World) (h : hav W L S T J R b = false) :
    Calls Try.prog 10 #[geV W L S T J R, .int .i64 b] w fun e w' => e = .returned (.tuple #[plV 0 0 false, .bool false]) ∧ Below w.heap.size w w' := rplace_no W L S T J R b w h
/-- behind both calls of Place -/
theorem two_start {w X0 w1 w2 : World} {W L S T J R wa pa wb pb : Int} {ka kb : Bool} (hb0 : Below w.heap.size w X0) (hg : GeoAt X0 w.heap.size W L S T J R) (hb1 : Below X0.heap.size X0 w1)
    (hb2 : Below (w1.alloc (boxP wa pa ka)).heap.size (w1.alloc (boxP wa pa ka)) w2) :
    Below w.heap.size w (w2.alloc (boxP wb pb kb)) ∧ GeoAt (w2.alloc (boxP wb pb kb)) w.heap.size W L S T J R ∧ PlAt (w2.alloc (boxP wb pb kb)) w1.heap.size wa pa ka ∧ PlAt (w2.alloc (boxP wb pb kb)) w2.heap.size wb pb kb := by
  have h1 := hb0.trans (hb1.mono hb0.size)
  have h2 := h1.alloc h1.size (boxP wa pa ka)
  have h3 := h2.trans (hb2.mono h2.size)
  have g1 := (hg.below hb1 hg.lt).alloc (boxP wa pa ka)
  have g2 := g1.below hb2 g1.lt
  have p1 := PlAt.new w1 wa pa ka 25
  have p2 := p1.below hb2 p1.lt
  exact ⟨h3.alloc h3.size _, g2.alloc _, p2.alloc _, PlAt.new w2 wb pb kb _⟩
theorem loc_self (W L S T J R a : Int) : loc W L S T J R a a = 0 := by unfold loc; rw [mo_self]; split <;> rfl
attribute [local irreducible] tim vld hav wr po bk dis pw pp pk opp
set_option maxRecDepth 100000 in
set_option maxHeartbeats 2000000 in
theorem rlocate_any (W L S T J R a b : Int) (w : World) :
    Calls Try.prog 19 #[geV W L S T J R, .int .i64 a, .int .i64 b] w fun e w' => e = .returned (.int .i64 (loc W L S T J R a b)) ∧ Below w.heap.size w w' := by
  have HB0 := Lib.hid (below_box1 w (boxG W L S T J R))
  have HG := Lib.hid (GeoAt.new w W L S T J R 23)
  cases ha : hav W L S T J R a
  · have HR := Lib.hid (show loc W L S T J R a b = 0 from loc_no (by rw [ha]; rfl))
    have HA := Lib.hid ha
    clear ha
    go_enter Try.func19, Try.ntmps19
    go_wp2_with fail
    generalize World.alloc _ _ = X0 at HB0 HG ⊢
    refine (rplace_none W L S T J R a X0 HA.out).mono ?_
    rintro e w1 ⟨rfl, hb1⟩
    have H1 := Lib.hid hb1
    obtain ⟨glt, g0, g1, g2, g3, g4, g5⟩ := HG.out.below hb1 HG.out.lt
    clear hb1
    go_wp2_with fail
    refine (rplace_any W L S T J R b _).mono ?_
    rintro e w2 ⟨rfl, hb2⟩
    have H2 := Lib.hid (two_start (wb := pw W L S T J R b) (pb := pp W L S T J R b) (kb := pk W L S T J R b) HB0.out HG.out H1.out hb2)
    clear hb2 g0 g1 g2 g3 g4 g5 glt
    go_wp2
    go_ret
    exact ⟨by rw [HR.out]; rfl, H2.out.1⟩
  cases hb : hav W L S T J R b
  · have HR := Lib.hid (show loc W L S T J R a b = 0 from loc_no (by rw [hb, Bool.and_false]))
    have HA := Lib.hid ha
    have HB := Lib.hid hb
    clear ha hb
    go_enter Try.func19, Try.ntmps19
    go_wp2_with fail
    generalize World.alloc _ _ = X0 at HB0 HG ⊢
    refine (rplace_yes W L S T J R a X0 HA.out).mono ?_
    rintro e w1 ⟨rfl, hb1⟩
    have H1 := Lib.hid hb1
    obtain ⟨glt, g0, g1, g2, g3, g4, g5⟩ := HG.out.below hb1 HG.out.lt
    clear hb1
    go_wp2_with fail
    refine (rplace_none W L S T J R b _ HB.out).mono ?_
    rintro e w2 ⟨rfl, hb2⟩
    have H2 := Lib.hid (two_start (wb := 0) (pb := 0) (kb := false) HB0.out HG.out H1.out hb2)
    clear hb2 g0 g1 g2 g3 g4 g5 glt
    go_wp2
    go_ret
    exact ⟨by rw [HR.out]; rfl, H2.out.1⟩
  by_cases hab : a = b
  · subst hab
    have HR := Lib.hid (loc_self W L S T J R a)
    have HA := Lib.hid ha
    clear ha hb
    go_enter Try.func19, Try.ntmps19
    go_wp2_with fail
    generalize World.alloc _ _ = X0 at HB0 HG ⊢
    refine (rplace_yes W L S T J R a X0 HA.out).mono ?_
    rintro e w1 ⟨rfl, hb1⟩
    have H1 := Lib.hid hb1
    obtain ⟨glt, g0, g1, g2, g3, g4, g5⟩ := HG.out.below hb1 HG.out.lt
    clear hb1
    go_wp2_with fail
    refine (rplace_yes W L S T J R a _ HA.out).mono ?_
    rintro e w2 ⟨rfl, hb2⟩
    have H2 := Lib.hid (two_start (wb := wr W L a) (pb := po W L a) (kb := bk W L a) HB0.out HG.out H1.out hb2)
    clear hb2 g0 g1 g2 g3 g4 g5 glt
    go_wp2
    go_ret
    exact ⟨by rw [HR.out]; rfl, H2.out.1⟩
  have hab2 : (a == b) = false := by rw [beq_eq_false_iff_ne]; exact hab
  have HR := Lib.hid (show loc W L S T J R a b = mov S T J (wr W L a) (po W L a) (bk W L a) (wr W L b) (po W L b) (bk W L b) from loc_yes (by rw [ha, hb]; rfl))
  have HPa := Lib.hid (fun X => rplace_yes W L S T J R a X ha)
  have HPb := Lib.hid (fun X => rplace_yes W L S T J R b X hb)
  obtain ⟨v, a0, a1⟩ := hav_iff.1 ha
  obtain ⟨_, b0, b1⟩ := hav_iff.1 hb
  obtain ⟨ra0, ra1, _, _, _⟩ := wr_bd v.w0 v.l0 a0 a1
  obtain ⟨rb0, rb1, _, _, _⟩ := wr_bd v.w0 v.l0 b0 b1
  obtain ⟨qa0, qa1⟩ := po_bd v.w0 v.l0 a0 a1
  obtain ⟨qb0, qb1⟩ := po_bd v.w0 v.l0 b0 b1
  have l1 := v.l1
  have wm := v.w1
  have s0 := v.s0
  have s1 := v.s1
  have t0 := v.t0
  have t1 := v.t1
  have j0 := v.j0
  have j1 := v.j1
  clear hab ha hb v
  generalize wr W L a = wa at *
  generalize po W L a = pa at *
  generalize bk W L a = ka at *
  generalize wr W L b = wb at *
  generalize po W L b = pb at *
  generalize bk W L b = kb at *
  have hd : dis (pb - pa) 0 ≤ 4097 ∧ dis (wb - wa) 0 ≤ 32 := by rw [dis_zero, dis_zero]; unfold dis; omega
  obtain ⟨e1, e2⟩ := mul_bd (m := 4097) s0 s1 (dis_nonneg (pb - pa) 0) hd.1
  obtain ⟨e3, e4⟩ := mul_bd (m := 32) j0 j1 (dis_nonneg (wb - wa) 0) hd.2
  clear hd
  go_enter Try.func19, Try.ntmps19
  go_wp2_with fail
  generalize World.alloc _ _ = X0 at HB0 HG ⊢
  refine (HPa.out X0).mono ?_
  rintro e w1 ⟨rfl, hb1⟩
  have H1 := Lib.hid hb1
  obtain ⟨glt, g0, g1, g2, g3, g4, g5⟩ := HG.out.below hb1 HG.out.lt
  clear hb1
  go_wp2_with fail
  refine (HPb.out _).mono ?_
  rintro e w2 ⟨rfl, hb2⟩
  obtain ⟨h1, h2, h3, h4⟩ := two_start (wb := wb) (pb := pb) (kb := kb) HB0.out HG.out H1.out hb2
  have HB2 := Lib.hid h1
  clear h1 hb2 g0 g1 g2 g3 g4 g5 glt
  obtain ⟨_, g0, g1, g2, g3, g4, g5⟩ := h2
  obtain ⟨_, p0, p1, p2⟩ := h3
  obtain ⟨_, q0, q1, q2⟩ := h4
  go_wp2_with fail
  generalize World.alloc w2 _ = Y at *
  go_quiet ((go_at_call 31; exact Calls.quiet_of_same (rsz_pos _ _ (by omega))))
  have HM := Lib.hid (show mov S T J wa pa ka wb pb kb = S * dis (pb - pa) 0 + J * dis (wb - wa) 0 + (if opp pa ka pb kb = true then T else 0) by rw [dis_zero, dis_zero]; rfl)
  generalize S * dis (pb - pa) 0 = x1 at *
  generalize J * dis (wb - wa) 0 = x2 at *
  rcases Int.lt_trichotomy pa pb with hp | hp | hp
  · have hp2 : 0 < pb - pa := by omega
    cases kb
    · have HF := Lib.hid (show opp pa ka pb false = false by unfold opp; rw [if_neg (by omega), decide_eq_true hp]; rfl)
      go_wp2
      go_ret
      exact ⟨by rw [HR.out, HM.out, HF.out]; simp, below_drewN HB2.out _⟩
    · have HF := Lib.hid (show opp pa ka pb true = true by unfold opp; rw [if_neg (by omega), decide_eq_true hp]; rfl)
      go_wp2
      go_ret
      exact ⟨by rw [HR.out, HM.out, HF.out]; simp, below_drewN HB2.out _⟩
  · subst hp
    have hp2 : pa - pa = 0 := by omega
    cases ka <;> cases kb
    all_goals
      go_wp2
      go_ret
      exact ⟨by rw [HR.out, HM.out]; simp [opp], below_drewN HB2.out _⟩
  · have hp2 : pb - pa < 0 := by omega
    cases kb
    · have HF := Lib.hid (show opp pa ka pb false = true by unfold opp; rw [if_neg (by omega), decide_eq_false (by omega)]; rfl)
      go_wp2
      go_ret
      exact ⟨by rw [HR.out, HM.out, HF.out]; simp, below_drewN HB2.out _⟩
    · have HF := Lib.hid (show opp pa ka pb true = false by unfold opp; rw [if_neg (by omega), decide_eq_false (by omega)]; rfl)
      go_wp2
      go_ret
      exact ⟨by rw [HR.out, HM.out, HF.out]; simp, below_drewN HB2.out _⟩
end Go.Proofs.Ytcoijhemnfnghaa
