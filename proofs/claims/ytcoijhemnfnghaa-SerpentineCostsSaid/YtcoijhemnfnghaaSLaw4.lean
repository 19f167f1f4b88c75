/-
  The statement SerpentineCosts.
-/
import Derived.Test.YtcoijhemnfnghaaSLaw3
import Derived.Test.YtcoijhemnfnghaaSRLoc
import Derived.Test.YtcoijhemnfnghaaNHeld
namespace Go.Proofs.Ytcoijhemnfnghaa
open Go.RowKit
set_option linter.unusedVariables false
set_option maxRecDepth 100000 in
set_option maxHeartbeats 400000 in
theorem lsize_any (a : Int) (w : World) (a0 : -100000000000 ≤ a) (a1 : a ≤ 100000000000) :
    Calls Try.prog 26 #[.int .i64 a] w fun e w' => e = .returned (.int .i64 (dis a 0)) ∧ w' = w := by
  go_enter Try.func26, Try.ntmps26
  go_wp2
  all_goals go_ret
  · exact ⟨ret_i64 (by unfold dis; omega), rfl⟩
  · exact ⟨ret_i64 (by unfold dis; omega), rfl⟩
theorem lsz_pos (a : Int) (w : World) (h : -100000000000 ≤ a ∧ a ≤ 100000000000) :
    Calls Try.prog 26 #[.int .i64 a] w fun e w' => e = .returned (.int .i64 (dis a 0)) ∧ w' = w := lsize_any a w h.1 h.2
theorem lsz_below (a : Int) (w : World) (h : -100000000000 ≤ a ∧ a ≤ 100000000000) :
    Calls Try.prog 26 #[.int .i64 a] w fun e w' => e = .returned (.int .i64 (dis a 0)) ∧ Below w.heap.size w w' := (lsize_any a w h.1 h.2).mono fun e w' h => ⟨h.1, by rw [h.2]; exact Below.refl _ _⟩
theorem place_none (W L S T J R b : Int) (w : World) (h : hav W L S T J R b = false) :
    Calls Try.prog 9 #[geV W L S T J R, .int .i64 b] w fun e w' => e = .returned (.tuple #[plV 0 0 false, .bool false]) ∧ Below w.heap.size w w' := by
  have := place_any W L S T J R b w
  rw [show pw W L S T J R b = 0 by unfold pw; rw [h]; rfl, show pp W L S T J R b = 0 by unfold pp; rw [h]; rfl, show pk W L S T J R b = false by unfold pk; rw [h]; rfl, h] at this
  exact this
theorem dis_le (x T : Int) (h1 : x ≤ T) (h2 : -x ≤ T) : dis x 0 ≤ T := by unfold dis; omega
theorem two_next {w X X' : World} {W L S T J R : Int} {g1 g2 : Nat} {wa pa wb pb : Int} {ka kb : Bool}
    (h : Below w.heap.size w X ∧ GeoAt X w.heap.size W L S T J R ∧ PlAt X g1 wa pa ka ∧ PlAt X g2 wb pb kb) (hb : Below X.heap.size X X') :
    Below w.heap.size w X' ∧ GeoAt X' w.heap.size W L S T J R ∧ PlAt X' g1 wa pa ka ∧ PlAt X' g2 wb pb kb :=
  ⟨h.1.trans (hb.mono h.1.size), h.2.1.below hb h.2.1.lt, h.2.2.1.below hb h.2.2.1.lt, h.2.2.2.below hb h.2.2.2.lt⟩
attribute [local irreducible] tim vld hav wr po bk dis pw pp pk opp farU far
set_option maxRecDepth 100000 in
set_option maxHeartbeats 4000000 in
theorem law_costs (W L S T J R a b : Int) (w : World) :
    Calls Try.prog 6 #[geV W L S T J R, .int .i64 a, .int .i64 b] w fun e w' => e = .returned (.bool true) ∧ Below w.heap.size w w' := by
  have HB0 := Lib.hid (below_box1 w (boxG W L S T J R))
  have HG := Lib.hid (GeoAt.new w W L S T J R 23)
  have HL0 := Lib.hid (fun X => locate_any W L S T J R a b X)
  cases ha : hav W L S T J R a
  · rw [show loc W L S T J R a b = 0 from loc_no (by rw [ha]; rfl)] at HL0
    have HLO := HL0
    have HA := Lib.hid ha
    clear ha
    go_enter Try.func6, Try.ntmps6
    go_wp2_with fail
    generalize World.alloc _ _ = X0 at HB0 HG ⊢
    refine (place_none W L S T J R a X0 HA.out).mono ?_
    rintro e w1 ⟨rfl, hb1⟩
    have H1 := Lib.hid hb1
    obtain ⟨glt, g0, g1, g2, g3, g4, g5⟩ := HG.out.below hb1 HG.out.lt
    clear hb1
    go_wp2_with fail
    refine (place_any W L S T J R b _).mono ?_
    rintro e w2 ⟨rfl, hb2⟩
    have H2 := Lib.hid (two_start (wb := pw W L S T J R b) (pb := pp W L S T J R b) (kb := pk W L S T J R b) HB0.out HG.out H1.out hb2)
    clear hb2 g0 g1 g2 g3 g4 g5 glt
    obtain ⟨_, g0, g1, g2, g3, g4, g5⟩ := H2.out.2.1
    go_wp2_with fail
    clear g0 g1 g2 g3 g4 g5
    generalize w1.heap.size = gp at *
    generalize w2.heap.size = gq at *
    generalize World.alloc w2 _ = Y at *
    refine (HLO.out Y).mono ?_
    rintro e w3 ⟨rfl, hb⟩
    replace H2 := Lib.hid (two_next H2.out hb)
    clear hb
    go_wp2_with fail
    refine (awake_any _).mono ?_
    rintro e w8 ⟨rfl, hb⟩
    have HB8 := Lib.hid (H2.out.1.trans (hb.mono H2.out.1.size))
    clear hb
    go_wp2
    go_ret
    exact ⟨rfl, HB8.out⟩
  cases hb : hav W L S T J R b
  · rw [show loc W L S T J R a b = 0 from loc_no (by rw [hb, Bool.and_false])] at HL0
    have HLO := HL0
    have HA := Lib.hid ha
    have HB := Lib.hid hb
    clear ha hb
    go_enter Try.func6, Try.ntmps6
    go_wp2_with fail
    generalize World.alloc _ _ = X0 at HB0 HG ⊢
    refine (place_yes W L S T J R a X0 HA.out).mono ?_
    rintro e w1 ⟨rfl, hb1⟩
    have H1 := Lib.hid hb1
    obtain ⟨glt, g0, g1, g2, g3, g4, g5⟩ := HG.out.below hb1 HG.out.lt
    clear hb1
    go_wp2_with fail
    refine (place_none W L S T J R b _ HB.out).mono ?_
    rintro e w2 ⟨rfl, hb2⟩
    have H2 := Lib.hid (two_start (wb := 0) (pb := 0) (kb := false) HB0.out HG.out H1.out hb2)
    clear hb2 g0 g1 g2 g3 g4 g5 glt
    obtain ⟨_, g0, g1, g2, g3, g4, g5⟩ := H2.out.2.1
    go_wp2_with fail
    clear g0 g1 g2 g3 g4 g5
    generalize w1.heap.size = gp at *
    generalize w2.heap.size = gq at *
    generalize World.alloc w2 _ = Y at *
    refine (HLO.out Y).mono ?_
    rintro e w3 ⟨rfl, hb⟩
    replace H2 := Lib.hid (two_next H2.out hb)
    clear hb
    go_wp2_with fail
    refine (awake_any _).mono ?_
    rintro e w8 ⟨rfl, hb⟩
    have HB8 := Lib.hid (H2.out.1.trans (hb.mono H2.out.1.size))
    clear hb
    go_wp2
    go_ret
    exact ⟨rfl, HB8.out⟩
  by_cases hab : a = b
  · subst hab
    rw [loc_self] at HL0
    have HLO := HL0
    have HA := Lib.hid ha
    clear ha hb
    go_enter Try.func6, Try.ntmps6
    go_wp2_with fail
    generalize World.alloc _ _ = X0 at HB0 HG ⊢
    refine (place_yes W L S T J R a X0 HA.out).mono ?_
    rintro e w1 ⟨rfl, hb1⟩
    have H1 := Lib.hid hb1
    obtain ⟨glt, g0, g1, g2, g3, g4, g5⟩ := HG.out.below hb1 HG.out.lt
    clear hb1
    go_wp2_with fail
    refine (place_yes W L S T J R a _ HA.out).mono ?_
    rintro e w2 ⟨rfl, hb2⟩
    have H2 := Lib.hid (two_start (wb := wr W L a) (pb := po W L a) (kb := bk W L a) HB0.out HG.out H1.out hb2)
    clear hb2 g0 g1 g2 g3 g4 g5 glt
    obtain ⟨_, g0, g1, g2, g3, g4, g5⟩ := H2.out.2.1
    go_wp2_with fail
    clear g0 g1 g2 g3 g4 g5
    generalize w1.heap.size = gp at *
    generalize w2.heap.size = gq at *
    generalize World.alloc w2 _ = Y at *
    refine (HLO.out Y).mono ?_
    rintro e w3 ⟨rfl, hb⟩
    replace H2 := Lib.hid (two_next H2.out hb)
    clear hb
    go_wp2_with fail
    refine (awake_any _).mono ?_
    rintro e w8 ⟨rfl, hb⟩
    have HB8 := Lib.hid (H2.out.1.trans (hb.mono H2.out.1.size))
    clear hb
    go_wp2
    go_ret
    exact ⟨rfl, HB8.out⟩
  have hab2 : (a == b) = false := by rw [beq_eq_false_iff_ne]; exact hab
  have HPa := Lib.hid (fun X => place_yes W L S T J R a X ha)
  have HPb := Lib.hid (fun X => place_yes W L S T J R b X hb)
  have HL1 := Lib.hid (fun X => locate_any W L S T J R b a X)
  rw [show loc W L S T J R a b = mo W L S T J a b from loc_yes (by rw [ha, hb]; rfl)] at HL0
  rw [show loc W L S T J R b a = mo W L S T J b a from loc_yes (by rw [ha, hb]; rfl)] at HL1
  obtain ⟨v, a0, a1⟩ := hav_iff.1 ha
  obtain ⟨_, b0, b1⟩ := hav_iff.1 hb
  obtain ⟨ra0, ra1, _, _, _⟩ := wr_bd v.w0 v.l0 a0 a1
  obtain ⟨rb0, rb1, _, _, _⟩ := wr_bd v.w0 v.l0 b0 b1
  obtain ⟨qa0, qa1⟩ := po_bd v.w0 v.l0 a0 a1
  obtain ⟨qb0, qb1⟩ := po_bd v.w0 v.l0 b0 b1
  have l1 := v.l1
  have wm := v.w1
  have s0 := v.s0
  have s1 := v.s1
  have t0 := v.t0
  have t1 := v.t1
  have j0 := v.j0
  have j1 := v.j1
  obtain ⟨n0, n1⟩ := mo_bd v a0 a1 b0 b1
  obtain ⟨m0, m1⟩ := mo_bd v b0 b1 a0 a1
  obtain ⟨k0, k1⟩ := mo_back (a := a) (b := b) v
  have hfar : mo W L S T J a b ≤ farU W L S T J R := by rw [farU_yes v]; exact mo_far v a0 a1 b0 b1
  have HM0 := Lib.hid (show mo W L S T J a b = mov S T J (wr W L a) (po W L a) (bk W L a) (wr W L b) (po W L b) (bk W L b) from rfl)
  clear hab ha hb v
  generalize mo W L S T J a b = n at *
  generalize mo W L S T J b a = m at *
  generalize wr W L a = wa at *
  generalize po W L a = pa at *
  generalize bk W L a = ka at *
  generalize wr W L b = wb at *
  generalize po W L b = pb at *
  generalize bk W L b = kb at *
  have hd : dis (pb - pa) 0 ≤ 4097 ∧ dis (wb - wa) 0 ≤ 32 := by rw [dis_zero, dis_zero]; unfold dis; omega
  obtain ⟨e1, e2⟩ := mul_bd (m := 4097) s0 s1 (dis_nonneg (pb - pa) 0) hd.1
  obtain ⟨e3, e4⟩ := mul_bd (m := 32) j0 j1 (dis_nonneg (wb - wa) 0) hd.2
  have hn : n = S * dis (pb - pa) 0 + J * dis (wb - wa) 0 ∨ n = S * dis (pb - pa) 0 + J * dis (wb - wa) 0 + T := by
    rw [HM0.out, dis_zero, dis_zero]
    unfold mov
    split
    · exact .inr rfl
    · exact .inl (by omega)
  have hdn := dis_le (n - m) T (by omega) (by omega)
  have HHN := Lib.hid hn
  clear hd HM0 hn
  go_enter Try.func6, Try.ntmps6
  go_wp2_with fail
  generalize World.alloc _ _ = X0 at HB0 HG ⊢
  refine (HPa.out X0).mono ?_
  rintro e w1 ⟨rfl, hb1⟩
  have H1 := Lib.hid hb1
  obtain ⟨glt, g0, g1, g2, g3, g4, g5⟩ := HG.out.below hb1 HG.out.lt
  clear hb1
  go_wp2_with fail
  refine (HPb.out _).mono ?_
  rintro e w2 ⟨rfl, hb2⟩
  have H2 := Lib.hid (two_start (wb := wb) (pb := pb) (kb := kb) HB0.out HG.out H1.out hb2)
  clear hb2 g0 g1 g2 g3 g4 g5 glt
  obtain ⟨_, g0, g1, g2, g3, g4, g5⟩ := H2.out.2.1
  go_wp2_with fail
  clear g0 g1 g2 g3 g4 g5
  generalize w1.heap.size = gp at *
  generalize w2.heap.size = gq at *
  generalize World.alloc w2 _ = Y at *
  refine (HL0.out Y).mono ?_
  rintro e w3 ⟨rfl, hb⟩
  replace H2 := Lib.hid (two_next H2.out hb)
  clear hb
  obtain ⟨_, p0, p1, p2⟩ := H2.out.2.2.1
  obtain ⟨_, q0, q1, q2⟩ := H2.out.2.2.2
  obtain ⟨_, g0, g1, g2, g3, g4, g5⟩ := H2.out.2.1
  go_wp2_with fail
  go_quiet ((go_at_call 26; exact Calls.quiet_of_same (lsz_pos _ _ (by omega))))
  generalize hX4 : World.drewN w3 _ = X4
  have H4 := Lib.hid (two_next H2.out (show Below w3.heap.size w3 X4 by rw [← hX4]; exact below_drewN (.refl _ _) _))
  clear hX4 p0 p1 p2 q0 q1 q2 g0 g1 g2 g3 g4 g5 H2
  obtain ⟨_, g0, g1, g2, g3, g4, g5⟩ := H4.out.2.1
  generalize S * dis (pb - pa) 0 = x1 at *
  generalize J * dis (wb - wa) 0 = x2 at *
  go_wp2_with fail
  clear g0 g1 g2 g3 g4 g5
  refine (HL1.out X4).mono ?_
  rintro e w5 ⟨rfl, hb⟩
  have H5 := Lib.hid (two_next H4.out hb)
  have HGY := Lib.hid H5.out.2.1
  clear hb H4
  have HBX := Lib.hid (Below.refl w5.heap.size w5).drew
  generalize hff : farU W L S T J R = ff at *
  have HFF := Lib.hid hff
  clear hff
  have hle : decide (n ≤ ff) = true := decide_eq_true hfar
  have hle2 : decide (dis (n - m) 0 ≤ T) = true := decide_eq_true hdn
  have hw1 : IntKind.i64.wrap (x1 + x2 + T) = x1 + x2 + T := by rw [IntKind.wrap_i64]; omega
  have hw2 : IntKind.i64.wrap (n - m) = n - m := by rw [IntKind.wrap_i64]; omega
  by_cases hnl : n = x1 + x2
  · have hne : (n == x1 + x2) = true := by rw [beq_iff_eq]; exact hnl
    have HNL := Lib.hid hnl
    clear hnl
    go_wp2_with fail
    refine wp_region_noPanic ?_
    refine wp_region_held_drew (S := fun X => Below w5.heap.size w5 X) (by kernel_rfl) (HBX.out) (fun hS0 => ?_)
    refine held_take (i := 0) (v := ?_) rfl (by kernel_rfl) (by kernel_rfl) (by kernel_rfl) (fun _ _ _ h => h) (by rfl) ?_ (by assumption) ?_
    rotate_left
    · intro X hSX
      try dsimp only at hSX
      go_simp <;> with_reducible rfl
    simp only [Act.put, List.setIfInBounds_toArray, List.set_cons_zero, List.set_cons_succ]
    refine held_take (i := 1) (v := ?_) rfl (by kernel_rfl) (by kernel_rfl) (by kernel_rfl) (fun _ _ _ h => h) (by rfl) ?_ (by assumption) ?_
    rotate_left
    · intro X hSX
      try dsimp only at hSX
      go_simp <;> with_reducible rfl
    simp only [Act.put, List.setIfInBounds_toArray, List.set_cons_zero, List.set_cons_succ]
    refine held_take (i := 2) (v := ?_) rfl (by kernel_rfl) (by kernel_rfl) (by kernel_rfl) (fun _ _ _ h => h) (by rfl) ?_ (by assumption) ?_
    rotate_left
    · intro X hSX
      try dsimp only at hSX
      go_simp <;> with_reducible rfl
    simp only [Act.put, List.setIfInBounds_toArray, List.set_cons_zero, List.set_cons_succ]
    refine held_take (i := 3) (v := ?_) rfl (by kernel_rfl) (by kernel_rfl) (by kernel_rfl) (fun _ _ _ h => h) (by rfl) ?_ (by assumption) ?_
    rotate_left
    · intro X hSX
      try dsimp only at hSX
      go_simp <;> with_reducible rfl
    simp only [Act.put, List.setIfInBounds_toArray, List.set_cons_zero, List.set_cons_succ]
    refine held_skip (i := 4) rfl (by kernel_rfl) (by kernel_rfl) (by kernel_rfl) (fun _ _ _ h => h) (by rfl) (by assumption) ?_
    simp only [Act.put, List.setIfInBounds_toArray, List.set_cons_zero, List.set_cons_succ]
    refine held_skip (i := 5) rfl (by kernel_rfl) (by kernel_rfl) (by kernel_rfl) (fun _ _ _ h => h) (by rfl) (by assumption) ?_
    simp only [Act.put, List.setIfInBounds_toArray, List.set_cons_zero, List.set_cons_succ]
    refine held_skip (i := 6) rfl (by kernel_rfl) (by kernel_rfl) (by kernel_rfl) (fun _ _ _ h => h) (by rfl) (by assumption) ?_
    simp only [Act.put, List.setIfInBounds_toArray, List.set_cons_zero, List.set_cons_succ]
    refine held_skip (i := 7) rfl (by kernel_rfl) (by kernel_rfl) (by kernel_rfl) (fun _ _ _ h => h) (by rfl) (by assumption) ?_
    simp only [Act.put, List.setIfInBounds_toArray, List.set_cons_zero, List.set_cons_succ]
    refine held_skip (i := 8) rfl (by kernel_rfl) (by kernel_rfl) (by kernel_rfl) (fun _ _ _ h => h) (by rfl) (by assumption) ?_
    simp only [Act.put, List.setIfInBounds_toArray, List.set_cons_zero, List.set_cons_succ]
    refine held_skip (i := 9) rfl (by kernel_rfl) (by kernel_rfl) (by kernel_rfl) (fun _ _ _ h => h) (by rfl) (by assumption) ?_
    simp only [Act.put, List.setIfInBounds_toArray, List.set_cons_zero, List.set_cons_succ]
    refine held_take (i := 10) (v := ?_) rfl (by kernel_rfl) (by kernel_rfl) (by kernel_rfl) (fun _ _ _ h => h) (by rfl) ?_ (by assumption) ?_
    rotate_left
    · intro X hSX
      try dsimp only at hSX
      go_simp <;> with_reducible rfl
    simp only [Act.put, List.setIfInBounds_toArray, List.set_cons_zero, List.set_cons_succ]
    refine held_take (i := 11) (v := ?_) rfl (by kernel_rfl) (by kernel_rfl) (by kernel_rfl) (fun _ _ _ h => h) (by rfl) ?_ (by assumption) ?_
    rotate_left
    · intro X hSX
      try dsimp only at hSX
      go_simp <;> with_reducible rfl
    simp only [Act.put, List.setIfInBounds_toArray, List.set_cons_zero, List.set_cons_succ]
    refine held_take (i := 12) (v := ?_) rfl (by kernel_rfl) (by kernel_rfl) (by kernel_rfl) (fun _ _ _ h => h) (by rfl) ?_ (by assumption) ?_
    rotate_left
    · intro X hSX
      try dsimp only at hSX
      go_simp <;> with_reducible rfl
    simp only [Act.put, List.setIfInBounds_toArray, List.set_cons_zero, List.set_cons_succ]
    refine held_take (i := 13) (v := ?_) rfl (by kernel_rfl) (by kernel_rfl) (by kernel_rfl) (fun _ _ _ h => h) (by rfl) ?_ (by assumption) ?_
    rotate_left
    · intro X hSX
      try dsimp only at hSX
      obtain ⟨_, g0, g1, g2, g3, g4, g5⟩ := HGY.out.below hSX HGY.out.lt
      go_simp <;> with_reducible rfl
    simp only [Act.put, List.setIfInBounds_toArray, List.set_cons_zero, List.set_cons_succ]
    refine held_call (i := 14) rfl (by kernel_rfl) (by rfl) (fun K' hK' => ?_)
    go_simp
    refine (farthest_any W L S T J R _).mono ?_
    rintro e w6 ⟨rfl, hb⟩
    replace HBX := Lib.hid (HBX.out.trans (hb.mono HBX.out.size))
    have hS6 := HBX.out
    clear hb
    refine held_go hK' (HBX.out) ?_
    try simp only [Act.put, List.setIfInBounds_toArray, List.set_cons_zero, List.set_cons_succ]
    rw [HFF.out]
    refine held_take (i := 15) (v := ?_) rfl (by kernel_rfl) (by kernel_rfl) (by kernel_rfl) (fun _ _ _ h => h) (by rfl) ?_ (by assumption) ?_
    rotate_left
    · intro X hSX
      try dsimp only at hSX
      go_simp <;> with_reducible rfl
    simp only [Act.put, List.setIfInBounds_toArray, List.set_cons_zero, List.set_cons_succ]
    refine held_take (i := 16) (v := ?_) rfl (by kernel_rfl) (by kernel_rfl) (by kernel_rfl) (fun _ _ _ h => h) (by rfl) ?_ (by assumption) ?_
    rotate_left
    · intro X hSX
      try dsimp only at hSX
      go_simp <;> with_reducible rfl
    simp only [Act.put, List.setIfInBounds_toArray, List.set_cons_zero, List.set_cons_succ]
    refine held_take (i := 17) (v := ?_) rfl (by kernel_rfl) (by kernel_rfl) (by kernel_rfl) (fun _ _ _ h => h) (by rfl) ?_ (by assumption) ?_
    rotate_left
    · intro X hSX
      try dsimp only at hSX
      go_simp <;> with_reducible rfl
    simp only [Act.put, List.setIfInBounds_toArray, List.set_cons_zero, List.set_cons_succ]
    refine held_take (i := 18) (v := ?_) rfl (by kernel_rfl) (by kernel_rfl) (by kernel_rfl) (fun _ _ _ h => h) (by rfl) ?_ (by assumption) ?_
    rotate_left
    · intro X hSX
      try dsimp only at hSX
      go_simp <;> with_reducible rfl
    simp only [Act.put, List.setIfInBounds_toArray, List.set_cons_zero, List.set_cons_succ]
    refine held_take (i := 19) (v := ?_) rfl (by kernel_rfl) (by kernel_rfl) (by kernel_rfl) (fun _ _ _ h => h) (by rfl) ?_ (by assumption) ?_
    rotate_left
    · intro X hSX
      try dsimp only at hSX
      go_simp <;> with_reducible rfl
    simp only [Act.put, List.setIfInBounds_toArray, List.set_cons_zero, List.set_cons_succ]
    refine held_take (i := 20) (v := ?_) rfl (by kernel_rfl) (by kernel_rfl) (by kernel_rfl) (fun _ _ _ h => h) (by rfl) ?_ (by assumption) ?_
    rotate_left
    · intro X hSX
      try dsimp only at hSX
      go_simp <;> with_reducible rfl
    simp only [Act.put, List.setIfInBounds_toArray, List.set_cons_zero, List.set_cons_succ]
    refine held_take (i := 22) (v := ?_) rfl (by kernel_rfl) (by kernel_rfl) (by kernel_rfl) (fun _ _ _ h => h) (by rfl) ?_ (by assumption) ?_
    rotate_left
    · intro X hSX
      try dsimp only at hSX
      go_simp <;> with_reducible rfl
    simp only [Act.put, List.setIfInBounds_toArray, List.set_cons_zero, List.set_cons_succ]
    refine held_take (i := 23) (v := ?_) rfl (by kernel_rfl) (by kernel_rfl) (by kernel_rfl) (fun _ _ _ h => h) (by rfl) ?_ (by assumption) ?_
    rotate_left
    · intro X hSX
      try dsimp only at hSX
      obtain ⟨_, g0, g1, g2, g3, g4, g5⟩ := HGY.out.below hSX HGY.out.lt
      go_simp <;> with_reducible rfl
    simp only [Act.put, List.setIfInBounds_toArray, List.set_cons_zero, List.set_cons_succ]
    refine held_call (i := 21) rfl (by kernel_rfl) (by rfl) (fun K' hK' => ?_)
    go_simp
    refine (lsz_below (n - m) _ (by omega)).mono ?_
    rintro e w7 ⟨rfl, hb⟩
    replace HBX := Lib.hid (HBX.out.trans (hb.mono HBX.out.size))
    have hS7 := HBX.out
    clear hb
    refine held_go hK' (HBX.out) ?_
    try simp only [Act.put, List.setIfInBounds_toArray, List.set_cons_zero, List.set_cons_succ]
    refine held_take (i := 24) (v := ?_) rfl (by kernel_rfl) (by kernel_rfl) (by kernel_rfl) (fun _ _ _ h => h) (by rfl) ?_ (by assumption) ?_
    rotate_left
    · intro X hSX
      try dsimp only at hSX
      go_simp <;> with_reducible rfl
    simp only [Act.put, List.setIfInBounds_toArray, List.set_cons_zero, List.set_cons_succ]
    refine held_take (i := 25) (v := ?_) rfl (by kernel_rfl) (by kernel_rfl) (by kernel_rfl) (fun _ _ _ h => h) (by rfl) ?_ (by assumption) ?_
    rotate_left
    · intro X hSX
      try dsimp only at hSX
      go_simp <;> with_reducible rfl
    simp only [Act.put, List.setIfInBounds_toArray, List.set_cons_zero, List.set_cons_succ]
    refine held_take (i := 26) (v := ?_) rfl (by kernel_rfl) (by kernel_rfl) (by kernel_rfl) (fun _ _ _ h => h) (by rfl) ?_ (by assumption) ?_
    rotate_left
    · intro X hSX
      try dsimp only at hSX
      go_simp <;> with_reducible rfl
    simp only [Act.put, List.setIfInBounds_toArray, List.set_cons_zero, List.set_cons_succ]
    refine held_call (i := 27) rfl (by kernel_rfl) (by rfl) (fun K' hK' => ?_)
    go_simp
    refine (awake_any _).mono ?_
    rintro e w9 ⟨rfl, hb⟩
    replace HBX := Lib.hid (HBX.out.trans (hb.mono HBX.out.size))
    have hS9 := HBX.out
    clear hb
    refine held_go hK' (HBX.out) ?_
    try simp only [Act.put, List.setIfInBounds_toArray, List.set_cons_zero, List.set_cons_succ]
    refine held_take (i := 28) (v := ?_) rfl (by kernel_rfl) (by kernel_rfl) (by kernel_rfl) (fun _ _ _ h => h) (by rfl) ?_ (by assumption) ?_
    rotate_left
    · intro X hSX
      try dsimp only at hSX
      go_simp <;> with_reducible rfl
    simp only [Act.put, List.setIfInBounds_toArray, List.set_cons_zero, List.set_cons_succ]
    refine held_take (i := 29) (v := ?_) rfl (by kernel_rfl) (by kernel_rfl) (by kernel_rfl) (fun _ _ _ h => h) (by rfl) ?_ (by assumption) ?_
    rotate_left
    · intro X hSX
      try dsimp only at hSX
      go_simp <;> with_reducible rfl
    simp only [Act.put, List.setIfInBounds_toArray, List.set_cons_zero, List.set_cons_succ]
    refine wpAnyH_done (by kernel_rfl) ?_ _
    refine NoPanic.normal ?_
    go_wp2
    go_ret
    exact ⟨rfl, H5.out.1.trans (HBX.out.mono H5.out.1.size)⟩
  · have hne : (n == x1 + x2) = false := by rw [beq_eq_false_iff_ne]; exact hnl
    have hne2 : (n == x1 + x2 + T) = true := by rw [beq_iff_eq]; exact HHN.out.resolve_left hnl
    clear hnl
    go_wp2_with fail
    refine wp_region_noPanic ?_
    refine wp_region_held_drew (S := fun X => Below w5.heap.size w5 X) (by kernel_rfl) (HBX.out) (fun hS0 => ?_)
    refine held_take (i := 0) (v := ?_) rfl (by kernel_rfl) (by kernel_rfl) (by kernel_rfl) (fun _ _ _ h => h) (by rfl) ?_ (by assumption) ?_
    rotate_left
    · intro X hSX
      try dsimp only at hSX
      go_simp <;> with_reducible rfl
    simp only [Act.put, List.setIfInBounds_toArray, List.set_cons_zero, List.set_cons_succ]
    refine held_take (i := 1) (v := ?_) rfl (by kernel_rfl) (by kernel_rfl) (by kernel_rfl) (fun _ _ _ h => h) (by rfl) ?_ (by assumption) ?_
    rotate_left
    · intro X hSX
      try dsimp only at hSX
      go_simp <;> with_reducible rfl
    simp only [Act.put, List.setIfInBounds_toArray, List.set_cons_zero, List.set_cons_succ]
    refine held_take (i := 2) (v := ?_) rfl (by kernel_rfl) (by kernel_rfl) (by kernel_rfl) (fun _ _ _ h => h) (by rfl) ?_ (by assumption) ?_
    rotate_left
    · intro X hSX
      try dsimp only at hSX
      go_simp <;> with_reducible rfl
    simp only [Act.put, List.setIfInBounds_toArray, List.set_cons_zero, List.set_cons_succ]
    refine held_take (i := 3) (v := ?_) rfl (by kernel_rfl) (by kernel_rfl) (by kernel_rfl) (fun _ _ _ h => h) (by rfl) ?_ (by assumption) ?_
    rotate_left
    · intro X hSX
      try dsimp only at hSX
      go_simp <;> with_reducible rfl
    simp only [Act.put, List.setIfInBounds_toArray, List.set_cons_zero, List.set_cons_succ]
    refine held_take (i := 4) (v := ?_) rfl (by kernel_rfl) (by kernel_rfl) (by kernel_rfl) (fun _ _ _ h => h) (by rfl) ?_ (by assumption) ?_
    rotate_left
    · intro X hSX
      try dsimp only at hSX
      go_simp <;> with_reducible rfl
    simp only [Act.put, List.setIfInBounds_toArray, List.set_cons_zero, List.set_cons_succ]
    refine held_take (i := 5) (v := ?_) rfl (by kernel_rfl) (by kernel_rfl) (by kernel_rfl) (fun _ _ _ h => h) (by rfl) ?_ (by assumption) ?_
    rotate_left
    · intro X hSX
      try dsimp only at hSX
      go_simp <;> with_reducible rfl
    simp only [Act.put, List.setIfInBounds_toArray, List.set_cons_zero, List.set_cons_succ]
    refine held_take (i := 6) (v := ?_) rfl (by kernel_rfl) (by kernel_rfl) (by kernel_rfl) (fun _ _ _ h => h) (by rfl) ?_ (by assumption) ?_
    rotate_left
    · intro X hSX
      try dsimp only at hSX
      go_simp <;> with_reducible rfl
    simp only [Act.put, List.setIfInBounds_toArray, List.set_cons_zero, List.set_cons_succ]
    refine held_take (i := 7) (v := ?_) rfl (by kernel_rfl) (by kernel_rfl) (by kernel_rfl) (fun _ _ _ h => h) (by rfl) ?_ (by assumption) ?_
    rotate_left
    · intro X hSX
      try dsimp only at hSX
      obtain ⟨_, g0, g1, g2, g3, g4, g5⟩ := HGY.out.below hSX HGY.out.lt
      go_simp <;> with_reducible rfl
    simp only [Act.put, List.setIfInBounds_toArray, List.set_cons_zero, List.set_cons_succ]
    refine held_take (i := 8) (v := ?_) rfl (by kernel_rfl) (by kernel_rfl) (by kernel_rfl) (fun _ _ _ h => h) (by rfl) ?_ (by assumption) ?_
    rotate_left
    · intro X hSX
      try dsimp only at hSX
      go_simp <;> with_reducible rfl
    simp only [Act.put, List.setIfInBounds_toArray, List.set_cons_zero, List.set_cons_succ]
    refine held_take (i := 9) (v := ?_) rfl (by kernel_rfl) (by kernel_rfl) (by kernel_rfl) (fun _ _ _ h => h) (by rfl) ?_ (by assumption) ?_
    rotate_left
    · intro X hSX
      try dsimp only at hSX
      go_simp <;> with_reducible rfl
    simp only [Act.put, List.setIfInBounds_toArray, List.set_cons_zero, List.set_cons_succ]
    refine held_take (i := 10) (v := ?_) rfl (by kernel_rfl) (by kernel_rfl) (by kernel_rfl) (fun _ _ _ h => h) (by rfl) ?_ (by assumption) ?_
    rotate_left
    · intro X hSX
      try dsimp only at hSX
      go_simp <;> with_reducible rfl
    simp only [Act.put, List.setIfInBounds_toArray, List.set_cons_zero, List.set_cons_succ]
    refine held_take (i := 11) (v := ?_) rfl (by kernel_rfl) (by kernel_rfl) (by kernel_rfl) (fun _ _ _ h => h) (by rfl) ?_ (by assumption) ?_
    rotate_left
    · intro X hSX
      try dsimp only at hSX
      go_simp <;> with_reducible rfl
    simp only [Act.put, List.setIfInBounds_toArray, List.set_cons_zero, List.set_cons_succ]
    refine held_take (i := 12) (v := ?_) rfl (by kernel_rfl) (by kernel_rfl) (by kernel_rfl) (fun _ _ _ h => h) (by rfl) ?_ (by assumption) ?_
    rotate_left
    · intro X hSX
      try dsimp only at hSX
      go_simp <;> with_reducible rfl
    simp only [Act.put, List.setIfInBounds_toArray, List.set_cons_zero, List.set_cons_succ]
    refine held_take (i := 13) (v := ?_) rfl (by kernel_rfl) (by kernel_rfl) (by kernel_rfl) (fun _ _ _ h => h) (by rfl) ?_ (by assumption) ?_
    rotate_left
    · intro X hSX
      try dsimp only at hSX
      obtain ⟨_, g0, g1, g2, g3, g4, g5⟩ := HGY.out.below hSX HGY.out.lt
      go_simp <;> with_reducible rfl
    simp only [Act.put, List.setIfInBounds_toArray, List.set_cons_zero, List.set_cons_succ]
    refine held_call (i := 14) rfl (by kernel_rfl) (by rfl) (fun K' hK' => ?_)
    go_simp
    refine (farthest_any W L S T J R _).mono ?_
    rintro e w6 ⟨rfl, hb⟩
    replace HBX := Lib.hid (HBX.out.trans (hb.mono HBX.out.size))
    have hS6 := HBX.out
    clear hb
    refine held_go hK' (HBX.out) ?_
    try simp only [Act.put, List.setIfInBounds_toArray, List.set_cons_zero, List.set_cons_succ]
    rw [HFF.out]
    refine held_take (i := 15) (v := ?_) rfl (by kernel_rfl) (by kernel_rfl) (by kernel_rfl) (fun _ _ _ h => h) (by rfl) ?_ (by assumption) ?_
    rotate_left
    · intro X hSX
      try dsimp only at hSX
      go_simp <;> with_reducible rfl
    simp only [Act.put, List.setIfInBounds_toArray, List.set_cons_zero, List.set_cons_succ]
    refine held_take (i := 16) (v := ?_) rfl (by kernel_rfl) (by kernel_rfl) (by kernel_rfl) (fun _ _ _ h => h) (by rfl) ?_ (by assumption) ?_
    rotate_left
    · intro X hSX
      try dsimp only at hSX
      go_simp <;> with_reducible rfl
    simp only [Act.put, List.setIfInBounds_toArray, List.set_cons_zero, List.set_cons_succ]
    refine held_take (i := 17) (v := ?_) rfl (by kernel_rfl) (by kernel_rfl) (by kernel_rfl) (fun _ _ _ h => h) (by rfl) ?_ (by assumption) ?_
    rotate_left
    · intro X hSX
      try dsimp only at hSX
      go_simp <;> with_reducible rfl
    simp only [Act.put, List.setIfInBounds_toArray, List.set_cons_zero, List.set_cons_succ]
    refine held_take (i := 18) (v := ?_) rfl (by kernel_rfl) (by kernel_rfl) (by kernel_rfl) (fun _ _ _ h => h) (by rfl) ?_ (by assumption) ?_
    rotate_left
    · intro X hSX
      try dsimp only at hSX
      go_simp <;> with_reducible rfl
    simp only [Act.put, List.setIfInBounds_toArray, List.set_cons_zero, List.set_cons_succ]
    refine held_take (i := 19) (v := ?_) rfl (by kernel_rfl) (by kernel_rfl) (by kernel_rfl) (fun _ _ _ h => h) (by rfl) ?_ (by assumption) ?_
    rotate_left
    · intro X hSX
      try dsimp only at hSX
      go_simp <;> with_reducible rfl
    simp only [Act.put, List.setIfInBounds_toArray, List.set_cons_zero, List.set_cons_succ]
    refine held_take (i := 20) (v := ?_) rfl (by kernel_rfl) (by kernel_rfl) (by kernel_rfl) (fun _ _ _ h => h) (by rfl) ?_ (by assumption) ?_
    rotate_left
    · intro X hSX
      try dsimp only at hSX
      go_simp <;> with_reducible rfl
    simp only [Act.put, List.setIfInBounds_toArray, List.set_cons_zero, List.set_cons_succ]
    refine held_take (i := 22) (v := ?_) rfl (by kernel_rfl) (by kernel_rfl) (by kernel_rfl) (fun _ _ _ h => h) (by rfl) ?_ (by assumption) ?_
    rotate_left
    · intro X hSX
      try dsimp only at hSX
      go_simp <;> with_reducible rfl
    simp only [Act.put, List.setIfInBounds_toArray, List.set_cons_zero, List.set_cons_succ]
    refine held_take (i := 23) (v := ?_) rfl (by kernel_rfl) (by kernel_rfl) (by kernel_rfl) (fun _ _ _ h => h) (by rfl) ?_ (by assumption) ?_
    rotate_left
    · intro X hSX
      try dsimp only at hSX
      obtain ⟨_, g0, g1, g2, g3, g4, g5⟩ := HGY.out.below hSX HGY.out.lt
      go_simp <;> with_reducible rfl
    simp only [Act.put, List.setIfInBounds_toArray, List.set_cons_zero, List.set_cons_succ]
    refine held_call (i := 21) rfl (by kernel_rfl) (by rfl) (fun K' hK' => ?_)
    go_simp
    refine (lsz_below (n - m) _ (by omega)).mono ?_
    rintro e w7 ⟨rfl, hb⟩
    replace HBX := Lib.hid (HBX.out.trans (hb.mono HBX.out.size))
    have hS7 := HBX.out
    clear hb
    refine held_go hK' (HBX.out) ?_
    try simp only [Act.put, List.setIfInBounds_toArray, List.set_cons_zero, List.set_cons_succ]
    refine held_take (i := 24) (v := ?_) rfl (by kernel_rfl) (by kernel_rfl) (by kernel_rfl) (fun _ _ _ h => h) (by rfl) ?_ (by assumption) ?_
    rotate_left
    · intro X hSX
      try dsimp only at hSX
      go_simp <;> with_reducible rfl
    simp only [Act.put, List.setIfInBounds_toArray, List.set_cons_zero, List.set_cons_succ]
    refine held_take (i := 25) (v := ?_) rfl (by kernel_rfl) (by kernel_rfl) (by kernel_rfl) (fun _ _ _ h => h) (by rfl) ?_ (by assumption) ?_
    rotate_left
    · intro X hSX
      try dsimp only at hSX
      go_simp <;> with_reducible rfl
    simp only [Act.put, List.setIfInBounds_toArray, List.set_cons_zero, List.set_cons_succ]
    refine held_take (i := 26) (v := ?_) rfl (by kernel_rfl) (by kernel_rfl) (by kernel_rfl) (fun _ _ _ h => h) (by rfl) ?_ (by assumption) ?_
    rotate_left
    · intro X hSX
      try dsimp only at hSX
      go_simp <;> with_reducible rfl
    simp only [Act.put, List.setIfInBounds_toArray, List.set_cons_zero, List.set_cons_succ]
    refine held_call (i := 27) rfl (by kernel_rfl) (by rfl) (fun K' hK' => ?_)
    go_simp
    refine (awake_any _).mono ?_
    rintro e w9 ⟨rfl, hb⟩
    replace HBX := Lib.hid (HBX.out.trans (hb.mono HBX.out.size))
    have hS9 := HBX.out
    clear hb
    refine held_go hK' (HBX.out) ?_
    try simp only [Act.put, List.setIfInBounds_toArray, List.set_cons_zero, List.set_cons_succ]
    refine held_take (i := 28) (v := ?_) rfl (by kernel_rfl) (by kernel_rfl) (by kernel_rfl) (fun _ _ _ h => h) (by rfl) ?_ (by assumption) ?_
    rotate_left
    · intro X hSX
      try dsimp only at hSX
      go_simp <;> with_reducible rfl
    simp only [Act.put, List.setIfInBounds_toArray, List.set_cons_zero, List.set_cons_succ]
    refine held_take (i := 29) (v := ?_) rfl (by kernel_rfl) (by kernel_rfl) (by kernel_rfl) (fun _ _ _ h => h) (by rfl) ?_ (by assumption) ?_
    rotate_left
    · intro X hSX
      try dsimp only at hSX
      go_simp <;> with_reducible rfl
    simp only [Act.put, List.setIfInBounds_toArray, List.set_cons_zero, List.set_cons_succ]
    refine wpAnyH_done (by kernel_rfl) ?_ _
    refine NoPanic.normal ?_
    go_wp2
    go_ret
    exact ⟨rfl, H5.out.1.trans (HBX.out.mono H5.out.1.size)⟩
end Go.Proofs.Ytcoijhemnfnghaa
