/-
  Read, of the program and of the specification.
  Read of the specification.
-/
import Derived.Test.YtepmmlnopdjjdaaQLoc
namespace Go.Proofs.Ytepmmlnopdjjdaa
open Go.RowKit
set_option linter.unusedVariables false
/-- the span is on the tape -/
noncomputable def onU (W L S T J R a n : Int) : Bool := hav W L S T J R a && (decide (0 ≤ n) && decide (a + n ≤ W * L))
theorem onU_iff {W L S T J R a n : Int} : onU W L S T J R a n = true ↔ Vld W L S T J R ∧ 0 ≤ a ∧ 0 ≤ n ∧ a + n ≤ W * L := by
  unfold onU
  rw [Bool.and_eq_true, Bool.and_eq_true, hav_iff, decide_eq_true_iff, decide_eq_true_iff]
  constructor
  · rintro ⟨⟨h1, h2, h3⟩, h4, h5⟩; exact ⟨h1, h2, h4, h5⟩
  · rintro ⟨h1, h2, h4, h5⟩; exact ⟨⟨h1, h2, by omega⟩, h4, h5⟩
noncomputable def rd (W L S T J R a n : Int) : Int := if onU W L S T J R a n = true then rea L T J R a n else 0
theorem rd_yes {W L S T J R a n : Int} (v : Vld W L S T J R) (a0 : 0 ≤ a) (n0 : 0 ≤ n) (h : a + n ≤ W * L) : rd W L S T J R a n = rea L T J R a n := if_pos (onU_iff.2 ⟨v, a0, n0, h⟩)
theorem rd_no {W L S T J R a n : Int} (h : ¬ (Vld W L S T J R ∧ 0 ≤ a ∧ 0 ≤ n ∧ a + n ≤ W * L)) : rd W L S T J R a n = 0 := if_neg (fun h2 => h (onU_iff.1 h2))
theorem rd_zero (W L S T J R a : Int) : rd W L S T J R a 0 = 0 := by unfold rd rea; split <;> simp
theorem read_start (W L S T J R a n : Int) (w : World) : Below w.heap.size w (((w.alloc (boxG W L S T J R)).alloc (.cells #[.int .i64 a, .int .i64 n] 66)).alloc (.cells #[.int .i64 a, .int .i64 n] 3)) ∧
    GeoAt (((w.alloc (boxG W L S T J R)).alloc (.cells #[.int .i64 a, .int .i64 n] 66)).alloc (.cells #[.int .i64 a, .int .i64 n] 3)) w.heap.size W L S T J R ∧
    SpAt (((w.alloc (boxG W L S T J R)).alloc (.cells #[.int .i64 a, .int .i64 n] 66)).alloc (.cells #[.int .i64 a, .int .i64 n] 3)) (w.heap.size + 1) a n ∧
    Lii (((w.alloc (boxG W L S T J R)).alloc (.cells #[.int .i64 a, .int .i64 n] 66)).alloc (.cells #[.int .i64 a, .int .i64 n] 3)) (w.heap.size + 1 + 1) 0 [a, n] := by
  refine ⟨below_box3 _ _ _ _, ((GeoAt.new w W L S T J R _).alloc _).alloc _, ?_, ?_⟩
  · have := (SpAt.new (w.alloc (boxG W L S T J R)) a n 66).alloc (.cells #[.int .i64 a, .int .i64 n] 3)
    rwa [World.size_alloc] at this
  · have := Lii.two ((w.alloc (boxG W L S T J R)).alloc (.cells #[.int .i64 a, .int .i64 n] 66)) a n 3
    rwa [World.size_alloc, World.size_alloc] at this
attribute [local irreducible] tim vld hav
set_option maxRecDepth 100000 in
set_option maxHeartbeats 2000000 in
theorem read_any (W L S T J R a n : Int) (w : World) :
    Calls Try.prog 76 #[geV W L S T J R, .agg #[.int .i64 a, .int .i64 n]] w fun e w' => e = .returned (.int .i64 (rd W L S T J R a n)) ∧ Below w.heap.size w w' := by
  obtain ⟨hb0, hg0, hp0, hl0⟩ := read_start W L S T J R a n w
  have HB0 := Lib.hid hb0
  have HG := Lib.hid hg0
  have HP := Lib.hid hp0
  have HL := Lib.hid hl0
  clear hb0 hg0 hp0 hl0
  have HH := Lib.hid (hasU_two W L S T J R a n)
  have HO := Lib.hid (hasU_one W L S T J R (a + n))
  cases hv : (hav W L S T J R a && hav W L S T J R n)
  · have HR := Lib.hid (show rd W L S T J R a n = 0 from rd_no fun ⟨v, a0, n0, h⟩ => by
      have := v.w0; have := v.l0
      rw [hav_iff.2 ⟨v, a0, by omega⟩, hav_iff.2 ⟨v, n0, by omega⟩] at hv
      cases hv)
    have HV := Lib.hid hv
    clear hv
    go_enter Try.func76, Try.ntmps76
    go_wp2_with fail
    generalize World.alloc _ _ = X0 at HB0 HG HP HL ⊢
    refine (has_any W L S T J R (w.heap.size + 1 + 1) 2 2 [a, n] X0 HL.out rfl (by omega)).mono ?_
    rw [HH.out, HV.out]
    rintro e w1 ⟨rfl, hb⟩
    have HB := Lib.hid (HB0.out.trans (hb.mono HB0.out.size))
    clear hb
    go_wp2
    go_ret
    exact ⟨by rw [HR.out]; rfl, HB.out⟩
  have HV := Lib.hid hv
  rw [Bool.and_eq_true] at hv
  obtain ⟨v, a0, a1⟩ := hav_iff.1 hv.1
  obtain ⟨_, n0, n1⟩ := hav_iff.1 hv.2
  have c1 := v.c1
  clear hv
  cases hs : hav W L S T J R (a + n)
  · have HR := Lib.hid (show rd W L S T J R a n = 0 from rd_no fun ⟨v, a0, n0, h⟩ => by
      rw [hav_iff.2 ⟨v, by omega, h⟩] at hs
      cases hs)
    have HS := Lib.hid hs
    clear hs v
    go_enter Try.func76, Try.ntmps76
    go_wp2_with fail
    generalize World.alloc _ _ = X0 at HB0 HG HP HL ⊢
    refine (has_any W L S T J R (w.heap.size + 1 + 1) 2 2 [a, n] X0 HL.out rfl (by omega)).mono ?_
    rw [HH.out, HV.out]
    rintro e w1 ⟨rfl, hb⟩
    have HB := Lib.hid (HB0.out.trans (hb.mono HB0.out.size))
    obtain ⟨_, g0, g1, g2, g3, g4, g5⟩ := HG.out.below hb HG.out.lt
    obtain ⟨_, p0, p1⟩ := HP.out.below hb HP.out.lt
    clear hb
    go_wp2_with fail
    refine (has_any W L S T J R w1.heap.size 1 1 [a + n] _ (Lii.one w1 (a + n) 3) rfl (by omega)).mono ?_
    rw [HO.out, HS.out]
    rintro e w2 ⟨rfl, hb⟩
    have HB2 := Lib.hid (HB.out.trans ((below_box1 w1 (.cells #[.int .i64 (a + n)] 3)).trans (hb.mono (by simp)) |>.mono HB.out.size))
    clear hb
    go_wp2
    go_ret
    exact ⟨by rw [HR.out]; rfl, HB2.out⟩
  obtain ⟨_, _, s1⟩ := hav_iff.1 hs
  have HS := Lib.hid hs
  clear hs
  by_cases hn : n = 0
  · subst hn
    have HR := Lib.hid (rd_zero W L S T J R a)
    clear v
    go_enter Try.func76, Try.ntmps76
    go_wp2_with fail
    generalize World.alloc _ _ = X0 at HB0 HG HP HL ⊢
    refine (has_any W L S T J R (w.heap.size + 1 + 1) 2 2 [a, 0] X0 HL.out rfl (by omega)).mono ?_
    rw [HH.out, HV.out]
    rintro e w1 ⟨rfl, hb⟩
    have HB := Lib.hid (HB0.out.trans (hb.mono HB0.out.size))
    have HP1 := Lib.hid (HP.out.below hb HP.out.lt)
    obtain ⟨_, g0, g1, g2, g3, g4, g5⟩ := HG.out.below hb HG.out.lt
    obtain ⟨_, p0, p1⟩ := HP.out.below hb HP.out.lt
    clear hb
    rw [Int.add_zero] at HO HS
    go_wp2_with fail
    refine (has_any W L S T J R w1.heap.size 1 1 [a] _ (Lii.one w1 a 3) rfl (by omega)).mono ?_
    rw [HO.out, HS.out]
    rintro e w2 ⟨rfl, hb⟩
    have HB2 := Lib.hid (HB.out.trans ((below_box1 w1 (.cells #[.int .i64 a] 3)).trans (hb.mono (by simp)) |>.mono HB.out.size))
    have HP2 := Lib.hid ((HP1.out.alloc (.cells #[.int .i64 a] 3)).below hb (by have := HP1.out.lt; simp; omega))
    clear hb p0 p1 g0 g1 g2 g3 g4 g5
    obtain ⟨_, p0, p1⟩ := HP2.out
    go_wp2
    go_ret
    exact ⟨by rw [HR.out]; rfl, HB2.out⟩
  have HR := Lib.hid (show rd W L S T J R a n = R * n + (J + T) * ((a + n - 1) / L - a / L) by rw [rd_yes v a0 n0 s1]; unfold rea; rw [if_neg hn])
  have hn2 : (n == 0) = false := by rw [beq_eq_false_iff_ne]; exact hn
  have l0 := v.l0
  have lne : L ≠ 0 := by omega
  have w1' := v.w1
  have q1 := quot_bd (W := W) (x := a + n - 1) v.l0 (by omega) (by omega)
  have q2 := quot_bd (W := W) (x := a) v.l0 a0 (by omega)
  have q3 : a / L ≤ (a + n - 1) / L := Int.ediv_le_ediv (by omega) (by omega)
  have m1 := mul_bd (m := 4096) v.r0 v.r1 n0 (by omega)
  have m2 := mul_bd (m := 32) v.j0 v.j1 (y := (a + n - 1) / L - a / L) (by omega) (by omega)
  have m3 := mul_bd (m := 32) v.t0 v.t1 (y := (a + n - 1) / L - a / L) (by omega) (by omega)
  have j0 := v.j0
  have j1 := v.j1
  have t0 := v.t0
  have t1 := v.t1
  have m4 : 0 ≤ (J + T) * ((a + n - 1) / L - a / L) ∧ (J + T) * ((a + n - 1) / L - a / L) ≤ 64000000 := by rw [Int.add_mul]; omega
  obtain ⟨m10, m11⟩ := m1
  obtain ⟨m40, m41⟩ := m4
  obtain ⟨q10, q11⟩ := q1
  obtain ⟨q20, q21⟩ := q2
  clear v m2 m3
  go_enter Try.func76, Try.ntmps76
  go_wp2_with fail
  generalize World.alloc _ _ = X0 at HB0 HG HP HL ⊢
  refine (has_any W L S T J R (w.heap.size + 1 + 1) 2 2 [a, n] X0 HL.out rfl (by omega)).mono ?_
  rw [HH.out, HV.out]
  rintro e w1 ⟨rfl, hb⟩
  have HB := Lib.hid (HB0.out.trans (hb.mono HB0.out.size))
  have HP1 := Lib.hid (HP.out.below hb HP.out.lt)
  have HG1 := Lib.hid (HG.out.below hb HG.out.lt)
  obtain ⟨_, g0, g1, g2, g3, g4, g5⟩ := HG.out.below hb HG.out.lt
  obtain ⟨_, p0, p1⟩ := HP.out.below hb HP.out.lt
  clear hb
  go_wp2_with fail
  refine (has_any W L S T J R w1.heap.size 1 1 [a + n] _ (Lii.one w1 (a + n) 3) rfl (by omega)).mono ?_
  rw [HO.out, HS.out]
  rintro e w2 ⟨rfl, hb⟩
  have HB2 := Lib.hid (HB.out.trans ((below_box1 w1 (.cells #[.int .i64 (a + n)] 3)).trans (hb.mono (by simp)) |>.mono HB.out.size))
  have HP2 := Lib.hid ((HP1.out.alloc (.cells #[.int .i64 (a + n)] 3)).below hb (by have := HP1.out.lt; simp; omega))
  have HG2 := Lib.hid ((HG1.out.alloc (.cells #[.int .i64 (a + n)] 3)).below hb (by have := HG1.out.lt; simp; omega))
  clear hb p0 p1 g0 g1 g2 g3 g4 g5 HP1 HG1 HG HP HL
  obtain ⟨_, p0, p1⟩ := HP2.out
  obtain ⟨_, g0, g1, g2, g3, g4, g5⟩ := HG2.out
  go_wp2_with fail
  go_quiet (fail)
  go_wp2
  go_ret
  exact ⟨by rw [HR.out]; rfl, below_drewN HB2.out _⟩
end Go.Proofs.Ytepmmlnopdjjdaa
namespace Go.Proofs.Ytepmmlnopdjjdaa
open Go.RowKit
set_option linter.unusedVariables false
theorem rread_start (W L S T J R a n : Int) (w : World) : Below w.heap.size w ((w.alloc (boxG W L S T J R)).alloc (.cells #[.int .i64 a, .int .i64 n] 66)) ∧
    GeoAt ((w.alloc (boxG W L S T J R)).alloc (.cells #[.int .i64 a, .int .i64 n] 66)) w.heap.size W L S T J R ∧
    SpAt ((w.alloc (boxG W L S T J R)).alloc (.cells #[.int .i64 a, .int .i64 n] 66)) (w.heap.size + 1) a n := by
  refine ⟨below_box2 _ _ _, (GeoAt.new w W L S T J R _).alloc _, ?_⟩
  have := SpAt.new (w.alloc (boxG W L S T J R)) a n 66
  rwa [World.size_alloc] at this
attribute [local irreducible] tim vld hav
set_option maxRecDepth 100000 in
set_option maxHeartbeats 2000000 in
theorem rread_any (W L S T J R a n : Int) (w : World) (na : -9223372036854775808 ≤ n) (nb : n ≤ 9223372036854775807) :
    Calls Try.prog 34 #[geV W L S T J R, .agg #[.int .i64 a, .int .i64 n]] w fun e w' => e = .returned (.int .i64 (rd W L S T J R a n)) ∧ Below w.heap.size w w' := by
  obtain ⟨hb0, hg0, hp0⟩ := rread_start W L S T J R a n w
  have HB0 := Lib.hid hb0
  have HG := Lib.hid hg0
  have HP := Lib.hid hp0
  clear hb0 hg0 hp0
  by_cases hv : Vld W L S T J R
  rotate_left
  · have HR := Lib.hid (show rd W L S T J R a n = 0 from rd_no fun h => hv h.1)
    have HV := Lib.hid (vld_not.2 hv)
    clear hv
    go_enter Try.func34, Try.ntmps34
    go_wp2_with fail
    generalize World.alloc _ _ = X0 at HB0 HG HP ⊢
    refine (rcapacity_any W L S T J R X0).mono ?_
    rintro e w1 ⟨rfl, hb⟩
    have HB := Lib.hid (HB0.out.trans (hb.mono HB0.out.size))
    obtain ⟨_, g0, g1, g2, g3, g4, g5⟩ := HG.out.below hb HG.out.lt
    clear hb
    go_wp2_with fail
    refine (rvalid_any W L S T J R w1).mono ?_
    rw [HV.out]
    rintro e w2 ⟨rfl, hb⟩
    have HB2 := Lib.hid (HB.out.trans (hb.mono HB.out.size))
    clear hb
    go_wp2
    go_ret
    exact ⟨by rw [HR.out]; rfl, HB2.out⟩
  have HV := Lib.hid (vld_iff.2 hv)
  have HC := Lib.hid (capU_yes hv)
  have c1 := hv.c1
  have c0 : 0 ≤ W * L := by have := cap_pos hv.w0 hv.l0; have := hv.l0; omega
  have HR0 : Hid (¬ (0 ≤ a ∧ 0 ≤ n ∧ a + n ≤ W * L) → rd W L S T J R a n = 0) := Lib.hid fun h => rd_no fun h2 => h h2.2
  by_cases hin : 0 ≤ a ∧ 0 ≤ n ∧ a + n ≤ W * L
  rotate_left
  · have HR := Lib.hid (HR0.out hin)
    clear hv HR0
    have part : a < 0 ∨ (0 ≤ a ∧ W * L < a) ∨ (0 ≤ a ∧ a ≤ W * L ∧ n < 0) ∨ (0 ≤ a ∧ a ≤ W * L ∧ 0 ≤ n ∧ W * L < n) ∨ (0 ≤ a ∧ a ≤ W * L ∧ 0 ≤ n ∧ n ≤ W * L ∧ W * L < a + n) := by omega
    clear hin
    generalize W * L = C at *
    rcases part with h1 | ⟨h1, h2⟩ | ⟨h1, h2, h3⟩ | ⟨h1, h2, h3, h4⟩ | ⟨h1, h2, h3, h4, h5⟩
    all_goals
      go_enter Try.func34, Try.ntmps34
      go_wp2_with fail
      generalize World.alloc _ _ = X0 at HB0 HG HP ⊢
      refine (rcapacity_any W L S T J R X0).mono ?_
      rw [HC.out]
      rintro e w1 ⟨rfl, hb⟩
      have HB := Lib.hid (HB0.out.trans (hb.mono HB0.out.size))
      have HP1 := Lib.hid (HP.out.below hb HP.out.lt)
      obtain ⟨_, g0, g1, g2, g3, g4, g5⟩ := HG.out.below hb HG.out.lt
      clear hb
      go_wp2_with fail
      refine (rvalid_any W L S T J R w1).mono ?_
      rw [HV.out]
      rintro e w2 ⟨rfl, hb⟩
      have HB2 := Lib.hid (HB.out.trans (hb.mono HB.out.size))
      obtain ⟨_, p0, p1⟩ := HP1.out.below hb HP1.out.lt
      clear hb
      go_wp2
      go_ret
      exact ⟨by rw [HR.out]; rfl, HB2.out⟩
  obtain ⟨a0, n0, h⟩ := hin
  have HR := Lib.hid (rd_yes hv a0 n0 h)
  have l0 := hv.l0
  have lne : L ≠ 0 := by omega
  have r0 := hv.r0
  have r1 := hv.r1
  have j0 := hv.j0
  have j1 := hv.j1
  have t0 := hv.t0
  have t1 := hv.t1
  obtain ⟨N, rfl⟩ : ∃ N : Nat, n = N := ⟨n.toNat, by omega⟩
  have HBD := Lib.hid (fun (i : Int) (h0 : 0 ≤ i) (h1 : i ≤ N) => rea_bd (a := a) (n := i) hv a0 h0 (by omega))
  have HNX := Lib.hid (fun (i : Int) (h0 : 0 ≤ i) => rea_next (L := L) (T := T) (J := J) (R := R) (a := a) (i := i) hv.l0 h0)
  have n1 : (N : Int) ≤ 4096 := by omega
  have a1 : a ≤ 4096 := by omega
  clear hv HR0
  generalize W * L = C at *
  go_enter Try.func34, Try.ntmps34
  go_wp2_with fail
  generalize World.alloc _ _ = X0 at HB0 HG HP ⊢
  refine (rcapacity_any W L S T J R X0).mono ?_
  rw [HC.out]
  rintro e w1 ⟨rfl, hb⟩
  have HB := Lib.hid (HB0.out.trans (hb.mono HB0.out.size))
  have HP1 := Lib.hid (HP.out.below hb HP.out.lt)
  have HG1 := Lib.hid (HG.out.below hb HG.out.lt)
  obtain ⟨_, g0, g1, g2, g3, g4, g5⟩ := HG1.out
  clear hb
  go_wp2_with fail
  refine (rvalid_any W L S T J R w1).mono ?_
  rw [HV.out]
  rintro e w2 ⟨rfl, hb⟩
  have HB2 := Lib.hid (HB.out.trans (hb.mono HB.out.size))
  have HG2 := Lib.hid (HG1.out.below hb HG1.out.lt)
  obtain ⟨_, p0, p1⟩ := HP1.out.below hb HP1.out.lt
  clear hb g0 g1 g2 g3 g4 g5 HG1 HG
  obtain ⟨_, g0, g1, g2, g3, g4, g5⟩ := HG2.out
  go_wp2
  go_loop [6, 7] (fun vn vi => ∃ i : Nat, vi = .int .i64 i ∧ i ≤ N ∧ vn = .int .i64 (rea L T J R a i)) (fun _ vi => N - (intOf vi).toNat)
  case atStart => exact ⟨0, rfl, by omega, by simp [rea]⟩
  case round =>
    obtain ⟨i, rfl, hi, rfl⟩ := hrel
    by_cases hlt : i < N
    · have b1 := HBD.out i (by omega) (by omega)
      have b2 := HBD.out ((i : Int) + 1) (by omega) (by omega)
      have hx := HNX.out i (by omega)
      have hai : 0 ≤ a + i := by omega
      generalize rea L T J R a i = x at *
      have HX := Lib.hid hx
      clear hx
      obtain ⟨b10, b11⟩ := b1
      obtain ⟨b20, b21⟩ := b2
      by_cases hi0 : i = 0
      · subst hi0
        have HE := Lib.hid (show rea L T J R a ((0 + 1 : Nat) : Int) = x + R by rw [show ((0 + 1 : Nat) : Int) = ((0 : Nat) : Int) + 1 by omega, HX.out, if_neg (by omega)]; omega)
        clear b20 b21 HX
        go_wp2
        go_round
        case rel => exact ⟨0 + 1, by go_num, by omega, by rw [HE.out]⟩
        case measure => simp [intOf]; omega
      · have hi1 : 0 < (i : Int) := by omega
        by_cases hm : (a + (i : Int)) % L = 0
        · have HE := Lib.hid (show rea L T J R a ((i + 1 : Nat) : Int) = x + R + J + T by rw [show ((i + 1 : Nat) : Int) = (i : Int) + 1 by omega, HX.out, if_pos ⟨by omega, hm⟩]; omega)
          clear b20 b21 HX
          go_wp2
          go_round
          case rel => exact ⟨i + 1, by go_num, by omega, by rw [HE.out]⟩
          case measure => simp [intOf]; omega
        · have HE := Lib.hid (show rea L T J R a ((i + 1 : Nat) : Int) = x + R by rw [show ((i + 1 : Nat) : Int) = (i : Int) + 1 by omega, HX.out, if_neg (by rintro ⟨_, h2⟩; exact hm h2)]; omega)
          have hm2 : ((a + (i : Int)) % L == 0) = false := by rw [beq_eq_false_iff_ne]; exact hm
          clear b20 b21 HX hm
          go_wp2
          go_round
          case rel => exact ⟨i + 1, by go_num, by omega, by rw [HE.out]⟩
          case measure => simp [intOf]; omega
    · obtain rfl : i = N := by omega
      go_wp2
      go_ret
      exact ⟨by rw [HR.out]; rfl, HB2.out⟩
end Go.Proofs.Ytepmmlnopdjjdaa
