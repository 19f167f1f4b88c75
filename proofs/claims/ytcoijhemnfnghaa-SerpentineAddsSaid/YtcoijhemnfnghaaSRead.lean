/-
  Read, of the program and of the specification.
-/
import Derived.Test.YtcoijhemnfnghaaSPlace
namespace Go.Proofs.Ytcoijhemnfnghaa
open Go.RowKit
set_option linter.unusedVariables false
/-- the span is on the tape -/
noncomputable def onU (W L S T J R a n : Int) : Bool := hav W L S T J R a && (decide (0 ≤ n) && decide (a + n ≤ W * L))
theorem onU_iff {W L S T J R a n : Int} : onU W L S T J R a n = true ↔ Vld W L S T J R ∧ 0 ≤ a ∧ 0 ≤ n ∧ a + n ≤ W * L := by
  unfold onU
  rw [Bool.and_eq_true, Bool.and_eq_true, hav_iff, decide_eq_true_iff, decide_eq_true_iff]
  constructor
  · rintro ⟨⟨h1, h2, h3⟩, h4, h5⟩; exact ⟨h1, h2, h4, h5⟩
  · rintro ⟨h1, h2, h4, h5⟩; exact ⟨⟨h1, h2, by omega⟩, h4, h5⟩
noncomputable def rd (W L S T J R a n : Int) : Int := if onU W L S T J R a n = true then rea L T J R a n else 0
theorem rd_yes {W L S T J R a n : Int} (v : Vld W L S T J R) (a0 : 0 ≤ a) (n0 : 0 ≤ n) (h : a + n ≤ W * L) : rd W L S T J R a n = rea L T J R a n := if_pos (onU_iff.2 ⟨v, a0, n0, h⟩)
theorem rd_no {W L S T J R a n : Int} (h : ¬ (Vld W L S T J R ∧ 0 ≤ a ∧ 0 ≤ n ∧ a + n ≤ W * L)) : rd W L S T J R a n = 0 := if_neg (fun h2 => h (onU_iff.1 h2))
theorem rd_zero (W L S T J R a : Int) : rd W L S T J R a 0 = 0 := by unfold rd rea; split <;> simp
theorem read_start (W L S T J R a n : Int) (w : World) : Below w.heap.size w (((w.alloc (boxG W L S T J R)).alloc (.cells #[.int .i64 a, .int .i64 n] 36)).alloc (.cells #[.int .i64 a, .int .i64 n] 3)) ∧
    GeoAt (((w.alloc (boxG W L S T J R)).alloc (.cells #[.int .i64 a, .int .i64 n] 36)).alloc (.cells #[.int .i64 a, .int .i64 n] 3)) w.heap.size W L S T J R ∧
    SpAt (((w.alloc (boxG W L S T J R)).alloc (.cells #[.int .i64 a, .int .i64 n] 36)).alloc (.cells #[.int .i64 a, .int .i64 n] 3)) (w.heap.size + 1) a n ∧
    Lii (((w.alloc (boxG W L S T J R)).alloc (.cells #[.int .i64 a, .int .i64 n] 36)).alloc (.cells #[.int .i64 a, .int .i64 n] 3)) (w.heap.size + 1 + 1) 0 [a, n] := by
  refine ⟨below_box3 _ _ _ _, ((GeoAt.new w W L S T J R _).alloc _).alloc _, ?_, ?_⟩
  · have := (SpAt.new (w.alloc (boxG W L S T J R)) a n 36).alloc (.cells #[.int .i64 a, .int .i64 n] 3)
    rwa [World.size_alloc] at this
  · have := Lii.two ((w.alloc (boxG W L S T J R)).alloc (.cells #[.int .i64 a, .int .i64 n] 36)) a n 3
    rwa [World.size_alloc, World.size_alloc] at this
attribute [local irreducible] tim vld hav
set_option maxRecDepth 100000 in
set_option maxHeartbeats 2000000 in
theorem read_any (W L S T J R a n : Int) (w : World) :
    Calls Try.prog 20 #[geV W L S T J R, .agg #[.int .i64 a, .int .i64 n]] w fun e w' => e = .returned (.int .i64 (rd W L S T J R a n)) ∧ Below w.heap.size w w' := by
  obtain ⟨hb0, hg0, hp0, hl0⟩ := read_start W L S T J R a n w
  have HB0 := Lib.hid hb0
  have HG := Lib.hid hg0
  have HP := Lib.hid hp0
  have HL := Lib.hid hl0
  clear hb0 hg0 hp0 hl0
  have HH := Lib.hid (hasU_two W L S T J R a n)
  have HO := Lib.hid (hasU_one W L S T J R (a + n))
  cases hv : (hav W L S T J R a && hav W L S T J R n)
  · have HR := Lib.hid (show rd W L S T J R a n = 0 from rd_no fun ⟨v, a0, n0, h⟩ => by
      have := v.w0; have := v.l0
      rw [hav_iff.2 ⟨v, a0, by omega⟩, hav_iff.2 ⟨v, n0, by omega⟩] at hv
      cases hv)
    have HV := Lib.hid hv
    clear hv
    go_enter Try.func20, Try.ntmps20
    go_wp2_with fail
    generalize World.alloc _ _ = X0 at HB0 HG HP HL ⊢
    refine (has_any W L S T J R (w.heap.size + 1 + 1) 2 2 [a, n] X0 HL.out rfl (by omega)).mono ?_
    rw [HH.out, HV.out]
    rintro e w1 ⟨rfl, hb⟩
    have HB := Lib.hid (HB0.out.trans (hb.mono HB0.out.size))
    clear hb
    go_wp2
    go_ret
    exact ⟨by rw [HR.out]; rfl, HB.out⟩
  have HV := Lib.hid hv
  rw [Bool.and_eq_true] at hv
  obtain ⟨v, a0, a1⟩ := hav_iff.1 hv.1
  obtain ⟨_, n0, n1⟩ := hav_iff.1 hv.2
  have c1 := v.c1
  clear hv
  cases hs : hav W L S T J R (a + n)
  · have HR := Lib.hid (show rd W L S T J R a n = 0 from rd_no fun ⟨v, a0, n0, h⟩ => by
      rw [hav_iff.2 ⟨v, by omega, h⟩] at hs
      cases hs)
    have HS := Lib.hid hs
    clear hs v
    go_enter Try.func20, Try.ntmps20
    go_wp2_with fail
    generalize World.alloc _ _ = X0 at HB0 HG HP HL ⊢
    refine (has_any W L S T J R (w.heap.size + 1 + 1) 2 2 [a, n] X0 HL.out rfl (by omega)).mono ?_
    rw [HH.out, HV.out]
    rintro e w1 ⟨rfl, hb⟩
    have HB := Lib.hid (HB0.out.trans (hb.mono HB0.out.size))
    obtain ⟨_, g0, g1, g2, g3, g4, g5⟩ := HG.out.below hb HG.out.lt
    obtain ⟨_, p0, p1⟩ := HP.out.below hb HP.out.lt
    clear hb
    go_wp2_with fail
    refine (has_any W L S T J R w1.heap.size 1 1 [a + n] _ (Lii.one w1 (a + n) 3) rfl (by omega)).mono ?_
    rw [HO.out, HS.out]
    rintro e w2 ⟨rfl, hb⟩
    have HB2 := Lib.hid (HB.out.trans ((below_box1 w1 (.cells #[.int .i64 (a + n)] 3)).trans (hb.mono (by simp)) |>.mono HB.out.size))
    clear hb
    go_wp2
    go_ret
    exact ⟨by rw [HR.out]; rfl, HB2.out⟩
  obtain ⟨_, _, s1⟩ := hav_iff.1 hs
  have HS := Lib.hid hs
  clear hs
  by_cases hn : n = 0
  · subst hn
    have HR := Lib.hid (rd_zero W L S T J R a)
    clear v
    go_enter Try.func20, Try.ntmps20
    go_wp2_with fail
    generalize World.alloc _ _ = X0 at HB0 HG HP HL ⊢
    refine (has_any W L S T J R (w.heap.size + 1 + 1) 2 2 [a, 0] X0 HL.out rfl (by omega)).mono ?_
    rw [HH.out, HV.out]
    rintro e w1 ⟨rfl, hb⟩
    have HB := Lib.hid (HB0.out.trans (hb.mono HB0.out.size))
    have HP1 := Lib.hid (HP.out.below hb HP.out.lt)
    obtain ⟨_, g0, g1, g2, g3, g4, g5⟩ := HG.out.below hb HG.out.lt
    obtain ⟨_, p0, p1⟩ := HP.out.below hb HP.out.lt
    clear hb
    rw [Int.add_zero] at HO HS
    go_wp2_with fail
    refine (has_any W L S T J R w1.heap.size 1 1 [a] _ (Lii.one w1 a 3) rfl (by omega)).mono ?_
    rw [HO.out, HS.out]
    rintro e w2 ⟨rfl, hb⟩
    have HB2 := Lib.hid (HB.out.trans ((below_box1 w1 (.cells #[.int .i64 a] 3)).trans (hb.mono (by simp)) |>.mono HB.out.size))
    have HP2 := Lib.hid ((HP1.out.alloc (.cells #[.int .i64 a] 3)).below hb (by have := HP1.out.lt; simp; omega))
    clear hb p0 p1 g0 g1 g2 g3 g4 g5
    obtain ⟨_, p0, p1⟩ := HP2.out
    go_wp2
    go_ret
    exact ⟨by rw [HR.out]; rfl, HB2.out⟩
  have HR := Lib.hid (show rd W L S T J R a n = R * n + (J + T) * ((a + n - 1) / L - a / L) by rw [rd_yes v a0 n0 s1]; unfold rea; rw [if_neg hn])
  have hn2 : (n == 0) = false := by rw [beq_eq_false_iff_ne]; exact hn
  have l0 := v.l0
  have lne : L ≠ 0 := by omega
  have w1' := v.w1
  have q1 := quot_bd (W := W) (x := a + n - 1) v.l0 (by omega) (by omega)
  have q2 := quot_bd (W := W) (x := a) v.l0 a0 (by omega)
  have q3 : a / L ≤ (a + n - 1) / L := Int.ediv_le_ediv (by omega) (by omega)
  have m1 := mul_bd (m := 4096) v.r0 v.r1 n0 (by omega)
  have m2 := mul_bd (m := 32) v.j0 v.j1 (y := (a + n - 1) / L - a / L) (by omega) (by omega)
  have m3 := mul_bd (m := 32) v.t0 v.t1 (y := (a + n - 1) / L - a / L) (by omega) (by omega)
  have j0 := v.j0
  have j1 := v.j1
  have t0 := v.t0
  have t1 := v.t1
  have m4 : 0 ≤ (J + T) * ((a + n - 1) / L - a / L) ∧ (J + T) * ((a + n - 1) / L - a / L) ≤ 64000000 := by rw [Int.add_mul]; omega
  obtain ⟨m10, m11⟩ := m1
  obtain ⟨m40, m41⟩ := m4
  obtain ⟨q10, q11⟩ := q1
  obtain ⟨q20, q21⟩ := q2
  clear v m2 m3
  go_enter Try.func20, Try.ntmps20
  go_wp2_with fail
  generalize World.alloc _ _ = X0 at HB0 HG HP HL ⊢
  refine (has_any W L S T J R (w.heap.size + 1 + 1) 2 2 [a, n] X0 HL.out rfl (by omega)).mono ?_
  rw [HH.out, HV.out]
  rintro e w1 ⟨rfl, hb⟩
  have HB := Lib.hid (HB0.out.trans (hb.mono HB0.out.size))
  have HP1 := Lib.hid (HP.out.below hb HP.out.lt)
  have HG1 := Lib.hid (HG.out.below hb HG.out.lt)
  obtain ⟨_, g0, g1, g2, g3, g4, g5⟩ := HG.out.below hb HG.out.lt
  obtain ⟨_, p0, p1⟩ := HP.out.below hb HP.out.lt
  clear hb
  go_wp2_with fail
  refine (has_any W L S T J R w1.heap.size 1 1 [a + n] _ (Lii.one w1 (a + n) 3) rfl (by omega)).mono ?_
  rw [HO.out, HS.out]
  rintro e w2 ⟨rfl, hb⟩
  have HB2 := Lib.hid (HB.out.trans ((below_box1 w1 (.cells #[.int .i64 (a + n)] 3)).trans (hb.mono (by simp)) |>.mono HB.out.size))
  have HP2 := Lib.hid ((HP1.out.alloc (.cells #[.int .i64 (a + n)] 3)).below hb (by have := HP1.out.lt; simp; omega))
  have HG2 := Lib.hid ((HG1.out.alloc (.cells #[.int .i64 (a + n)] 3)).below hb (by have := HG1.out.lt; simp; omega))
  clear hb p0 p1 g0 g1 g2 g3 g4 g5 HP1 HG1 HG HP HL
  obtain ⟨_, p0, p1⟩ := HP2.out
  obtain ⟨_, g0, g1, g2, g3, g4, g5⟩ := HG2.out
  go_wp2_with fail
  go_quiet (fail)
  go_wp2
  go_ret
  exact ⟨by rw [HR.out]; rfl, below_drewN HB2.out _⟩
end Go.Proofs.Ytcoijhemnfnghaa
