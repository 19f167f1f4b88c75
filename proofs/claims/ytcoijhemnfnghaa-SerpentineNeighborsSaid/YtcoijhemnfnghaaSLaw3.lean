/-
  The statement SerpentineNeighbors.
-/
import Derived.Test.YtcoijhemnfnghaaSAwake
namespace Go.Proofs.Ytcoijhemnfnghaa
open Go.RowKit
set_option linter.unusedVariables false
theorem place_yes (W L S T J R b : Int) (w : World) (h : hav W L S T J R b = true) :
    Calls Try.prog 9 #[geV W L S T J R, .int .i64 b] w fun e w' => e = .returned (.tuple #[plV (wr W L b) (po W L b) (bk W L b), .bool true]) ∧ Below w.heap.size w w' := by
  have := place_any W L S T J R b w
  rw [show pw W L S T J R b = wr W L b by unfold pw; rw [h]; rfl, show pp W L S T J R b = po W L b by unfold pp; rw [h]; rfl, show pk W L S T J R b = bk W L b by unfold pk; rw [h]; rfl, h] at this
  exact this
/-- the places of successive blocks -/
theorem next_facts {W L b : Int} (w0 : 1 ≤ W) (l0 : 1 ≤ L) (b0 : 0 ≤ b) (b1 : b + 1 < W * L) :
    ((b + 1) % L = 0 → po W L b = po W L (b + 1) ∧ wr W L b + 1 = wr W L (b + 1) ∧ bk W L b ≠ bk W L (b + 1)) ∧
    ((b + 1) % L ≠ 0 → wr W L b = wr W L (b + 1) ∧ bk W L b = bk W L (b + 1) ∧ po W L (b + 1) = po W L b + (if bk W L b = true then -1 else 1)) := by
  obtain ⟨w, o, e1, e2, o0, o1, w1, w2⟩ := wr_spec w0 l0 b0 (show b ≤ W * L by omega)
  have o2 : o < L := by rcases o1 with h | h <;> omega
  clear o1
  have hd := Int.emod_add_mul_ediv (b + 1) L
  have hm0 := Int.emod_nonneg (b + 1) (show L ≠ 0 by omega)
  have hm1 := Int.emod_lt_of_pos (b + 1) (show 0 < L by omega)
  by_cases ho : o + 1 < L
  · have e3 : wr W L (b + 1) = w := by rw [e2, Int.add_assoc]; exact wr_of l0 (by omega) (.inl ho) w2
    have e4 : (b + 1) % L = o + 1 := by
      rw [e2, show w * L + o + 1 = (o + 1) + w * L by omega, Int.add_mul_emod_self_right, Int.emod_eq_of_lt (by omega) ho]
    refine ⟨fun h => by omega, fun _ => ⟨by rw [e1, e3], by unfold bk; rw [e1, e3], ?_⟩⟩
    unfold bk po
    rw [e1, e3]
    by_cases hk : w % 2 = 1
    · simp only [hk, if_true, decide_true]; omega
    · simp only [hk, if_false, decide_false, Bool.false_eq_true]; omega
  · have ho2 : o + 1 = L := by omega
    have e5 : b + 1 = (w + 1) * L + 0 := by rw [Int.add_mul]; omega
    have hw3 : w + 1 ≤ W - 1 := by
      have : (w + 1) * L < W * L := by omega
      have := Int.lt_of_mul_lt_mul_right this (show 0 ≤ L by omega)
      omega
    have e3 : wr W L (b + 1) = w + 1 := by rw [e5]; exact wr_of l0 (by omega) (.inl (by omega)) hw3
    have e4 : (b + 1) % L = 0 := by rw [e5, Int.add_zero, Int.mul_emod_left]
    refine ⟨fun _ => ⟨?_, by rw [e1, e3], ?_⟩, fun h => absurd e4 h⟩
    · have x1 : b - w * L = L - 1 := by omega
      have x2 : b + 1 - (w + 1) * L = 0 := by omega
      unfold po
      rw [e1, e3, x1, x2]
      split <;> split <;> omega
    · unfold bk
      rw [e1, e3]
      intro h
      by_cases hk : w % 2 = 1
      · rw [decide_eq_true hk, eq_comm, decide_eq_true_iff] at h; omega
      · rw [decide_eq_false hk, eq_comm, decide_eq_false_iff_not] at h; omega
attribute [local irreducible] tim vld hav wr po bk capU
set_option maxRecDepth 100000 in
set_option maxHeartbeats 4000000 in
theorem law_neighbors (W L S T J R b : Int) (w : World) :
    Calls Try.prog 8 #[geV W L S T J R, .int .i64 b] w fun e w' => e = .returned (.bool true) ∧ Below w.heap.size w w' := by
  have HB0 := Lib.hid (below_box1 w (boxG W L S T J R))
  have HG := Lib.hid (GeoAt.new w W L S T J R 23)
  by_cases h0 : b < 0
  · go_enter Try.func8, Try.ntmps8
    go_wp2_with fail
    refine (awake_any _).mono ?_
    rintro e w8 ⟨rfl, hb⟩
    have HB8 := Lib.hid (HB0.out.trans (hb.mono HB0.out.size))
    clear hb
    go_wp2
    go_ret
    exact ⟨rfl, HB8.out⟩
  obtain ⟨c0, c1⟩ : 0 ≤ capU W L S T J R ∧ capU W L S T J R ≤ 4096 := by
    by_cases hv : Vld W L S T J R
    · rw [capU_yes hv]
      have := cap_pos hv.w0 hv.l0; have := hv.l0; have := hv.c1
      omega
    · rw [capU_no hv]; omega
  by_cases hc : capU W L S T J R - 1 ≤ b
  · generalize hcc : capU W L S T J R = C at *
    have HC := Lib.hid hcc
    clear hcc
    go_enter Try.func8, Try.ntmps8
    go_wp2_with fail
    generalize World.alloc _ _ = X0 at HB0 HG ⊢
    refine (capacity_any W L S T J R X0).mono ?_
    rw [HC.out]
    rintro e w1 ⟨rfl, hb⟩
    have HB1 := Lib.hid (HB0.out.trans (hb.mono HB0.out.size))
    clear hb
    go_wp2_with fail
    refine (awake_any _).mono ?_
    rintro e w8 ⟨rfl, hb⟩
    have HB8 := Lib.hid (HB1.out.trans (hb.mono HB1.out.size))
    clear hb
    go_wp2
    go_ret
    exact ⟨rfl, HB8.out⟩
  have hv : Vld W L S T J R := by
    rcases Classical.em (Vld W L S T J R) with hv | hv
    · exact hv
    · rw [capU_no hv] at hc; omega
  have HC := Lib.hid (capU_yes hv)
  rw [capU_yes hv] at hc c0 c1
  have HP1 := Lib.hid (fun X => place_yes W L S T J R b X (hav_iff.2 ⟨hv, by omega, by omega⟩))
  have HP2 := Lib.hid (fun X => place_yes W L S T J R (b + 1) X (hav_iff.2 ⟨hv, by omega, by omega⟩))
  have l0 := hv.l0
  have lne : L ≠ 0 := by omega
  have hF := next_facts (W := W) (L := L) (b := b) hv.w0 hv.l0 (by omega) (by omega)
  have rb := wr_bd (W := W) (L := L) (b := b) hv.w0 hv.l0 (by omega) (by omega)
  have qb := po_bd (W := W) (L := L) (b := b) hv.w0 hv.l0 (by omega) (by omega)
  have hw1 := hv.w1
  have hl1 := hv.l1
  have ra0 := rb.1
  have ra1 : wr W L b ≤ 31 := by omega
  have qa0 := qb.1
  have qa1 : po W L b ≤ 4096 := by omega
  clear hv rb qb
  generalize W * L = C at *
  generalize Go.Proofs.Ytcoijhemnfnghaa.wr W L b = wa at *
  generalize po W L b = pa at *
  generalize bk W L b = ka at *
  generalize Go.Proofs.Ytcoijhemnfnghaa.wr W L (b + 1) = wb at *
  generalize po W L (b + 1) = pb at *
  generalize bk W L (b + 1) = kb at *
  by_cases hm : (b + 1) % L = 0
  · obtain ⟨rfl, rfl, hk⟩ := hF.1 hm
    clear hF
    go_enter Try.func8, Try.ntmps8
    go_wp2_with fail
    generalize World.alloc _ _ = X0 at HB0 HG ⊢
    refine (capacity_any W L S T J R X0).mono ?_
    rw [HC.out]
    rintro e w1 ⟨rfl, hb⟩
    have HB1 := Lib.hid (HB0.out.trans (hb.mono HB0.out.size))
    have HG1 := Lib.hid (HG.out.below hb HG.out.lt)
    obtain ⟨glt, g0, g1, g2, g3, g4, g5⟩ := HG1.out
    clear hb HB0 HG
    go_wp2_with fail
    refine (HP1.out w1).mono ?_
    rintro e w2 ⟨rfl, hb⟩
    have HB2 := Lib.hid ((HB1.out.trans (hb.mono HB1.out.size)).alloc (Nat.le_trans HB1.out.size hb.size) (boxP wa pa ka))
    have HG2 := Lib.hid ((HG1.out.below hb HG1.out.lt).alloc (boxP wa pa ka))
    have HQ2 := Lib.hid (PlAt.new w2 wa pa ka 25)
    clear hb g0 g1 g2 g3 g4 g5 glt
    obtain ⟨glt, g0, g1, g2, g3, g4, g5⟩ := HG2.out
    go_wp2_with fail
    clear g0 g1 g2 g3 g4 g5 glt
    generalize w2.heap.size = gp at *
    generalize World.alloc w2 _ = X2 at *
    refine (HP2.out X2).mono ?_
    rintro e w3 ⟨rfl, hb⟩
    have HB3 := Lib.hid ((HB2.out.trans (hb.mono HB2.out.size)).alloc (Nat.le_trans HB2.out.size hb.size) (boxP (wa + 1) pa kb))
    obtain ⟨glt, g0, g1, g2, g3, g4, g5⟩ := HG2.out.below hb HG2.out.lt
    obtain ⟨plt, p0, p1, p2⟩ := HQ2.out.below hb HQ2.out.lt
    clear hb HB1 HG1 HB2 HG2 HQ2
    have hk2 : (ka == kb) = false := by rw [beq_eq_false_iff_ne]; exact hk
    have hpp : (pa == pa) = true := by simp
    have hww : ((wa + 1) == (wa + 1)) = true := by simp
    clear hk
    go_wp2_with fail
    refine (awake_any _).mono ?_
    rintro e w8 ⟨rfl, hb⟩
    have HB8 := Lib.hid (HB3.out.trans (hb.mono HB3.out.size))
    clear hb
    go_wp2
    go_ret
    exact ⟨rfl, HB8.out⟩
  · obtain ⟨rfl, rfl, hp⟩ := hF.2 hm
    clear hF
    have hm2 : ((b + 1) % L == 0) = false := by rw [beq_eq_false_iff_ne]; exact hm
    clear hm
    cases ka
    · obtain rfl : pb = pa + 1 := by simpa using hp
      go_enter Try.func8, Try.ntmps8
      go_wp2_with fail
      generalize World.alloc _ _ = X0 at HB0 HG ⊢
      refine (capacity_any W L S T J R X0).mono ?_
      rw [HC.out]
      rintro e w1 ⟨rfl, hb⟩
      have HB1 := Lib.hid (HB0.out.trans (hb.mono HB0.out.size))
      have HG1 := Lib.hid (HG.out.below hb HG.out.lt)
      obtain ⟨glt, g0, g1, g2, g3, g4, g5⟩ := HG1.out
      clear hb HB0 HG
      go_wp2_with fail
      refine (HP1.out w1).mono ?_
      rintro e w2 ⟨rfl, hb⟩
      have HB2 := Lib.hid ((HB1.out.trans (hb.mono HB1.out.size)).alloc (Nat.le_trans HB1.out.size hb.size) (boxP wa pa false))
      have HG2 := Lib.hid ((HG1.out.below hb HG1.out.lt).alloc (boxP wa pa false))
      have HQ2 := Lib.hid (PlAt.new w2 wa pa false 25)
      clear hb g0 g1 g2 g3 g4 g5 glt
      obtain ⟨glt, g0, g1, g2, g3, g4, g5⟩ := HG2.out
      go_wp2_with fail
      clear g0 g1 g2 g3 g4 g5 glt
      generalize w2.heap.size = gp at *
      generalize World.alloc w2 _ = X2 at *
      refine (HP2.out X2).mono ?_
      rintro e w3 ⟨rfl, hb⟩
      have HB3 := Lib.hid ((HB2.out.trans (hb.mono HB2.out.size)).alloc (Nat.le_trans HB2.out.size hb.size) (boxP wa (pa + 1) false))
      obtain ⟨glt, g0, g1, g2, g3, g4, g5⟩ := HG2.out.below hb HG2.out.lt
      obtain ⟨plt, p0, p1, p2⟩ := HQ2.out.below hb HQ2.out.lt
      clear hb HB1 HG1 HB2 HG2 HQ2
      clear hp
      go_wp2_with fail
      refine (awake_any _).mono ?_
      rintro e w8 ⟨rfl, hb⟩
      have HB8 := Lib.hid (HB3.out.trans (hb.mono HB3.out.size))
      clear hb
      go_wp2
      go_ret
      exact ⟨rfl, HB8.out⟩
    · obtain rfl : pb = pa + -1 := by simpa using hp
      go_enter Try.func8, Try.ntmps8
      go_wp2_with fail
      generalize World.alloc _ _ = X0 at HB0 HG ⊢
      refine (capacity_any W L S T J R X0).mono ?_
      rw [HC.out]
      rintro e w1 ⟨rfl, hb⟩
      have HB1 := Lib.hid (HB0.out.trans (hb.mono HB0.out.size))
      have HG1 := Lib.hid (HG.out.below hb HG.out.lt)
      obtain ⟨glt, g0, g1, g2, g3, g4, g5⟩ := HG1.out
      clear hb HB0 HG
      go_wp2_with fail
      refine (HP1.out w1).mono ?_
      rintro e w2 ⟨rfl, hb⟩
      have HB2 := Lib.hid ((HB1.out.trans (hb.mono HB1.out.size)).alloc (Nat.le_trans HB1.out.size hb.size) (boxP wa pa true))
      have HG2 := Lib.hid ((HG1.out.below hb HG1.out.lt).alloc (boxP wa pa true))
      have HQ2 := Lib.hid (PlAt.new w2 wa pa true 25)
      clear hb g0 g1 g2 g3 g4 g5 glt
      obtain ⟨glt, g0, g1, g2, g3, g4, g5⟩ := HG2.out
      go_wp2_with fail
      clear g0 g1 g2 g3 g4 g5 glt
      generalize w2.heap.size = gp at *
      generalize World.alloc w2 _ = X2 at *
      refine (HP2.out X2).mono ?_
      rintro e w3 ⟨rfl, hb⟩
      have HB3 := Lib.hid ((HB2.out.trans (hb.mono HB2.out.size)).alloc (Nat.le_trans HB2.out.size hb.size) (boxP wa (pa + -1) true))
      obtain ⟨glt, g0, g1, g2, g3, g4, g5⟩ := HG2.out.below hb HG2.out.lt
      obtain ⟨plt, p0, p1, p2⟩ := HQ2.out.below hb HQ2.out.lt
      clear hb HB1 HG1 HB2 HG2 HQ2
      clear hp
      go_wp2_with fail
      refine (awake_any _).mono ?_
      rintro e w8 ⟨rfl, hb⟩
      have HB8 := Lib.hid (HB3.out.trans (hb.mono HB3.out.size))
      clear hb
      go_wp2
      go_ret
      exact ⟨rfl, HB8.out⟩
end Go.Proofs.Ytcoijhemnfnghaa
