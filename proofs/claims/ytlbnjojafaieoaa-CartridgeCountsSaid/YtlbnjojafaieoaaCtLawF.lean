/-
  The law Counts.
-/
import Derived.Test.YtlbnjojafaieoaaCtForms
namespace Go.Proofs.Ytlbnjojafaieoaa
open Go.RowKit
set_option linter.unusedVariables false
attribute [local irreducible] tim vld bar cnt okB capU allB vldC eqK newC eraC dmgC wriC freeC marksC readC liC liB dmN
set_option maxRecDepth 100000 in
set_option maxHeartbeats 8000000 in
theorem law_counts (c : Crt) (ad : Option Addr) (cap : Nat) (a n : Int) (w : World) (hin : CrIn w c ad cap) (a0 : -9223372036854775808 ≤ a) (a1 : a ≤ 9223372036854775807) :
    Calls Try.prog 9 #[crV c ad cap, .int .i64 a, .int .i64 n] w fun e w' => e = .returned (.bool true) ∧ Below w.heap.size w w' := by
  have HIN := Lib.hid hin
  clear hin
  obtain ⟨M, hM⟩ : ∃ M, M = c.l.length := ⟨_, rfl⟩
  show Calls Try.prog 9 #[crW c.bc c.W c.L c.S c.T c.J c.R c.wo c.lk ad c.l.length cap c.ep c.lo c.pa, .int .i64 a, .int .i64 n] w _
  have HM := Lib.hid hM
  rw [← hM]
  clear hM
  have HB0 := Lib.hid (below_box1 w (boxX c ad M cap))
  have HC := Lib.hid (AtX.new w c ad M cap)
  go_enter Try.func9, Try.ntmps9
  go_wp2_with fail
  generalize World.alloc _ _ = X0 at *
  replace HIN := Lib.hid (HIN.out.below HB0.out)
  refine (light_m HM.out X0 HIN.out).mono ?_
  have HLI := Lib.hid (@liC_iff c)
  generalize liC c = li at *
  rintro e w1 ⟨rfl, hb⟩
  have HB1 := Lib.hid (HB0.out.trans (hb.mono HB0.out.size))
  have HC1 := Lib.hid (HC.out.below hb HC.out.lt)
  have HI1 := Lib.hid (HIN.out.below hb)
  clear hb HB0 HC HIN
  cases li
  · go_wp2_with fail
    refine (awake_any _).mono ?_
    rintro e w3 ⟨rfl, hb⟩
    have HB3 := Lib.hid (HB1.out.trans (hb.mono HB1.out.size))
    clear hb
    go_wp2
    go_ret
    exact ⟨rfl, HB3.out⟩
  have HMS := Lib.hid (show M ≤ 300 by have := (HLI.out (by simp)).1; have := HM.out; omega)
  by_cases hn0 : n < 0
  · go_wp2_with fail
    refine (awake_any _).mono ?_
    rintro e w3 ⟨rfl, hb⟩
    have HB3 := Lib.hid (HB1.out.trans (hb.mono HB1.out.size))
    clear hb
    go_wp2
    go_ret
    exact ⟨rfl, HB3.out⟩
  by_cases hn3 : 300 < n
  · go_wp2_with fail
    refine (awake_any _).mono ?_
    rintro e w3 ⟨rfl, hb⟩
    have HB3 := Lib.hid (HB1.out.trans (hb.mono HB1.out.size))
    clear hb
    go_wp2
    go_ret
    exact ⟨rfl, HB3.out⟩
  obtain ⟨N, rfl⟩ : ∃ N : Nat, n = N := ⟨n.toNat, by omega⟩
  have hN3 : N ≤ 300 := by omega
  have d1 : decide ((N : Int) < 0) = false := decide_eq_false (by omega)
  have d2 : decide ((300 : Int) < (N : Int)) = false := decide_eq_false (by omega)
  have d3 : decide (300 < N) = false := decide_eq_false (by omega)
  have HX := Lib.hid (fun X (h : CrIn X c ad cap) a n (hn : n ≤ 9223372036854775807) => marks_m (a := a) (n := n) HM.out X h (by have := HMS.out; omega) hn)
  have HNO := Lib.hid (fun a n => marks_none (v := vldC c) (l := c.l) (a := a) (n := n))
  have HSO := Lib.hid (fun a n => marks_some (v := vldC c) (l := c.l) (a := a) (n := n))
  have HZ := Lib.hid (fun a => marks_0 (v := vldC c) (l := c.l) (a := a))
  have HX1 := Lib.hid (fun X h => HX.out X h a (N : Int) (by omega))
  obtain ⟨res, hres⟩ : ∃ res, res = marksC (vldC c) c.l a (N : Int) := ⟨_, rfl⟩
  have HRES := Lib.hid hres
  rw [← hres] at HX1
  obtain ⟨wv, we⟩ := res
  simp only at HX1
  clear hres hn0 hn3
  obtain ⟨_, k0, k1, k2, k3, k4, k5, k6, k7, k8, k9, k10, k11, k12⟩ := HC1.out
  go_wp2_with fail
  clear k0 k1 k2 k3 k4 k5 k6 k7 k8 k9 k10 k11 k12
  refine (HX1.out w1 HI1.out).mono ?_
  rintro e w2 ⟨rfl, hb⟩
  have HB2 := Lib.hid (HB1.out.trans (hb.mono HB1.out.size))
  have HC2 := Lib.hid (HC1.out.below hb HC1.out.lt)
  have HI2 := Lib.hid (HI1.out.below hb)
  clear hb HB1 HC1 HI1
  go_wp2
  go_loopg [1, 9] N (fun gk v1 v9 wx => ∃ (a : Int) (i : Nat), -9223372036854775808 ≤ a ∧ a ≤ 9223372036854775807 ∧ i + gk = N ∧ v1 = .int .i64 a ∧ v9 = .int .i64 i ∧ Hid (Below w.heap.size w wx) ∧ Hid (AtX wx w.heap.size c ad M cap) ∧ Hid (CrIn wx c ad cap) ∧ Hid ((wv, we) = marksC (vldC c) c.l a (gk : Int)))
  case atStart => exact ⟨a, 0, a0, a1, by omega, rfl, rfl, HB2, HC2, HI2, HRES⟩
  case round =>
    obtain ⟨a, i, ha0, ha1, hi, rfl, rfl, hB, hC, hI, hE⟩ := hrel
    cases gk with
    | zero =>
      obtain rfl : i = N := by omega
      by_cases hwe : we = 0
      · have HF := Lib.hid (show wv = a by
          have h1 := HZ.out a (by have := hE.out; rw [show ((0 : Nat) : Int) = 0 from rfl] at this; rw [← this]; exact hwe)
          have h2 := hE.out
          rw [show ((0 : Nat) : Int) = 0 from rfl, h1] at h2
          exact (Prod.mk.inj h2).1)
        obtain rfl := HF.out
        subst hwe
        clear HF
        have hww : (wv == wv) = true := by simp
        go_wp2_with fail
        refine (awake_any _).mono ?_
        rintro e w3 ⟨rfl, hb⟩
        have HB3 := Lib.hid (hB.out.trans (hb.mono hB.out.size))
        clear hb
        go_wp2
        go_ret
        exact ⟨rfl, HB3.out⟩
      · have hne : (we == 0) = false := by rw [beq_eq_false_iff_ne]; exact hwe
        go_wp2_with fail
        refine (awake_any _).mono ?_
        rintro e w3 ⟨rfl, hb⟩
        have HB3 := Lib.hid (hB.out.trans (hb.mono hB.out.size))
        clear hb
        go_wp2
        go_ret
        exact ⟨rfl, HB3.out⟩
    | succ gk =>
      have hiN : i < N := by omega
      have HX2 := Lib.hid (fun X h => HX.out X h a 1 (by omega))
      have HN1 := Lib.hid (HNO.out a gk)
      have HS1 := Lib.hid (HSO.out a gk)
      have HE := Lib.hid hE.out
      generalize marksC (vldC c) c.l a 1 = r1 at *
      obtain ⟨nx, f⟩ := r1
      simp only at HX2 HN1 HS1
      obtain ⟨_, k0, k1, k2, k3, k4, k5, k6, k7, k8, k9, k10, k11, k12⟩ := hC.out
      go_wp2_with fail
      clear k0 k1 k2 k3 k4 k5 k6 k7 k8 k9 k10 k11 k12
      refine (HX2.out wr hI.out).mono ?_
      rintro e w4 ⟨rfl, hb⟩
      have HB4 := Lib.hid (hB.out.trans (hb.mono hB.out.size))
      have HC4 := Lib.hid (hC.out.below hb hC.out.lt)
      have HI4 := Lib.hid (hI.out.below hb)
      clear hb hB hC hI HX2
      by_cases hf : f = 0
      rotate_left
      · have HF := Lib.hid (show wv = 0 ∧ we = f from by
          have h1 := HN1.out hf
          have h2 := HE.out
          rw [h1] at h2
          exact Prod.mk.inj h2)
        obtain ⟨hw0, hwf⟩ := HF.out
        subst hw0 hwf
        have hne : (we == 0) = false := by rw [beq_eq_false_iff_ne]; exact hf
        have hff : (we == we) = true := by simp
        clear HF HN1 HS1 hf
        go_wp2_with fail
        refine (awake_any _).mono ?_
        rintro e w3 ⟨rfl, hb⟩
        have HB3 := Lib.hid (HB4.out.trans (hb.mono HB4.out.size))
        clear hb
        go_wp2
        go_ret
        exact ⟨rfl, HB3.out⟩
      · obtain ⟨b, hb1, hb2, hb3, hb4, ⟨hbl, hbm⟩, hb5⟩ := HS1.out hf
        obtain ⟨q, rfl⟩ : ∃ q, b = q + 1 := ⟨b - 1, by omega⟩
        obtain ⟨hnx, -⟩ := Prod.mk.inj hb1
        subst hf hnx
        simp only [Nat.add_sub_cancel] at hbl hbm
        have HN2 := Lib.hid (HE.out.trans hb5)
        have hqM : q < M := by rw [HM.out]; exact hbl
        have hMx : M ≤ 300 := HMS.out
        obtain ⟨bb, off, ad', cap', rfl, -, q0, -⟩ := HI4.out.ki.get hbl
        rw [hbm] at q0
        have hsub : IntKind.i64.wrap (((q + 1 : Nat) : Int) - 1) = (q : Int) := by rw [IntKind.wrap_i64]; omega
        have hnle : ¬ ((q + 1 : Nat) : Int) ≤ a := by omega
        have hnlt : a < ((q + 1 : Nat) : Int) := by omega
        clear hb1 hb5 HN1 HS1 hbm
        obtain ⟨_, k0, k1, k2, k3, k4, k5, k6, k7, k8, k9, k10, k11, k12⟩ := HC4.out
        go_wp2
        go_roundg gk
        case rel => exact ⟨((q + 1 : Nat) : Int), i + 1, by omega, by omega, by omega, by go_num, by go_num, HB4, HC4, HI4, HN2⟩
        case measure => omega
end Go.Proofs.Ytlbnjojafaieoaa
