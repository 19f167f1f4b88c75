/-
  The examples of the chapter.
-/
import Derived.Test.YtcoijhemnfnghaaSFar
import Derived.Test.YtcoijhemnfnghaaSLoc
import Derived.Test.YtcoijhemnfnghaaSRead
namespace Go.Proofs.Ytcoijhemnfnghaa
open Go.RowKit
set_option linter.unusedVariables false
theorem exV : Vld 2 10 1 5 3 2 := ⟨by decide, by decide, by decide, by decide, by decide, by decide, by decide, by decide, by decide, by decide, by decide, by decide, by decide⟩
theorem exH (b : Int) (h0 : 0 ≤ b) (h1 : b ≤ 20) : hav 2 10 1 5 3 2 b = true := hav_iff.2 ⟨exV, h0, h1⟩
theorem ex_loc (a b : Int) (h : 0 ≤ a ∧ a ≤ 20 ∧ 0 ≤ b ∧ b ≤ 20) : loc 2 10 1 5 3 2 a b = mo 2 10 1 5 3 a b := loc_yes (by rw [exH a h.1 h.2.1, exH b h.2.2.1 h.2.2.2]; rfl)
theorem ex1 : loc 2 10 1 5 3 2 0 9 = 9 := by rw [ex_loc _ _ (by decide)]; decide +kernel
theorem ex2 : loc 2 10 1 5 3 2 9 10 = 8 := by rw [ex_loc _ _ (by decide)]; decide +kernel
theorem ex3 : loc 2 10 1 5 3 2 5 2 = 8 := by rw [ex_loc _ _ (by decide)]; decide +kernel
theorem ex4 : rd 2 10 1 5 3 2 8 4 = 16 := by rw [rd_yes exV (by decide) (by decide) (by decide)]; decide +kernel
theorem ex5 : pas 2 10 1 5 3 2 0 9 = 900 := by rw [pas_yes (by rw [exH 0 (by decide) (by decide), exH 9 (by decide) (by decide)]; rfl)]; decide +kernel
theorem ex6 : farU 2 10 1 5 3 2 = 17 := by rw [farU_yes exV]; decide +kernel
theorem ex7 (X : World) : Calls Try.prog 9 #[geV 2 10 1 5 3 2, .int .i64 12] X fun e w' => e = .returned (.tuple #[plV 1 7 true, .bool true]) ∧ Below X.heap.size X w' := by
  have h := place_any 2 10 1 5 3 2 12 X
  have hh := exH 12 (by decide) (by decide)
  rw [show pw 2 10 1 5 3 2 12 = 1 by unfold pw; rw [hh]; decide +kernel, show pp 2 10 1 5 3 2 12 = 7 by unfold pp; rw [hh]; decide +kernel, show pk 2 10 1 5 3 2 12 = true by unfold pk; rw [hh]; decide +kernel, hh] at h
  exact h
set_option maxRecDepth 100000 in
set_option maxHeartbeats 4000000 in
theorem awake_any (w : World) : Calls Try.prog 16 #[] w fun e w' => e = .returned (.bool true) ∧ Below w.heap.size w w' := by
  have HB0 := Lib.hid (below_box1 w (boxG 2 10 1 5 3 2))
  have HG := Lib.hid (GeoAt.new w 2 10 1 5 3 2 23)
  have HV := Lib.hid (vld_iff.2 exV)
  go_enter Try.func16, Try.ntmps16
  go_wp2_with fail
  generalize World.alloc _ _ = X0 at HB0 HG ⊢
  refine (ex7 X0).mono ?_
  rintro e w1 ⟨rfl, hb⟩
  have HB1 := Lib.hid ((HB0.out.trans (hb.mono HB0.out.size)).alloc (Nat.le_trans HB0.out.size hb.size) (boxP 1 7 true))
  have HG1 := Lib.hid ((HG.out.below hb HG.out.lt).alloc (boxP 1 7 true))
  have HP1 := Lib.hid (PlAt.new w1 1 7 true 25)
  obtain ⟨glt, g0, g1, g2, g3, g4, g5⟩ := HG1.out
  clear hb
  go_wp2_with fail
  clear g0 g1 g2 g3 g4 g5 glt
  generalize w1.heap.size = gp at *
  generalize World.alloc w1 _ = X1 at *
  refine (valid_any 2 10 1 5 3 2 X1).mono ?_
  rw [HV.out]
  rintro e w2 ⟨rfl, hb⟩
  have HB2 := Lib.hid (HB1.out.trans (hb.mono HB1.out.size))
  have HG2 := Lib.hid (HG1.out.below hb HG1.out.lt)
  have HP2 := Lib.hid (HP1.out.below hb HP1.out.lt)
  obtain ⟨glt, g0, g1, g2, g3, g4, g5⟩ := HG2.out
  clear hb HB0 HG HB1 HG1 HP1
  go_wp2_with fail
  clear g0 g1 g2 g3 g4 g5 glt
  refine (locate_any 2 10 1 5 3 2 0 9 w2).mono ?_
  rw [ex1]
  rintro e w3 ⟨rfl, hb⟩
  have HB3 := Lib.hid (HB2.out.trans (hb.mono HB2.out.size))
  have HG3 := Lib.hid (HG2.out.below hb HG2.out.lt)
  have HP3 := Lib.hid (HP2.out.below hb HP2.out.lt)
  obtain ⟨glt, g0, g1, g2, g3, g4, g5⟩ := HG3.out
  clear hb HB2 HG2 HP2
  go_wp2_with fail
  clear g0 g1 g2 g3 g4 g5 glt
  refine (locate_any 2 10 1 5 3 2 9 10 w3).mono ?_
  rw [ex2]
  rintro e w4 ⟨rfl, hb⟩
  have HB4 := Lib.hid (HB3.out.trans (hb.mono HB3.out.size))
  have HG4 := Lib.hid (HG3.out.below hb HG3.out.lt)
  have HP4 := Lib.hid (HP3.out.below hb HP3.out.lt)
  obtain ⟨glt, g0, g1, g2, g3, g4, g5⟩ := HG4.out
  clear hb HB3 HG3 HP3
  go_wp2_with fail
  clear g0 g1 g2 g3 g4 g5 glt
  refine (locate_any 2 10 1 5 3 2 5 2 w4).mono ?_
  rw [ex3]
  rintro e w5 ⟨rfl, hb⟩
  have HB5 := Lib.hid (HB4.out.trans (hb.mono HB4.out.size))
  have HG5 := Lib.hid (HG4.out.below hb HG4.out.lt)
  have HP5 := Lib.hid (HP4.out.below hb HP4.out.lt)
  obtain ⟨glt, g0, g1, g2, g3, g4, g5⟩ := HG5.out
  clear hb HB4 HG4 HP4
  go_wp2_with fail
  clear g0 g1 g2 g3 g4 g5 glt
  refine (read_any 2 10 1 5 3 2 8 4 w5).mono ?_
  rw [ex4]
  rintro e w6 ⟨rfl, hb⟩
  have HB6 := Lib.hid (HB5.out.trans (hb.mono HB5.out.size))
  have HG6 := Lib.hid (HG5.out.below hb HG5.out.lt)
  have HP6 := Lib.hid (HP5.out.below hb HP5.out.lt)
  obtain ⟨glt, g0, g1, g2, g3, g4, g5⟩ := HG6.out
  obtain ⟨plt, p0, p1, p2⟩ := HP6.out
  clear hb HB5 HG5 HP5
  go_wp2_with fail
  clear g0 g1 g2 g3 g4 g5 glt p0 p1 p2 plt
  refine (passes_any 2 10 1 5 3 2 0 9 w6).mono ?_
  rw [ex5]
  rintro e w7 ⟨rfl, hb⟩
  have HB7 := Lib.hid (HB6.out.trans (hb.mono HB6.out.size))
  have HG7 := Lib.hid (HG6.out.below hb HG6.out.lt)
  obtain ⟨glt, g0, g1, g2, g3, g4, g5⟩ := HG7.out
  clear hb HB6 HG6 HP6
  go_wp2_with fail
  clear g0 g1 g2 g3 g4 g5 glt
  refine (farthest_any 2 10 1 5 3 2 w7).mono ?_
  rw [ex6]
  rintro e w8 ⟨rfl, hb⟩
  have HB8 := Lib.hid (HB7.out.trans (hb.mono HB7.out.size))
  clear hb
  go_wp2
  go_ret
  exact ⟨rfl, HB8.out⟩
end Go.Proofs.Ytcoijhemnfnghaa
