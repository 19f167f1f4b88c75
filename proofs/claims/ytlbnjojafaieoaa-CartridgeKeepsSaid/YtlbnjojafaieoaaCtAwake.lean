/-
  The law package's awake: the chapter's examples.
-/
import Derived.Test.YtlbnjojafaieoaaCtEx
import Derived.Lib.SmallJoins
namespace Go.Proofs.Ytlbnjojafaieoaa
open Go.RowKit
set_option linter.unusedVariables false
attribute [local irreducible] crA crD crE zA
set_option maxRecDepth 100000 in
set_option maxHeartbeats 8000000 in
theorem awake_any (w : World) : Calls Try.prog 11 #[] w fun e w' => e = .returned (.bool true) ∧ Below w.heap.size w w' := by
  have HB0 := Lib.hid (below_box1 w (.cells #[.int .i64 1, .int .i64 3, .int .i64 0, .int .i64 0, .int .i64 0, .int .i64 0] 23))
  have HG := Lib.hid (GeoAt.new w 1 3 0 0 0 0 23)
  go_enter Try.func11, Try.ntmps11
  go_wp2_with fail
  generalize World.alloc _ _ = X0 at HB0 HG ⊢
  refine (exNew X0).mono ?_
  rintro e w1 ⟨ad1, cap1, rfl, hin1, hb⟩
  have HB1 := Lib.hid (HB0.out.trans (hb.mono HB0.out.size))
  have HI1 := Lib.hid hin1
  clear hb hin1 HB0 HG
  have kc := Go.Joins.run_convert_bytes_const_at (P := Try.prog) (w1.alloc (boxK bcA 1 3 0 0 0 0 false false ad1 0 cap1 0 0 0)) 54 5 #[.int .u8 120] 1 1 (w1.heap.size + 1) (by simp) Try.underlying54 Try.underlying5
  have HZ := Lib.hid (ex_blocks (w1.alloc (boxK bcA 1 3 0 0 0 0 false false ad1 0 cap1 0 0 0)) (1, 2))
  rw [World.size_alloc] at HZ
  have HBX := Lib.hid (below_box3 w1 (boxK bcA 1 3 0 0 0 0 false false ad1 0 cap1 0 0 0) (.cells #[.int .u8 120] 5 (1, 2)) (.cells #[.bool false, .bool false, .slice (some ⟨w1.heap.size + 1, 0, none⟩) 1 1, .bool true, .bool false, .slice none 0 0] 56))
  go_wp2_with fail
  generalize World.alloc (World.alloc (World.alloc w1 _) _) _ = X2 at HZ HBX ⊢
  refine (exWrite ad1 cap1 _ X2 (HI1.out.below HBX.out) HZ.out (fun h => by cases h)).mono ?_
  rintro e w2 ⟨ad2, cap2, rfl, hin2, hb⟩
  have HB2 := Lib.hid (HB1.out.trans ((HBX.out.trans (hb.mono HBX.out.size)).mono HB1.out.size))
  have HI2 := Lib.hid (hin2.below (below_boxC w2 (boxK bcA 1 3 0 0 0 0 false false ad2 2 cap2 0 0 0)))
  have HB3 := Lib.hid (HB2.out.alloc HB2.out.size (boxK bcA 1 3 0 0 0 0 false false ad2 2 cap2 0 0 0))
  have HC3 := Lib.hid (CrAt.new w2 bcA 1 3 0 0 0 0 false false ad2 2 cap2 0 0 0 26)
  clear hb hin2 HZ HBX HI1 HB1 HB2 kc
  go_wp2_with fail
  generalize World.alloc w2 _ = X3 at HI2 HB3 HC3 ⊢
  refine (exMarks ad2 cap2 X3 HI2.out).mono ?_
  rintro e w3 ⟨rfl, hb⟩
  have HI3 := Lib.hid (HI2.out.below hb)
  have HB4 := Lib.hid (HB3.out.trans (hb.mono HB3.out.size))
  have HC4 := Lib.hid (HC3.out.below hb HC3.out.lt)
  clear hb HI2 HB3 HC3
  obtain ⟨_, k0, k1, k2, k3, k4, k5, k6, k7, k8, k9, k10, k11, k12⟩ := HC4.out
  go_wp2_with fail
  clear k0 k1 k2 k3 k4 k5 k6 k7 k8 k9 k10 k11 k12
  refine (exRead ad2 cap2 w3 HI3.out).mono ?_
  rintro e w4 ⟨ad4, cap4, rfl, hb⟩
  have HI5 := Lib.hid (HI3.out.below hb)
  have HB5 := Lib.hid (HB4.out.trans (hb.mono HB4.out.size))
  have HC5 := Lib.hid (HC4.out.below hb HC4.out.lt)
  clear hb HI3 HB4 HC4
  obtain ⟨_, k0, k1, k2, k3, k4, k5, k6, k7, k8, k9, k10, k11, k12⟩ := HC5.out
  go_wp2_with fail
  clear k0 k1 k2 k3 k4 k5 k6 k7 k8 k9 k10 k11 k12
  refine (exErase ad2 cap2 w4 HI5.out).mono ?_
  rintro e w5 ⟨ad6, cap6, rfl, hb⟩
  have hb2 := hb.alloc hb.size (boxK bcA 1 3 0 0 0 0 false false ad6 0 cap6 1 0 0)
  have HI6 := Lib.hid (HI5.out.below hb2)
  have HB6 := Lib.hid (HB5.out.trans (hb2.mono HB5.out.size))
  have HC6 := Lib.hid (HC5.out.below hb2 HC5.out.lt)
  have HE6 := Lib.hid (CrAt.new w5 bcA 1 3 0 0 0 0 false false ad6 0 cap6 1 0 0 26)
  clear hb hb2 HI5 HB5 HC5
  obtain ⟨_, k0, k1, k2, k3, k4, k5, k6, k7, k8, k9, k10, k11, k12⟩ := HC6.out
  go_wp2_with fail
  clear k0 k1 k2 k3 k4 k5 k6 k7 k8 k9 k10 k11 k12
  generalize World.alloc w5 _ = X6 at HI6 HB6 HC6 HE6 ⊢
  refine (exValid ad2 cap2 X6 HI6.out).mono ?_
  rintro e w6 ⟨rfl, hb⟩
  have HI7 := Lib.hid (HI6.out.below hb)
  have HB7 := Lib.hid (HB6.out.trans (hb.mono HB6.out.size))
  have HC7 := Lib.hid (HC6.out.below hb HC6.out.lt)
  have HE7 := Lib.hid (HE6.out.below hb HE6.out.lt)
  clear hb HI6 HB6 HC6 HE6
  obtain ⟨_, k0, k1, k2, k3, k4, k5, k6, k7, k8, k9, k10, k11, k12⟩ := HC7.out
  go_wp2_with fail
  clear k0 k1 k2 k3 k4 k5 k6 k7 k8 k9 k10 k11 k12
  refine (exFree ad2 cap2 w6 HI7.out).mono ?_
  rintro e w7 ⟨rfl, hb⟩
  have HB8 := Lib.hid (HB7.out.trans (hb.mono HB7.out.size))
  obtain ⟨_, k0, k1, k2, k3, k4, k5, k6, k7, k8, k9, k10, k11, k12⟩ := HE7.out.below hb HE7.out.lt
  clear hb
  go_wp2
  go_ret
  exact ⟨rfl, HB8.out⟩
end Go.Proofs.Ytlbnjojafaieoaa
