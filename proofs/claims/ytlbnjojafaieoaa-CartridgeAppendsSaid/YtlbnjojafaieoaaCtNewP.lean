/-
  The program's New.
-/
import Derived.Test.YtlbnjojafaieoaaCtNew
import Derived.Test.YtlbnjojafaieoaaCtValP
namespace Go.Proofs.Ytlbnjojafaieoaa
open Go.RowKit
set_option linter.unusedVariables false
attribute [local irreducible] tim vld bar cnt okB capU allB vldC eqK
set_option maxRecDepth 100000 in
set_option maxHeartbeats 4000000 in
theorem new_any (bc : ByteArray) (W L S T J R : Int) (wo : Bool) (w : World) (hs : bc.size ≤ maxLen) :
    Calls Try.prog 12 #[.string bc, geV W L S T J R, .bool wo] w fun e w' => RetC w (newC bc W L S T J R wo) e w' := by
  have HB0 := Lib.hid (below_box2 w (.cells #[.int .i64 W, .int .i64 L, .int .i64 S, .int .i64 T, .int .i64 J, .int .i64 R] 23) (boxK ⟨#[]⟩ 0 0 0 0 0 0 false false none 0 0 0 0 0))
  have HG := Lib.hid ((GeoAt.new w W L S T J R 23).alloc (boxK ⟨#[]⟩ 0 0 0 0 0 0 false false none 0 0 0 0 0))
  have HN := Lib.hid (zero_row w (.cells #[.int .i64 W, .int .i64 L, .int .i64 S, .int .i64 T, .int .i64 J, .int .i64 R] 23))
  have HS0 : Hid (((w.alloc (.cells #[.int .i64 W, .int .i64 L, .int .i64 S, .int .i64 T, .int .i64 J, .int .i64 R] 23)).alloc (boxK ⟨#[]⟩ 0 0 0 0 0 0 false false none 0 0 0 0 0)).heap.size = w.heap.size + 2) := Lib.hid (by simp)
  cases hb : bar bc
  · have HR := Lib.hid (show newC bc W L S T J R wo = (crZ, 8) by unfold newC; rw [if_neg (by rw [hb]; simp)])
    have HBR := Lib.hid hb
    clear hb
    go_enter Try.func12, Try.ntmps12
    go_wp2_with fail
    generalize World.alloc _ _ = X0 at *
    refine (bar_any bc X0).mono ?_
    rw [HBR.out]
    rintro e w1 ⟨rfl, hb⟩
    replace HG := Lib.hid (HG.out.below hb HG.out.lt)
    replace HN := Lib.hid ((hb.block (w.heap.size + 1) (by rw [HS0.out]; omega)).trans HN.out)
    replace HS0 := Lib.hid (show w.heap.size + 2 ≤ w1.heap.size by have := hb.size; have := HS0.out; omega)
    replace HB0 := Lib.hid (HB0.out.trans (hb.mono HB0.out.size))
    clear hb
    go_wp2_with (with_reducible refine wpList_store_cr rfl (.tmp 6) (.tmp 11) rfl (w.heap.size + 1) rfl _ _ _ _ _ _ _ _ _ _ _ _ _ _ _ rfl _ _ _ _ _ _ _ _ _ _ _ _ _ _ _ HN.out ?_)
    refine post_cellC rfl rfl (setRow_heap _ _ _ _ _ _ HN.out) Try.underlying26 rfl infoC rfl rfl ?_
    rw [HR.out]
    exact retZ (below_set HB0.out (by omega) _)
  have HBR := Lib.hid hb
  cases hv : vld W L S T J R
  · have HR := Lib.hid (show newC bc W L S T J R wo = (crZ, 7) by unfold newC; rw [if_pos hb, if_neg (by rw [hv]; simp)])
    have HV := Lib.hid hv
    clear hb hv
    go_enter Try.func12, Try.ntmps12
    go_wp2_with fail
    generalize World.alloc _ _ = X0 at *
    refine (bar_any bc X0).mono ?_
    rw [HBR.out]
    rintro e w1 ⟨rfl, hb⟩
    replace HG := Lib.hid (HG.out.below hb HG.out.lt)
    replace HN := Lib.hid ((hb.block (w.heap.size + 1) (by rw [HS0.out]; omega)).trans HN.out)
    replace HS0 := Lib.hid (show w.heap.size + 2 ≤ w1.heap.size by have := hb.size; have := HS0.out; omega)
    replace HB0 := Lib.hid (HB0.out.trans (hb.mono HB0.out.size))
    clear hb
    obtain ⟨_, g0, g1, g2, g3, g4, g5⟩ := HG.out
    go_wp2_with fail
    refine (valid_any W L S T J R _).mono ?_
    rw [HV.out]
    rintro e w2 ⟨rfl, hb⟩
    have HB2 := Lib.hid (HB0.out.trans (hb.mono HB0.out.size))
    have HN2 := Lib.hid ((hb.block (w.heap.size + 1) (by have := HS0.out; omega)).trans HN.out)
    clear hb g0 g1 g2 g3 g4 g5
    go_wp2_with (with_reducible refine wpList_store_cr rfl (.tmp 6) (.tmp 15) rfl (w.heap.size + 1) rfl _ _ _ _ _ _ _ _ _ _ _ _ _ _ _ rfl _ _ _ _ _ _ _ _ _ _ _ _ _ _ _ HN2.out ?_)
    refine post_cellC rfl rfl (setRow_heap _ _ _ _ _ _ HN2.out) Try.underlying26 rfl infoC rfl rfl ?_
    rw [HR.out]
    exact retZ (below_set HB2.out (by omega) _)
  have HR := Lib.hid (show newC bc W L S T J R wo = (⟨bc, W, L, S, T, J, R, wo, false, [], 0, 0, 0⟩, 0) by unfold newC; rw [if_pos hb, if_pos hv])
  have HV := Lib.hid hv
  clear hb hv
  go_enter Try.func12, Try.ntmps12
  go_wp2_with fail
  generalize World.alloc _ _ = X0 at *
  refine (bar_any bc X0).mono ?_
  rw [HBR.out]
  rintro e w1 ⟨rfl, hb⟩
  replace HG := Lib.hid (HG.out.below hb HG.out.lt)
  replace HN := Lib.hid ((hb.block (w.heap.size + 1) (by rw [HS0.out]; omega)).trans HN.out)
  replace HS0 := Lib.hid (show w.heap.size + 2 ≤ w1.heap.size by have := hb.size; have := HS0.out; omega)
  replace HB0 := Lib.hid (HB0.out.trans (hb.mono HB0.out.size))
  clear hb
  obtain ⟨_, g0, g1, g2, g3, g4, g5⟩ := HG.out
  go_wp2_with fail
  refine (valid_any W L S T J R _).mono ?_
  rw [HV.out]
  rintro e w2 ⟨rfl, hb⟩
  have HB2 := Lib.hid (HB0.out.trans (hb.mono HB0.out.size))
  have HN2 := Lib.hid ((hb.block (w.heap.size + 1) (by have := HS0.out; omega)).trans HN.out)
  clear g0 g1 g2 g3 g4 g5
  obtain ⟨_, g0, g1, g2, g3, g4, g5⟩ := HG.out.below hb HG.out.lt
  clear hb
  go_wp2_with (with_reducible refine wpList_store_cr rfl (.tmp 6) (.tmp 19) rfl (w.heap.size + 1) rfl _ _ _ _ _ _ _ _ _ _ _ _ _ _ _ rfl _ _ _ _ _ _ _ _ _ _ _ _ _ _ _ HN2.out ?_)
  refine post_cellC rfl rfl (setRow_heap _ _ _ _ _ _ HN2.out) Try.underlying26 rfl infoC rfl rfl ?_
  rw [HR.out]
  exact ⟨none, 0, rfl, ⟨Ki.nil _ _, Nat.le_refl _, Nat.zero_le _, fun _ => rfl, hs⟩, below_set HB2.out (by omega) _⟩
end Go.Proofs.Ytlbnjojafaieoaa
