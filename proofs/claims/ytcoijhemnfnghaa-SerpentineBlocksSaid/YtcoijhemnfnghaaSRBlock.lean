/-
  Block of the specification: all blocks one after another.
-/
import Derived.Test.YtcoijhemnfnghaaSBlock
import Derived.Test.YtcoijhemnfnghaaSRLoc
import Derived.Deep.LoopGhost
namespace Go.Proofs.Ytcoijhemnfnghaa
open Go.RowKit
set_option linter.unusedVariables false
attribute [local irreducible] tim vld hav wr po bk blk
set_option maxRecDepth 100000 in
set_option maxHeartbeats 2000000 in
theorem rblock_any (W L S T J R a b : Int) (k : Bool) (w : World) :
    Calls Try.prog 17 #[geV W L S T J R, plV a b k] w fun e w' => e = .returned (.tuple #[.int .i64 (blk W L S T J R a b k).1, .bool (blk W L S T J R a b k).2]) ∧ Below w.heap.size w w' := by
  obtain ⟨hb0, hg0, hp0⟩ := block_start W L S T J R a b k w
  have HB0 := Lib.hid hb0
  have HG := Lib.hid hg0
  have HP := Lib.hid hp0
  clear hb0 hg0 hp0
  by_cases hv : Vld W L S T J R
  rotate_left
  · have HR := Lib.hid (show blk W L S T J R a b k = (0, false) from blk_no fun n hn => hv (hav_iff.1 hn.1).1)
    have HV := Lib.hid (vld_not.2 hv)
    clear hv
    go_enter Try.func17, Try.ntmps17
    go_wp2_with fail
    generalize World.alloc _ _ = X0 at HB0 HG HP ⊢
    refine (rvalid_any W L S T J R X0).mono ?_
    rw [HV.out]
    rintro e w1 ⟨rfl, hb⟩
    have HB := Lib.hid (HB0.out.trans (hb.mono HB0.out.size))
    clear hb
    go_wp2
    go_ret2
    exact ⟨by rw [HR.out]; rfl, HB.out⟩
  have HV := Lib.hid (vld_iff.2 hv)
  have HC := Lib.hid (capU_yes hv)
  have c1 := hv.c1
  have c0 : 0 ≤ W * L := by have := cap_pos hv.w0 hv.l0; have := hv.l0; omega
  have HI : Hid (∀ n, hav W L S T J R n = true → 0 ≤ n ∧ n ≤ W * L) := Lib.hid fun n h => (hav_iff.1 h).2
  have HQ : Hid (∀ j : Int, 0 ≤ j → j ≤ W * L → ∃ wa pa ka, (∀ X, Calls Try.prog 10 #[geV W L S T J R, .int .i64 j] X fun e w' => e = .returned (.tuple #[plV wa pa ka, .bool true]) ∧ Below X.heap.size X w') ∧
      (wa = a ∧ pa = b ∧ ka = k → blk W L S T J R a b k = (j, true)) ∧ (¬ (wa = a ∧ pa = b ∧ ka = k) → ¬ IsAt W L S T J R a b k j)) := Lib.hid fun j h0 h1 =>
    ⟨wr W L j, po W L j, bk W L j, fun X => rplace_yes W L S T J R j X (hav_iff.2 ⟨hv, h0, h1⟩), fun h => blk_yes ⟨hav_iff.2 ⟨hv, h0, h1⟩, h⟩, fun h h2 => h h2.2⟩
  clear hv
  obtain ⟨C, hC⟩ : ∃ C : Nat, W * L = C := ⟨(W * L).toNat, by omega⟩
  rw [hC] at c1 c0 HI HC HQ
  clear hC
  go_enter Try.func17, Try.ntmps17
  go_wp2_with fail
  generalize World.alloc _ _ = X0 at HB0 HG HP ⊢
  refine (rvalid_any W L S T J R X0).mono ?_
  rw [HV.out]
  rintro e w1 ⟨rfl, hb⟩
  have HB := Lib.hid (HB0.out.trans (hb.mono HB0.out.size))
  have HG1 := Lib.hid (HG.out.below hb HG.out.lt)
  have HP1 := Lib.hid (HP.out.below hb HP.out.lt)
  clear hb HB0 HG HP
  go_wp2
  go_loopg [6] (C + 1) (fun gk vb wx => ∃ j : Nat, j + gk = C + 1 ∧ vb = .int .i64 j ∧ Hid (∀ i : Nat, i < j → ¬ IsAt W L S T J R a b k i) ∧ Hid (Below w.heap.size w wx) ∧ Hid (GeoAt wx w.heap.size W L S T J R) ∧ Hid (PlAt wx (w.heap.size + 1) a b k))
  case atStart => exact ⟨0, by omega, rfl, Lib.hid (fun i hi => by omega), HB, HG1, HP1⟩
  case round =>
    obtain ⟨j, hj, rfl, hno, hB, hG, hP⟩ := hrel
    obtain ⟨glt, g0, g1, g2, g3, g4, g5⟩ := hG.out
    cases gk with
    | zero =>
      obtain rfl : j = C + 1 := by omega
      have HR := Lib.hid (show blk W L S T J R a b k = (0, false) from blk_no fun n hn => by
        have h := HI.out n hn.1
        have := hno.out n.toNat (by omega)
        rw [Int.toNat_of_nonneg h.1] at this
        exact this hn)
      go_wp2_with fail
      refine (rcapacity_any W L S T J R _).mono ?_
      rw [HC.out]
      rintro e w2 ⟨rfl, hb⟩
      have HB2 := Lib.hid (hB.out.trans (hb.mono hB.out.size))
      clear hb
      go_wp2
      go_ret2
      exact ⟨by rw [HR.out]; rfl, HB2.out⟩
    | succ gk0 =>
      have hjc : j ≤ C := by omega
      obtain ⟨wa, pa, ka, hcall, hA, hN⟩ := HQ.out j (by omega) (by omega)
      have HP0 := Lib.hid hcall
      have HA := Lib.hid hA
      have HN0 := Lib.hid hN
      clear hcall hA hN
      go_wp2_with fail
      refine (rcapacity_any W L S T J R _).mono ?_
      rw [HC.out]
      rintro e w2 ⟨rfl, hb⟩
      have HB2 := Lib.hid (hB.out.trans (hb.mono hB.out.size))
      have HG2 := Lib.hid (hG.out.below hb hG.out.lt)
      have HP2 := Lib.hid (hP.out.below hb hP.out.lt)
      clear hb g0 g1 g2 g3 g4 g5 glt
      obtain ⟨glt, g0, g1, g2, g3, g4, g5⟩ := HG2.out
      go_wp2_with fail
      refine (HP0.out _).mono ?_
      rintro e w3 ⟨rfl, hb⟩
      have HB3 := Lib.hid (HB2.out.trans (hb.mono HB2.out.size))
      have HG3 := Lib.hid (HG2.out.below hb HG2.out.lt)
      have HP3 := Lib.hid (HP2.out.below hb HP2.out.lt)
      clear hb g0 g1 g2 g3 g4 g5 glt
      obtain ⟨plt, p0, p1, p2⟩ := HP3.out
      have HN : Hid (¬ (wa = a ∧ pa = b ∧ ka = k) → ∀ i : Nat, i < j + 1 → ¬ IsAt W L S T J R a b k i) := Lib.hid fun h i hi h2 => by
        rcases Nat.lt_or_ge i j with h3 | h3
        · exact hno.out i h3 h2
        · obtain rfl : i = j := by omega
          exact HN0.out h h2
      go_wp2
      all_goals first
        | (go_ret2; exact ⟨by rw [HA.out ⟨by assumption, by assumption, by assumption⟩]; rfl, HB3.out.alloc HB3.out.size _⟩)
        | (go_roundg gk0
           case rel => exact ⟨j + 1, by omega, by go_num, Lib.hid (HN.out (fun h => by first | exact absurd h.1 (by assumption) | exact absurd h.2.1 (by assumption) | exact absurd h.2.2 (by assumption))), Lib.hid (HB3.out.alloc HB3.out.size _), Lib.hid (HG3.out.alloc _), Lib.hid (HP3.out.alloc _)⟩
           case measure => omega)
end Go.Proofs.Ytcoijhemnfnghaa
