/-
  MatrixSolves: the walk.
-/
import Derived.Test.YtbkjocmldeagdaaJGives
namespace Go.Proofs.Ytbkjocmldeagdaa
open Go.RowKit
set_option maxRecDepth 100000 in
set_option maxHeartbeats 1000000 in
theorem law_solves (ad : Option Addr) (n cap : Nat) (ls : List (List UInt8)) (w : World) (hl : Lr w ad ls) (hn : n = ls.length) (hm : n ≤ maxLen) :
    Calls Try.prog 4 #[.slice ad n cap] w fun e w' => e = .returned (.bool true) ∧ Below w.heap.size w w' := by
  have HL := Lib.hid hl
  have HN := Lib.hid hn
  have HM := Lib.hid hm
  clear hl hn hm
  go_enter Try.func4, Try.ntmps4
  go_wp2_with fail
  refine (lives_any _).mono ?_
  rintro e w1 ⟨rfl, hb1⟩
  have HB1 := Lib.hid hb1
  clear hb1
  go_wp2_with fail
  refine (few_any ad n cap ls w1 (HL.out.below HB1.out) HN.out HM.out).mono ?_
  rintro e w1' ⟨f, rfl, -, rfl⟩
  cases f
  · go_wp2
    go_ret
    exact ⟨rfl, HB1.out⟩
  go_wp2_with fail
  refine (invert_any ad n cap ls w1 (HL.out.below HB1.out) HN.out HM.out).mono ?_
  rintro e w2 h2
  obtain ⟨a2, c2, rfl, hl2, -, -, hb2⟩ := h2.gives
  have HB2 := Lib.hid (HB1.out.trans (hb2.mono HB1.out.size))
  have HL2 := Lib.hid hl2
  clear h2 hl2 hb2
  go_wp2_with fail
  refine (rinvert_any ad n cap ls w2 (HL.out.below HB2.out) HN.out HM.out).mono ?_
  rintro e w3 h3
  obtain ⟨a3, c3, rfl, hl3, -, -, hb3⟩ := h3.gives
  have HB3 := Lib.hid (HB2.out.trans (hb3.mono HB2.out.size))
  have HL3 := Lib.hid hl3
  have HL4 := Lib.hid (HL2.out.below hb3)
  clear h3 hl3 hb3
  have hs := invR_small ls
  generalize okI ls = ok
  go_wp2_with fail
  refine (same_b a2 a3 c2 c3 (invR ls) w3 HL4.out HL3.out (by omega)).mono ?_
  rintro e w4 ⟨rfl, hb4⟩
  have HB4 := Lib.hid (HB3.out.trans (hb4.mono HB3.out.size))
  clear hb4
  go_wp2_with fail
  refine (rank_any ad n cap ls w4 (HL.out.below HB4.out) HN.out HM.out).mono ?_
  rintro e w5 ⟨rfl, hb5⟩
  have HB5 := Lib.hid (HB4.out.trans (hb5.mono HB4.out.size))
  clear hb5
  go_wp2_with fail
  refine (rrank_any ad n cap ls w5 (HL.out.below HB5.out) HN.out HM.out).mono ?_
  rintro e w6 ⟨rfl, hb6⟩
  have HB6 := Lib.hid (HB5.out.trans (hb6.mono HB5.out.size))
  clear hb6
  go_wp2
  go_ret
  exact ⟨rfl, HB6.out⟩
end Go.Proofs.Ytbkjocmldeagdaa
