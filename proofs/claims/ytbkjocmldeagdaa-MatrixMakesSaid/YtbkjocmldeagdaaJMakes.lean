/-
  MatrixMakes: the walk.
-/
import Derived.Test.YtbkjocmldeagdaaJGives
namespace Go.Proofs.Ytbkjocmldeagdaa
open Go.RowKit
set_option maxRecDepth 100000 in
set_option maxHeartbeats 1000000 in
theorem law_makes (n r c : Int) (w : World) (hn : -9223372036854775808 ≤ n ∧ n ≤ 9223372036854775807) (hr : -9223372036854775808 ≤ r ∧ r ≤ 9223372036854775807) (hc : -9223372036854775808 ≤ c ∧ c ≤ 9223372036854775807) :
    Calls Try.prog 6 #[.int .i64 n, .int .i64 r, .int .i64 c] w fun e w' => e = .returned (.bool true) ∧ Below w.heap.size w w' := by
  go_enter Try.func6, Try.ntmps6
  go_wp2_with fail
  refine (lives_any _).mono ?_
  rintro e w1 ⟨rfl, hb1⟩
  have HB1 := Lib.hid hb1
  clear hb1
  go_wp2_with fail
  refine (ident_any n w1 hn.1 hn.2).mono ?_
  rintro e w2 h2
  obtain ⟨a2, c2, rfl, hl2, -, -, hb2⟩ := h2.gives
  have HB2 := Lib.hid (HB1.out.trans (hb2.mono HB1.out.size))
  have HL2 := Lib.hid hl2
  clear h2 hl2 hb2
  go_wp2_with fail
  refine (rident_any n w2 hn.1 hn.2).mono ?_
  rintro e w3 h3
  obtain ⟨a3, c3, rfl, hl3, -, -, hb3⟩ := h3.gives
  have HB3 := Lib.hid (HB2.out.trans (hb3.mono HB2.out.size))
  have HL3 := Lib.hid hl3
  have HL4 := Lib.hid (HL2.out.below hb3)
  clear h3 hl3 hb3
  have hs := ideR_small n
  go_wp2_with fail
  refine (same_b a2 a3 c2 c3 (ideR n) w3 HL4.out HL3.out (by omega)).mono ?_
  rintro e w4 ⟨rfl, hb4⟩
  have HB4 := Lib.hid (HB3.out.trans (hb4.mono HB3.out.size))
  clear hb4
  go_wp2_with fail
  refine (cauchy_any r c w4 hr.1 hr.2 hc.1 hc.2).mono ?_
  rintro e w5 h5
  obtain ⟨a5, c5, rfl, hl5, -, -, hb5⟩ := h5.gives
  have HB5 := Lib.hid (HB4.out.trans (hb5.mono HB4.out.size))
  have HL5 := Lib.hid hl5
  clear h5 hl5 hb5
  go_wp2_with fail
  refine (rcauchy_any r c w5 hr.1 hr.2 hc.1 hc.2).mono ?_
  rintro e w6 h6
  obtain ⟨a6, c6, rfl, hl6, -, -, hb6⟩ := h6.gives
  have HB6 := Lib.hid (HB5.out.trans (hb6.mono HB5.out.size))
  have HL6 := Lib.hid hl6
  have HL7 := Lib.hid (HL5.out.below hb6)
  clear h6 hl6 hb6
  have hs2 := cauR_small r c
  generalize okC r c = ok
  go_wp2_with fail
  refine (same_b a5 a6 c5 c6 (cauR r c) w6 HL7.out HL6.out (by omega)).mono ?_
  rintro e w7 ⟨rfl, hb7⟩
  have HB7 := Lib.hid (HB6.out.trans (hb7.mono HB6.out.size))
  clear hb7
  go_wp2
  go_ret
  exact ⟨rfl, HB7.out⟩
end Go.Proofs.Ytbkjocmldeagdaa
