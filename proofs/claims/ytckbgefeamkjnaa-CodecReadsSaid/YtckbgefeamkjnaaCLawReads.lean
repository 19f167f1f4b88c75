/-
  The walk of the statement CodecReads: the program reads what the document reads.
-/
import Derived.Test.YtckbgefeamkjnaaCLives
namespace Go.Proofs.Ytckbgefeamkjnaa
open Go.RowKit

set_option maxRecDepth 100000 in
set_option maxHeartbeats 1000000 in
theorem law_reads (ad : Option Addr) (cap : Nat) (xs : List UInt8) (at_ most : Int) (w : World) (hl : Lie w ad xs) (hn : xs.length ≤ cap) (ha : ad = none → cap = 0) (hm : most ≤ 9223372036854775807) :
    Calls Try.prog 4 #[.slice ad xs.length cap, .int .i64 at_, .int .i64 most] w fun e w' => e = .returned (.bool true) ∧ Below w.heap.size w w' := by
  by_cases hs : 4096 < xs.length
  · go_enter Try.func4, Try.ntmps4
    go_wp2_with fail
    refine (lives_any _).mono ?_
    rintro e w1 ⟨rfl, hb⟩
    have HB := Lib.hid hb
    clear hb
    go_wp2
    go_ret
    exact ⟨rfl, HB.out⟩
  · have hs6 : xs.length ≤ 1000000 := by omega
    have c1 := fun W hl => uint_any ad cap xs at_ W hl hn hs6 ha
    have c2 := fun W hl => ruint_any ad cap xs at_ W hl hs6
    have c3 := fun W hl => int_any ad cap xs at_ W hl hn hs6 ha
    have c4 := fun W hl => rint_any ad cap xs at_ W hl hs6
    have c5 := fun W hl => text_any ad cap xs at_ most W hl hn hs6 ha hm
    have c6 := fun W hl => rtext_any ad cap xs at_ most W hl hn hs6 ha hm
    have c7 := fun W hl => bool_any ad cap xs at_ W hl hs6
    have c8 := fun W hl => rbool_any ad cap xs at_ W hl hs6
    generalize uR xs at_ = r1 at c1 c2
    generalize iR xs at_ = r2 at c3 c4
    generalize tR xs at_ most = r3 at c5 c6
    generalize bR xs at_ = r4 at c7 c8
    obtain ⟨a1, b1, e1⟩ := r1
    obtain ⟨a2, b2, e2⟩ := r2
    obtain ⟨a3, b3, e3⟩ := r3
    obtain ⟨a4, b4, e4⟩ := r4
    dsimp only at c1 c2 c3 c4 c5 c6 c7 c8
    have C1 := Lib.hid c1
    have C2 := Lib.hid c2
    have C3 := Lib.hid c3
    have C4 := Lib.hid c4
    have C5 := Lib.hid c5
    have C6 := Lib.hid c6
    have C7 := Lib.hid c7
    have C8 := Lib.hid c8
    clear c1 c2 c3 c4 c5 c6 c7 c8 ha
    go_enter Try.func4, Try.ntmps4
    go_wp2_with fail
    refine (lives_any _).mono ?_
    rintro e w1 ⟨rfl, hb⟩
    have HB := Lib.hid hb
    have HL := Lib.hid (hl.below hb rfl)
    clear hb hl
    go_wp2_with fail
    refine (C1.out _ HL.out).mono ?_
    rintro e w' ⟨rfl, rfl⟩
    go_wp2_with fail
    refine (C2.out _ HL.out).mono ?_
    rintro e w' ⟨rfl, rfl⟩
    go_wp2_with fail
    refine (C3.out _ HL.out).mono ?_
    rintro e w' ⟨rfl, rfl⟩
    go_wp2_with fail
    refine (C4.out _ HL.out).mono ?_
    rintro e w' ⟨rfl, rfl⟩
    go_wp2_with fail
    refine (C5.out _ HL.out).mono ?_
    rintro e w' ⟨rfl, rfl⟩
    go_wp2_with fail
    refine (C6.out _ HL.out).mono ?_
    rintro e w' ⟨rfl, rfl⟩
    go_wp2_with fail
    refine (C7.out _ HL.out).mono ?_
    rintro e w' ⟨rfl, rfl⟩
    go_wp2_with fail
    refine (C8.out _ HL.out).mono ?_
    rintro e w' ⟨rfl, rfl⟩
    go_wp2
    go_ret
    exact ⟨rfl, HB.out⟩
end Go.Proofs.Ytckbgefeamkjnaa
