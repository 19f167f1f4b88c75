/-
  The walks of the statements ChecksumWeak and ChecksumSums: true for every slice of bytes (and number), and nothing that was there is written.
-/
import Derived.Test.YtheoklpgnchmcaaOpen
namespace Go.Proofs.Ytheoklpgnchmcaa
open Go.RowKit
attribute [local irreducible] stepB stepsB updB regB afterB weakI wk

theorem lies_below {W w : World} {ad : Option Addr} {xs : List (BitVec 32)} (h : Lies W ad xs) (hb : Below W.heap.size W w) : Lies w ad xs := by
  refine ⟨h.byte, ?_⟩
  rcases h.at_ with h0 | ⟨b, off, rfl, hlt, hc⟩
  · exact .inl h0
  · exact .inr ⟨b, off, rfl, Nat.lt_of_lt_of_le hlt hb.size, fun j hj => by rw [hb.cell (by exact hlt)]; exact hc j hj⟩
theorem sum_below (ad : Option Addr) (cap : Nat) (xs : List (BitVec 32)) (w : World) (hl : Lies w ad xs) (hm : xs.length ≤ 1152921504606846976) :
    Calls Try.prog 12 #[.slice ad xs.length cap] w fun e w' => e = .returned (.int .u32 (iv (updB 0#32 xs))) ∧ Below w.heap.size w w' := by
  refine (sum_any ad cap xs w hl hm).mono ?_
  rintro e w' ⟨rfl, rfl⟩
  exact ⟨rfl, below_three _ _ _ _⟩
theorem upd_below (s : BitVec 32) (ad : Option Addr) (cap : Nat) (xs : List (BitVec 32)) (w : World) (hl : Lies w ad xs) (hm : xs.length ≤ 1152921504606846976) :
    Calls Try.prog 14 #[.int .u32 (iv s), .slice ad xs.length cap] w fun e w' => e = .returned (.int .u32 (iv (updB s xs))) ∧ Below w.heap.size w w' := by
  refine (upd_any s ad cap xs w hl hm).mono ?_
  rintro e w' ⟨rfl, rfl⟩
  exact ⟨rfl, below_three _ _ _ _⟩

set_option maxRecDepth 100000 in
set_option maxHeartbeats 1000000 in
theorem law_weak (ad : Option Addr) (cap : Nat) (xs : List (BitVec 32)) (w : World) (hl : Lies w ad xs) :
    Calls Try.prog 8 #[.slice ad xs.length cap] w fun e w' => e = .returned (.bool true) ∧ Below w.heap.size w w' := by
  by_cases hs : 4096 < xs.length
  · go_enter Try.func8, Try.ntmps8
    go_wp2_with fail
    refine (awake_any _).mono ?_
    rintro e w1 ⟨rfl, hb⟩
    have HB := Lib.hid hb
    clear hb
    go_wp2
    go_ret
    exact ⟨rfl, HB.out⟩
  · go_enter Try.func8, Try.ntmps8
    go_wp2_with fail
    refine (weak_any ad cap xs _ hl (by omega)).mono ?_
    rintro e w' ⟨rfl, rfl⟩
    go_wp2_with fail
    refine (rweak_any ad cap xs _ hl (by omega)).mono ?_
    rintro e w' ⟨rfl, rfl⟩
    go_wp2_with fail
    refine (awake_any _).mono ?_
    rintro e w1 ⟨rfl, hb⟩
    have HB := Lib.hid hb
    clear hb
    go_wp2
    go_ret
    exact ⟨rfl, HB.out⟩

set_option maxRecDepth 100000 in
set_option maxHeartbeats 1000000 in
theorem law_sums (s : BitVec 32) (ad : Option Addr) (cap : Nat) (xs : List (BitVec 32)) (w : World) (hl : Lies w ad xs) :
    Calls Try.prog 3 #[.int .u32 (iv s), .slice ad xs.length cap] w fun e w' => e = .returned (.bool true) ∧ Below w.heap.size w w' := by
  by_cases hs : 4096 < xs.length
  · go_enter Try.func3, Try.ntmps3
    go_wp2_with fail
    refine (awake_any _).mono ?_
    rintro e w1 ⟨rfl, hb⟩
    have HB := Lib.hid hb
    clear hb
    go_wp2
    go_ret
    exact ⟨rfl, HB.out⟩
  · go_enter Try.func3, Try.ntmps3
    go_wp2_with fail
    refine (sum_below ad cap xs _ hl (by omega)).mono ?_
    rintro e w1 ⟨rfl, hb1⟩
    have hl1 := Lib.hid (lies_below hl hb1)
    have HB1 := Lib.hid hb1
    clear hb1
    go_wp2_with fail
    refine (rsum_any ad cap xs _ hl1.out (by omega)).mono ?_
    rintro e w' ⟨rfl, rfl⟩
    go_wp2_with fail
    refine (upd_below s ad cap xs _ hl1.out (by omega)).mono ?_
    rintro e w2 ⟨rfl, hb2⟩
    have hl2 := Lib.hid (lies_below hl1.out hb2)
    have HB2 := Lib.hid hb2
    clear hb2
    go_wp2_with fail
    refine (rupd_any s ad cap xs _ hl2.out (by omega)).mono ?_
    rintro e w' ⟨rfl, rfl⟩
    go_wp2_with fail
    refine (awake_any _).mono ?_
    rintro e w3 ⟨rfl, hb3⟩
    have HB3 := Lib.hid hb3
    clear hb3
    go_wp2
    go_ret
    have h2 : Below w.heap.size w w2 := HB1.out.trans (HB2.out.mono HB1.out.size)
    exact ⟨rfl, h2.trans (HB3.out.mono h2.size)⟩
end Go.Proofs.Ytheoklpgnchmcaa
