/-
  The statements' comparison of two lists, where they are equal.
-/
import Derived.Test.YtgnidlhijmageaaNLin
namespace Go.Proofs.Ytgnidlhijmageaa
open Go.RowKit
set_option maxRecDepth 100000 in
set_option maxHeartbeats 400000 in
theorem same_any (ad bd : Option Addr) (n ca cb : Nat) (xs : List UInt64) (w : World) (hl : Lin w ad xs) (hm : Lin w bd xs) (hn : n = xs.length) (hs : n ≤ 1000000) :
    Calls Try.prog 15 #[.slice ad n ca, .slice bd n cb] w fun e w' => e = .returned (.bool true) ∧ Below w.heap.size w w' := by
  have HL := Lib.hid hl
  have HM := Lib.hid hm
  have HN := Lib.hid hn
  clear hl hm hn
  go_enter Try.func15, Try.ntmps15
  go_wp2
  go_loopw [5] (fun vi wr => ∃ k : Nat, k ≤ n ∧ vi = .int .i64 k ∧ Hid (Below w.heap.size w wr)) (fun i _ => n - (intOf i).toNat)
  case atStart => exact ⟨0, by omega, rfl, Lib.hid (Below.refl _ _)⟩
  case round =>
    obtain ⟨k, hk, rfl, hb⟩ := hrel
    by_cases hlt : k < n
    · have hkx : k < xs.length := by have := HN.out; omega
      obtain ⟨b, off, rfl, _, hc⟩ := (HL.out.below hb.out rfl).get (by omega)
      obtain ⟨b2, off2, rfl, _, hc2⟩ := (HM.out.below hb.out rfl).get (by omega)
      have hck := hc k hkx
      have hck2 := hc2 k hkx
      generalize xs[k] = c at hck hck2
      have hj0 : (0 : Int) ≤ (k : Int) := by omega
      have hj1 : (k : Int) < (n : Int) := by omega
      clear hc hc2
      go_wp2_with fail
      go_quiet (fail)
      go_wp2
      go_roundw
      case rel => exact ⟨k + 1, by omega, by go_num, Lib.hid (below_drewN hb.out _)⟩
      case measure => simp [intOf]; omega
    · obtain rfl : k = n := by omega
      go_wp2
      go_ret
      exact ⟨rfl, hb.out⟩
end Go.Proofs.Ytgnidlhijmageaa
