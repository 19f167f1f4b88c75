/-
  The statement MerkleRoots.
-/
import Derived.Test.YtgnidlhijmageaaNAwake
import Derived.Test.YtgnidlhijmageaaNRRoot
namespace Go.Proofs.Ytgnidlhijmageaa
open Go.RowKit
attribute [local irreducible] accU fnv basis byteU beU hashU nodeU spl proI preI verI extI leafU
set_option maxRecDepth 100000 in
set_option maxHeartbeats 400000 in
theorem law_roots (ad : Option Addr) (cap : Nat) (xs : List UInt64) (w : World) (hl : Lin w ad xs) (hc : xs.length ≤ cap) (hm : cap ≤ maxLen) :
    Calls Try.prog 4 #[.slice ad xs.length cap] w fun e w' => e = .returned (.bool true) ∧ Below w.heap.size w w' := by
  obtain ⟨n, hn⟩ : ∃ n, n = xs.length := ⟨_, rfl⟩
  rw [← hn] at hc ⊢
  have HL := Lib.hid hl
  have HN := Lib.hid hn
  have HM := Lib.hid hm
  unfold maxLen at hm
  clear hl hn
  by_cases h : 200 < n
  · have h2 : (200 : Int) < (n : Int) := by omega
    go_enter Try.func4, Try.ntmps4
    go_wp2_with fail
    refine (awake_any _).mono ?_
    rintro e w2 ⟨rfl, hb⟩
    have HB := Lib.hid hb
    clear hb
    go_wp2
    go_ret
    exact ⟨rfl, HB.out⟩
  · have h2 : (n : Int) ≤ 200 := by omega
    go_enter Try.func4, Try.ntmps4
    go_wp2_with fail
    refine (root_go _ xs ad n cap _ (Nat.le_refl _) HL.out HN.out (by omega) hc HM.out).mono ?_
    rintro e w2 ⟨rfl, hb⟩
    have HB := Lib.hid hb
    clear hb
    go_wp2_with fail
    refine (rroot_go _ xs ad n cap _ (Nat.le_refl _) (HL.out.below HB.out rfl) HN.out (by omega) hc HM.out).mono ?_
    rintro e w3 ⟨rfl, hb⟩
    replace HB := Lib.hid (HB.out.trans (hb.mono HB.out.size))
    clear hb
    generalize rootU xs = r
    go_wp2_with fail
    refine (awake_any _).mono ?_
    rintro e w4 ⟨rfl, hb⟩
    replace HB := Lib.hid (HB.out.trans (hb.mono HB.out.size))
    clear hb
    go_wp2
    go_ret
    exact ⟨rfl, HB.out⟩
end Go.Proofs.Ytgnidlhijmageaa
