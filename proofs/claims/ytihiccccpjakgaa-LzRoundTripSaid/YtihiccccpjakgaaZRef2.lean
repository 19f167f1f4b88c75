/-
  The document's own Unpack at any limit, and Size.
-/
import Derived.Test.YtihiccccpjakgaaZRef
namespace Go.Proofs.Ytihiccccpjakgaa
open Go.RowKit
set_option linter.unusedVariables false
set_option linter.unusedSimpArgs false
theorem runpack_any (ad : Option Addr) (cap : Nat) (xs : List UInt8) (most : Int) (w : World) (hl : Lie w ad xs) (hn : xs.length ≤ cap) (hs : xs.length ≤ 1000000) (ha : ad = none → cap = 0) (hm : most ≤ 1000000) :
    Calls Try.prog 11 #[.slice ad xs.length cap, .int .i64 most] w (UnV w (unq most.toNat xs [])) := by
  by_cases h : most < 0
  · rw [show most.toNat = 0 by omega]
    exact runpack_neg ad cap xs most w hl hn hs ha h
  · obtain ⟨m, rfl⟩ : ∃ m : Nat, most = m := ⟨most.toNat, by omega⟩
    rw [Int.toNat_natCast]
    exact runpack_nat ad cap xs m w hl hn hs ha (by omega)
set_option maxRecDepth 100000 in
set_option maxHeartbeats 600000 in
theorem rsize_any (ad : Option Addr) (cap : Nat) (xs : List UInt8) (most : Int) (w : World) (hl : Lie w ad xs) (hn : xs.length ≤ cap) (hs : xs.length ≤ 1000000) (ha : ad = none → cap = 0) (hm : most ≤ 1000000) :
    Calls Try.prog 13 #[.slice ad xs.length cap, .int .i64 most] w fun e w' => ScV (unq most.toNat xs []) e ∧ Below w.heap.size w w' := by
  have H := Lib.hid (runpack_any ad cap xs most w hl hn hs ha hm)
  clear hl hn hs ha hm
  go_enter Try.func13, Try.ntmps13
  go_wp2_with fail
  refine H.out.mono ?_
  rintro e w2 ⟨v, rfl, ho, hb⟩
  obtain ⟨a1, c1, rfl, _, _, _, _⟩ := ho.slice
  have HB := Lib.hid hb
  clear hb ho
  go_wp2
  go_ret2
  exact ⟨rfl, HB.out⟩
end Go.Proofs.Ytihiccccpjakgaa
