/-
  One byte more, by the program.
-/
import Derived.Test.YtihiccccpjakgaaNNum
namespace Go.Proofs.Ytihiccccpjakgaa
open Go.RowKit
set_option maxRecDepth 100000 in
set_option maxHeartbeats 400000 in
theorem with_any (h : UInt64) (x : UInt8) (w : World) :
    Calls Try.prog 46 #[.int .u64 (gv h), .int .u8 (ev x)] w fun e w' => e = .returned (.int .u64 (gv (fnv h x))) ∧ w = w' := by
  have hx := bits_xor_ge h x
  have hn := Lib.hid (fnv_num h x)
  have x0 := ev_lo x
  have x1 := ev_hi x
  go_enter Try.func46, Try.ntmps46
  go_wp2
  go_ret
  exact ⟨ret_u64 hn.out, rfl⟩
end Go.Proofs.Ytihiccccpjakgaa
