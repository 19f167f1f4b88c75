/-
  The program's step of a register, and the specification's, are the step of the plain mathematics.
-/
import Derived.Test.YtpjegenobadckaaRows
import Derived.Test.YtpjegenobadckaaBits
import Derived.WalkKit
import Derived.Lib.Hide
import Derived.WalkSpells
import Derived.WalkLawsBesides
namespace Go.Proofs.Ytpjegenobadckaa
open Go.RowKit

theorem bits_xor_iv (a b : BitVec 32) : bits .xor .u32 (iv a) (iv b) = iv (a ^^^ b) := by
  unfold iv
  rw [u32_xor_nat _ _ a.isLt b.isLt, BitVec.toNat_xor]
theorem bits_and_iv (a b : BitVec 32) : bits .and .u32 (iv a) (iv b) = iv (a &&& b) := by
  unfold iv
  rw [u32_and_nat _ _ a.isLt b.isLt, BitVec.toNat_and]
theorem bits_or_iv (a b : BitVec 32) : bits .or .u32 (iv a) (iv b) = iv (a ||| b) := by
  unfold iv
  rw [u32_or_nat _ _ a.isLt b.isLt, BitVec.toNat_or]
theorem poly_iv : (2197175160 : Int) = iv 2197175160#32 := (iv_ofNat 2197175160 (by decide)).symm
theorem bits_poly (a : BitVec 32) : bits .xor .u32 (iv a) 2197175160 = iv (a ^^^ 2197175160#32) := by
  rw [poly_iv]; exact bits_xor_iv _ _
theorem ones_iv : IntKind.u32.max = iv (BitVec.allOnes 32) := (iv_ofNat 4294967295 (by decide)).symm
theorem bits_not (a : BitVec 32) : bits .xor .u32 IntKind.u32.max (iv a) = iv (~~~ a) := by
  rw [ones_iv, bits_xor_iv, BitVec.allOnes_xor]
theorem bits_one (a : BitVec 32) : bits .and .u32 (iv a) 1 = iv a % 2 := by
  have := iv_lo a
  have := iv_hi a
  rw [u32_and _ _ (by omega) (by omega) (by omega) (by omega), show (1 : Int).toNat = 1 from rfl, Nat.and_one_is_mod]
  omega

theorem ret_u32 {a b : Int} (h : a = b) : Ending.returned (.int .u32 a) = .returned (.int .u32 b) := by rw [h]

theorem stepB_even (u : BitVec 32) (h : iv u % 2 = 0) : iv u / 2 = iv (stepB u) := by
  unfold stepB
  rw [getLsbD_iv, if_neg (by simp; omega), iv_shr1]
theorem stepB_odd (u : BitVec 32) (h : iv u % 2 = 1) : bits .xor .u32 (iv u / 2) 2197175160 = iv (stepB u) := by
  unfold stepB
  rw [getLsbD_iv, if_pos (by simp; omega), iv_shr1, bits_poly]

set_option maxRecDepth 100000 in
set_option maxHeartbeats 400000 in
theorem step_any (u : BitVec 32) (w : World) :
    Calls Try.prog 64 #[.int .u32 (iv u)] w fun e w' => e = .returned (.int .u32 (iv (stepB u))) ∧ w = w' := by
  have h1 := iv_hi u
  have h0 := iv_lo u
  have hb := bits_one u
  rcases (show iv u % 2 = 0 ∨ iv u % 2 = 1 by omega) with hm | hm
  · have hr := Lib.hid (stepB_even u hm)
    go_enter Try.func64, Try.ntmps64
    go_wp2
    go_ret
    exact ⟨ret_u32 hr.out, rfl⟩
  · have hr := Lib.hid (stepB_odd u hm)
    go_enter Try.func64, Try.ntmps64
    go_wp2
    go_ret
    exact ⟨ret_u32 hr.out, rfl⟩

set_option maxRecDepth 100000 in
set_option maxHeartbeats 400000 in
theorem rstep_any (u : BitVec 32) (w : World) :
    Calls Try.prog 65 #[.int .u32 (iv u)] w fun e w' => e = .returned (.int .u32 (iv (stepB u))) ∧ w = w' := by
  have h1 := iv_hi u
  have h0 := iv_lo u
  rcases (show iv u % 2 = 0 ∨ iv u % 2 = 1 by omega) with hm | hm
  · have hr := Lib.hid (stepB_even u hm)
    go_enter Try.func65, Try.ntmps65
    go_wp2
    go_ret
    exact ⟨ret_u32 hr.out, rfl⟩
  · have hr := Lib.hid (stepB_odd u hm)
    go_enter Try.func65, Try.ntmps65
    go_wp2
    go_ret
    exact ⟨ret_u32 hr.out, rfl⟩
end Go.Proofs.Ytpjegenobadckaa
