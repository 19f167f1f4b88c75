/-
  The program's sums, doublings and products are those of the plain mathematics.
-/
import Derived.Test.YtbkjocmldeagdaaGEv
namespace Go.Proofs.Ytbkjocmldeagdaa
open Go.RowKit
set_option maxRecDepth 100000 in
set_option maxHeartbeats 400000 in
theorem add_any (a b : UInt8) (w : World) :
    Calls Try.prog 29 #[.int .u8 (ev a), .int .u8 (ev b)] w fun e w' => e = .returned (.int .u8 (ev (a ^^^ b))) ∧ w = w' := by
  have hx := bits_xor_ev a b
  go_enter Try.func29, Try.ntmps29
  go_wp2
  go_ret
  exact ⟨rfl, rfl⟩

theorem dbl_great (a : UInt8) (h : ¬ ev a < 128) : bits .xor .u8 (ev a * 2 % 256) 29 = ev (dblU a) := by
  have hl := ev_hi a
  rw [ev_nat] at h hl ⊢
  rw [ev_nat, dbl_hi a (by omega), show (a.toNat : Int) * 2 % 256 = ((2 * a.toNat - 256 : Nat) : Int) by omega]
  exact u8_xor_nat _ 29 (by omega) (by decide)

set_option maxRecDepth 100000 in
set_option maxHeartbeats 400000 in
theorem double_any (a : UInt8) (w : World) :
    Calls Try.prog 39 #[.int .u8 (ev a)] w fun e w' => e = .returned (.int .u8 (ev (dblU a))) ∧ w = w' := by
  have h0 := ev_lo a
  have h1 := ev_hi a
  by_cases hm : ev a < 128
  · have hr := Lib.hid (dbl_small a hm)
    go_enter Try.func39, Try.ntmps39
    go_wp2
    go_ret
    exact ⟨ret_u8 hr.out, rfl⟩
  · have hr := Lib.hid (dbl_great a hm)
    go_enter Try.func39, Try.ntmps39
    go_wp2
    go_ret
    exact ⟨ret_u8 hr.out, rfl⟩

theorem shr_ev (b : UInt8) (k : Nat) : ev b / (2 : Int) ^ k = ((b.toNat / 2 ^ k : Nat) : Int) := by
  rw [ev_nat, Int.natCast_ediv]; norm_cast
theorem bit_ev (b : UInt8) (k : Nat) : bits .and .u8 (ev b / 2 ^ k) 1 = ((b.toNat / 2 ^ k % 2 : Nat) : Int) := by
  rw [shr_ev, show (1 : Int) = ((1 : Nat) : Int) from rfl, u8_and_nat _ 1 (Nat.lt_of_le_of_lt (Nat.div_le_self _ _) b.toNat_lt) (by decide), Nat.and_one_is_mod]
theorem low_one (a b : UInt8) (k : Nat) (hk : k < 8) (h : b.toNat / 2 ^ (7 - k) % 2 = 1) : dblU (lowU a (b.toNat / 2 ^ (8 - k)) k) ^^^ a = lowU a (b.toNat / 2 ^ (8 - (k + 1))) (k + 1) := by
  rw [show 8 - (k + 1) = 7 - k by omega, lowU_top a b.toNat k hk, if_pos h]
theorem low_nil (a b : UInt8) (k : Nat) (hk : k < 8) (h : ¬ b.toNat / 2 ^ (7 - k) % 2 = 1) : dblU (lowU a (b.toNat / 2 ^ (8 - k)) k) = lowU a (b.toNat / 2 ^ (8 - (k + 1))) (k + 1) := by
  rw [show 8 - (k + 1) = 7 - k by omega, lowU_top a b.toNat k hk, if_neg h]
attribute [local irreducible] dblU lowU mulU

set_option maxRecDepth 100000 in
set_option maxHeartbeats 400000 in
theorem mul_any (a b : UInt8) (w : World) :
    Calls Try.prog 30 #[.int .u8 (ev a), .int .u8 (ev b)] w fun e w' => e = .returned (.int .u8 (ev (mulU a b))) ∧ w = w' := by
  have b0 := ev_lo b
  have b1 := ev_hi b
  go_enter Try.func30, Try.ntmps30
  go_wp2
  go_loop [5, 7] (fun vp vk => ∃ k : Nat, k ≤ 8 ∧ vk = .int .i64 k ∧ vp = .int .u8 (ev (lowU a (b.toNat / 2 ^ (8 - k)) k))) (fun _ i => 8 - (intOf i).toNat)
  case atStart => exact ⟨0, by omega, rfl, by unfold lowU; exact val_zero⟩
  case round =>
    obtain ⟨k, hk, rfl, rfl⟩ := hrel
    by_cases hlt : k < 8
    · have ht := bit_ev b (7 - k)
      by_cases hb : b.toNat / 2 ^ (7 - k) % 2 = 1
      · have HN := Lib.hid (low_one a b k hlt hb)
        rw [hb] at ht
        clear hb
        generalize lowU a (b.toNat / 2 ^ (8 - k)) k = r at HN ⊢
        go_wp2_with fail
        refine (double_any _ _).mono ?_
        rintro e w' ⟨rfl, rfl⟩
        go_wp2_with fail
        refine (add_any _ _ _).mono ?_
        rintro e w' ⟨rfl, rfl⟩
        rw [HN.out]
        go_wp2
        go_round
        case rel => exact ⟨k + 1, by omega, by go_num, by rw [show 8 - (k + 1) = 7 - k by omega]⟩
        case measure => simp [intOf]; omega
      · have HN := Lib.hid (low_nil a b k hlt hb)
        rw [show b.toNat / 2 ^ (7 - k) % 2 = 0 by omega] at ht
        clear hb
        generalize lowU a (b.toNat / 2 ^ (8 - k)) k = r at HN ⊢
        go_wp2_with fail
        refine (double_any _ _).mono ?_
        rintro e w' ⟨rfl, rfl⟩
        rw [HN.out]
        go_wp2
        go_round
        case rel => exact ⟨k + 1, by omega, by go_num, by rw [show 8 - (k + 1) = 7 - k by omega]⟩
        case measure => simp [intOf]; omega
    · obtain rfl : k = 8 := by omega
      go_wp2
      go_ret
      exact ⟨by unfold mulU; rfl, rfl⟩
end Go.Proofs.Ytbkjocmldeagdaa
