/-
  The product of two elements by the specification of layer 4, beside that of layer 5.
-/
import Derived.Test.YtinfjidclkgfnaaQMem
namespace Go.Proofs.Ytinfjidclkgfnaa
open Go.RowKit
attribute [local irreducible] dblU lowU mulU
/-! The specification's product, over ints. -/
theorem i64_xor_nat (a b : Nat) (ha : a < 4294967296) (hb : b < 4294967296) : bits .xor .i64 (a : Int) (b : Int) = ((a ^^^ b : Nat) : Int) := by
  show IntKind.i64.wrap ((BitVec.ofInt 64 (a : Int) ^^^ BitVec.ofInt 64 (b : Int)).toNat : Int) = _
  have h : a ^^^ b < 2 ^ 32 := Nat.xor_lt_two_pow ha hb
  rw [BitVec.toNat_xor, BitVec.ofInt_natCast, BitVec.ofInt_natCast, BitVec.toNat_ofNat, BitVec.toNat_ofNat, Nat.mod_eq_of_lt (by omega : a < 2 ^ 64), Nat.mod_eq_of_lt (by omega : b < 2 ^ 64), IntKind.wrap_i64]
  omega
theorem i64_xor_ev (a b : UInt8) : bits .xor .i64 (ev a) (ev b) = ev (a ^^^ b) := by
  rw [ev_nat, ev_nat, ev_nat, i64_xor_nat _ _ (by have := a.toNat_lt; omega) (by have := b.toNat_lt; omega), UInt8.toNat_xor]
theorem dbl_great' (a : UInt8) (h : ¬ ev a < 128) : bits .xor .i64 (ev a * 2) 285 = ev (dblU a) := by
  have hl := ev_hi a
  rw [ev_nat] at h hl ⊢
  rw [ev_nat, dbl_hi' a (by omega), show (a.toNat : Int) * 2 = ((2 * a.toNat : Nat) : Int) by omega]
  exact i64_xor_nat _ 285 (by omega) (by decide)
theorem low_odd (a : UInt8) (y n : Nat) (h : y % 2 = 1) : lowU a y (n + 1) = a ^^^ lowU (dblU a) (y / 2) n := by simp only [lowU]; rw [if_pos h]
theorem low_even (a : UInt8) (y n : Nat) (h : y % 2 = 0) : lowU a y (n + 1) = lowU (dblU a) (y / 2) n := by
  simp only [lowU]
  rw [if_neg (by omega)]

set_option maxRecDepth 100000 in
set_option maxHeartbeats 1000000 in
theorem rmul4_any (a b : UInt8) (w : World) :
    Calls Try.prog 46 #[.int .u8 (ev a), .int .u8 (ev b)] w fun e w' => e = .returned (.int .u8 (ev (mulU a b))) ∧ w = w' := by
  have a0 := ev_lo a
  have a1 := ev_hi a
  have b0 := ev_lo b
  have b1 := ev_hi b
  go_enter Try.func46, Try.ntmps46
  go_wp2
  go_loop [5, 6, 7] (fun vx vy vo => ∃ (x o : UInt8) (y n : Nat), y < 2 ^ n ∧ y < 256 ∧ Hid (o ^^^ lowU x y n = mulU a b) ∧ vx = .int .i64 (ev x) ∧ vy = .int .i64 y ∧ vo = .int .i64 (ev o)) (fun _ i _ => (intOf i).toNat)
  case atStart => exact ⟨a, 0, b.toNat, 8, b.toNat_lt, b.toNat_lt, Lib.hid (by unfold mulU; rw [UInt8.zero_xor]), rfl, by rw [ev_nat], by rw [ev_zero]⟩
  case round =>
    obtain ⟨x, o, y, n, hy, hy8, ho, rfl, rfl, rfl⟩ := hrel
    have x0 := ev_lo x
    have x1 := ev_hi x
    have o0 := ev_lo o
    have o1 := ev_hi o
    by_cases hlt : 0 < y
    · obtain ⟨m, rfl⟩ : ∃ m, n = m + 1 := by
        cases n with
        | zero => simp at hy; omega
        | succ m => exact ⟨m, rfl⟩
      have hy2 : Hid (y / 2 < 2 ^ m) := Lib.hid (by rw [Nat.pow_succ] at hy; omega)
      clear hy
      rcases (show y % 2 = 0 ∨ y % 2 = 1 by omega) with hm | hm
      · have HO : Hid (o ^^^ lowU (dblU x) (y / 2) m = mulU a b) := Lib.hid (by rw [← low_even x y m hm]; exact ho.out)
        by_cases hs : ev x < 128
        · have hd := Lib.hid (dbl_small x hs)
          go_wp2
          go_round
          case rel => exact ⟨dblU x, o, y / 2, m, hy2.out, by omega, HO, by rw [← hd.out], by go_num, rfl⟩
          case measure => simp [intOf]; omega
        · have hd := Lib.hid (dbl_great' x hs)
          go_wp2
          go_round
          case rel => exact ⟨dblU x, o, y / 2, m, hy2.out, by omega, HO, by rw [← hd.out], by go_num, rfl⟩
          case measure => simp [intOf]; omega
      · have HO : Hid ((o ^^^ x) ^^^ lowU (dblU x) (y / 2) m = mulU a b) := Lib.hid (by rw [UInt8.xor_assoc, ← low_odd x y m hm]; exact ho.out)
        have hx := i64_xor_ev o x
        by_cases hs : ev x < 128
        · have hd := Lib.hid (dbl_small x hs)
          go_wp2
          go_round
          case rel => exact ⟨dblU x, o ^^^ x, y / 2, m, hy2.out, by omega, HO, by rw [← hd.out], by go_num, rfl⟩
          case measure => simp [intOf]; omega
        · have hd := Lib.hid (dbl_great' x hs)
          go_wp2
          go_round
          case rel => exact ⟨dblU x, o ^^^ x, y / 2, m, hy2.out, by omega, HO, by rw [← hd.out], by go_num, rfl⟩
          case measure => simp [intOf]; omega
    · obtain rfl : y = 0 := by omega
      have HO : Hid (o = mulU a b) := Lib.hid (by have := ho.out; rwa [lowU_zero_right, UInt8.xor_zero] at this)
      go_wp2
      go_ret
      exact ⟨by rw [HO.out]; rfl, rfl⟩
end Go.Proofs.Ytinfjidclkgfnaa
