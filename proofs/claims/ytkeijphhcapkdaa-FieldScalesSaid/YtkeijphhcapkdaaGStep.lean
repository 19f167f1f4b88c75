/-
  Sums, doublings and products, of the program and of the specification, are those of the plain mathematics.
-/
import Derived.Test.YtkeijphhcapkdaaRows
import Derived.Test.YtkeijphhcapkdaaGMath
import Derived.WalkKit
import Derived.Lib.Hide
import Derived.WalkSpells
import Derived.WalkLawsBesides
namespace Go.Proofs.Ytkeijphhcapkdaa
open Go.RowKit

/-- the number that stands for an element; kept closed -/
@[irreducible] def ev (x : UInt8) : Int := (x.toNat : Int)
theorem ev_nat (x : UInt8) : ev x = (x.toNat : Int) := by unfold ev; rfl
theorem ev_lo (x : UInt8) : 0 ≤ ev x := by rw [ev_nat]; omega
theorem ev_hi (x : UInt8) : ev x < 256 := by rw [ev_nat]; have := x.toNat_lt; omega
theorem ev_inj {x y : UInt8} (h : ev x = ev y) : x = y := by rw [ev_nat, ev_nat] at h; exact UInt8.toNat_inj.1 (by omega)
theorem ev_lit (n : Nat) (h : n < 256) : (n : Int) = ev (UInt8.ofNat n) := by rw [ev_nat, UInt8.toNat_ofNat']; omega
theorem exists_ev (z : Int) (h0 : 0 ≤ z) (h1 : z < 256) : ∃ x, z = ev x := ⟨UInt8.ofNat z.toNat, by rw [← ev_lit _ (by omega)]; omega⟩
theorem ev_zero : ev 0 = 0 := (ev_lit 0 (by decide)).symm
theorem ev_one : ev 1 = 1 := (ev_lit 1 (by decide)).symm
theorem ev_eq0 (x : UInt8) : ev x = 0 ↔ x = 0 := ⟨fun h => ev_inj (by rw [h, ev_zero]), fun h => by rw [h, ev_zero]⟩
theorem ev_eq1 (x : UInt8) : ev x = 1 ↔ x = 1 := ⟨fun h => ev_inj (by rw [h, ev_one]), fun h => by rw [h, ev_one]⟩
theorem bits_xor_ev (a b : UInt8) : bits .xor .u8 (ev a) (ev b) = ev (a ^^^ b) := by
  rw [ev_nat, ev_nat, ev_nat, u8_xor_nat _ _ a.toNat_lt b.toNat_lt, UInt8.toNat_xor]
theorem ret_u8 {a b : Int} (h : a = b) : Ending.returned (.int .u8 a) = .returned (.int .u8 b) := by rw [h]

set_option maxRecDepth 100000 in
set_option maxHeartbeats 400000 in
theorem add_any (a b : UInt8) (w : World) :
    Calls Try.prog 10 #[.int .u8 (ev a), .int .u8 (ev b)] w fun e w' => e = .returned (.int .u8 (ev (a ^^^ b))) ∧ w = w' := by
  have hx := bits_xor_ev a b
  go_enter Try.func10, Try.ntmps10
  go_wp2
  go_ret
  exact ⟨rfl, rfl⟩

theorem dbl_small (a : UInt8) (h : ev a < 128) : ev a * 2 = ev (dblU a) := by
  rw [ev_nat, ev_nat, dbl_lo a (by rw [ev_nat] at h; omega)]; omega
theorem dbl_great (a : UInt8) (h : ¬ ev a < 128) : bits .xor .u8 (ev a * 2 % 256) 29 = ev (dblU a) := by
  have hl := ev_hi a
  rw [ev_nat] at h hl ⊢
  rw [ev_nat, dbl_hi a (by omega), show (a.toNat : Int) * 2 % 256 = ((2 * a.toNat - 256 : Nat) : Int) by omega]
  exact u8_xor_nat _ 29 (by omega) (by decide)

set_option maxRecDepth 100000 in
set_option maxHeartbeats 400000 in
theorem double_any (a : UInt8) (w : World) :
    Calls Try.prog 25 #[.int .u8 (ev a)] w fun e w' => e = .returned (.int .u8 (ev (dblU a))) ∧ w = w' := by
  have h0 := ev_lo a
  have h1 := ev_hi a
  by_cases hm : ev a < 128
  · have hr := Lib.hid (dbl_small a hm)
    go_enter Try.func25, Try.ntmps25
    go_wp2
    go_ret
    exact ⟨ret_u8 hr.out, rfl⟩
  · have hr := Lib.hid (dbl_great a hm)
    go_enter Try.func25, Try.ntmps25
    go_wp2
    go_ret
    exact ⟨ret_u8 hr.out, rfl⟩

theorem shr_ev (b : UInt8) (k : Nat) : ev b / (2 : Int) ^ k = ((b.toNat / 2 ^ k : Nat) : Int) := by
  rw [ev_nat, Int.natCast_ediv]; norm_cast
theorem bit_ev (b : UInt8) (k : Nat) : bits .and .u8 (ev b / 2 ^ k) 1 = ((b.toNat / 2 ^ k % 2 : Nat) : Int) := by
  rw [shr_ev, show (1 : Int) = ((1 : Nat) : Int) from rfl, u8_and_nat _ 1 (Nat.lt_of_le_of_lt (Nat.div_le_self _ _) b.toNat_lt) (by decide), Nat.and_one_is_mod]
theorem low_one (a b : UInt8) (k : Nat) (hk : k < 8) (h : b.toNat / 2 ^ (7 - k) % 2 = 1) : dblU (lowU a (b.toNat / 2 ^ (8 - k)) k) ^^^ a = lowU a (b.toNat / 2 ^ (8 - (k + 1))) (k + 1) := by
  rw [show 8 - (k + 1) = 7 - k by omega, lowU_top a b.toNat k hk, if_pos h]
theorem low_nil (a b : UInt8) (k : Nat) (hk : k < 8) (h : ¬ b.toNat / 2 ^ (7 - k) % 2 = 1) : dblU (lowU a (b.toNat / 2 ^ (8 - k)) k) = lowU a (b.toNat / 2 ^ (8 - (k + 1))) (k + 1) := by
  rw [show 8 - (k + 1) = 7 - k by omega, lowU_top a b.toNat k hk, if_neg h]
theorem val_zero : Value.int .u8 0 = .int .u8 (ev 0) := by rw [ev_zero]
theorem val_one : Value.int .u8 1 = .int .u8 (ev 1) := by rw [ev_one]
attribute [local irreducible] dblU lowU mulU

set_option maxRecDepth 100000 in
set_option maxHeartbeats 400000 in
theorem mul_any (a b : UInt8) (w : World) :
    Calls Try.prog 11 #[.int .u8 (ev a), .int .u8 (ev b)] w fun e w' => e = .returned (.int .u8 (ev (mulU a b))) ∧ w = w' := by
  have b0 := ev_lo b
  have b1 := ev_hi b
  go_enter Try.func11, Try.ntmps11
  go_wp2
  go_loop [5, 7] (fun vp vk => ∃ k : Nat, k ≤ 8 ∧ vk = .int .i64 k ∧ vp = .int .u8 (ev (lowU a (b.toNat / 2 ^ (8 - k)) k))) (fun _ i => 8 - (intOf i).toNat)
  case atStart => exact ⟨0, by omega, rfl, by unfold lowU; exact val_zero⟩
  case round =>
    obtain ⟨k, hk, rfl, rfl⟩ := hrel
    by_cases hlt : k < 8
    · have ht := bit_ev b (7 - k)
      by_cases hb : b.toNat / 2 ^ (7 - k) % 2 = 1
      · have HN := Lib.hid (low_one a b k hlt hb)
        rw [hb] at ht
        clear hb
        generalize lowU a (b.toNat / 2 ^ (8 - k)) k = r at HN ⊢
        go_wp2_with fail
        refine (double_any _ _).mono ?_
        rintro e w' ⟨rfl, rfl⟩
        go_wp2_with fail
        refine (add_any _ _ _).mono ?_
        rintro e w' ⟨rfl, rfl⟩
        rw [HN.out]
        go_wp2
        go_round
        case rel => exact ⟨k + 1, by omega, by go_num, by rw [show 8 - (k + 1) = 7 - k by omega]⟩
        case measure => simp [intOf]; omega
      · have HN := Lib.hid (low_nil a b k hlt hb)
        rw [show b.toNat / 2 ^ (7 - k) % 2 = 0 by omega] at ht
        clear hb
        generalize lowU a (b.toNat / 2 ^ (8 - k)) k = r at HN ⊢
        go_wp2_with fail
        refine (double_any _ _).mono ?_
        rintro e w' ⟨rfl, rfl⟩
        rw [HN.out]
        go_wp2
        go_round
        case rel => exact ⟨k + 1, by omega, by go_num, by rw [show 8 - (k + 1) = 7 - k by omega]⟩
        case measure => simp [intOf]; omega
    · obtain rfl : k = 8 := by omega
      go_wp2
      go_ret
      exact ⟨by unfold mulU; rfl, rfl⟩

/-! The specification's product, over ints. -/
theorem i64_xor_nat (a b : Nat) (ha : a < 4294967296) (hb : b < 4294967296) : bits .xor .i64 (a : Int) (b : Int) = ((a ^^^ b : Nat) : Int) := by
  show IntKind.i64.wrap ((BitVec.ofInt 64 (a : Int) ^^^ BitVec.ofInt 64 (b : Int)).toNat : Int) = _
  have h : a ^^^ b < 2 ^ 32 := Nat.xor_lt_two_pow ha hb
  rw [BitVec.toNat_xor, BitVec.ofInt_natCast, BitVec.ofInt_natCast, BitVec.toNat_ofNat, BitVec.toNat_ofNat, Nat.mod_eq_of_lt (by omega : a < 2 ^ 64), Nat.mod_eq_of_lt (by omega : b < 2 ^ 64), IntKind.wrap_i64]
  omega
theorem i64_xor_ev (a b : UInt8) : bits .xor .i64 (ev a) (ev b) = ev (a ^^^ b) := by
  rw [ev_nat, ev_nat, ev_nat, i64_xor_nat _ _ (by have := a.toNat_lt; omega) (by have := b.toNat_lt; omega), UInt8.toNat_xor]
theorem dbl_great' (a : UInt8) (h : ¬ ev a < 128) : bits .xor .i64 (ev a * 2) 285 = ev (dblU a) := by
  have hl := ev_hi a
  rw [ev_nat] at h hl ⊢
  rw [ev_nat, dbl_hi' a (by omega), show (a.toNat : Int) * 2 = ((2 * a.toNat : Nat) : Int) by omega]
  exact i64_xor_nat _ 285 (by omega) (by decide)
theorem low_odd (a : UInt8) (y n : Nat) (h : y % 2 = 1) : lowU a y (n + 1) = a ^^^ lowU (dblU a) (y / 2) n := by simp only [lowU]; rw [if_pos h]
theorem low_even (a : UInt8) (y n : Nat) (h : y % 2 = 0) : lowU a y (n + 1) = lowU (dblU a) (y / 2) n := by
  simp only [lowU]
  rw [if_neg (by omega)]

set_option maxRecDepth 100000 in
set_option maxHeartbeats 1000000 in
theorem rmul_any (a b : UInt8) (w : World) :
    Calls Try.prog 13 #[.int .u8 (ev a), .int .u8 (ev b)] w fun e w' => e = .returned (.int .u8 (ev (mulU a b))) ∧ w = w' := by
  have a0 := ev_lo a
  have a1 := ev_hi a
  have b0 := ev_lo b
  have b1 := ev_hi b
  go_enter Try.func13, Try.ntmps13
  go_wp2
  go_loop [5, 6, 7] (fun vx vy vo => ∃ (x o : UInt8) (y n : Nat), y < 2 ^ n ∧ y < 256 ∧ Hid (o ^^^ lowU x y n = mulU a b) ∧ vx = .int .i64 (ev x) ∧ vy = .int .i64 y ∧ vo = .int .i64 (ev o)) (fun _ i _ => (intOf i).toNat)
  case atStart => exact ⟨a, 0, b.toNat, 8, b.toNat_lt, b.toNat_lt, Lib.hid (by unfold mulU; rw [UInt8.zero_xor]), rfl, by rw [ev_nat], by rw [ev_zero]⟩
  case round =>
    obtain ⟨x, o, y, n, hy, hy8, ho, rfl, rfl, rfl⟩ := hrel
    have x0 := ev_lo x
    have x1 := ev_hi x
    have o0 := ev_lo o
    have o1 := ev_hi o
    by_cases hlt : 0 < y
    · obtain ⟨m, rfl⟩ : ∃ m, n = m + 1 := by
        cases n with
        | zero => simp at hy; omega
        | succ m => exact ⟨m, rfl⟩
      have hy2 : Hid (y / 2 < 2 ^ m) := Lib.hid (by rw [Nat.pow_succ] at hy; omega)
      clear hy
      rcases (show y % 2 = 0 ∨ y % 2 = 1 by omega) with hm | hm
      · have HO : Hid (o ^^^ lowU (dblU x) (y / 2) m = mulU a b) := Lib.hid (by rw [← low_even x y m hm]; exact ho.out)
        by_cases hs : ev x < 128
        · have hd := Lib.hid (dbl_small x hs)
          go_wp2
          go_round
          case rel => exact ⟨dblU x, o, y / 2, m, hy2.out, by omega, HO, by rw [← hd.out], by go_num, rfl⟩
          case measure => simp [intOf]; omega
        · have hd := Lib.hid (dbl_great' x hs)
          go_wp2
          go_round
          case rel => exact ⟨dblU x, o, y / 2, m, hy2.out, by omega, HO, by rw [← hd.out], by go_num, rfl⟩
          case measure => simp [intOf]; omega
      · have HO : Hid ((o ^^^ x) ^^^ lowU (dblU x) (y / 2) m = mulU a b) := Lib.hid (by rw [UInt8.xor_assoc, ← low_odd x y m hm]; exact ho.out)
        have hx := i64_xor_ev o x
        by_cases hs : ev x < 128
        · have hd := Lib.hid (dbl_small x hs)
          go_wp2
          go_round
          case rel => exact ⟨dblU x, o ^^^ x, y / 2, m, hy2.out, by omega, HO, by rw [← hd.out], by go_num, rfl⟩
          case measure => simp [intOf]; omega
        · have hd := Lib.hid (dbl_great' x hs)
          go_wp2
          go_round
          case rel => exact ⟨dblU x, o ^^^ x, y / 2, m, hy2.out, by omega, HO, by rw [← hd.out], by go_num, rfl⟩
          case measure => simp [intOf]; omega
    · obtain rfl : y = 0 := by omega
      have HO : Hid (o = mulU a b) := Lib.hid (by have := ho.out; rwa [lowU_zero_right, UInt8.xor_zero] at this)
      go_wp2
      go_ret
      exact ⟨by rw [HO.out]; rfl, rfl⟩
end Go.Proofs.Ytkeijphhcapkdaa
