/-
  What lies of a valid matrix.
  The product and the inverse, by the specification of layer 5.
-/
import Derived.Test.YtinfjidclkgfnaaQRows
import Derived.Test.YtinfjidclkgfnaaQMem
import Derived.Test.YtinfjidclkgfnaaQMath
import Derived.Laws.BitsLemmas
namespace Go.Proofs.Ytinfjidclkgfnaa
open Go.RowKit
/-- what lies of a valid matrix, now and later -/
theorem Lr.mat {w : World} {ad : Option Addr} {M : List (List UInt8)} (h : Lr w ad M) (hV : ValidL M) (n K : Nat) (hn : n = M.length) (hK : K = cols M) :
    ∃ b off, ad = some ⟨b, off, none⟩ ∧ Hid (∀ w2, Below w.heap.size w w2 → ∀ i, i < n → ∃ b1 off1 c1, w2.cell? ⟨b, off + i, none⟩ = some (.slice (some ⟨b1, off1, none⟩) K c1) ∧ K ≤ c1 ∧ c1 ≤ 2 ^ 63 - 1 ∧ ∀ k, k < K → w2.cell? ⟨b1, off1 + k, none⟩ = some (.int .u8 (ev (ent M i k)))) := by
  obtain ⟨b, off, rfl, hbl, _⟩ := h.row 0 (by have := hV.pos; omega)
  refine ⟨b, off, rfl, Lib.hid fun w2 hb i hi => ?_⟩
  have hi' : i < M.length := by omega
  obtain ⟨b', off', e', -, a1, c1, f1, l1, g1, m1, -⟩ := h.row i hi'
  cases e'
  have hlen : (M[i]).length = K := by rw [hK]; exact hV.len i hi'
  have hc := hV.cpos
  obtain ⟨b1, off1, rfl, hb1l, hc1⟩ := l1.ev (by omega)
  rw [hlen] at f1 g1
  refine ⟨b1, off1, c1, (hb.cell (p := ⟨b, off + i, none⟩) hbl).trans f1, g1, by unfold maxLen at m1; exact m1, fun k hk => ?_⟩
  rw [hb.cell (p := ⟨b1, off1 + k, none⟩) hb1l, hc1 k (by omega), ent_get]
end Go.Proofs.Ytinfjidclkgfnaa
namespace Go.Proofs.Ytinfjidclkgfnaa
open Go.RowKit
theorem wrap_small (n : Int) (h0 : 0 ≤ n) (h1 : n < 2 ^ 62) : IntKind.i64.wrap n = n := by rw [IntKind.wrap_i64]; omega
theorem i64_xor (a b : Nat) (ha : a < 65536) (hb : b < 65536) : bits .xor .i64 (a : Int) (b : Int) = ((a ^^^ b : Nat) : Int) := by
  have h : a ^^^ b < 2 ^ 16 := Nat.xor_lt_two_pow ha hb
  have ha' : a % 2 ^ IntKind.i64.bits = a := Nat.mod_eq_of_lt (by show a < 18446744073709551616; omega)
  have hb' : b % 2 ^ IntKind.i64.bits = b := Nat.mod_eq_of_lt (by show b < 18446744073709551616; omega)
  simp only [bits, BitVec.ofInt_natCast, BitVec.toNat_xor, BitVec.toNat_ofNat, ha', hb']
  exact wrap_small _ (by omega) (by omega)
theorem i64_one (a : Nat) (ha : a < 65536) : bits .and .i64 (a : Int) 1 = ((a % 2 : Nat) : Int) := by
  have h := (bits_nat .i64 62 (by decide) wrap_small a 1 (by omega) (by omega)).1
  rw [show ((1 : Nat) : Int) = 1 from rfl] at h
  rw [h, Nat.and_one_is_mod]
theorem digit (y i : Nat) (hy : y < 65536) : (bits .and .i64 ((y : Int) / 2 ^ i) 1 == 1) = decide (y / 2 ^ i % 2 = 1) := by
  have e : (y : Int) / 2 ^ i = ((y / 2 ^ i : Nat) : Int) := by push_cast; rfl
  rw [e, i64_one _ (Nat.lt_of_le_of_lt (Nat.div_le_self _ _) hy)]
  by_cases h : y / 2 ^ i % 2 = 1
  · rw [h]; simp
  · have h0 : y / 2 ^ i % 2 = 0 := by omega
    rw [h0]; simp
theorem wrap64_small (n : Nat) (h : n < 65536) : wrap64 (n : Int) = n := by
  have := wrap_small (n : Int) (by omega) (by omega)
  rw [IntKind.wrap_i64] at this
  unfold wrap64
  exact this
theorem cl_yes (x y i : Nat) (h : y / 2 ^ i % 2 = 1) (hx : x < 256) (hy : i < 8) : bits .xor .i64 (clP x y i : Int) (wrap64 ((x : Int) * 2 ^ i)) = (clP x y (i + 1) : Int) := by
  have hp : clP x y i < 65536 := Nat.lt_of_lt_of_le (clP_lt x y i hx) (Nat.pow_le_pow_right (by decide) (show 8 + i ≤ 16 by omega))
  have h2 : 2 ^ i ≤ 2 ^ 7 := Nat.pow_le_pow_right (by decide) (by omega)
  have hm : x * 2 ^ i < 65536 := by
    have := Nat.mul_le_mul (show x ≤ 255 by omega) h2
    omega
  rw [show (x : Int) * 2 ^ i = ((x * 2 ^ i : Nat) : Int) by push_cast; rfl, wrap64_small _ hm, i64_xor _ _ hp hm]
  simp only [clP]
  rw [if_pos h]
theorem cl_no (x y i : Nat) (h : ¬ y / 2 ^ i % 2 = 1) : (clP x y i : Int) = (clP x y (i + 1) : Int) := by
  simp only [clP]
  rw [if_neg h]
theorem red_yes (p k : Nat) (hp : p < 65536) (h : redN p k / 2 ^ (15 - k) % 2 = 1) (hk : k < 8) : bits .xor .i64 (redN p k : Int) (wrap64 (285 * 2 ^ (15 - k - 8))) = (redN p (k + 1) : Int) := by
  have hq : redN p k < 65536 := redN_lt p k hp
  have h2 : 2 ^ (15 - k - 8) ≤ 2 ^ 7 := Nat.pow_le_pow_right (by decide) (by omega)
  have hm : 285 * 2 ^ (15 - k - 8) < 65536 := by omega
  have hc : (285 : Int) * 2 ^ (15 - k - 8) = ((285 * 2 ^ (15 - k - 8) : Nat) : Int) := by
    generalize 15 - k - 8 = z
    rw [Int.natCast_mul, Int.natCast_pow]
    rfl
  rw [hc, wrap64_small _ hm, i64_xor _ _ hq hm]
  simp only [redN, redS]
  rw [if_pos h]
theorem red_no (p k : Nat) (h : ¬ redN p k / 2 ^ (15 - k) % 2 = 1) : (redN p k : Int) = (redN p (k + 1) : Int) := by
  simp only [redN, redS]
  rw [if_neg h]
attribute [local irreducible] clP redN mulU
set_option maxRecDepth 100000 in
set_option maxHeartbeats 1000000 in
theorem rmul_any (a b : UInt8) (w : World) :
    Calls Try.prog 68 #[.int .u8 (ev a), .int .u8 (ev b)] w fun e w' => e = .returned (.int .u8 (ev (mulU a b))) ∧ w = w' := by
  have a0 := ev_lo a
  have a1 := ev_hi a
  have b0 := ev_lo b
  have b1 := ev_hi b
  obtain ⟨x, hx⟩ : ∃ x : Nat, ev a = (x : Int) := ⟨a.toNat, ev_nat a⟩
  obtain ⟨y, hy⟩ : ∃ y : Nat, ev b = (y : Int) := ⟨b.toNat, ev_nat b⟩
  rw [hx, hy]
  rw [hx] at a0 a1
  rw [hy] at b0 b1
  have HXY : Hid (x = a.toNat ∧ y = b.toNat) := Lib.hid ⟨by have := ev_nat a; omega, by have := ev_nat b; omega⟩
  have HZ : Hid (clP x y 0 = 0) := Lib.hid (by unfold clP; rfl)
  clear hx hy
  go_enter Try.func68, Try.ntmps68
  go_wp2_with fail
  go_loop [7, 8] (fun vp vi => ∃ i : Nat, vi = .int .i64 i ∧ i ≤ 8 ∧ vp = .int .i64 (clP x y i)) (fun _ vi => 8 - (intOf vi).toNat)
  case atStart => exact ⟨0, rfl, by omega, by rw [HZ.out]; rfl⟩
  case round =>
    obtain ⟨i, rfl, hi, rfl⟩ := hrel
    by_cases hlt : i < 8
    · by_cases hd : y / 2 ^ i % 2 = 1
      · have hb : (bits .and .i64 ((y : Int) / 2 ^ i) 1 == 1) = true := by rw [digit y i (by omega), decide_eq_true hd]
        have HN := Lib.hid (cl_yes x y i hd (by omega) hlt)
        clear hd
        go_wp2
        go_round
        case rel => exact ⟨i + 1, by go_num, by omega, by rw [HN.out]⟩
        case measure => simp [intOf]; omega
      · have hb : (bits .and .i64 ((y : Int) / 2 ^ i) 1 == 1) = false := by rw [digit y i (by omega), decide_eq_false hd]
        have HN := Lib.hid (cl_no x y i hd)
        clear hd
        go_wp2
        go_round
        case rel => exact ⟨i + 1, by go_num, by omega, by rw [← HN.out]⟩
        case measure => simp [intOf]; omega
    · obtain rfl : i = 8 := by omega
      obtain ⟨q, hq⟩ : ∃ q, clP x y 8 = q := ⟨_, rfl⟩
      have HQ : Hid (redN q 8 = (mulU a b).toNat) := Lib.hid (by rw [← hq, HXY.out.1, HXY.out.2, red_mul])
      have hq2 : q < 65536 := by rw [← hq]; exact clP_lt x y 8 (by omega)
      have HQ0 : Hid (redN q 0 = q) := Lib.hid (by unfold redN; rfl)
      rw [hq]
      clear hq
      go_wp2_with fail
      go_loop [7, 9] (fun vp vi => ∃ (t k : Nat), vi = .int .i64 t ∧ Hid (t + k = 15) ∧ 7 ≤ t ∧ t ≤ 15 ∧ vp = .int .i64 (redN q k)) (fun _ vi => (intOf vi).toNat)
      case atStart => exact ⟨15, 0, rfl, Lib.hid rfl, by omega, by omega, by rw [HQ0.out]⟩
      case round =>
        obtain ⟨t, k, rfl, HT, ht1, ht2, rfl⟩ := hrel
        by_cases hlt2 : 8 ≤ t
        · by_cases hd : redN q k / 2 ^ t % 2 = 1
          · have hb : (bits .and .i64 ((redN q k : Int) / 2 ^ t) 1 == 1) = true := by rw [digit _ t (redN_lt q k hq2), decide_eq_true hd]
            have HN := Lib.hid (red_yes q k hq2 (by rw [show 15 - k = t by have := HT.out; omega]; exact hd) (by have := HT.out; omega))
            clear hd
            go_wp2
            go_round
            case rel => exact ⟨t - 1, k + 1, by go_num, Lib.hid (by have := HT.out; omega), by omega, by omega, by rw [← HN.out, show 15 - k - 8 = t - 8 by have := HT.out; omega]⟩
            case measure => simp [intOf]; omega
          · have hb : (bits .and .i64 ((redN q k : Int) / 2 ^ t) 1 == 1) = false := by rw [digit _ t (redN_lt q k hq2), decide_eq_false hd]
            have HN := Lib.hid (red_no q k (by rw [show 15 - k = t by have := HT.out; omega]; exact hd))
            clear hd
            go_wp2
            go_round
            case rel => exact ⟨t - 1, k + 1, by go_num, Lib.hid (by have := HT.out; omega), by omega, by omega, by rw [← HN.out]⟩
            case measure => simp [intOf]; omega
        · have HK8 : Hid (redN q k = (mulU a b).toNat) := Lib.hid (by rw [show k = 8 by have := HT.out; omega]; exact HQ.out)
          have hlt3 : ¬ (8 : Int) ≤ (t : Int) := by omega
          rw [HK8.out, ← ev_nat]
          have e1 := ev_lo (mulU a b)
          have e2 := ev_hi (mulU a b)
          have e3 : IntKind.u8.wrap (ev (mulU a b)) = ev (mulU a b) := by rw [IntKind.wrap_u8]; omega
          go_wp2
          go_ret
          exact ⟨rfl, rfl⟩
theorem pow_step (a : UInt8) (i : Nat) : mulU (powU a i) a = powU a (i + 1) := rfl
theorem pow_first (a : UInt8) : Value.int .u8 1 = .int .u8 (ev (powU a 0)) := by rw [show powU a 0 = 1 from rfl, ev_one]
attribute [local irreducible] powU
set_option maxRecDepth 100000 in
set_option maxHeartbeats 1000000 in
theorem rinv_any (a : UInt8) (w : World) :
    Calls Try.prog 67 #[.int .u8 (ev a)] w fun e w' => e = .returned (.int .u8 (ev (invU a))) ∧ w = w' := by
  have HP := Lib.hid (pow_first a)
  have HI : Hid (powU a 254 = invU a) := Lib.hid rfl
  have HS : Hid (∀ i, mulU (powU a i) a = powU a (i + 1)) := Lib.hid (pow_step a)
  go_enter Try.func67, Try.ntmps67
  go_wp2_with fail
  go_loop [3, 4] (fun vp vi => ∃ i : Nat, vi = .int .i64 i ∧ i ≤ 254 ∧ vp = .int .u8 (ev (powU a i))) (fun _ vi => 254 - (intOf vi).toNat)
  case atStart => exact ⟨0, rfl, by omega, HP.out⟩
  case round =>
    obtain ⟨i, rfl, hi, rfl⟩ := hrel
    by_cases hlt : i < 254
    · go_wp2_with fail
      refine (rmul_any _ _ _).mono ?_
      rintro e w' ⟨rfl, rfl⟩
      rw [HS.out]
      go_wp2
      go_round
      case rel => exact ⟨i + 1, by go_num, by omega, rfl⟩
      case measure => simp [intOf]; omega
    · obtain rfl : i = 254 := by omega
      rw [HI.out]
      go_wp2
      go_ret
      exact ⟨rfl, rfl⟩
end Go.Proofs.Ytinfjidclkgfnaa
