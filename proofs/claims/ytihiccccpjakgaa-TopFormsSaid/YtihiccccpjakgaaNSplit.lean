/-
  The split of n leaves, by the program and by the specification.
-/
import Derived.Test.YtihiccccpjakgaaNNum
import Derived.Lib.BitFns
import Derived.Lib.Strings
import Derived.Lib.Slices
import Derived.Lib.Small
import Derived.Lib.Walk
namespace Go.Proofs.Ytihiccccpjakgaa
open Go.RowKit
/-- how many bits a number has -/
def blen (x : Nat) : Nat := if x = 0 then 0 else Nat.log2 x + 1
theorem blen_shift (x k : Nat) (h : 2 ^ k ≤ x) : blen x = k + blen (x / 2 ^ k) := by
  have hp : 0 < 2 ^ k := Nat.two_pow_pos k
  have hx : x ≠ 0 := by omega
  have hd : x / 2 ^ k ≠ 0 := by have := Nat.div_pos h hp; omega
  unfold blen
  rw [if_neg hx, if_neg hd]
  have h1 := Nat.log2_self_le hd
  have h2 := Nat.lt_log2_self (n := x / 2 ^ k)
  have e : Nat.log2 x = k + Nat.log2 (x / 2 ^ k) := by
    rw [Nat.log2_eq_iff hx]
    constructor
    · rw [Nat.pow_add]
      calc 2 ^ k * 2 ^ (x / 2 ^ k).log2 ≤ 2 ^ k * (x / 2 ^ k) := Nat.mul_le_mul_left _ h1
        _ ≤ x := Nat.mul_div_le x _
    · rw [Nat.add_assoc, Nat.pow_add]
      rw [Nat.mul_comm]; exact (Nat.div_lt_iff_lt_mul hp).1 h2
  omega
/-- the split from the bits of n - 1 -/
theorem spl_blen (n : Nat) (h : 2 ≤ n) : 2 ^ (blen (n - 1) - 1) = spl n := by
  unfold blen spl
  rw [if_neg (by omega)]
  rfl
theorem len8_all : ∀ n : Fin 256, Lib.len8 (n.val : Int) = (blen n.val : Int) := by decide +kernel
theorem len8_blen (b : Nat) (h : b < 256) : Lib.len8 (b : Int) = (blen b : Int) := len8_all ⟨b, h⟩
theorem len8_le (y : Int) (h0 : 0 ≤ y) (h1 : y < 256) : Lib.len8 y ≤ 8 ∧ 0 ≤ Lib.len8 y := by
  have h := len8_blen y.toNat (by omega)
  rw [Int.toNat_of_nonneg h0] at h
  have : ∀ n : Fin 256, blen n.val ≤ 8 := by decide +kernel
  have := this ⟨y.toNat, by omega⟩
  simp only at this
  omega
theorem len8_at (x k : Nat) (y : Int) (hk : k = 0 ∨ 2 ^ k ≤ x) (hy : x / 2 ^ k < 256) (e : y = ((x / 2 ^ k : Nat) : Int)) : (k : Int) + Lib.len8 y = (blen x : Int) := by
  rw [e, len8_blen _ hy]
  rcases hk with rfl | hk
  · simp
  · rw [blen_shift x k hk]; simp
theorem ret_i64 {a b : Int} (h : a = b) : Ending.returned (.int .i64 a) = .returned (.int .i64 b) := by rw [h]
set_option maxRecDepth 100000 in
theorem fold_tab : ByteArray.mk (List.toArray (List.append (List.append [0, 1, 2, 2, 3, 3, 3, 3, 4, 4, 4, 4, 4, 4, 4, 4, 5, 5, 5, 5, 5, 5, 5, 5, 5, 5, 5, 5, 5, 5, 5, 5, 6, 6, 6, 6, 6, 6, 6, 6, 6, 6, 6, 6, 6, 6, 6, 6, 6, 6, 6, 6, 6, 6, 6, 6, 6, 6, 6, 6, 6, 6, 6, 6] [7, 7, 7, 7, 7, 7, 7, 7, 7, 7, 7, 7, 7, 7, 7, 7, 7, 7, 7, 7, 7, 7, 7, 7, 7, 7, 7, 7, 7, 7, 7, 7, 7, 7, 7, 7, 7, 7, 7, 7, 7, 7, 7, 7, 7, 7, 7, 7, 7, 7, 7, 7, 7, 7, 7, 7, 7, 7, 7, 7, 7, 7, 7, 7]) (List.append [8, 8, 8, 8, 8, 8, 8, 8, 8, 8, 8, 8, 8, 8, 8, 8, 8, 8, 8, 8, 8, 8, 8, 8, 8, 8, 8, 8, 8, 8, 8, 8, 8, 8, 8, 8, 8, 8, 8, 8, 8, 8, 8, 8, 8, 8, 8, 8, 8, 8, 8, 8, 8, 8, 8, 8, 8, 8, 8, 8, 8, 8, 8, 8] [8, 8, 8, 8, 8, 8, 8, 8, 8, 8, 8, 8, 8, 8, 8, 8, 8, 8, 8, 8, 8, 8, 8, 8, 8, 8, 8, 8, 8, 8, 8, 8, 8, 8, 8, 8, 8, 8, 8, 8, 8, 8, 8, 8, 8, 8, 8, 8, 8, 8, 8, 8, 8, 8, 8, 8, 8, 8, 8, 8, 8, 8, 8, 8]))) = Lib.len8tab := rfl
set_option maxRecDepth 1000000 in
set_option maxHeartbeats 4000000 in
theorem len64_any (x : Int) (w : World) (h0 : 0 ≤ x) (h1 : x < 18446744073709551616) :
    Calls Try.prog 62 #[.int .u64 x] w fun e w' => e = .returned (.int .i64 (blen x.toNat)) ∧ w = w' := by
  have hf := fold_tab
  go_enter Try.func62, Try.ntmps62
  rw [hf]
  clear hf
  by_cases hx7 : 72057594037927936 ≤ x
  · have h4 : (4294967296 : Int) ≤ x := by omega
    have h2 : (65536 : Int) ≤ x / 4294967296 := by omega
    have h1 : (256 : Int) ≤ x / 4294967296 / 65536 := by omega
    have hi : ∀ (w : World), (Instr.index 9 (.string Lib.len8tab) (.int .u8 (x / 4294967296 / 65536 / 256))).run Try.prog w = .ok (.int .u8 (Lib.len8 (x / 4294967296 / 65536 / 256))) w := fun w => Lib.run_index_len8tab _ _ _ _ Try.underlying9 (by omega) (by omega)
    have hv := len8_at x.toNat 56 (x / 4294967296 / 65536 / 256) (by omega) (by omega) (by omega)
    have hb : Lib.len8 (x / 4294967296 / 65536 / 256) ≤ 8 ∧ 0 ≤ Lib.len8 (x / 4294967296 / 65536 / 256) := len8_le _ (by omega) (by omega)
    generalize hV : Lib.len8 (x / 4294967296 / 65536 / 256) = V at hi hv hb
    clear hV
    go_wp2
    go_ret
    exact ⟨ret_i64 hv, rfl⟩
  by_cases hx6 : 281474976710656 ≤ x
  · have h4 : (4294967296 : Int) ≤ x := by omega
    have h2 : (65536 : Int) ≤ x / 4294967296 := by omega
    have h1 : x / 4294967296 / 65536 < 256 := by omega
    have hi : ∀ (w : World), (Instr.index 9 (.string Lib.len8tab) (.int .u8 (x / 4294967296 / 65536))).run Try.prog w = .ok (.int .u8 (Lib.len8 (x / 4294967296 / 65536))) w := fun w => Lib.run_index_len8tab _ _ _ _ Try.underlying9 (by omega) (by omega)
    have hv := len8_at x.toNat 48 (x / 4294967296 / 65536) (by omega) (by omega) (by omega)
    have hb : Lib.len8 (x / 4294967296 / 65536) ≤ 8 ∧ 0 ≤ Lib.len8 (x / 4294967296 / 65536) := len8_le _ (by omega) (by omega)
    generalize hV : Lib.len8 (x / 4294967296 / 65536) = V at hi hv hb
    clear hV
    go_wp2
    go_ret
    exact ⟨ret_i64 hv, rfl⟩
  by_cases hx5 : 1099511627776 ≤ x
  · have h4 : (4294967296 : Int) ≤ x := by omega
    have h2 : x / 4294967296 < 65536 := by omega
    have h1 : (256 : Int) ≤ x / 4294967296 := by omega
    have hi : ∀ (w : World), (Instr.index 9 (.string Lib.len8tab) (.int .u8 (x / 4294967296 / 256))).run Try.prog w = .ok (.int .u8 (Lib.len8 (x / 4294967296 / 256))) w := fun w => Lib.run_index_len8tab _ _ _ _ Try.underlying9 (by omega) (by omega)
    have hv := len8_at x.toNat 40 (x / 4294967296 / 256) (by omega) (by omega) (by omega)
    have hb : Lib.len8 (x / 4294967296 / 256) ≤ 8 ∧ 0 ≤ Lib.len8 (x / 4294967296 / 256) := len8_le _ (by omega) (by omega)
    generalize hV : Lib.len8 (x / 4294967296 / 256) = V at hi hv hb
    clear hV
    go_wp2
    go_ret
    exact ⟨ret_i64 hv, rfl⟩
  by_cases hx4 : 4294967296 ≤ x
  · have h4 : (4294967296 : Int) ≤ x := by omega
    have h2 : x / 4294967296 < 65536 := by omega
    have h1 : x / 4294967296 < 256 := by omega
    have hi : ∀ (w : World), (Instr.index 9 (.string Lib.len8tab) (.int .u8 (x / 4294967296))).run Try.prog w = .ok (.int .u8 (Lib.len8 (x / 4294967296))) w := fun w => Lib.run_index_len8tab _ _ _ _ Try.underlying9 (by omega) (by omega)
    have hv := len8_at x.toNat 32 (x / 4294967296) (by omega) (by omega) (by omega)
    have hb : Lib.len8 (x / 4294967296) ≤ 8 ∧ 0 ≤ Lib.len8 (x / 4294967296) := len8_le _ (by omega) (by omega)
    generalize hV : Lib.len8 (x / 4294967296) = V at hi hv hb
    clear hV
    go_wp2
    go_ret
    exact ⟨ret_i64 hv, rfl⟩
  by_cases hx3 : 16777216 ≤ x
  · have h4 : x < 4294967296 := by omega
    have h2 : (65536 : Int) ≤ x := by omega
    have h1 : (256 : Int) ≤ x / 65536 := by omega
    have hi : ∀ (w : World), (Instr.index 9 (.string Lib.len8tab) (.int .u8 (x / 65536 / 256))).run Try.prog w = .ok (.int .u8 (Lib.len8 (x / 65536 / 256))) w := fun w => Lib.run_index_len8tab _ _ _ _ Try.underlying9 (by omega) (by omega)
    have hv := len8_at x.toNat 24 (x / 65536 / 256) (by omega) (by omega) (by omega)
    have hb : Lib.len8 (x / 65536 / 256) ≤ 8 ∧ 0 ≤ Lib.len8 (x / 65536 / 256) := len8_le _ (by omega) (by omega)
    generalize hV : Lib.len8 (x / 65536 / 256) = V at hi hv hb
    clear hV
    go_wp2
    go_ret
    exact ⟨ret_i64 hv, rfl⟩
  by_cases hx2 : 65536 ≤ x
  · have h4 : x < 4294967296 := by omega
    have h2 : (65536 : Int) ≤ x := by omega
    have h1 : x / 65536 < 256 := by omega
    have hi : ∀ (w : World), (Instr.index 9 (.string Lib.len8tab) (.int .u8 (x / 65536))).run Try.prog w = .ok (.int .u8 (Lib.len8 (x / 65536))) w := fun w => Lib.run_index_len8tab _ _ _ _ Try.underlying9 (by omega) (by omega)
    have hv := len8_at x.toNat 16 (x / 65536) (by omega) (by omega) (by omega)
    have hb : Lib.len8 (x / 65536) ≤ 8 ∧ 0 ≤ Lib.len8 (x / 65536) := len8_le _ (by omega) (by omega)
    generalize hV : Lib.len8 (x / 65536) = V at hi hv hb
    clear hV
    go_wp2
    go_ret
    exact ⟨ret_i64 hv, rfl⟩
  by_cases hx1 : 256 ≤ x
  · have h4 : x < 4294967296 := by omega
    have h2 : x < 65536 := by omega
    have h1 : (256 : Int) ≤ x := by omega
    have hi : ∀ (w : World), (Instr.index 9 (.string Lib.len8tab) (.int .u8 (x / 256))).run Try.prog w = .ok (.int .u8 (Lib.len8 (x / 256))) w := fun w => Lib.run_index_len8tab _ _ _ _ Try.underlying9 (by omega) (by omega)
    have hv := len8_at x.toNat 8 (x / 256) (by omega) (by omega) (by omega)
    have hb : Lib.len8 (x / 256) ≤ 8 ∧ 0 ≤ Lib.len8 (x / 256) := len8_le _ (by omega) (by omega)
    generalize hV : Lib.len8 (x / 256) = V at hi hv hb
    clear hV
    go_wp2
    go_ret
    exact ⟨ret_i64 hv, rfl⟩
  have h4 : x < 4294967296 := by omega
  have h2 : x < 65536 := by omega
  have h1 : x < 256 := by omega
  have hi : ∀ (w : World), (Instr.index 9 (.string Lib.len8tab) (.int .u8 (x))).run Try.prog w = .ok (.int .u8 (Lib.len8 (x))) w := fun w => Lib.run_index_len8tab _ _ _ _ Try.underlying9 (by omega) (by omega)
  have hv := len8_at x.toNat 0 (x) (by omega) (by omega) (by omega)
  have hb : Lib.len8 (x) ≤ 8 ∧ 0 ≤ Lib.len8 (x) := len8_le _ (by omega) (by omega)
  generalize hV : Lib.len8 (x) = V at hi hv hb
  clear hV
  go_wp2
  go_ret
  exact ⟨ret_i64 (by simpa using hv), rfl⟩
set_option maxRecDepth 100000 in
set_option maxHeartbeats 400000 in
theorem len_any (x : Int) (w : World) (h0 : 0 ≤ x) (h1 : x < 18446744073709551616) :
    Calls Try.prog 55 #[.int .u64 x] w fun e w' => e = .returned (.int .i64 (blen x.toNat)) ∧ w = w' := by
  go_enter Try.func55, Try.ntmps55
  go_wp2_with fail
  refine (len64_any x _ h0 h1).mono ?_
  rintro e w' ⟨rfl, rfl⟩
  go_wp2
  go_ret
  exact ⟨rfl, rfl⟩
theorem spl_le (n : Nat) (h : 2 ≤ n) (hm : n ≤ 9223372036854775807) : spl n ≤ 4611686018427387904 := by
  have h1 := spl_lt h
  have h2 : 2 ^ Nat.log2 (n - 1) < 2 ^ 63 := by unfold spl at h1; omega
  have h3 := (Nat.pow_lt_pow_iff_right (by omega : 1 < 2)).1 h2
  unfold spl
  exact Nat.pow_le_pow_right (by omega) (show Nat.log2 (n - 1) ≤ 62 by omega)
theorem blen_spl (n : Nat) (h : 2 ≤ n) (hm : n ≤ 9223372036854775807) : ∃ k, k ≤ 62 ∧ blen (n - 1) = k + 1 ∧ 2 ^ k = spl n := by
  refine ⟨Nat.log2 (n - 1), ?_, ?_, rfl⟩
  · have h1 := spl_lt h
    have h2 : 2 ^ Nat.log2 (n - 1) < 2 ^ 63 := by unfold spl at h1; omega
    have h3 := (Nat.pow_lt_pow_iff_right (by omega : 1 < 2)).1 h2
    omega
  · unfold blen; rw [if_neg (by omega)]
attribute [local irreducible] spl blen
set_option maxRecDepth 100000 in
set_option maxHeartbeats 400000 in
theorem split_any (n : Nat) (w : World) (h : 2 ≤ n) (hm : (n : Int) ≤ 9223372036854775807) :
    Calls Try.prog 41 #[.int .i64 n] w fun e w' => e = .returned (.int .i64 (spl n)) ∧ w = w' := by
  have hsl := spl_le n h (by omega)
  obtain ⟨k, hk, hb, hp⟩ := blen_spl n h (by omega)
  generalize spl n = S at hsl hp ⊢
  have hsl' : (S : Int) ≤ 4611686018427387904 := by omega
  have hp' : (2 : Int) ^ k = (S : Int) := by rw [← hp]; norm_cast
  have hm1 : ((n : Int) - 1).toNat = n - 1 := by omega
  have HB := Lib.hid hb
  clear hb hp hsl
  go_enter Try.func41, Try.ntmps41
  go_wp2_with fail
  refine (len_any _ _ (by omega) (by omega)).mono ?_
  rintro e w' ⟨rfl, rfl⟩
  rw [hm1, HB.out]
  go_wp2
  go_ret
  exact ⟨rfl, rfl⟩
end Go.Proofs.Ytihiccccpjakgaa
