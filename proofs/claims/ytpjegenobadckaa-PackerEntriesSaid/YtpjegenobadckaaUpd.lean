/-
  The program's checksum, continued over the bytes of a slice, is that of the plain mathematics; so is the specification's.
-/
import Derived.Test.YtpjegenobadckaaRem
namespace Go.Proofs.Ytpjegenobadckaa
open Go.RowKit
theorem zero_u32 : Value.int .u32 0 = .int .u32 (iv 0#32) := by rw [iv_ofNat 0 (by decide)]; rfl

/-- the bytes xs lie in the cells of the address ad on -/
structure Lies (w : World) (ad : Option Addr) (xs : List (BitVec 32)) : Prop where
  byte : ∀ j, j < xs.length → iv (xs.getD j 0#32) < 256
  at_ : xs = [] ∨ ∃ b off, ad = some ⟨b, off, none⟩ ∧ b < w.heap.size ∧ ∀ j, j < xs.length → w.cell? ⟨b, off + j, none⟩ = some (.int .u8 (iv (xs.getD j 0#32)))

set_option maxRecDepth 100000 in
set_option maxHeartbeats 1000000 in
theorem upd_any (s : BitVec 32) (ad : Option Addr) (cap : Nat) (xs : List (BitVec 32)) (w : World) (hl : Lies w ad xs) (hm : xs.length ≤ 1152921504606846976) :
    Calls Try.prog 48 #[.int .u32 (iv s), .slice ad xs.length cap] w fun e w' => e = .returned (.int .u32 (iv (updB s xs))) ∧
      w' = ((w.alloc (.cells (cellsOf tabB) 79)).alloc (.cells (cellsOf tabB) 79)).alloc (.cells (cellsOf tabB) 79) := by
  have hz := zeroTab
  go_enter Try.func48, Try.ntmps48
  go_wp2_with fail
  refine (rem_any _).mono ?_
  rintro e w' ⟨rfl, rfl⟩
  go_wp2_with fail
  rw [run_storeCells_last (P := Try.prog) _ (w.heap.size + 1 + 1) (by simp) 79 (cellsOf fun _ => 0#32) (cellsOf tabB) (by rw [cellsOf_size, cellsOf_size]) (cellsOf_one _)]
  simp only [Result.andThen]
  rw [Oper.upon_skip]
  clear hz
  clear ‹(cellsOf tabB).size = 256›
  have hnot := bits_not s
  go_wp2
  go_loop [6, 14] (fun vr vk => ∃ k : Nat, k ≤ xs.length ∧ vk = .int .i64 k ∧ vr = .int .u32 (iv (regB (~~~ s) (xs.take k)))) (fun _ i => xs.length - (intOf i).toNat)
  case atStart => exact ⟨0, Nat.zero_le _, rfl, rfl⟩
  case round =>
    obtain ⟨k, hk, rfl, rfl⟩ := hrel
    by_cases hlt : k < xs.length
    · obtain ⟨b, off, rfl, hb, hc⟩ := hl.at_.resolve_left (by intro h; subst h; simp at hlt)
      have hx1 := hl.byte k hlt
      have hx0 := iv_lo (xs.getD k 0#32)
      have hcell := hc k hlt
      clear hc
      obtain ⟨x, hx⟩ : ∃ x, xs.getD k 0#32 = x := ⟨_, rfl⟩
      obtain ⟨R, hR⟩ : ∃ R, regB (~~~ s) (xs.take k) = R := ⟨_, rfl⟩
      rw [hx] at hcell hx0 hx1
      rw [hR]
      have HN : Hid (Value.int .u32 (iv (afterB R x)) = .int .u32 (iv (regB (~~~ s) (xs.take (k + 1))))) := Lib.hid (by rw [regB_take _ _ _ hlt, hR, hx])
      clear hx hR
      have hi := low_xor R x hx1
      have hi2 := lowI_lt R x
      have ht := cellsOf_get tabB (lowI R x) hi2
      have ha := tab_after R x hx1
      have hb1 : b < w.heap.size + 1 := by omega
      have hb2 : b < w.heap.size + 1 + 1 := by omega
      clear hl
      go_wp2
      go_round
      case rel => exact ⟨k + 1, by omega, by go_num, HN.out⟩
      case measure => simp [intOf]; omega
    · obtain rfl : k = xs.length := by omega
      rw [List.take_length]
      go_wp2
      go_ret
      exact ⟨ret_u32 (by rw [bits_not]; rfl), rfl⟩

set_option maxRecDepth 100000 in
set_option maxHeartbeats 1000000 in
theorem sum_any (ad : Option Addr) (cap : Nat) (xs : List (BitVec 32)) (w : World) (hl : Lies w ad xs) (hm : xs.length ≤ 1152921504606846976) :
    Calls Try.prog 40 #[.slice ad xs.length cap] w fun e w' => e = .returned (.int .u32 (iv (updB 0#32 xs))) ∧
      w' = ((w.alloc (.cells (cellsOf tabB) 79)).alloc (.cells (cellsOf tabB) 79)).alloc (.cells (cellsOf tabB) 79) := by
  go_enter Try.func40, Try.ntmps40
  go_wp2_with fail
  rw [zero_u32]
  refine (upd_any 0#32 ad cap xs w hl hm).mono ?_
  rintro e w' ⟨rfl, rfl⟩
  go_wp2
  go_ret
  exact ⟨rfl, rfl⟩

/-! The specification's own. -/
theorem steps_from (r : BitVec 32) (k : Nat) : stepB (stepsB k r) = stepsB (k + 1) r := (stepsB_succ' k r).symm
set_option maxRecDepth 100000 in
set_option maxHeartbeats 400000 in
theorem rafter_any (r x : BitVec 32) (w : World) (hx : iv x < 256) :
    Calls Try.prog 53 #[.int .u32 (iv r), .int .u8 (iv x)] w fun e w' => e = .returned (.int .u32 (iv (afterB r x))) ∧ w = w' := by
  have hb := bits_xor_iv r x
  have h0 := iv_lo x
  go_enter Try.func53, Try.ntmps53
  go_wp2
  go_loop [0, 5] (fun vr vk => ∃ k : Nat, k ≤ 8 ∧ vk = .int .i64 k ∧ vr = .int .u32 (iv (stepsB k (r ^^^ x)))) (fun _ i => 8 - (intOf i).toNat)
  case atStart => exact ⟨0, Nat.zero_le _, rfl, rfl⟩
  case round =>
    obtain ⟨k, hk, rfl, rfl⟩ := hrel
    by_cases hlt : k < 8
    · have HN := Lib.hid (steps_from (r ^^^ x) k)
      go_wp2_with fail
      refine (rstep_any _ _).mono ?_
      rintro e w' ⟨rfl, rfl⟩
      go_wp2
      go_round
      case rel => exact ⟨k + 1, by omega, by go_num, by rw [HN.out]⟩
      case measure => simp [intOf]; omega
    · obtain rfl : k = 8 := by omega
      go_wp2
      go_ret
      exact ⟨rfl, rfl⟩

set_option maxRecDepth 100000 in
set_option maxHeartbeats 1000000 in
theorem rupd_any (s : BitVec 32) (ad : Option Addr) (cap : Nat) (xs : List (BitVec 32)) (w : World) (hl : Lies w ad xs) (hm : xs.length ≤ 1152921504606846976) :
    Calls Try.prog 49 #[.int .u32 (iv s), .slice ad xs.length cap] w fun e w' => e = .returned (.int .u32 (iv (updB s xs))) ∧ w = w' := by
  have hnot := bits_not s
  go_enter Try.func49, Try.ntmps49
  go_wp2
  go_loop [5, 6] (fun vr vk => ∃ k : Nat, k ≤ xs.length ∧ vk = .int .i64 k ∧ vr = .int .u32 (iv (regB (~~~ s) (xs.take k)))) (fun _ i => xs.length - (intOf i).toNat)
  case atStart => exact ⟨0, Nat.zero_le _, rfl, rfl⟩
  case round =>
    obtain ⟨k, hk, rfl, rfl⟩ := hrel
    by_cases hlt : k < xs.length
    · obtain ⟨b, off, rfl, hb, hc⟩ := hl.at_.resolve_left (by intro h; subst h; simp at hlt)
      have hx1 := hl.byte k hlt
      have hx0 := iv_lo (xs.getD k 0#32)
      have hcell := hc k hlt
      clear hc
      obtain ⟨x, hx⟩ : ∃ x, xs.getD k 0#32 = x := ⟨_, rfl⟩
      obtain ⟨R, hR⟩ : ∃ R, regB (~~~ s) (xs.take k) = R := ⟨_, rfl⟩
      rw [hx] at hcell hx0 hx1
      rw [hR]
      have HN : Hid (Value.int .u32 (iv (afterB R x)) = .int .u32 (iv (regB (~~~ s) (xs.take (k + 1))))) := Lib.hid (by rw [regB_take _ _ _ hlt, hR, hx])
      clear hx hR hl
      go_wp2_with fail
      refine (rafter_any _ _ _ hx1).mono ?_
      rintro e w' ⟨rfl, rfl⟩
      go_wp2
      go_round
      case rel => exact ⟨k + 1, by omega, by go_num, HN.out⟩
      case measure => simp [intOf]; omega
    · obtain rfl : k = xs.length := by omega
      rw [List.take_length]
      go_wp2
      go_ret
      exact ⟨ret_u32 (by rw [bits_not]; rfl), rfl⟩

set_option maxRecDepth 100000 in
set_option maxHeartbeats 1000000 in
theorem rsum_any (ad : Option Addr) (cap : Nat) (xs : List (BitVec 32)) (w : World) (hl : Lies w ad xs) (hm : xs.length ≤ 1152921504606846976) :
    Calls Try.prog 41 #[.slice ad xs.length cap] w fun e w' => e = .returned (.int .u32 (iv (updB 0#32 xs))) ∧ w = w' := by
  go_enter Try.func41, Try.ntmps41
  go_wp2_with fail
  rw [zero_u32]
  refine (rupd_any 0#32 ad cap xs w hl hm).mono ?_
  rintro e w' ⟨rfl, rfl⟩
  go_wp2
  go_ret
  exact ⟨rfl, rfl⟩
end Go.Proofs.Ytpjegenobadckaa
