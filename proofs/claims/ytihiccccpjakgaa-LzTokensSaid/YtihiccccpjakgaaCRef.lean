/-
  The document's own Uint: its contract.
-/
import Derived.Test.YtihiccccpjakgaaCRead
namespace Go.Proofs.Ytihiccccpjakgaa
open Go.RowKit

set_option maxRecDepth 100000 in
set_option maxHeartbeats 1000000 in
theorem ruint_end (ad : Option Addr) (cap n : Nat) (w : World) (hs : n ≤ 1000000) :
    Calls Try.prog 30 #[.slice ad n cap, .int .i64 n] w fun e w' => e = .returned (.tuple #[.int .u64 0, .int .i64 0, .int .i64 2]) ∧ w = w' := by
  have h1 : decide ((n : Int) < 0) = false := by simp
  have h2 : decide (n < n) = false := by simp
  go_enter Try.func30, Try.ntmps30
  go_wp2
  go_loop [9] (fun i => i = .int .i64 0) (fun _ => 0)
  case atStart => rfl
  case round =>
    subst hrel
    go_wp2
    go_ret3
    exact ⟨rfl, rfl⟩

theorem mul_any (v F acc : Nat) :
    ∃ r : Nat, IntKind.u64.wrap ((acc : Int) + IntKind.u64.wrap ((v : Int) * (F : Int))) = (r : Int) ∧ r < 18446744073709551616 ∧ (acc + v * F < 18446744073709551616 → r = acc + v * F) := by
  refine ⟨(acc + v * F) % 18446744073709551616, ?_, Nat.mod_lt _ (by omega), fun h => Nat.mod_eq_of_lt h⟩
  rw [IntKind.wrap_u64, IntKind.wrap_u64, show ((v : Int) * (F : Int)) = ((v * F : Nat) : Int) by simp]
  generalize v * F = x
  omega
theorem next_any (F : Nat) :
    ∃ G : Nat, IntKind.u64.wrap ((F : Int) * 128) = (G : Int) ∧ G < 18446744073709551616 ∧ (F * 128 < 18446744073709551616 → G = F * 128) := by
  refine ⟨(F * 128) % 18446744073709551616, ?_, Nat.mod_lt _ (by omega), fun h => Nat.mod_eq_of_lt h⟩
  rw [IntKind.wrap_u64]
  omega
theorem sum_lt (k v acc : Nat) (hk : k ≤ 9) (ha : acc < 128 ^ k) (hv : v < 128) (h9 : k = 9 → v ≤ 1) : acc + v * 128 ^ k < 18446744073709551616 := by
  by_cases h : k = 9
  · subst h
    have := h9 rfl
    omega
  · have h8 : (128 : Nat) ^ k ≤ 128 ^ 8 := Nat.pow_le_pow_right (by omega) (by omega)
    have := Nat.mul_le_mul (show v ≤ 127 by omega) h8
    omega

set_option maxRecDepth 100000 in
set_option maxHeartbeats 600000 in
theorem ruint_mid (b off cap : Nat) (xs : List UInt8) (at_ : Nat) (w : World) (hl : Lie w (some ⟨b, off, none⟩) xs) (hs : xs.length ≤ 1000000) (ha : at_ < xs.length) :
    Calls Try.prog 30 #[.slice (some ⟨b, off, none⟩) xs.length cap, .int .i64 at_] w fun e w' =>
      e = .returned (.tuple #[.int .u64 (dec 0 0 (xs.drop at_)).1, .int .i64 (endOf at_ (dec 0 0 (xs.drop at_))), .int .i64 (dec 0 0 (xs.drop at_)).2.2]) ∧ w = w' := by
  have hcell : ∀ k (h : k < (xs.drop at_).length), w.cell? ⟨b, off + (at_ + k), none⟩ = some (.int .u8 (((xs.drop at_)[k]'h).toNat : Int)) := by
    intro k h
    rcases hl.at_ with h0 | ⟨b', off', hbo, _, hc⟩
    · subst h0; simp at ha
    · cases hbo
      have := hc (at_ + k) (by simp at h; omega)
      rw [this]
      simp
  generalize htl : xs.drop at_ = tl at hcell ⊢
  have hlen : tl.length = xs.length - at_ := by rw [← htl]; simp
  have hge : xs.length = at_ + tl.length := by omega
  have hpos : 0 < tl.length := by omega
  have HC := Lib.hid hcell
  clear hcell hl htl hlen
  generalize xs.length = n at hs ha hge ⊢
  subst hge
  have h1 : decide ((at_ : Int) < 0) = false := by simp
  have h2 : decide (at_ + tl.length < at_) = false := by simp
  go_enter Try.func30, Try.ntmps30
  go_wp2
  go_loop [7, 8, 9] (fun n f i => ∃ k acc F : Nat, k ≤ tl.length ∧ k ≤ 10 ∧ i = .int .i64 k ∧ n = .int .u64 acc ∧ f = .int .u64 F ∧ acc < 18446744073709551616 ∧ F < 18446744073709551616 ∧ (k ≤ 9 → acc < 128 ^ k ∧ F = 128 ^ k) ∧ dec 0 0 tl = dec k acc (tl.drop k)) (fun _ _ i => (10 - intOf i).toNat)
  case atStart => exact ⟨0, 0, 1, by omega, by omega, rfl, rfl, rfl, by omega, by omega, fun _ => by simp, rfl⟩
  case round =>
    obtain ⟨k, acc, F, hk1, hk2, rfl, rfl, rfl, hacc, hF, hpow, hd⟩ := hrel
    by_cases hkb : k < 10
    · by_cases hka : k < tl.length
      · have hc := HC.out k hka
        have HD := Lib.hid (dec_round hka hd hkb)
        have hx := (tl[k]).toNat_lt
        have HP := Lib.hid (hpow (by omega))
        clear hpow hd
        generalize (tl[k]).toNat = v at *
        by_cases hv : v < 128
        · have hdd := HD.out.1 hv
          clear HD
          by_cases h9 : k = 9 ∧ 1 < v
          · rw [if_pos h9] at hdd
            have HD := Lib.hid hdd
            obtain ⟨rfl, h9⟩ := h9
            clear hdd
            go_wp2
            go_ret3
            exact ⟨by rw [HD.out]; rfl, rfl⟩
          · rw [if_neg h9] at hdd
            by_cases h0 : 0 < k ∧ v = 0
            · rw [if_pos h0] at hdd
              have HD := Lib.hid hdd
              obtain ⟨h0, rfl⟩ := h0
              clear hdd
              go_wp2
              all_goals
                go_ret3
                exact ⟨by rw [HD.out]; rfl, rfl⟩
            · rw [if_neg h0] at hdd
              obtain ⟨r, hr, _, hv2⟩ := mul_any v F acc
              obtain rfl : r = acc + v * 128 ^ k := by
                have h1 := HP.out
                rw [hv2 (by rw [h1.2]; exact sum_lt k v acc (by omega) h1.1 hv (by omega)), h1.2]
              have HD := Lib.hid hdd
              clear hdd hv2
              by_cases hk9 : k = 9
              · subst hk9
                go_wp2
                go_ret3
                exact ⟨by rw [HD.out]; rfl, rfl⟩
              · go_wp2
                all_goals
                  go_ret3
                  exact ⟨by rw [HD.out]; rfl, rfl⟩
        · have hdd := HD.out.2 hv
          clear HD
          obtain ⟨u, rfl⟩ : ∃ u, v = u + 128 := ⟨v - 128, by omega⟩
          rw [Nat.add_sub_cancel] at hdd
          obtain ⟨r, hr, hr2, hv2⟩ := mul_any u F acc
          obtain ⟨G, hG, hG2, hG3⟩ := next_any F
          have HV := Lib.hid hv2
          have HG := Lib.hid hG3
          have HD := Lib.hid hdd
          clear hdd hv2 hG3
          go_wp2
          have hstep : k ≤ 8 → r = acc + u * 128 ^ k := fun h8 => by
            have h1 := HP.out
            rw [HV.out (by rw [h1.2]; exact sum_lt k u acc (by omega) h1.1 (by omega) (by omega)), h1.2]
          refine ⟨⟨k + 1, r, G, by omega, by omega, by go_num, rfl, rfl, hr2, hG2, fun h => ⟨?_, ?_⟩, ?_⟩, by simp [intOf]; omega⟩
          · rw [hstep (by omega)]
            exact acc_lt k u acc HP.out.1 (by omega)
          · have h1 := HP.out.2
            have hp := pow_small (k + 1) h
            rw [Nat.pow_succ] at hp ⊢
            rw [← h1] at hp ⊢
            exact HG.out (by omega)
          · rw [HD.out]
            by_cases h9 : k = 9
            · subst h9
              exact dec_acc _ _ _
            · rw [hstep (by omega)]
      · obtain rfl : k = tl.length := by omega
        have hf : dec 0 0 tl = (0, 0, 2) := by
          rw [hd, List.drop_length]
          simp only [dec]
          rw [if_neg (by omega)]
        have HD := Lib.hid hf
        clear hf hd hpow
        go_wp2
        go_ret3
        exact ⟨by rw [HD.out]; rfl, rfl⟩
    · obtain rfl : k = 10 := by omega
      have hf : dec 0 0 tl = (0, 0, 6) := by rw [hd, dec_full]
      have HD := Lib.hid hf
      clear hf hd hpow
      go_wp2
      go_ret3
      exact ⟨by rw [HD.out]; rfl, rfl⟩

set_option maxRecDepth 100000 in
set_option maxHeartbeats 1000000 in
theorem ruint_any (ad : Option Addr) (cap : Nat) (xs : List UInt8) (at_ : Int) (w : World) (hl : Lie w ad xs) (hs : xs.length ≤ 1000000) :
    Calls Try.prog 30 #[.slice ad xs.length cap, .int .i64 at_] w fun e w' =>
      e = .returned (.tuple #[.int .u64 (uR xs at_).1, .int .i64 (uR xs at_).2.1, .int .i64 (uR xs at_).2.2]) ∧ w = w' := by
  unfold uR
  by_cases ho : at_ < 0 ∨ xs.length < at_
  · rw [if_pos ho]
    have ho' : at_ < 0 ∨ 0 ≤ at_ ∧ xs.length < at_ := by omega
    clear hl ho
    rcases ho' with h | ⟨h0, h⟩
    all_goals
      go_enter Try.func30, Try.ntmps30
      go_wp2
      go_ret3
      exact ⟨rfl, rfl⟩
  · rw [if_neg ho]
    obtain ⟨n, rfl⟩ : ∃ n : Nat, at_ = n := ⟨at_.toNat, by omega⟩
    rw [Int.toNat_natCast]
    by_cases he : n < xs.length
    · rcases hl.at_ with h0 | ⟨b, off, rfl, _⟩
      · subst h0; simp at he
      · exact ruint_mid b off cap xs n w hl hs he
    · obtain rfl : n = xs.length := by omega
      rw [List.drop_length]
      exact ruint_end ad cap xs.length w hs
end Go.Proofs.Ytihiccccpjakgaa
