/-
  The statements LzRoundTrip and LzShrinks.
-/
import Derived.Test.YtihiccccpjakgaaZLives
import Derived.Test.YtihiccccpjakgaaZPack
import Derived.Test.YtihiccccpjakgaaZShr
namespace Go.Proofs.Ytihiccccpjakgaa
open Go.RowKit
set_option linter.unusedVariables false
set_option linter.unusedSimpArgs false
attribute [local irreducible] packU
set_option maxRecDepth 100000 in
set_option maxHeartbeats 1000000 in
theorem law_round (ad : Option Addr) (cap : Nat) (xs : List UInt8) (m : Nat) (w : World) (hl : Lie w ad xs) (hn : xs.length ≤ cap) (hcm : cap ≤ maxLen) (ha : ad = none → cap = 0) (hm : m < 256) :
    Calls Try.prog 5 #[.slice ad xs.length cap, .int .u8 m] w fun e w' => e = .returned (.bool true) ∧ Below w.heap.size w w' := by
  obtain ⟨N, hN⟩ : ∃ N, xs.length = N := ⟨_, rfl⟩
  have HN := Lib.hid hN
  have HL := Lib.hid hl
  have HA := Lib.hid ha
  unfold maxLen at hcm
  by_cases h1 : 65536 < N
  · have h1' : (65536 : Int) < (N : Int) := by omega
    have hn' : N ≤ 9223372036854775807 := by omega
    rw [hN]
    clear hl ha hn hN
    go_enter Try.func5, Try.ntmps5
    go_wp2_with fail
    refine (lives_any _).mono ?_
    rintro e w2 ⟨rfl, hb⟩
    have HB := Lib.hid hb
    clear hb
    go_wp2
    go_ret
    exact ⟨rfl, HB.out⟩
  have h1' : decide ((65536 : Int) < (N : Int)) = false := by simp; omega
  have hp0 : xs.length = 0 → (packU xs).length = 0 := fun h => by rw [List.eq_nil_of_length_eq_zero h, pack_nil]; rfl
  have hpl := pack_len (xs := xs) (by omega)
  have hpu := pack_unq (xs := xs) (by omega) (N + m)
  rw [if_neg (by omega)] at hpu
  have HP := Lib.hid (fun (a : Option Addr) (c : Nat) (W : World) (h : Lie W a xs) (h1 : xs.length ≤ c) (h2 : c ≤ maxLen) (h3 : a = none → c = 0) => pack_any a c xs W h h1 h2 (by omega) h3)
  obtain ⟨p, hp⟩ : ∃ p, packU xs = p := ⟨_, rfl⟩
  rw [hp] at HP hpl hpu hp0
  have H1 := Lib.hid (fun (a : Option Addr) (c : Nat) (W : World) (h : Lie W a p) (h1 : p.length ≤ c) (h3 : a = none → c = 0) => unpack_any a c p ((N : Int) + (m : Int)) W h h1 (by omega) h3 (by omega))
  have H2 := Lib.hid (fun (a : Option Addr) (c : Nat) (W : World) (h : Lie W a p) (h1 : p.length ≤ c) (h3 : a = none → c = 0) => size_any a c p ((N : Int) + (m : Int)) W h h1 (by omega) h3 (by omega))
  rw [show ((N : Int) + (m : Int)).toNat = N + m by omega, hpu] at H1 H2
  obtain ⟨M, hM⟩ : ∃ M, p.length = M := ⟨_, rfl⟩
  rw [hM] at hpl hp0 H1 H2
  rw [hN] at hpl hp0 ⊢
  have HMM := Lib.hid hM
  rw [hN] at HP
  clear hl ha hn hp hpu hN hM
  go_enter Try.func5, Try.ntmps5
  go_wp2_with fail
  refine (lives_any _).mono ?_
  rintro e w2 ⟨rfl, hb⟩
  have HB := Lib.hid hb
  have HOE := Lib.hid (Own.made w2)
  have HB2 : Hid (Below w.heap.size w (w2.alloc (.cells #[] 5))) := Lib.hid (hb.alloc hb.size _)
  clear hb
  go_wp2_with (at_builtin; refine wpList_append_u rfl (.tmp 15) (.tmp 16) rfl w2.heap.size _ [] rfl HOE.out ad _ cap xs HA.out (HL.out.below HB2.out rfl) HN.out.symm rfl (by simp; omega) (by simp) ?_; intro v3 w3 hown3 hgrow3; have HB3 := Lib.hid (HB2.out.grown hgrow3 (by have := HB.out.size; simp; omega) (fun k hk => Nat.le_trans HB.out.size (HOE.out.lt k hk).1)); obtain ⟨a3, c3, e3, hl3, hn3, hm3, ha3⟩ := hown3.slice; rw [List.nil_append] at hl3 e3 hn3; have HL3 := Lib.hid hl3; have HA3 := Lib.hid ha3; have HM3 := Lib.hid hm3; have HN3 := Lib.hid hn3; rw [HN.out] at e3; subst e3; clear hown3 hgrow3 hl3 hn3 hm3 ha3)
  go_wp2_with fail
  refine (HP.out a3 c3 w3 HL3.out (by have := HN3.out; rw [HN.out] at this; exact this) HM3.out HA3.out).mono ?_
  rintro e w4 ⟨v4, rfl, ho4, hb4⟩
  obtain ⟨a4, c4, rfl, hl4, hn4, hm4, ha4⟩ := ho4.slice
  rw [HMM.out] at hn4 ⊢
  have HL4 := Lib.hid hl4
  have HN4 := Lib.hid hn4
  have HA4 := Lib.hid ha4
  have HB4 := Lib.hid (HB3.out.trans (hb4.mono HB3.out.size))
  clear ho4 hl4 hn4 hm4 ha4 hb4
  go_wp2_with fail
  refine (H1.out a4 c4 w4 HL4.out HN4.out HA4.out).mono ?_
  rintro e w5 ⟨v5, rfl, ho5, hb5⟩
  obtain ⟨a5, c5, rfl, hl5, _, _, _⟩ := ho5.slice
  dsimp only at hl5 ⊢
  rw [HN.out]
  have HL5 := Lib.hid hl5
  have HB45 := Lib.hid hb5
  have HB5 := Lib.hid (HB4.out.trans (hb5.mono HB4.out.size))
  clear ho5 hl5 hb5
  go_wp2_with fail
  refine (H2.out a4 c4 w5 (HL4.out.below HB45.out rfl) HN4.out HA4.out).mono ?_
  rintro e w6 ⟨hv6, hb6⟩
  unfold ScV at hv6
  subst hv6
  dsimp only
  rw [HN.out]
  have HB6 := Lib.hid (HB5.out.trans (hb6.mono HB5.out.size))
  have hc5 := conv_lie c5 (HL5.out.below hb6 rfl)
  have hc0 := conv_lie cap (HL.out.below HB6.out rfl)
  rw [HN.out] at hc5 hc0
  clear hb6
  by_cases hz : N = 0
  · subst hz
    have hM0 := hp0 rfl
    subst hM0
    go_wp2
    go_ret
    exact ⟨rfl, HB6.out⟩
  · have hz' : 0 < N := by omega
    clear hp0
    go_wp2
    go_ret
    exact ⟨rfl, HB6.out⟩
set_option maxRecDepth 100000 in
set_option maxHeartbeats 1000000 in
theorem law_shrinks (ad : Option Addr) (cap : Nat) (xs : List UInt8) (t : Nat) (w : World) (hl : Lie w ad xs) (hn : xs.length ≤ cap) (hcm : cap ≤ maxLen) (ha : ad = none → cap = 0) (ht : t < 65536) :
    Calls Try.prog 7 #[.slice ad xs.length cap, .int .u16 t] w fun e w' => e = .returned (.bool true) ∧ Below w.heap.size w w' := by
  obtain ⟨N, hN⟩ : ∃ N, xs.length = N := ⟨_, rfl⟩
  have HN := Lib.hid hN
  have HL := Lib.hid hl
  have HA := Lib.hid ha
  unfold maxLen at hcm
  rw [hN] at hn ⊢
  by_cases hno : N < 1 ∨ 32 < N ∨ t < 2 ∨ 3000 < t
  · have hcase : (N < 1) ∨ (1 ≤ N ∧ 32 < N) ∨ (1 ≤ N ∧ N ≤ 32 ∧ t < 2) ∨ (1 ≤ N ∧ N ≤ 32 ∧ 2 ≤ t ∧ 3000 < t) := by omega
    have hn' : N ≤ 9223372036854775807 := by omega
    clear hl ha hn hN hno
    rcases hcase with h1 | ⟨h1, h2⟩ | ⟨h1, h2, h3⟩ | ⟨h1, h2, h3, h4⟩
    all_goals
      go_enter Try.func7, Try.ntmps7
      go_wp2_with fail
      refine (lives_any _).mono ?_
      rintro e w2 ⟨rfl, hb⟩
      have HB := Lib.hid hb
      clear hb
      go_wp2
      go_ret
      exact ⟨rfl, HB.out⟩
  have h1 : 1 ≤ N := by omega
  have h2 : N ≤ 32 := by omega
  have h3 : 2 ≤ t := by omega
  have h4 : t ≤ 3000 := by omega
  obtain ⟨ys, hys⟩ : ∃ ys, repU xs t = ys := ⟨_, rfl⟩
  have hyl := repU_length xs t
  have hsh := pack_shr xs t (by omega) (by omega) h3 h4
  rw [hys] at hyl hsh
  rw [hN] at hyl hsh
  have hy1 : ys.length ≤ 3000 * 32 := by rw [hyl]; exact Nat.mul_le_mul h4 h2
  have hpu := pack_unq (xs := ys) (by omega) ys.length
  rw [if_neg (by omega)] at hpu
  have HP := Lib.hid (fun (a : Option Addr) (c : Nat) (W : World) (h : Lie W a ys) (h1 : ys.length ≤ c) (h2 : c ≤ maxLen) (h3 : a = none → c = 0) => pack_any a c ys W h h1 h2 (by omega) h3)
  obtain ⟨p, hp⟩ : ∃ p, packU ys = p := ⟨_, rfl⟩
  rw [hp] at HP hsh hpu
  obtain ⟨Y, hY⟩ : ∃ Y, ys.length = Y := ⟨_, rfl⟩
  have HY := Lib.hid hY
  have H1 := Lib.hid (fun (a : Option Addr) (c : Nat) (W : World) (h : Lie W a p) (h1 : p.length ≤ c) (h3 : a = none → c = 0) => unpack_any a c p (Y : Int) W h h1 (by omega) h3 (by omega))
  rw [hY] at hpu
  rw [Int.toNat_natCast, hpu] at H1
  obtain ⟨M, hM⟩ : ∃ M, p.length = M := ⟨_, rfl⟩
  have HMM := Lib.hid hM
  rw [hM] at H1 hsh
  rw [hY] at HP hy1
  have HRU := Lib.hid hys
  clear hl ha hn hp hpu hN hM hys hyl hY
  go_enter Try.func7, Try.ntmps7
  go_wp2_with fail
  refine (lives_any _).mono ?_
  rintro e w2 ⟨rfl, hb⟩
  have HB := Lib.hid hb
  have HOE := Lib.hid (Own.made w2)
  have HB2 : Hid (Below w.heap.size w (w2.alloc (.cells #[] 5))) := Lib.hid (hb.alloc hb.size _)
  clear hb
  go_wp2
  go_loopw [5, 6] (fun u5 u6 wr => ∃ k : Nat, u6 = .int .i64 k ∧ k ≤ t ∧ Hid (Own wr w.heap.size u5 (repU xs k)) ∧ Hid (Below w.heap.size w wr)) (fun _ u6 _ => t - (intOf u6).toNat)
  case atStart => exact ⟨0, rfl, Nat.zero_le _, Lib.hid (HOE.out.mono HB.out.size), HB2⟩
  case round =>
    obtain ⟨k, rfl, hk, ho, hb⟩ := hrel
    by_cases hlt : k < t
    · have hrl : (repU xs k).length ≤ 3000 * 32 := by rw [repU_length, HN.out]; exact Nat.mul_le_mul (by omega) h2
      have HRL := Lib.hid hrl
      clear hrl
      go_wp2_with (at_builtin; refine wpList_append_u rfl (.tmp 35) (.tmp 36) rfl w.heap.size _ (repU xs k) rfl ho.out ad _ cap xs HA.out (HL.out.below hb.out rfl) HN.out.symm rfl (by have := HRL.out; omega) hb.out.size ?_; intro v3 w3 hown3 hgrow3)
      have HO3 := Lib.hid hown3
      have HG3 := Lib.hid hgrow3
      clear hown3 hgrow3
      go_wp2
      refine ⟨⟨k + 1, by rw [Int.natCast_add]; rfl, by omega, HO3, Lib.hid (hb.out.grown HG3.out hb.out.size (fun q hq => (ho.out.lt q hq).1))⟩, ?_⟩
      show t - ((k : Int) + 1).toNat < t - (k : Int).toNat
      omega
    · obtain rfl : k = t := by omega
      rw [HRU.out] at ho
      obtain ⟨a3, c3, rfl, hl3, hn3, hm3, ha3⟩ := ho.out.slice
      rw [HY.out] at hn3 ⊢
      have HL3 := Lib.hid hl3
      have HN3 := Lib.hid hn3
      have HM3 := Lib.hid hm3
      have HA3 := Lib.hid ha3
      clear hl3 hn3 hm3 ha3 ho
      go_wp2_with fail
      refine (HP.out a3 c3 _ HL3.out HN3.out HM3.out HA3.out).mono ?_
      rintro e w4 ⟨v4, rfl, ho4, hb4⟩
      obtain ⟨a4, c4, rfl, hl4, hn4, hm4, ha4⟩ := ho4.slice
      rw [HMM.out] at hn4 ⊢
      have HL4 := Lib.hid hl4
      have HN4 := Lib.hid hn4
      have HA4 := Lib.hid ha4
      have HB34 := Lib.hid hb4
      have HB4 := Lib.hid (hb.out.trans (hb4.mono hb.out.size))
      clear ho4 hl4 hn4 hm4 ha4 hb4
      go_wp2_with fail
      refine (H1.out a4 c4 w4 HL4.out HN4.out HA4.out).mono ?_
      rintro e w5 ⟨v5, rfl, ho5, hb5⟩
      obtain ⟨a5, c5, rfl, hl5, _, _, _⟩ := ho5.slice
      dsimp only at hl5 ⊢
      rw [HY.out]
      have HB5 := Lib.hid (HB4.out.trans (hb5.mono HB4.out.size))
      have hc5 := conv_lie c5 hl5
      have hc3 := conv_lie c3 (HL3.out.below (HB34.out.trans (hb5.mono HB34.out.size)) rfl)
      rw [HY.out] at hc5 hc3
      clear ho5 hl5 hb5
      go_wp2
      go_ret
      exact ⟨rfl, HB5.out⟩
end Go.Proofs.Ytihiccccpjakgaa
