/-
  The statements LzUnpacks and LzBounded.
-/
import Derived.Test.YtihiccccpjakgaaZLives
import Derived.Test.YtihiccccpjakgaaZPack
namespace Go.Proofs.Ytihiccccpjakgaa
open Go.RowKit
set_option linter.unusedVariables false
set_option linter.unusedSimpArgs false
attribute [local irreducible] packU
set_option maxRecDepth 100000 in
set_option maxHeartbeats 1000000 in
theorem law_unpacks (ad : Option Addr) (cap : Nat) (xs : List UInt8) (most : Int) (w : World) (hl : Lie w ad xs) (hn : xs.length ≤ cap) (hcm : cap ≤ maxLen) (ha : ad = none → cap = 0) (i0 : -9223372036854775808 ≤ most) (i1 : most ≤ 9223372036854775807) :
    Calls Try.prog 3 #[.slice ad xs.length cap, .int .i64 most] w fun e w' => e = .returned (.bool true) ∧ Below w.heap.size w w' := by
  obtain ⟨N, hN⟩ : ∃ N, xs.length = N := ⟨_, rfl⟩
  have HN := Lib.hid hN
  have HL := Lib.hid hl
  have HA := Lib.hid ha
  have HC := Lib.hid hn
  unfold maxLen at hcm
  by_cases h1 : 4096 < N
  · have h1' : (4096 : Int) < (N : Int) := by omega
    have hn' : N ≤ 9223372036854775807 := by omega
    rw [hN]
    clear hl ha hn hN
    go_enter Try.func3, Try.ntmps3
    go_wp2_with fail
    refine (lives_any _).mono ?_
    rintro e w2 ⟨rfl, hb⟩
    have HB := Lib.hid hb
    clear hb
    go_wp2
    go_ret
    exact ⟨rfl, HB.out⟩
  by_cases h2 : 65536 < most
  · have h1' : decide ((4096 : Int) < (N : Int)) = false := by simp; omega
    rw [hN]
    clear hl ha hn hN
    go_enter Try.func3, Try.ntmps3
    go_wp2_with fail
    refine (lives_any _).mono ?_
    rintro e w2 ⟨rfl, hb⟩
    have HB := Lib.hid hb
    clear hb
    go_wp2
    go_ret
    exact ⟨rfl, HB.out⟩
  have h1' : decide ((4096 : Int) < (N : Int)) = false := by simp; omega
  have h2' : decide ((65536 : Int) < most) = false := by simp; omega
  obtain ⟨r, hr⟩ : ∃ r, unq most.toNat xs [] = r := ⟨_, rfl⟩
  obtain ⟨l, E⟩ := r
  have H1 := Lib.hid (fun W (h : Lie W ad xs) => unpack_any ad cap xs most W h hn (by omega) ha (by omega))
  have H2 := Lib.hid (fun W (h : Lie W ad xs) => runpack_any ad cap xs most W h hn (by omega) ha (by omega))
  have H3 := Lib.hid (fun W (h : Lie W ad xs) => size_any ad cap xs most W h hn (by omega) ha (by omega))
  have H4 := Lib.hid (fun W (h : Lie W ad xs) => rsize_any ad cap xs most W h hn (by omega) ha (by omega))
  rw [hr] at H1 H2 H3 H4
  rw [hN] at H1 H2 H3 H4 ⊢
  clear hl ha hn hr hN
  go_enter Try.func3, Try.ntmps3
  go_wp2_with fail
  refine (lives_any _).mono ?_
  rintro e w2 ⟨rfl, hb⟩
  have HB := Lib.hid hb
  clear hb
  go_wp2_with fail
  refine (H1.out _ (HL.out.below HB.out rfl)).mono ?_
  rintro e w3 ⟨v3, rfl, ho3, hb3⟩
  obtain ⟨a3, c3, rfl, hl3, _, _, _⟩ := ho3.slice
  have HL3 := Lib.hid hl3
  have HB3 := Lib.hid (HB.out.trans (hb3.mono HB.out.size))
  clear ho3 hl3 hb3
  dsimp only at HL3 ⊢
  go_wp2_with fail
  refine (H2.out _ (HL.out.below HB3.out rfl)).mono ?_
  rintro e w4 ⟨v4, rfl, ho4, hb4⟩
  obtain ⟨a4, c4, rfl, hl4, _, _, _⟩ := ho4.slice
  have HL4 := Lib.hid hl4
  have HB34 := Lib.hid hb4
  have HB4 := Lib.hid (HB3.out.trans (hb4.mono HB3.out.size))
  clear ho4 hl4 hb4
  dsimp only at HL4 ⊢
  go_wp2_with fail
  refine (H3.out _ (HL.out.below HB4.out rfl)).mono ?_
  rintro e w5 ⟨hv5, hb5⟩
  unfold ScV at hv5
  subst hv5
  have HB45 := Lib.hid hb5
  have HB5 := Lib.hid (HB4.out.trans (hb5.mono HB4.out.size))
  clear hb5
  dsimp only
  go_wp2_with fail
  refine (H4.out _ (HL.out.below HB5.out rfl)).mono ?_
  rintro e w6 ⟨hv6, hb6⟩
  unfold ScV at hv6
  subst hv6
  have HB6 := Lib.hid (HB5.out.trans (hb6.mono HB5.out.size))
  have hb46 := HB45.out.trans (hb6.mono HB45.out.size)
  have hc3 := conv_lie c3 (HL3.out.below (HB34.out.trans (hb46.mono HB34.out.size)) rfl)
  have hc4 := conv_lie c4 (HL4.out.below hb46 rfl)
  clear hb6 hb46
  dsimp only
  go_wp2
  go_ret
  exact ⟨rfl, HB6.out⟩
set_option maxRecDepth 100000 in
set_option maxHeartbeats 1000000 in
theorem law_bounded (ad : Option Addr) (cap : Nat) (xs : List UInt8) (n : Int) (w : World) (hl : Lie w ad xs) (hn : xs.length ≤ cap) (hcm : cap ≤ maxLen) (ha : ad = none → cap = 0) (i0 : -9223372036854775808 ≤ n) (i1 : n ≤ 9223372036854775807) :
    Calls Try.prog 6 #[.slice ad xs.length cap, .int .i64 n] w fun e w' => e = .returned (.bool true) ∧ Below w.heap.size w w' := by
  obtain ⟨N, hN⟩ : ∃ N, xs.length = N := ⟨_, rfl⟩
  have HL := Lib.hid hl
  unfold maxLen at hcm
  by_cases h1 : 65536 < N
  · have h1' : (65536 : Int) < (N : Int) := by omega
    have hn' : N ≤ 9223372036854775807 := by omega
    rw [hN]
    clear hl ha hn hN
    go_enter Try.func6, Try.ntmps6
    go_wp2_with fail
    refine (lives_any _).mono ?_
    rintro e w2 ⟨rfl, hb⟩
    have HB := Lib.hid hb
    clear hb
    go_wp2
    go_ret
    exact ⟨rfl, HB.out⟩
  by_cases h2 : 2147483648 < n
  · have h1' : decide ((65536 : Int) < (N : Int)) = false := by simp; omega
    rw [hN]
    clear hl ha hn hN
    go_enter Try.func6, Try.ntmps6
    go_wp2_with fail
    refine (lives_any _).mono ?_
    rintro e w2 ⟨rfl, hb⟩
    have HB := Lib.hid hb
    clear hb
    go_wp2
    go_ret
    exact ⟨rfl, HB.out⟩
  have h1' : decide ((65536 : Int) < (N : Int)) = false := by simp; omega
  have h2' : decide ((2147483648 : Int) < n) = false := by simp; omega
  have H1 := Lib.hid (fun W (h : Lie W ad xs) => pack_any ad cap xs W h hn hcm (by omega) ha)
  have hpl := pack_len (xs := xs) (by omega)
  have hp0 : xs.length = 0 → (packU xs).length = 0 := fun h => by rw [List.eq_nil_of_length_eq_zero h, pack_nil]; rfl
  obtain ⟨p, hp⟩ : ∃ p, packU xs = p := ⟨_, rfl⟩
  rw [hp] at H1 hpl hp0
  obtain ⟨M, hM⟩ : ∃ M, p.length = M := ⟨_, rfl⟩
  rw [hM] at hpl hp0
  have HM := Lib.hid hM
  have HB1 := Lib.hid (fun W => bound_any (N : Int) W (by omega))
  have HB2 := Lib.hid (fun W => bound_any n W (by omega))
  have HB3 := Lib.hid (fun W => rbound_any n W (by omega))
  rw [hN] at H1 hpl hp0 ⊢
  clear hl ha hn hp hN hM
  obtain ⟨Z, hZ⟩ : ∃ Z : Int, (if n ≤ 0 then 0 else n + 10) = Z := ⟨_, rfl⟩
  rw [hZ] at HB2 HB3
  clear hZ
  by_cases hz : N = 0
  · subst hz
    have hM0 := hp0 rfl
    subst hM0
    rw [if_pos (by decide)] at HB1
    clear hp0
    go_enter Try.func6, Try.ntmps6
    go_wp2_with fail
    refine (lives_any _).mono ?_
    rintro e w2 ⟨rfl, hb⟩
    have HB := Lib.hid hb
    clear hb
    go_wp2_with fail
    refine (H1.out _ (HL.out.below HB.out rfl)).mono ?_
    rintro e w3 ⟨v3, rfl, ho3, hb3⟩
    obtain ⟨a3, c3, rfl, _, _, _, _⟩ := ho3.slice
    have HW3 := Lib.hid (HB.out.trans (hb3.mono HB.out.size))
    rw [HM.out]
    clear ho3 hb3
    go_wp2_with (first | (go_at_call 16; first | (refine (HB1.out _).mono ?_; rintro e w4 ⟨rfl, rfl⟩) | (refine (HB2.out _).mono ?_; rintro e w4 ⟨rfl, rfl⟩)) | (go_at_call 17; refine (HB3.out _).mono ?_; rintro e w4 ⟨rfl, rfl⟩))
    go_ret
    exact ⟨rfl, HW3.out⟩
  · rw [if_neg (by omega)] at HB1
    have hz' : ((N : Int) == 0) = false := by rw [beq_eq_false_iff_ne]; omega
    have hm' : decide ((M : Int) ≤ (N : Int) + 10) = true := by simp; omega
    clear hp0
    go_enter Try.func6, Try.ntmps6
    go_wp2_with fail
    refine (lives_any _).mono ?_
    rintro e w2 ⟨rfl, hb⟩
    have HB := Lib.hid hb
    clear hb
    go_wp2_with fail
    refine (H1.out _ (HL.out.below HB.out rfl)).mono ?_
    rintro e w3 ⟨v3, rfl, ho3, hb3⟩
    obtain ⟨a3, c3, rfl, _, _, _, _⟩ := ho3.slice
    have HW3 := Lib.hid (HB.out.trans (hb3.mono HB.out.size))
    rw [HM.out]
    clear ho3 hb3
    go_wp2_with (first | (go_at_call 16; first | (refine (HB1.out _).mono ?_; rintro e w4 ⟨rfl, rfl⟩) | (refine (HB2.out _).mono ?_; rintro e w4 ⟨rfl, rfl⟩)) | (go_at_call 17; refine (HB3.out _).mono ?_; rintro e w4 ⟨rfl, rfl⟩))
    go_ret
    exact ⟨rfl, HW3.out⟩
end Go.Proofs.Ytihiccccpjakgaa
