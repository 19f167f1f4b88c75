/-
  The walk of the statement FrameScan: true for every list of bodies and number, and nothing that was there is written.
-/
import Derived.Test.YtbbdkghkdmaolaaDoorFFew
namespace Go.Proofs.YtbbdkghkdmaolaaDoor
open Go.RowKit
set_option linter.unusedVariables false
set_option linter.unusedSimpArgs false

/-- What the loop of appends keeps. -/
def ApI (B : List (List UInt8)) (keep : Int) (j i M A : Nat) (bd : Option Addr) (bcap : Nat) (W : World) : Prop :=
  M = (cat B j).length ∧ A = (cat B i).length ∧ (i = 0 ∨ (A : Int) ≤ keep) ∧ (i < j → keep < (cat B (i + 1)).length) ∧ Lie W bd (cat B j) ∧ M ≤ bcap ∧ bcap ≤ maxLen ∧ (bd = none → bcap = 0)
theorem len_small (m : Nat) (h : m ≤ 60) (w : World) : Calls Tryd.prog 12 #[.int .i64 m] w fun e w' => e = .returned (.int .i64 ((m : Int) + 10)) ∧ w = w' := by
  have h1 := len_any (m : Int) w (by omega) (by omega)
  have h2 : lenF (m : Int) = (m : Int) + 10 := by unfold lenF; rw [if_neg (by omega)]
  rw [h2] at h1
  exact h1

set_option maxRecDepth 100000 in
set_option maxHeartbeats 2000000 in
theorem law_scan (ad : Option Addr) (n cap : Nat) (ls : List (List UInt8)) (keep : Int) (w : World) (hl : Lr w ad ls) (hn : n = ls.length) (hc : n ≤ cap) (hcm : cap ≤ maxLen) (hk : -9223372036854775808 ≤ keep ∧ keep ≤ 9223372036854775807) (hmg : Mag w) :
    Calls Tryd.prog 6 #[.slice ad n cap, .int .i64 keep] w fun e w' => e = .returned (.bool true) ∧ Below w.heap.size w w' := by
  have C1 := Lib.hid (few_any ad n cap ls w hl hn hc hcm)
  have HM := Lib.hid hmg
  clear hl hn hc hcm hmg
  go_enter Tryd.func6, Tryd.ntmps6
  go_wp2_with fail
  refine C1.out.mono ?_
  rintro e w1 ⟨v1, rfl, hls1, hb1⟩
  have hB60 := fews_60 ls 12
  have hB12 : (fews ls 12).length ≤ 12 := by rw [fews_len]; omega
  generalize fews ls 12 = B at hls1 hB60 hB12
  obtain ⟨ad1, cap1, rfl, lr1, k1, k1m, h01⟩ := hls1.read
  obtain ⟨N, hN⟩ : ∃ N, B.length = N := ⟨_, rfl⟩
  rw [hN] at k1 hB12 ⊢
  have HN := Lib.hid hN
  have HLR := Lib.hid lr1
  have HB60 := Lib.hid hB60
  have HB1 := Lib.hid hb1
  have HM1 := Lib.hid (HM.out.step hb1)
  unfold maxLen at k1m
  clear hls1 hB60 lr1 hb1 hN C1
  go_wp2
  go_loopw [5, 6, 7, 8] (fun vb va vn vi wr => ∃ (j i M A : Nat) (bd : Option Addr) (bcap : Nat), vi = .int .i64 j ∧ vb = .slice bd M bcap ∧ vn = .int .i64 i ∧ va = .int .i64 A ∧ j ≤ N ∧ i ≤ j ∧ M ≤ 70 * j ∧ Hid (ApI B keep j i M A bd bcap wr) ∧ Hid (Below w.heap.size w wr) ∧ Hid (Below w1.heap.size w1 wr)) (fun _ _ _ vi _ => N - (intOf vi).toNat)
  case atStart => exact ⟨0, 0, 0, 0, none, 0, rfl, rfl, rfl, rfl, Nat.zero_le _, Nat.le_refl _, Nat.le_refl _, Lib.hid ⟨by rw [cat_zero]; rfl, by rw [cat_zero]; rfl, .inl rfl, fun h => by omega, by rw [cat_zero]; exact .nil _ _, Nat.le_refl _, Nat.zero_le _, fun _ => rfl⟩, HB1, Lib.hid (.refl _ _)⟩
  case round =>
    obtain ⟨j, i, M, A, bd, bcap, rfl, rfl, rfl, rfl, hjN, hij, hMj, hI, hb, hbw⟩ := hrel
    have HMw := Lib.hid (HM1.out.step hbw.out)
    by_cases hlt : j < N
    · have hjl : j < B.length := by have := HN.out; omega
      rcases HLR.out.at_ with h0 | ⟨b, off, rfl, hbl, hcc⟩
      · rw [h0] at hjl; simp at hjl
      obtain ⟨a1, c1, e1, l1, hc1, hc1m, ha1⟩ := hcc j hjl
      have hm60' := HB60.out B[j] (List.getElem_mem _)
      obtain ⟨hM, hA, hi0, hnx, hlie, hMc, hbm, hbn⟩ := hI.out
      have f1 : wr.cell? ⟨b, off + j, none⟩ = some (.slice a1 (B[j]).length c1) := (hbw.out.cell (p := ⟨b, off + j, none⟩) hbl).trans e1
      have hcl := cat_len hjl
      have hap := append_any bd a1 M bcap (B[j]).length c1 (cat B j) B[j] wr hlie hM (by omega) hbn (l1.below hbw.out rfl) rfl (by omega) ha1 HMw.out
      rw [← cat_succ hjl] at hap
      have hcl2 := hcl
      obtain ⟨m, hm⟩ : ∃ m, (B[j]).length = m := ⟨_, rfl⟩
      rw [hm] at f1 hap hcl hm60'
      have hm60 : m ≤ 60 := hm60'
      have E1 := Lib.hid e1
      rw [hm] at E1
      rw [← hM] at hcl
      have HAP := Lib.hid hap
      obtain ⟨M2, hM2⟩ : ∃ M2, (cat B (j + 1)).length = M2 := ⟨_, rfl⟩
      have hMM : M2 = M + m + 10 := by omega
      have HM2 := Lib.hid hM2
      have HA := Lib.hid hA
      have HI0 := Lib.hid hi0
      have HNX := Lib.hid hnx
      clear hcc e1 l1 hc1 hc1m ha1 hm60' hM hA hi0 hnx hlie hMc hbm hbn hap hcl hcl2 hm hM2 hI
      go_wp2_with fail
      refine HAP.out.mono ?_
      rintro e w2 ⟨v2, rfl, ho2, hb2⟩
      obtain ⟨bd2, bcap2, rfl, hl2, hcb2, hcm2, hn2⟩ := ho2.slice
      have f2 : w2.cell? ⟨b, off + j, none⟩ = some (.slice a1 m c1) := ((hbw.out.trans (hb2.mono hbw.out.size)).cell (p := ⟨b, off + j, none⟩) hbl).trans E1.out
      have HB2 := Lib.hid (hb.out.trans (hb2.mono hb.out.size))
      have HBW2 := Lib.hid (hbw.out.trans (hb2.mono hbw.out.size))
      rw [HM2.out] at hcb2 ⊢
      have HL2 := Lib.hid hl2
      have HC2 := Lib.hid (And.intro hcb2 (And.intro hcm2 hn2))
      clear ho2 hb2 hl2 hcb2 hcm2 hn2 f1
      by_cases hkeep : (M2 : Int) ≤ keep
      · go_wp2_with (go_at_call 12; refine (len_small m hm60 _).mono ?_; rintro e w' ⟨rfl, rfl⟩)
        go_roundw
        case rel => exact ⟨j + 1, j + 1, M2, M2, bd2, bcap2, by go_num, (by first | rfl | (rw [hMM]; done) | (rw [hMM]; go_num; done) | (rw [hMM]; congr 1; omega)), by go_num, (by first | rfl | (rw [hMM]; done) | (rw [hMM]; go_num; done) | (rw [hMM]; congr 1; omega)), by omega, by omega, by omega, Lib.hid ⟨HM2.out.symm, HM2.out.symm, .inr hkeep, fun h => by omega, HL2.out, HC2.out.1, HC2.out.2.1, HC2.out.2.2⟩, HB2, HBW2⟩
        case measure => simp [intOf]; omega
      · go_wp2_with (go_at_call 12; refine (len_small m hm60 _).mono ?_; rintro e w' ⟨rfl, rfl⟩)
        go_roundw
        case rel => exact ⟨j + 1, i, M2, A, bd2, bcap2, by go_num, (by first | rfl | (rw [hMM]; done) | (rw [hMM]; go_num; done) | (rw [hMM]; congr 1; omega)), rfl, rfl, by omega, by omega, by omega, Lib.hid ⟨HM2.out.symm, HA.out, HI0.out, (fun h => by
          by_cases h1 : i < j
          · exact HNX.out h1
          · obtain rfl : i = j := by omega
            rw [HM2.out]; omega), HL2.out, HC2.out.1, HC2.out.2.1, HC2.out.2.2⟩, HB2, HBW2⟩
        case measure => simp [intOf]; omega
    · obtain rfl : j = N := by omega
      by_cases hout : keep < 0 ∨ (M : Int) < keep
      · rcases hout with hout | hout
        all_goals
          go_wp2_with fail
          refine (awake_any _ HMw.out).mono ?_
          rintro e w7 ⟨rfl, hb7⟩
          have HB7 := Lib.hid (hb.out.trans (hb7.mono hb.out.size))
          clear hb7
          go_wp2
          go_ret
          exact ⟨rfl, HB7.out⟩
      · obtain ⟨kn, rfl⟩ : ∃ kn : Nat, keep = kn := ⟨keep.toNat, by omega⟩
        obtain ⟨hM, hA, hi0, hnx, hlie, hMc, hbm, hbn⟩ := hI.out
        have hkM : kn ≤ M := by omega
        have hsc := scan_any bd kn bcap ((cat B j).take kn) wr (hlie.take kn) (by rw [List.length_take]; omega) (by rw [List.length_take]; omega) (by omega) hbm hbn HMw.out
        have HSC := Lib.hid hsc
        have hcut : ∀ ps e, Part ((cat B j).take kn) 0 ps e → (chk ((cat B j).take kn) e).2 ≠ 0 → ps.map (fun x : List UInt8 × Nat => x.1) = B.take i ∧ e = A := by
          intro ps e h1 h2
          have hBj : B.length = j := HN.out
          rw [hA]
          rw [← hBj] at h1 h2 hnx hM
          exact scan_cut HB60.out (by omega) (by
            rcases hi0 with h | h
            · subst h; rw [cat_zero]; exact Nat.zero_le _
            · omega) (by omega) (fun h => by have := hnx h; omega) h1 h2
        have HCUT := Lib.hid hcut
        unfold maxLen at hbm
        clear hsc hcut hM hA hi0 hnx hlie hI hout
        go_wp2_with fail
        refine HSC.out.mono ?_
        rintro e w3 ⟨v3, ps, f, rfl, hp, hpn, hls3, hb3⟩
        obtain ⟨hps, rfl⟩ := HCUT.out ps f hp hpn
        rw [hps] at hls3
        obtain ⟨ad3, cap3, rfl, lr3, k3, k3m, h03⟩ := hls3.read
        have hti : (B.take i).length = i := by rw [List.length_take]; have := HN.out; omega
        have hsame := same_yes ad3 ad1 (B.take i).length cap3 cap1 (B.take i) w3 lr3 ((HLR.out.below (hbw.out.trans (hb3.mono hbw.out.size))).take i) rfl (by omega)
        rw [hti] at hsame ⊢
        have HB3 := Lib.hid (hb.out.trans (hb3.mono hb.out.size))
        have HM3 := Lib.hid (HMw.out.step hb3)
        clear hp hpn hls3 hb3 hps lr3 k3 k3m h03 hti
        go_wp2_with fail
        refine hsame.mono ?_
        rintro e w5 ⟨rfl, q, hw5⟩
        have hb5 : Below w3.heap.size w3 w5 := by rw [hw5]; exact below_drewN (.refl _ _) q
        have HB5 := Lib.hid (HB3.out.trans (hb5.mono HB3.out.size))
        have HM5 := Lib.hid (HM3.out.step hb5)
        clear hsame hb5 hw5
        go_wp2_with fail
        refine (awake_any _ HM5.out).mono ?_
        rintro e w7 ⟨rfl, hb7⟩
        have HB7 := Lib.hid (HB5.out.trans (hb7.mono HB5.out.size))
        clear hb7
        go_wp2
        go_ret
        exact ⟨rfl, HB7.out⟩
end Go.Proofs.YtbbdkghkdmaolaaDoor
