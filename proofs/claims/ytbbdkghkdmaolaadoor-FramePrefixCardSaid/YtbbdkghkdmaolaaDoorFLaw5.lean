/-
  The walk of the statement FramePrefix: true for every slice of bytes and offset, and nothing that was there is written.
-/
import Derived.Test.YtbbdkghkdmaolaaDoorFLaw4
namespace Go.Proofs.YtbbdkghkdmaolaaDoor
open Go.RowKit
set_option linter.unusedVariables false
set_option linter.unusedSimpArgs false

set_option maxRecDepth 100000 in
set_option maxHeartbeats 1000000 in
theorem prefix_short (ad : Option Addr) (n cap k : Nat) (xs : List UInt8) (at_ : Int) (w : World) (hk : min n 300 = k) (hl : Lie w ad xs) (hn : k = xs.length) (hs : xs.length ≤ 1000) (hc : k ≤ cap) (hc0 : n ≤ cap) (hcm : cap ≤ maxLen) (had : ad = none → cap = 0) (hmg : Mag w) (a : Nat) (hcase : (at_ < 0 ∧ a = 0) ∨ at_ = (a : Int)) :
    Calls Tryd.prog 8 #[.slice ad n cap, .int .i64 at_] w fun e w' => e = .returned (.bool true) ∧ Below w.heap.size w w' := by
  have hsh := short_any ad n cap w hc0 hcm had
  rw [hk] at hsh
  have C1 := Lib.hid (fun W hl hm => scan_any ad k cap xs W hl hn (by omega) hc hcm had hm)
  have C3 := Lib.hid (fun W hl hm => resync_from ad k cap a xs at_ W hl hn (by omega) hc hcm had hm (by omega))
  have C5 := Lib.hid (fun W hl hm => salvage_any ad k cap xs W hl hn (by omega) hc hcm had hm)
  have C7 := Lib.hid (fun (i : Nat) W hl hm => next_any ad k cap xs (i : Int) W hl hn (by omega) hc hcm had hm)
  have hk1 : k ≤ 1000 := by omega
  have HL := Lib.hid hl
  have HM := Lib.hid hmg
  have HS := Lib.hid hs
  have HN := Lib.hid hn
  clear hl hn hs hc hc0 hcm had hmg hk
  go_enter Tryd.func8, Tryd.ntmps8
  go_wp2_with fail
  refine hsh.mono ?_
  rintro e w' ⟨rfl, rfl⟩
  clear hsh
  go_wp2_with fail
  refine (C1.out _ HL.out HM.out).mono ?_
  rintro e w1 ⟨v1, ps, f, rfl, hp, hpn, hls1, hb1⟩
  have HB1 := Lib.hid hb1
  have HL1 := Lib.hid (HL.out.below hb1 rfl)
  have HM1 := Lib.hid (HM.out.step hb1)
  have HP := Lib.hid hp
  have HPN := Lib.hid hpn
  have HV1 := Lib.hid hls1
  clear hp hpn hls1 hb1
  go_wp2_with fail
  refine (C5.out _ HL1.out HM1.out).mono ?_
  rintro e w2 ⟨v2, ls, g, rfl, hs6, hn6, hl6, hb6⟩
  obtain ⟨ms, hms⟩ := Salv.scan HP.out hs6 hn6
  obtain ⟨ad1, cap1, rfl, lr1, k1, _, h01⟩ := (HV1.out.below hb6).read
  obtain ⟨ad2, cap2, rfl, lr2, k2, k2m, h02⟩ := hl6.read
  have hle : (ps.map (fun x : List UInt8 × Nat => x.1)).length ≤ ls.length := by rw [hms]; simp
  have htk := lr2.take (ps.map (fun x : List UInt8 × Nat => x.1)).length
  rw [show ls.take (ps.map (fun x : List UInt8 × Nat => x.1)).length = ps.map (fun x : List UInt8 × Nat => x.1) by rw [hms, List.take_left]] at htk
  have hsame := same_yes ad1 ad2 _ cap1 cap2 _ w2 lr1 htk rfl (by have := HP.out.short; have := HS.out; rw [List.length_map]; omega)
  have HB2 := Lib.hid (HB1.out.trans (hb6.mono HB1.out.size))
  have HL2 := Lib.hid (HL1.out.below hb6 rfl)
  have HM2 := Lib.hid (HM1.out.step hb6)
  generalize (ps.map (fun x : List UInt8 × Nat => x.1)).length = N1 at hsame hle k1
  generalize ls.length = N2 at hle k2
  have k2b : cap2 ≤ 9223372036854775807 := by unfold maxLen at k2m; omega
  clear hs6 hn6 hl6 hb6 lr1 lr2 htk hms k2m
  go_wp2_with fail
  refine hsame.mono ?_
  rintro e w3 ⟨rfl, q, hw3⟩
  have hb3 : Below w2.heap.size w2 w3 := by rw [hw3]; exact below_drewN (.refl _ _) q
  have HB3 := Lib.hid (HB2.out.trans (hb3.mono HB2.out.size))
  have HL3 := Lib.hid (HL2.out.below hb3 rfl)
  have HM3 := Lib.hid (HM2.out.step hb3)
  clear hsame hb3 hw3
  go_wp2_with fail
  refine (C3.out _ HL3.out HM3.out).mono ?_
  rcases rs_cases xs a with ⟨K, hri, hai, hin, hci, hnf⟩ | ⟨hri, hnf⟩
  · rintro e w4 hr4
    rw [hri] at hr4
    obtain ⟨rfl, hb4⟩ := hr4
    have HBm := Lib.hid (HB3.out.trans (hb4.mono HB3.out.size))
    have HLm := Lib.hid (HL3.out.below hb4 rfl)
    have HMm := Lib.hid (HM3.out.step hb4)
    have HCI := Lib.hid hci
    have HNF := Lib.hid hnf
    have hik : K < k := by rw [HN.out]; exact hin
    have hia : at_ ≤ (K : Int) := by omega
    clear hb4 hri hci hnf hin
    rcases hcase with ⟨hneg, ha0⟩ | rfl
    · go_wp2_with fail
      refine (C7.out K _ HLm.out HMm.out).mono ?_
      rintro e w5 ⟨v5, rfl, ho5, hb5⟩
      rw [HCI.out]
      have HBl := Lib.hid (HBm.out.trans (hb5.mono HBm.out.size))
      have HLl := Lib.hid (HLm.out.below hb5 rfl)
      have HMl := Lib.hid (HMm.out.step hb5)
      clear ho5 hb5
      go_wp2
      go_loopw [13] (fun vk wr => ∃ j : Nat, vk = .int .i64 j ∧ a ≤ j ∧ Hid (Below w.heap.size w wr) ∧ Hid (Lie wr ad xs) ∧ Hid (Mag wr)) (fun vk _ => K - (intOf vk).toNat)
      case atStart => exact ⟨a, by first | rfl | (rw [ha0]; rfl), Nat.le_refl _, HBl, HLl, HMl⟩
      case round =>
        obtain ⟨j, rfl, haj, hb, hl, hm⟩ := hrel
        by_cases hlt : j < K
        · have hcall := C7.out j wr hl.out hm.out
          have hcj := HNF.out j haj hlt
          obtain ⟨E, hE⟩ : ∃ E, (chk xs j).2 = E := ⟨_, rfl⟩
          have he1 : (E == 0) = false := by rw [beq_eq_false_iff_ne, ← hE]; exact hcj
          have HE := Lib.hid hE
          have HCALL := Lib.hid hcall
          clear hcall hcj hE
          go_wp2_with fail
          refine HCALL.out.mono ?_
          rintro e w6 ⟨v6, rfl, _, hb6⟩
          rw [HE.out]
          have HB6 : Hid (Below w.heap.size w w6) := Lib.hid (hb.out.trans (hb6.mono hb.out.size))
          have HL6 := Lib.hid (hl.out.below hb6 rfl)
          have HM6 := Lib.hid (hm.out.step hb6)
          clear hb6
          go_wp2
          go_roundw
          case rel => exact ⟨j + 1, by go_num, by omega, HB6, HL6, HM6⟩
          case measure => simp [intOf]; omega
        · go_wp2_with fail
          refine (awake_any _ hm.out).mono ?_
          rintro e w7 ⟨rfl, hb7⟩
          have HB7 := Lib.hid (hb.out.trans (hb7.mono hb.out.size))
          clear hb7
          go_wp2
          go_ret
          exact ⟨rfl, HB7.out⟩
    · go_wp2_with fail
      refine (C7.out K _ HLm.out HMm.out).mono ?_
      rintro e w5 ⟨v5, rfl, ho5, hb5⟩
      rw [HCI.out]
      have HBl := Lib.hid (HBm.out.trans (hb5.mono HBm.out.size))
      have HLl := Lib.hid (HLm.out.below hb5 rfl)
      have HMl := Lib.hid (HMm.out.step hb5)
      clear ho5 hb5
      go_wp2
      rw [show decide (K < a) = false by rw [decide_eq_false_iff_not]; omega]
      go_loopw [13] (fun vk wr => ∃ j : Nat, vk = .int .i64 j ∧ a ≤ j ∧ Hid (Below w.heap.size w wr) ∧ Hid (Lie wr ad xs) ∧ Hid (Mag wr)) (fun vk _ => K - (intOf vk).toNat)
      case atStart => exact ⟨a, by first | rfl | (rw [ha0]; rfl), Nat.le_refl _, HBl, HLl, HMl⟩
      case round =>
        obtain ⟨j, rfl, haj, hb, hl, hm⟩ := hrel
        by_cases hlt : j < K
        · have hcall := C7.out j wr hl.out hm.out
          have hcj := HNF.out j haj hlt
          obtain ⟨E, hE⟩ : ∃ E, (chk xs j).2 = E := ⟨_, rfl⟩
          have he1 : (E == 0) = false := by rw [beq_eq_false_iff_ne, ← hE]; exact hcj
          have HE := Lib.hid hE
          have HCALL := Lib.hid hcall
          clear hcall hcj hE
          go_wp2_with fail
          refine HCALL.out.mono ?_
          rintro e w6 ⟨v6, rfl, _, hb6⟩
          rw [HE.out]
          have HB6 : Hid (Below w.heap.size w w6) := Lib.hid (hb.out.trans (hb6.mono hb.out.size))
          have HL6 := Lib.hid (hl.out.below hb6 rfl)
          have HM6 := Lib.hid (hm.out.step hb6)
          clear hb6
          go_wp2
          go_roundw
          case rel => exact ⟨j + 1, by go_num, by omega, HB6, HL6, HM6⟩
          case measure => simp [intOf]; omega
        · go_wp2_with fail
          refine (awake_any _ hm.out).mono ?_
          rintro e w7 ⟨rfl, hb7⟩
          have HB7 := Lib.hid (hb.out.trans (hb7.mono hb.out.size))
          clear hb7
          go_wp2
          go_ret
          exact ⟨rfl, HB7.out⟩
  · rintro e w4 hr4
    rw [hri] at hr4
    obtain ⟨rfl, hb4⟩ := hr4
    have HBl := Lib.hid (HB3.out.trans (hb4.mono HB3.out.size))
    have HLl := Lib.hid (HL3.out.below hb4 rfl)
    have HMl := Lib.hid (HM3.out.step hb4)
    have HNF : Hid (NoFrame xs a k) := Lib.hid (by rw [HN.out]; exact hnf)
    clear hb4 hri hnf
    rcases hcase with ⟨hneg, ha0⟩ | rfl
    · go_wp2
      go_loopw [13] (fun vk wr => ∃ j : Nat, vk = .int .i64 j ∧ a ≤ j ∧ Hid (Below w.heap.size w wr) ∧ Hid (Lie wr ad xs) ∧ Hid (Mag wr)) (fun vk _ => k - (intOf vk).toNat)
      case atStart => exact ⟨a, by first | rfl | (rw [ha0]; rfl), Nat.le_refl _, HBl, HLl, HMl⟩
      case round =>
        obtain ⟨j, rfl, haj, hb, hl, hm⟩ := hrel
        by_cases hlt : j < k
        · have hcall := C7.out j wr hl.out hm.out
          have hcj := HNF.out j haj hlt
          obtain ⟨E, hE⟩ : ∃ E, (chk xs j).2 = E := ⟨_, rfl⟩
          have he1 : (E == 0) = false := by rw [beq_eq_false_iff_ne, ← hE]; exact hcj
          have HE := Lib.hid hE
          have HCALL := Lib.hid hcall
          clear hcall hcj hE
          go_wp2_with fail
          refine HCALL.out.mono ?_
          rintro e w6 ⟨v6, rfl, _, hb6⟩
          rw [HE.out]
          have HB6 : Hid (Below w.heap.size w w6) := Lib.hid (hb.out.trans (hb6.mono hb.out.size))
          have HL6 := Lib.hid (hl.out.below hb6 rfl)
          have HM6 := Lib.hid (hm.out.step hb6)
          clear hb6
          go_wp2
          go_roundw
          case rel => exact ⟨j + 1, by go_num, by omega, HB6, HL6, HM6⟩
          case measure => simp [intOf]; omega
        · go_wp2_with fail
          refine (awake_any _ hm.out).mono ?_
          rintro e w7 ⟨rfl, hb7⟩
          have HB7 := Lib.hid (hb.out.trans (hb7.mono hb.out.size))
          clear hb7
          go_wp2
          go_ret
          exact ⟨rfl, HB7.out⟩
    · go_wp2
      go_loopw [13] (fun vk wr => ∃ j : Nat, vk = .int .i64 j ∧ a ≤ j ∧ Hid (Below w.heap.size w wr) ∧ Hid (Lie wr ad xs) ∧ Hid (Mag wr)) (fun vk _ => k - (intOf vk).toNat)
      case atStart => exact ⟨a, by first | rfl | (rw [ha0]; rfl), Nat.le_refl _, HBl, HLl, HMl⟩
      case round =>
        obtain ⟨j, rfl, haj, hb, hl, hm⟩ := hrel
        by_cases hlt : j < k
        · have hcall := C7.out j wr hl.out hm.out
          have hcj := HNF.out j haj hlt
          obtain ⟨E, hE⟩ : ∃ E, (chk xs j).2 = E := ⟨_, rfl⟩
          have he1 : (E == 0) = false := by rw [beq_eq_false_iff_ne, ← hE]; exact hcj
          have HE := Lib.hid hE
          have HCALL := Lib.hid hcall
          clear hcall hcj hE
          go_wp2_with fail
          refine HCALL.out.mono ?_
          rintro e w6 ⟨v6, rfl, _, hb6⟩
          rw [HE.out]
          have HB6 : Hid (Below w.heap.size w w6) := Lib.hid (hb.out.trans (hb6.mono hb.out.size))
          have HL6 := Lib.hid (hl.out.below hb6 rfl)
          have HM6 := Lib.hid (hm.out.step hb6)
          clear hb6
          go_wp2
          go_roundw
          case rel => exact ⟨j + 1, by go_num, by omega, HB6, HL6, HM6⟩
          case measure => simp [intOf]; omega
        · go_wp2_with fail
          refine (awake_any _ hm.out).mono ?_
          rintro e w7 ⟨rfl, hb7⟩
          have HB7 := Lib.hid (hb.out.trans (hb7.mono hb.out.size))
          clear hb7
          go_wp2
          go_ret
          exact ⟨rfl, HB7.out⟩
theorem law_prefix (ad : Option Addr) (n cap : Nat) (xs : List UInt8) (at_ : Int) (w : World) (hl : Lie w ad xs) (hn : n = xs.length) (hc : n ≤ cap) (hcm : cap ≤ maxLen) (had : ad = none → cap = 0) (hmg : Mag w) :
    Calls Tryd.prog 8 #[.slice ad n cap, .int .i64 at_] w fun e w' => e = .returned (.bool true) ∧ Below w.heap.size w w' :=
  prefix_short ad n cap (min n 300) (xs.take 300) at_ w rfl (hl.take 300) (by rw [List.length_take]; omega) (by rw [List.length_take]; omega) (by omega) hc hcm had hmg at_.toNat (by omega)
end Go.Proofs.YtbbdkghkdmaolaaDoor
