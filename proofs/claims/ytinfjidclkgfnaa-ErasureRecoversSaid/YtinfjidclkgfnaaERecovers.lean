/-
  ErasureRecovers: the walk.
-/
import Derived.Test.YtinfjidclkgfnaaERecM
import Derived.Lib.SlBytesConst
namespace Go.Proofs.Ytinfjidclkgfnaa
open Go.RowKit
attribute [local irreducible] parL parR parE recE recR chkL fewL givL pick sameL
set_option maxRecDepth 100000 in
set_option maxHeartbeats 2000000 in
theorem law_recovers (ad hd : Option Addr) (n m cap hc : Nat) (xs : List (List UInt8)) (bs : List Bool) (p : Int) (w : World) (hl : Lr w ad xs) (hn : n = xs.length) (hm : n ≤ maxLen) (hb : LieB w hd bs) (hbn : m = bs.length) (hbc : m ≤ hc) (hba : hd = none → hc = 0) (h0 : -9223372036854775808 ≤ p) (h1 : p ≤ 9223372036854775807) :
    Calls Try.prog 6 #[.slice ad n cap, .int .i64 p, .slice hd m hc] w fun e w' => e = .returned (.bool true) ∧ Below w.heap.size w w' := by
  go_enter Try.func6, Try.ntmps6
  have HL := Lib.hid hl
  have HN := Lib.hid hn
  have HM := Lib.hid hm
  have HBS := Lib.hid hb
  have HBN := Lib.hid hbn
  have HBA := Lib.hid hba
  clear hl hn hm hb hbn hba
  go_wp2_with fail
  refine (few_any ad n cap xs w HL.out HN.out HM.out).mono ?_
  rintro e w1 ⟨a1, c1, rfl, hl1, hc1, hm1, hn1, hb1⟩
  have HF := Lib.hid (fewL_length xs)
  have HR : Hid (∀ r ∈ fewL xs, r.length ≤ 1000) := Lib.hid fun r hr => Nat.le_trans (fewL_row xs r hr) (by omega)
  obtain ⟨ls, hls⟩ : ∃ ls, ls = fewL xs := ⟨_, rfl⟩
  rw [← hls] at hl1 hc1 HF HR ⊢
  obtain ⟨k, hk⟩ : ∃ k, k = ls.length := ⟨_, rfl⟩
  rw [← hk] at hc1 HF ⊢
  have hk17 : k ≤ 17 := HF.out
  have HK := Lib.hid hk
  have HB1 := Lib.hid hb1
  have HL1 := Lib.hid hl1
  have HC1 : Hid (k ≤ c1 ∧ c1 ≤ maxLen ∧ (a1 = none → c1 = 0)) := Lib.hid ⟨hc1, hm1, hn1⟩
  have HKM : Hid (k ≤ maxLen) := Lib.hid (Nat.le_trans hc1 hm1)
  clear hls hl1 hc1 hm1 hn1 hb1 hk HF
  go_wp2_with fail
  refine (parity_any a1 k c1 ls p w1 HL1.out HK.out HKM.out HR.out).mono ?_
  rintro e w2 ⟨v2, rfl, ho2, hb2⟩
  obtain ⟨a2, c2, rfl, hl2, hc2, hm2, hn2⟩ := ho2.read
  have HB2 := Lib.hid (HB1.out.trans (hb2.mono HB1.out.size))
  have HLS := Lib.hid (HL1.out.below hb2)
  have HP2 := Lib.hid hl2
  have HN2 := Lib.hid hn2
  clear ho2 hb2 hl2 hc2 hm2 hn2 HL1
  rcases hE : decide (parE ls p = 0) with _ | _
  · have hE2 : ¬ parE ls p = 0 := of_decide_eq_false hE
    generalize parE ls p = E at hE2
    clear hE
    go_wp2_with fail
    refine (awake_any w2).mono ?_
    rintro e w3 ⟨rfl, hb3⟩
    have HB3 := Lib.hid (HB2.out.trans (hb3.mono HB2.out.size))
    clear hb3
    go_wp2
    go_ret
    exact ⟨rfl, HB3.out⟩
  have hE2 : parE ls p = 0 := of_decide_eq_true hE
  obtain ⟨hv, hsm⟩ := parE_zero hE2
  have hq := (vc_iff _ _).1 hv
  rw [← HK.out] at hq
  obtain ⟨q, rfl⟩ := Int.eq_ofNat_of_zero_le hq.2.1
  have HPR : Hid (parR ls (q : Int) = parL ls q) := Lib.hid (by rw [parR_ok hv hsm, Int.toNat_natCast])
  have HV : Hid (vc (k : Int) q = true) := Lib.hid (by rw [HK.out]; exact hv)
  have HSM := Lib.hid hsm
  have hk1 : 1 ≤ k := by omega
  have hkq : k + q ≤ 16 := by omega
  have HPL := Lib.hid (parL_length ls q)
  rw [HPR.out] at HP2 ⊢
  rw [HPL.out, hE2]
  clear hE hE2 hv hsm hq
  obtain ⟨T, hT⟩ : ∃ T, T = k + q := ⟨_, rfl⟩
  have HAL : Hid ((ls ++ parL ls q).length = T) := Lib.hid (by rw [List.length_append, HPL.out, ← HK.out, hT])
  have hT1 : 1 ≤ T := by omega
  have hT16 : T ≤ 16 := by omega
  have HTE := Lib.hid hT
  clear hT
  have HAR : Hid (∀ r ∈ ls ++ parL ls q, r.length ≤ 1000) := Lib.hid fun r hr => by
    rw [code_row (q := q) HSM.out r hr]
    exact cols_le ls 1000 HR.out
  have HCH := Lib.hid (chk_code (D := ls) (k := k) (q := q) HK.out.symm HSM.out HV.out)
  have HQ1 := Lib.hid (Lq.made w2 0 _ rfl)
  have HA1 : Hid (Below w2.heap.size w2 (w2.alloc (.cells #[] 33))) := Lib.hid ((Below.refl _ _).alloc (Nat.le_refl _) _)
  have HX1 := Lib.hid (Lx.of_low (x := (Value.slice (some ⟨w2.heap.size, 0, none⟩) 0 0).ownBlock) HLS.out HA1.out (fun g hg => by cases hg; exact Nat.le_refl _))
  have HZ1 := Lib.hid HA1.out.size
  by_cases hmT : m < T
  · have hmT2 : (m : Int) < (T : Int) := by omega
    go_wp2_with (first
      | (at_builtin; refine wpList_append_q rfl (.tmp 26) (.tmp 27) rfl w2.heap.size 0 0 0 _ [] rfl HQ1.out a1 k c1 ls HC1.out.2.2 HX1.out HK.out rfl (by simp; omega) HZ1.out (Nat.le_refl _) (Nat.le_refl _) ?_; intro v3 w3 ho3 hg3 _; rw [List.nil_append] at ho3; have HB3 := Lib.hid (HQ1.out.grow HA1.out (Nat.le_refl _) hg3); have HO3 := Lib.hid ho3; have HX3 := Lib.hid (Lx.of_low (x := v3.ownBlock) HP2.out HB3.out (fun g hg => (HO3.out.lt g hg).1)); have HZ3 := Lib.hid HB3.out.size; clear ho3 hg3)
      | (at_builtin; refine wpList_append_q rfl (.tmp 28) (.tmp 29) rfl w2.heap.size 0 0 0 v3 ls rfl HO3.out a2 q c2 (parL ls q) HN2.out HX3.out HPL.out.symm rfl (by rw [← HK.out]; omega) HZ3.out (Nat.le_refl _) (Nat.le_refl _) ?_; intro v4 w4 ho4 hg4 _; have HB4 := Lib.hid (HO3.out.grow HB3.out (Nat.le_refl _) hg4); obtain ⟨a4, c4, rfl, hl4, hc4, hm4, hn4⟩ := ho4.read; rw [HAL.out] at hc4 ⊢; have HL4 := Lib.hid hl4; have hTc := hc4; have HC4 : Hid (T ≤ c4 ∧ c4 ≤ maxLen ∧ (a4 = none → c4 = 0)) := Lib.hid ⟨hc4, hm4, hn4⟩; have HBA4 := Lib.hid (HB2.out.trans (HB4.out.mono HB2.out.size)); clear ho4 hg4 hl4 hc4 hm4 hn4))
    refine (awake_any w4).mono ?_
    rintro e w5 ⟨rfl, hb5⟩
    have HB5 := Lib.hid (HBA4.out.trans (hb5.mono HBA4.out.size))
    clear hb5
    go_wp2
    go_ret
    exact ⟨rfl, HB5.out⟩
  have hmT2 : ¬ (m : Int) < (T : Int) := by omega
  obtain ⟨hda, rfl⟩ : ∃ a, hd = some a := by
    cases hd with
    | none => have := HBA.out rfl; omega
    | some a => exact ⟨a, rfl⟩
  have hThc : T ≤ hc := by omega
  obtain ⟨hs, hhs⟩ : ∃ hs, hs = bs.take T := ⟨_, rfl⟩
  have HHB : Hid (LieB w (some hda) hs) := Lib.hid (by rw [hhs]; exact HBS.out.take T)
  have HHL : Hid (hs.length = T) := Lib.hid (by rw [hhs, List.length_take, ← HBN.out]; omega)
  have HRE : Hid (recE (givL (ls ++ parL ls q) hs) hs q = if k ≤ hs.count true then 0 else 23) := Lib.hid (giv_recE HK.out.symm HSM.out HV.out (by rw [HHL.out]; exact HTE.out))
  have HRY := Lib.hid (giv_recR (D := ls) (k := k) (q := q) (hs := hs) HK.out.symm HSM.out HV.out (by rw [HHL.out]; exact HTE.out))
  have HRN := Lib.hid (giv_recR_no (D := ls) (k := k) (q := q) (hs := hs) HK.out.symm HSM.out HV.out (by rw [HHL.out]; exact HTE.out))
  have HGT := Lib.hid (givL_take (ls ++ parL ls q) hs)
  have HGE : Hid (givL ((ls ++ parL ls q).take T) (hs.take T) = givL (ls ++ parL ls q) hs) := Lib.hid (by rw [List.take_of_length_le (l := ls ++ parL ls q) (by rw [HAL.out]; exact Nat.le_refl _), List.take_of_length_le (l := hs) (by rw [HHL.out]; exact Nat.le_refl _)])
  have HGL : Hid ((givL (ls ++ parL ls q) hs).length = T) := Lib.hid (by rw [givL_length _ _ (by rw [HAL.out, HHL.out]), HAL.out])
  have HG0 : Hid (givL ((ls ++ parL ls q).take 0) (hs.take 0) = []) := Lib.hid (by rw [List.take_zero]; unfold givL; rfl)
  have HCT : Hid (hs.take T = hs) := Lib.hid (List.take_of_length_le (by rw [HHL.out]; exact Nat.le_refl _))
  have HCX := Lib.hid (count_take hs)
  have HGR : Hid (∀ r ∈ givL (ls ++ parL ls q) hs, r.length ≤ 1000) := Lib.hid fun r hr => by
    obtain ⟨i, hi, rfl⟩ := List.mem_iff_getElem.1 hr
    have hi2 : i < (ls ++ parL ls q).length := by rw [HAL.out, ← HGL.out]; exact hi
    rw [givL_get _ _ i hi2 (by rw [HHL.out, ← HGL.out]; exact hi) hi]
    split
    · exact HAR.out _ (List.getElem_mem hi2)
    · decide
  clear hhs
  go_wp2_with (first
    | (at_builtin; refine wpList_append_q rfl (.tmp 26) (.tmp 27) rfl w2.heap.size 0 0 0 _ [] rfl HQ1.out a1 k c1 ls HC1.out.2.2 HX1.out HK.out rfl (by simp; omega) HZ1.out (Nat.le_refl _) (Nat.le_refl _) ?_; intro v3 w3 ho3 hg3 _; rw [List.nil_append] at ho3; have HB3 := Lib.hid (HQ1.out.grow HA1.out (Nat.le_refl _) hg3); have HO3 := Lib.hid ho3; have HX3 := Lib.hid (Lx.of_low (x := v3.ownBlock) HP2.out HB3.out (fun g hg => (HO3.out.lt g hg).1)); have HZ3 := Lib.hid HB3.out.size; clear ho3 hg3)
    | (at_builtin; refine wpList_append_q rfl (.tmp 28) (.tmp 29) rfl w2.heap.size 0 0 0 v3 ls rfl HO3.out a2 q c2 (parL ls q) HN2.out HX3.out HPL.out.symm rfl (by rw [← HK.out]; omega) HZ3.out (Nat.le_refl _) (Nat.le_refl _) ?_; intro v4 w4 ho4 hg4 _; have HB4 := Lib.hid (HO3.out.grow HB3.out (Nat.le_refl _) hg4); obtain ⟨a4, c4, rfl, hl4, hc4, hm4, hn4⟩ := ho4.read; rw [HAL.out] at hc4 ⊢; have HL4 := Lib.hid hl4; have hTc := hc4; have HC4 : Hid (T ≤ c4 ∧ c4 ≤ maxLen ∧ (a4 = none → c4 = 0)) := Lib.hid ⟨hc4, hm4, hn4⟩; have HBA4 := Lib.hid (HB2.out.trans (HB4.out.mono HB2.out.size)); clear ho4 hg4 hl4 hc4 hm4 hn4))
  generalize hAA : ls ++ parL ls q = all at *
  clear hAA
  refine (check_any a4 T c4 all q w4 HL4.out HAL.out.symm (by omega) hTc HC4.out.2.1 h0 h1 HAR.out).mono ?_
  rintro e w5 ⟨rfl, hb5⟩
  rw [HCH.out]
  have HB5 := Lib.hid (HBA4.out.trans (hb5.mono HBA4.out.size))
  have HL5 := Lib.hid (HL4.out.below hb5)
  have HH5 := Lib.hid (HHB.out.below HB5.out)
  clear hb5
  go_wp2_with fail
  go_loopg [10, 11, 12] T (fun gk vg vn vi wx => ∃ i : Nat, vi = .int .i64 i ∧ i + gk = T ∧ vn = .int .i64 (((hs.take i).count true : Nat) : Int) ∧ Hid (Lq wx w5.heap.size 0 vg (givL (all.take i) (hs.take i))) ∧ Hid (Below w5.heap.size w5 wx))
  case atStart => exact ⟨0, rfl, by omega, by simp, Lib.hid (by rw [HG0.out]; exact Lq.nil _ _ _), Lib.hid (Below.refl _ _)⟩
  case round =>
    obtain ⟨i, rfl, hi, rfl, hO, hB⟩ := hrel
    cases gk with
    | zero =>
      have hlt : ¬ (i : Int) < (T : Int) := by omega
      obtain rfl : i = T := by omega
      rw [HCT.out]
      have hO1 := hO.out
      rw [HGE.out] at hO1
      obtain ⟨a6, c6, rfl, hl6, hc6, hm6, -⟩ := hO1.read
      rw [HGL.out] at hc6 ⊢
      have HL6 := Lib.hid hl6
      have HH6 := Lib.hid (HH5.out.below hB.out)
      have HL7 := Lib.hid (HL5.out.below hB.out)
      have HB6 := Lib.hid (HB5.out.trans (hB.out.mono HB5.out.size))
      obtain ⟨C, hC⟩ : ∃ C, C = hs.count true := ⟨_, rfl⟩
      rw [← hC] at HRE HRY HRN ⊢
      clear hO hO1 hl6 hc6 hm6 HCX HGT hC HCT
      go_wp2_with fail
      refine (recon_any a6 (some hda) i i c6 hc (givL all hs) hs q wr HL6.out HGL.out.symm (by omega) HH6.out HHL.out.symm h0 h1 HGR.out).mono ?_
      rintro e w7 ⟨a7, c7, rfl, hl7, hc7, hm7, hb7⟩
      have HB7 := Lib.hid (HB6.out.trans (hb7.mono HB6.out.size))
      have HL8 := Lib.hid (HL7.out.below hb7)
      by_cases hCk : k ≤ C
      · have hCk2 : ¬ (C : Int) < (k : Int) := by omega
        rw [HRY.out hCk] at hl7 ⊢
        rw [HRE.out, if_pos hCk, HAL.out]
        have HL9 := Lib.hid hl7
        clear hl7 hc7 hm7 hb7
        go_wp2_with fail
        refine (rsame_any a7 a4 i i c7 c4 all all w7 HL9.out HL8.out HAL.out.symm HAL.out.symm (by omega)).mono ?_
        rintro e w8 ⟨rfl, hb8⟩
        rw [eqL_self]
        have HB8 := Lib.hid (HB7.out.trans (hb8.mono HB7.out.size))
        clear hb8
        go_wp2_with fail
        refine (awake_any w8).mono ?_
        rintro e w9 ⟨rfl, hb9⟩
        have HB9 := Lib.hid (HB8.out.trans (hb9.mono HB8.out.size))
        clear hb9
        go_wp2
        go_ret
        exact ⟨rfl, HB9.out⟩
      · have hCk2 : (C : Int) < (k : Int) := by omega
        rw [HRN.out hCk]
        rw [HRE.out, if_neg hCk]
        clear hl7 hc7 hm7 hb7
        go_wp2_with fail
        refine (awake_any w7).mono ?_
        rintro e w9 ⟨rfl, hb9⟩
        have HB9 := Lib.hid (HB7.out.trans (hb9.mono HB7.out.size))
        clear hb9
        go_wp2
        go_ret
        exact ⟨rfl, HB9.out⟩
    | succ gk0 =>
      have hlt : (i : Int) < (T : Int) := by omega
      have hiT : i < T := by omega
      have hia : i < all.length := by rw [HAL.out]; exact hiT
      have hih : i < hs.length := by rw [HHL.out]; exact hiT
      obtain ⟨b7, off7, e7, hb7, f7⟩ := HH5.out.at_ i hih
      cases e7
      have f8 : wr.cell? ⟨b7, off7 + i, none⟩ = some (.bool (hs[i])) := (hB.out.cell (p := ⟨b7, off7 + i, none⟩) hb7).trans f7
      obtain ⟨b6, off6, rfl, hb6, a6, c6, f6, l6, g6, m6, e6⟩ := HL5.out.row i hia
      have f9 : wr.cell? ⟨b6, off6 + i, none⟩ = some (.slice a6 (all[i]).length c6) := (hB.out.cell (p := ⟨b6, off6 + i, none⟩) hb6).trans f6
      have HGX := Lib.hid (HGT.out i hia hih)
      have HC1 := Lib.hid (HCX.out i hih)
      have hC16 : (hs.take i).count true ≤ 16 := by
        have := List.count_le_length (a := true) (l := hs.take i)
        rw [List.length_take] at this
        omega
      have HLT : Hid ((givL (all.take i) (hs.take i)).length ≤ 100) := Lib.hid (by rw [givL_length _ _ (by rw [List.length_take, List.length_take]; omega), List.length_take]; omega)
      obtain ⟨W0, HW0⟩ : ∃ W0 : World, Hid (W0 = wr) := ⟨_, Lib.hid rfl⟩
      have HO0 : Hid (Lq W0 w5.heap.size 0 u10 (givL (all.take i) (hs.take i))) := Lib.hid (by rw [HW0.out]; exact hO.out)
      have HB0 : Hid (Below w5.heap.size w5 W0) := Lib.hid (by rw [HW0.out]; exact hB.out)
      generalize hC0 : (hs.take i).count true = C0 at *
      clear hC0
      rcases hx : hs[i] with _ | _
      · rw [hx] at f8
        rw [hx, if_neg (by simp)] at HGX HC1
        have HA1 : Hid (Below W0.heap.size W0 ((wr.alloc (.cells #[.int .u8 108, .int .u8 111, .int .u8 115, .int .u8 116] 5 (4, 5))).alloc (.cells #[.slice (some ⟨wr.heap.size, 0, none⟩) 4 4] 33))) := Lib.hid (by rw [HW0.out]; exact ((Below.refl wr.heap.size wr).alloc (Nat.le_refl _) _).alloc (by simp) _)
        have HLO := Lib.hid (Lie.lit wr lostL _ wr.heap.size (4, 5) rfl lost_cells)
        have HX1 : Hid (Lx ((wr.alloc (.cells #[.int .u8 108, .int .u8 111, .int .u8 115, .int .u8 116] 5 (4, 5))).alloc (.cells #[.slice (some ⟨wr.heap.size, 0, none⟩) 4 4] 33)) 0 u10.ownBlock (some ⟨wr.heap.size + 1, 0, none⟩) [lostL]) := Lib.hid (Lx.one (wr.alloc (.cells #[.int .u8 108, .int .u8 111, .int .u8 115, .int .u8 116] 5 (4, 5))) _ lostL _ (by simp) ⟨_, 4, rfl, (by
          have hg : ∀ g, u10.ownBlock = some g → g < wr.heap.size := fun g hg => by have := (HO0.out.lt g hg).2; rw [HW0.out] at this; exact this
          rcases HLO.out.at_ with h0 | ⟨b, off, e, hb, hc⟩
          · exact .inl h0
          · cases e
            exact .inr ⟨_, _, rfl, Nat.zero_le _, hb, fun e' => by have := hg _ e'.symm; omega, hc⟩), by decide, by unfold maxLen; omega, fun h => by cases h⟩)
        have HO1 := Lib.hid (HO0.out.below HA1.out)
        have HBA := Lib.hid (HB0.out.trans (HA1.out.mono HB0.out.size))
        have HZ1 := Lib.hid HBA.out.size
        have kc : (convert 33 33 (.slice (some ⟨wr.heap.size, 0, none⟩) 4 4)).run Try.prog (wr.alloc (.cells #[.int .u8 108, .int .u8 111, .int .u8 115, .int .u8 116] 5)) = .ok (.slice (some ⟨wr.heap.size, 0, none⟩) 4 4) (wr.alloc (.cells #[.int .u8 108, .int .u8 111, .int .u8 115, .int .u8 116] 5 (4, 5))) := Lib.run_convert_bytes_const wr 33 5 #[.int .u8 108, .int .u8 111, .int .u8 115, .int .u8 116] 4 4 Try.underlying33 Try.underlying5
        generalize (all[i]).length = N at f9
        clear f6 f7 l6 g6 m6 e6 hx hia hih hO
        go_wp2_with (at_builtin; refine wpList_append_q rfl (.tmp 85) (.tmp 88) rfl w5.heap.size 0 0 0 u10 _ rfl HO1.out _ 1 1 [lostL] (fun h => by cases h) HX1.out rfl rfl (by have := HLT.out; omega) HZ1.out (Nat.le_refl _) (Nat.le_refl _) ?_; intro v8 w8 ho8 hg8 _; rw [← HGX.out] at ho8; have HO8 := Lib.hid ho8; have HB8 : Hid (Below w5.heap.size w5 w8) := Lib.hid (HO1.out.grow HBA.out (Nat.le_refl _) hg8); clear ho8 hg8)
        go_roundg gk0
        case rel => exact ⟨i + 1, by go_num, by omega, by rw [HC1.out]; go_num, HO8, HB8⟩
        case measure => omega
      · rw [hx] at f8
        rw [hx, if_pos rfl] at HGX HC1
        obtain ⟨N, hN⟩ : ∃ N, N = (all[i]).length := ⟨_, rfl⟩
        rw [← hN] at f9 g6
        have HA1 : Hid (Below W0.heap.size W0 (wr.alloc (.cells #[.slice a6 N c6] 33))) := Lib.hid (by rw [HW0.out]; exact (Below.refl wr.heap.size wr).alloc (Nat.le_refl _) _)
        have HX1 : Hid (Lx (wr.alloc (.cells #[.slice a6 N c6] 33)) 0 u10.ownBlock (some ⟨wr.heap.size, 0, none⟩) [all[i]]) := Lib.hid (Lx.one wr _ (all[i]) _ rfl ⟨a6, c6, by rw [← hN], LieX.of_low l6 hB.out (fun g hg => (HO0.out.lt g hg).1), by rw [← hN]; exact g6, m6, e6⟩)
        have HO1 := Lib.hid (HO0.out.below HA1.out)
        have HBA := Lib.hid (HB0.out.trans (HA1.out.mono HB0.out.size))
        have HZ1 := Lib.hid HBA.out.size
        generalize all[i] = row at HGX HX1
        clear f6 f7 l6 g6 m6 e6 hx hN hia hih hO
        go_wp2_with (at_builtin; refine wpList_append_q rfl (.tmp 78) (.tmp 83) rfl w5.heap.size 0 0 0 u10 _ rfl HO1.out _ 1 1 [row] (fun h => by cases h) HX1.out rfl rfl (by have := HLT.out; omega) HZ1.out (Nat.le_refl _) (Nat.le_refl _) ?_; intro v8 w8 ho8 hg8 _; rw [← HGX.out] at ho8; have HO8 := Lib.hid ho8; have HB8 : Hid (Below w5.heap.size w5 w8) := Lib.hid (HO1.out.grow HBA.out (Nat.le_refl _) hg8); clear ho8 hg8)
        go_roundg gk0
        case rel => exact ⟨i + 1, by go_num, by omega, by rw [HC1.out]; go_num, HO8, HB8⟩
        case measure => omega
end Go.Proofs.Ytinfjidclkgfnaa
