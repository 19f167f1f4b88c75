/-
  TopShards: the walk.
-/
import Derived.Test.YtinfjidclkgfnaaETopG
import Derived.Test.YtinfjidclkgfnaaEFolM
import Derived.Test.YtinfjidclkgfnaaHApp
namespace Go.Proofs.Ytinfjidclkgfnaa
open Go.RowKit
attribute [local irreducible] parL parR parE recE recR rowsL knownL torL colL appL matL sameL cols shB pick
set_option maxRecDepth 100000 in
set_option maxHeartbeats 3000000 in
theorem law_shards (ad hd : Option Addr) (n m cap hc : Nat) (ls : List (List UInt8)) (hs : List Bool) (p : Int) (w : World) (hl : Lr w ad ls) (hn : n = ls.length) (hm : n ≤ maxLen) (hb : LieB w hd hs) (hh : m = hs.length) (hmh : m ≤ maxLen) :
    Calls Try.prog 9 #[.slice ad n cap, .int .i64 p, .slice hd m hc] w fun e w' => e = .returned (.bool true) ∧ Below w.heap.size w w' := by
  have HL := Lib.hid hl
  have HN := Lib.hid hn
  have HM := Lib.hid hm
  have HB := Lib.hid hb
  have HH := Lib.hid hh
  have hcod : ∀ W, Below w.heap.size w W → Calls Try.prog 27 #[] W fun e w' => e = .returned (.bool true) ∧ Below w.heap.size w w' := fun W hW => (codes_any W).mono fun e w' ⟨h1, h2⟩ => ⟨h1, hW.trans (h2.mono hW.size)⟩
  have HCO := Lib.hid hcod
  unfold maxLen at hm hmh
  clear hl hb hn hh hcod
  go_enter Try.func9, Try.ntmps9
  go_wp2_with fail
  refine (shards_any ad n cap ls w HL.out HN.out HM.out).mono ?_
  rintro e w1 ⟨rfl, hb1⟩
  have HB1 := Lib.hid hb1
  clear hb1
  rcases hE : shB ls with _ | _
  · clear hE
    go_wp2_with fail
    refine (HCO.out w1 HB1.out).mono ?_
    rintro e w3 ⟨rfl, hb3⟩
    go_wp2
    go_ret
    exact ⟨rfl, hb3⟩
  obtain ⟨hsm, hr40, hn1, hn8⟩ := shB_yes hE
  rw [← HN.out] at hn1 hn8
  clear hE
  by_cases hp1 : p < 1
  · go_wp2_with fail
    refine (HCO.out w1 HB1.out).mono ?_
    rintro e w3 ⟨rfl, hb3⟩
    go_wp2
    go_ret
    exact ⟨rfl, hb3⟩
  by_cases hp8 : 8 < p
  · go_wp2_with fail
    refine (HCO.out w1 HB1.out).mono ?_
    rintro e w3 ⟨rfl, hb3⟩
    go_wp2
    go_ret
    exact ⟨rfl, hb3⟩
  obtain ⟨q, rfl⟩ := Int.eq_ofNat_of_zero_le (show 0 ≤ p by omega)
  have hq1 : 1 ≤ q := by omega
  have hq8 : q ≤ 8 := by omega
  have hp1' : ¬ (q : Int) < 1 := hp1
  have hp8' : ¬ 8 < (q : Int) := hp8
  by_cases hT : m = n + q
  rotate_left
  · have hne : ((m : Int) != ((n : Int) + (q : Int))) = true := bne_iff_ne.2 (by omega)
    go_wp2_with fail
    refine (HCO.out w1 HB1.out).mono ?_
    rintro e w3 ⟨rfl, hb3⟩
    go_wp2
    go_ret
    exact ⟨rfl, hb3⟩
  have hne : ((m : Int) != ((n : Int) + (q : Int))) = false := bne_eq_false_iff_eq.2 (by omega)
  have HSM := Lib.hid hsm
  have HR : Hid (∀ r ∈ ls, r.length ≤ 1000) := Lib.hid fun r hr => Nat.le_trans (hr40 r hr) (by omega)
  have HV : Hid (vc (n : Int) q = true) := Lib.hid (vc_yes ⟨by omega, by omega, by omega⟩)
  have HVL : Hid (vc (ls.length : Int) q = true) := Lib.hid (by rw [← HN.out]; exact HV.out)
  have HPE : Hid (parE ls (q : Int) = 0) := Lib.hid (parE_ok HVL.out hsm)
  have HPR : Hid (parR ls (q : Int) = parL ls q) := Lib.hid (by rw [parR_ok HVL.out hsm, Int.toNat_natCast])
  have HPL : Hid ((parL ls q).length = q) := Lib.hid (parL_length _ _)
  have h0l : 0 < ls.length := by have := HN.out; omega
  obtain ⟨b, off, rfl, hbl, a0, c0, f0, l0, g0, m0, -⟩ := HL.out.row 0 h0l
  obtain ⟨L, hL⟩ : ∃ L, L = cols ls := ⟨_, rfl⟩
  have hL0 : (ls[0]).length = L := by rw [hL]; exact sameL_len hsm 0 h0l
  have hL40 : L ≤ 40 := by rw [← hL0]; exact hr40 _ (List.getElem_mem h0l)
  rw [hL0, Nat.add_zero] at f0
  rw [hL0] at g0
  have HLL := Lib.hid hL
  have HRL : Hid (∀ r ∈ ls, r.length = L) := Lib.hid fun r hr => by rw [hL]; exact (sameL_iff ls).1 hsm r hr
  obtain ⟨bh, oh, rfl, -⟩ := HB.out.at_ 0 (by have := HH.out; omega)
  have HAL : Hid ((ls ++ parL ls q).length = m) := Lib.hid (by rw [List.length_append, HPL.out, ← HN.out]; exact hT.symm)
  have HAR : Hid (∀ r ∈ ls ++ parL ls q, r.length = L) := Lib.hid fun r hr => by rw [hL]; exact code_row (q := q) hsm r hr
  have hHS : hs.length = n + q := by rw [← HH.out]; exact hT
  have HRN : Hid (n ≤ hs.count true → (rowsL n q hs).length = n) := Lib.hid fun h => rows_length hHS h
  have HKN : Hid ((knownL n (ls ++ parL ls q) hs).length = min n (hs.count true)) := Lib.hid (by
    unfold knownL
    rw [List.length_take, pick_length _ _ (by rw [HAL.out, hHS, hT]; exact Nat.le_refl _)])
  have HKR : Hid (∀ r ∈ knownL n (ls ++ parL ls q) hs, r.length = L) := Lib.hid fun r hr => HAR.out r (by unfold knownL at hr; exact pick_mem _ _ r (List.mem_of_mem_take hr))
  have HRV : Hid (n ≤ hs.count true → ValidL (rowsL n q hs) ∧ (rowsL n q hs).length = cols (rowsL n q hs) ∧ ∃ A, Inv (rowsL n q hs).length A (ent (rowsL n q hs))) := Lib.hid fun h => ⟨rows_valid hHS h hn1 (by omega), by rw [rows_length hHS h, rows_cols hHS h hn1], by rw [rows_length hHS h]; exact rows_inv hHS h (by omega)⟩
  have HCB : Hid (n ≤ hs.count true → ∀ (A : Nat → Nat → UInt8), Inv n A (ent (rowsL n q hs)) → ∀ (c i : Nat) (hi : i < (appL (matL n n A) (colL (knownL n (ls ++ parL ls q) hs) c)).length) (hi2 : i < ls.length) (hc2 : c < (ls[i]).length), (appL (matL n n A) (colL (knownL n (ls ++ parL ls q) hs) c))[i] = (ls[i])[c]) := Lib.hid fun h A hA c i => col_back HN.out.symm hn1 (by omega) hsm hHS h A hA c i
  have HTE : Hid (n ≤ hs.count true → recE (torL (ls ++ parL ls q) hs m) hs q = 0) := Lib.hid fun h => tor_recE HN.out.symm hsm HV.out hHS h m
  have HTR : Hid (n ≤ hs.count true → recR (torL (ls ++ parL ls q) hs m) hs q = ls ++ parL ls q) := Lib.hid fun h => tor_recR HN.out.symm hsm HV.out hHS h m
  have HTW : Hid (∀ r ∈ torL (ls ++ parL ls q) hs m, r.length ≤ 1000) := Lib.hid fun r hr => Nat.le_trans (tor_row hsm m r hr) (by rw [← hL]; omega)
  have HT := Lib.hid hT
  have hm16 : m ≤ 16 := by omega
  have hm1 : 0 < m := by omega
  unfold maxLen at m0
  clear hp1 hp8 hsm hr40 h0l hL hL0 l0 hHS HVL hT
  go_wp2_with fail
  refine (parity_any _ n cap ls q w1 (HL.out.below HB1.out) HN.out HM.out HR.out).mono ?_
  rintro e w2 ⟨v2, rfl, ho2, hb2⟩
  rw [HPE.out]
  rw [HPR.out] at ho2
  obtain ⟨a2, c2, rfl, hl2, -, -, hn2⟩ := ho2.read
  rw [HPL.out]
  have HB2 := Lib.hid (HB1.out.trans (hb2.mono HB1.out.size))
  have HP2 := Lib.hid hl2
  have HN2 := Lib.hid hn2
  have HLS := Lib.hid (HL.out.below HB2.out)
  have HQ1 := Lib.hid (Lq.made w2 0 _ rfl)
  have HA1 : Hid (Below w2.heap.size w2 (w2.alloc (.cells #[] 33))) := Lib.hid ((Below.refl _ _).alloc (Nat.le_refl _) _)
  have HX1 := Lib.hid (Lx.of_low (x := (Value.slice (some ⟨w2.heap.size, 0, none⟩) 0 0).ownBlock) HLS.out HA1.out (fun g hg => by cases hg; exact Nat.le_refl _))
  have HZ1 := Lib.hid HA1.out.size
  have hT2 : ls.length + q ≤ 100000 := by have := HN.out; omega
  have HT2 := Lib.hid hT2
  clear ho2 hb2 hl2 hn2 hT2 HB1
  go_wp2_with (first
    | (at_builtin; refine wpList_append_q rfl (.tmp 60) (.tmp 61) rfl w2.heap.size 0 0 0 _ [] rfl HQ1.out (some ⟨b, off, none⟩) n cap ls (fun h => by cases h) HX1.out HN.out rfl (by simp; omega) HZ1.out (Nat.le_refl _) (Nat.le_refl _) ?_; intro v3 w3 ho3 hg3 h5; clear h5; rw [List.nil_append] at ho3; have HB3 := Lib.hid (HQ1.out.grow HA1.out (Nat.le_refl _) hg3); have HO3 := Lib.hid ho3; have HX3 := Lib.hid (Lx.of_low (x := v3.ownBlock) HP2.out HB3.out (fun g hg => (HO3.out.lt g hg).1)); have HZ3 := Lib.hid HB3.out.size; clear ho3 hg3)
    | (at_builtin; refine wpList_append_q rfl (.tmp 62) (.tmp 63) rfl w2.heap.size 0 0 0 v3 ls rfl HO3.out a2 q c2 (parL ls q) HN2.out HX3.out HPL.out.symm rfl HT2.out HZ3.out (Nat.le_refl _) (Nat.le_refl _) ?_; intro v4 w4 ho4 hg4 h5; clear h5; have HB4 := Lib.hid (HO3.out.grow HB3.out (Nat.le_refl _) hg4); obtain ⟨a4, c4, rfl, hl4, hc4, hm4, hn4⟩ := ho4.read; rw [HAL.out] at hc4 ⊢; have HL4 := Lib.hid hl4; have HC4 : Hid (m ≤ c4 ∧ c4 ≤ maxLen ∧ (a4 = none → c4 = 0)) := Lib.hid ⟨hc4, hm4, hn4⟩; have HBA4 := Lib.hid (HB2.out.trans (HB4.out.mono HB2.out.size)); clear ho4 hg4 hl4 hc4 hm4 hn4))
  clear HQ1 HA1 HX1 HZ1 HT2 HO3 HX3 HZ3 HB3 HB4 HP2 HN2 HPE HPR HLS
  generalize ls ++ parL ls q = all at HAL HAR HKN HKR HCB HTE HTR HTW HL4
  have HH4 := Lib.hid (HB.out.below HBA4.out)
  refine (generator_any a4 (some ⟨bh, oh, none⟩) m c4 hc n q all hs w4 HL4.out HAL.out.symm HH4.out HH.out hn1 hn8 hq1 hq8 HT.out).mono ?_
  rintro e w5 ⟨v1, v5, rfl, ho1, ho5, hb5⟩
  have HB5 := Lib.hid (HBA4.out.trans (hb5.mono HBA4.out.size))
  obtain ⟨a6, c6, rfl, hl6, -, -, -⟩ := ho5.read
  obtain ⟨a5, c5, rfl, hl5, -, -, -⟩ := ho1.read
  have HL6 := Lib.hid hl6
  have HL5 := Lib.hid hl5
  have HLA := Lib.hid (HL4.out.below hb5)
  clear ho1 ho5 hb5 hl5 hl6 HL4 HH4 HBA4
  by_cases hct : n ≤ hs.count true
  rotate_left
  · rw [HKN.out, Nat.min_eq_right (by omega)]
    have hlt : ((hs.count true : Nat) : Int) < (n : Int) := by omega
    generalize hs.count true = CT at hlt ⊢
    go_wp2_with fail
    refine (HCO.out w5 HB5.out).mono ?_
    rintro e w3 ⟨rfl, hb3⟩
    go_wp2
    go_ret
    exact ⟨rfl, hb3⟩
  have HUL : Hid ((knownL n all hs).length = n) := Lib.hid (by rw [HKN.out, Nat.min_eq_left hct])
  have HRN2 : Hid ((rowsL n q hs).length = n) := Lib.hid (HRN.out hct)
  have HCB2 := Lib.hid (HCB.out hct)
  have HTE2 := Lib.hid (HTE.out hct)
  have HTR2 := Lib.hid (HTR.out hct)
  have HRV2 := Lib.hid (HRV.out hct)
  rw [HUL.out, HRN2.out]
  clear hct HKN HRN HCB HTE HTR HRV
  go_wp2_with fail
  refine (invert_any a5 n c5 (rowsL n q hs) w5 HL5.out HRN2.out.symm (by unfold maxLen; omega)).mono ?_
  rintro e w6 ⟨hb6, ⟨-, -, A, ad6, cap6, hA, rfl, hl7, -, -⟩ | ⟨hno, -⟩⟩
  rotate_left
  · exact absurd HRV2.out hno
  rw [HRN2.out] at hA hl7 ⊢
  have HCC := Lib.hid (HCB2.out A hA)
  have HL7 := Lib.hid hl7
  have HB6 := Lib.hid (HB5.out.trans (hb6.mono HB5.out.size))
  have HU6 := Lib.hid (HL6.out.below hb6)
  have HLA6 := Lib.hid (HLA.out.below hb6)
  have HMV : Hid (ValidL (matL n n A) ∧ cols (matL n n A) = n ∧ (matL n n A).length = n) := Lib.hid ⟨matL_valid _ _ _ hn1 (by omega) hn1 (by omega), matL_cols _ _ _ hn1, matL_length _ _ _⟩
  clear hA hl7 hb6 HCB2 HRV2 HRN2 HL5 HL6 HLA
  generalize matL n n A = MI at HCC HL7 HMV
  generalize knownL n all hs = us at HKR HCC HUL HU6
  clear A
  go_wp2_with fail
  go_loopg [14] L (fun gk vk wx => ∃ c : Nat, vk = .int .i64 c ∧ c + gk = L ∧ Hid (Below w6.heap.size w6 wx))
  case atStart => exact ⟨0, rfl, by omega, Lib.hid (Below.refl _ _)⟩
  case round =>
    obtain ⟨c, rfl, hc', hBc⟩ := hrel
    have HBW := Lib.hid (HB6.out.trans (hBc.out.mono HB6.out.size))
    have f1 : wr.cell? ⟨b, off, none⟩ = some (.slice a0 L c0) := (HBW.out.cell (p := ⟨b, off, none⟩) hbl).trans f0
    cases gk with
    | zero =>
      have hlt : ¬ (c : Int) < (L : Int) := by omega
      obtain ⟨Wt, hWt⟩ : ∃ Wt : World, Wt = wr := ⟨_, rfl⟩
      subst hWt
      have HLA7 := Lib.hid (HLA6.out.below hBc.out)
      have HH7 := Lib.hid (HB.out.below HBW.out)
      have HQ1 := Lib.hid (Lq.made Wt 0 _ rfl)
      have HA1 : Hid (Below Wt.heap.size Wt (Wt.alloc (.cells #[] 33))) := Lib.hid ((Below.refl _ _).alloc (Nat.le_refl _) _)
      have HX1 := Lib.hid (Lx.of_low (x := (Value.slice (some ⟨Wt.heap.size, 0, none⟩) 0 0).ownBlock) HLA7.out HA1.out (fun g hg => by cases hg; exact Nat.le_refl _))
      have HZ1 := Lib.hid HA1.out.size
      clear hBc HCC HMV HL7 HU6 HUL HKR HLA6
      go_wp2_with (at_builtin; refine wpList_append_q rfl (.tmp 151) (.tmp 152) rfl Wt.heap.size 0 0 0 _ [] rfl HQ1.out a4 m c4 all HC4.out.2.2 HX1.out HAL.out.symm rfl (by simp; omega) HZ1.out (Nat.le_refl _) (Nat.le_refl _) ?_; intro v20 w9 ho9 hg9 h5; clear h5; rw [List.nil_append] at ho9; have HB9 := Lib.hid (HQ1.out.grow HA1.out (Nat.le_refl _) hg9); obtain ⟨gt, ct, e20, -⟩ := ho9.set_ 0 (by rw [HAL.out]; omega) (.slice none 0 0) [] ⟨none, 0, rfl, .inl rfl, Nat.le_refl _, Nat.zero_le _, fun _ => rfl⟩; rw [HAL.out] at e20; subst e20; have HO9 : Hid (Lq w9 Wt.heap.size 0 (.slice (some ⟨gt, 0, none⟩) m ct) (torL all hs 0)) := Lib.hid (by rw [torL_zero]; exact ho9); clear ho9 hg9)
      clear HQ1 HA1 HX1 HZ1
      go_loopg [21] m (fun gj vj wx => ∃ i : Nat, vj = .int .i64 i ∧ i + gj = m ∧ Hid (Lq wx Wt.heap.size 0 (.slice (some ⟨gt, 0, none⟩) m ct) (torL all hs i)) ∧ Hid (Below Wt.heap.size Wt wx))
      case atStart => exact ⟨0, rfl, by omega, HO9, HB9⟩
      case round =>
        obtain ⟨i, rfl, hi, hO, hB9⟩ := hrel
        cases gk with
        | zero =>
          have hlt2 : ¬ (i : Int) < (m : Int) := by omega
          obtain rfl : m = i := by omega
          obtain ⟨a10, c10, e10, hl10, -⟩ := hO.out.read
          rw [torL_length, HAL.out] at e10
          cases e10
          have HL10 := Lib.hid hl10
          have HHR := Lib.hid (HH7.out.below hB9.out)
          have HLB := Lib.hid (HLA7.out.below hB9.out)
          have HBT := Lib.hid (HBW.out.trans (hB9.out.mono HBW.out.size))
          have HTL : Hid (m = (torL all hs m).length) := Lib.hid (by rw [torL_length]; exact HAL.out.symm)
          clear hl10 hO hB9 HLA7 HH7
          go_wp2_with fail
          refine (recon_any (some ⟨gt, 0, none⟩) (some ⟨bh, oh, none⟩) m m ct hc (torL all hs m) hs q wr HL10.out HTL.out (by omega) HHR.out HH.out (by omega) (by omega) HTW.out).mono ?_
          rintro e w11 ⟨a11, c11, rfl, hl11, -, -, hb11⟩
          rw [HTE2.out]
          rw [HTR2.out] at hl11 ⊢
          rw [HAL.out]
          have HL11 := Lib.hid hl11
          have HLC := Lib.hid (HLB.out.below hb11)
          have HBU := Lib.hid (HBT.out.trans (hb11.mono HBT.out.size))
          clear hl11 hb11 HLB HL10 HTL HTE2 HTR2 HTW
          go_wp2_with fail
          go_loopg [24] m (fun gj vj wx => ∃ t : Nat, vj = .int .i64 t ∧ t + gj = m ∧ Hid (∃ z, wx = w11.drewN z))
          case atStart => exact ⟨0, rfl, by omega, Lib.hid ⟨0, rfl⟩⟩
          case round =>
            obtain ⟨t, rfl, ht, hz⟩ := hrel
            cases gk with
            | zero =>
              have hlt3 : ¬ (t : Int) < (m : Int) := by omega
              have HBV : Hid (Below w.heap.size w wr) := Lib.hid (HBU.out.trans ((drewN_below w11 hz.out).mono HBU.out.size))
              go_wp2_with fail
              refine (HCO.out wr HBV.out).mono ?_
              rintro e w12 ⟨rfl, hb12⟩
              go_wp2
              go_ret
              exact ⟨rfl, hb12⟩
            | succ gj0 =>
              have hlt3 : (t : Int) < (m : Int) := by omega
              have htm : t < m := by omega
              have hta : t < all.length := by rw [HAL.out]; exact htm
              obtain ⟨b1, o1, rfl, -, p1, x1, e1, l1, -⟩ := HL11.out.row t hta
              obtain ⟨b2, o2, rfl, -, p2, x2, e2, l2, -⟩ := HLC.out.row t hta
              obtain ⟨z, hzz⟩ := hz.out
              have f1 : wr.cell? ⟨b1, o1 + t, none⟩ = some (.slice p1 (all[t]).length x1) := by rw [hzz]; exact e1
              have f2 : wr.cell? ⟨b2, o2 + t, none⟩ = some (.slice p2 (all[t]).length x2) := by rw [hzz]; exact e2
              have g1 : ∀ q2, (convert 33 9 (.slice p1 (all[t]).length x1)).run Try.prog (wr.drewN q2) = .ok (.string ⟨(all[t]).toArray⟩) (wr.drewN q2) := fun q2 => by rw [hzz]; exact conv_lie x1 ((l1.drewN z).drewN q2)
              have g2 : ∀ q2, (convert 33 9 (.slice p2 (all[t]).length x2)).run Try.prog (wr.drewN q2) = .ok (.string ⟨(all[t]).toArray⟩) (wr.drewN q2) := fun q2 => by rw [hzz]; exact conv_lie x2 ((l2.drewN z).drewN q2)
              generalize (⟨(all[t]).toArray⟩ : ByteArray) = S at g1 g2
              generalize (all[t]).length = N at f1 f2 g1 g2
              clear l1 l2 e1 e2 hta hzz
              go_wp2_with fail
              go_quiet (fail)
              go_wp2
              go_roundg gj0
              case rel => exact ⟨t + 1, by go_num, by omega, Lib.hid (by obtain ⟨q, h⟩ := hz.out; rw [h]; exact ⟨_, by first | rfl | rw [World.drewN_drewN]⟩)⟩
              case measure => omega
        | succ gk0 =>
          have hlt2 : (i : Int) < (m : Int) := by omega
          have him : i < m := by omega
          have hih : i < hs.length := by have := HH.out; omega
          obtain ⟨b0, off0, e0, hb0, f2⟩ := HH7.out.at_ i hih
          cases e0
          have f3 : wr.cell? ⟨bh, oh + i, none⟩ = some (.bool (hs[i])) := (hB9.out.cell (p := ⟨bh, oh + i, none⟩) hb0).trans f2
          rcases hx : hs[i] with _ | _
          · rw [hx] at f3
            obtain ⟨g', ct', e', hg', -, -, -, ⟨u, hu⟩, hzf, hset⟩ := hO.out.set_ i (by rw [torL_length, HAL.out]; exact him) (.slice none 0 0) [] ⟨none, 0, rfl, .inl rfl, Nat.le_refl _, Nat.zero_le _, fun _ => rfl⟩
            rw [torL_length, HAL.out] at e'
            cases e'
            rw [← torL_drop hih hx] at hset
            have HS := Lib.hid hset
            have HBS := Lib.hid (hB9.out.setCell (p := ⟨gt, i, none⟩) hg' (.slice none 0 0))
            clear hset hx hih f2 hO
            go_wp2
            go_roundg gk0
            case rel => exact ⟨i + 1, by go_num, by omega, HS, HBS⟩
            case measure => omega
          · rw [hx] at f3
            have HS : Hid (Lq wr Wt.heap.size 0 (.slice (some ⟨gt, 0, none⟩) m ct) (torL all hs (i + 1))) := Lib.hid (by rw [torL_keep hih hx]; exact hO.out)
            clear hx hih f2 hO
            go_wp2
            go_roundg gk0
            case rel => exact ⟨i + 1, by go_num, by omega, HS, hB9⟩
            case measure => omega
    | succ gk0 =>
      have hlt : (c : Int) < (L : Int) := by omega
      have hcL : c < L := by omega
      obtain ⟨W0, HW0⟩ : ∃ W0 : World, Hid (W0 = wr) := ⟨_, Lib.hid rfl⟩
      have HBC : Hid (Below w6.heap.size w6 W0) := Lib.hid (by rw [HW0.out]; exact hBc.out)
      have HWW : Hid (Below W0.heap.size W0 wr) := Lib.hid (by rw [HW0.out]; exact Below.refl _ _)
      go_wp2_with fail
      clear f1
      go_loopg [15, 16] n (fun gj vv vi wx => ∃ i : Nat, vi = .int .i64 i ∧ i + gj = n ∧ Hid (Own wx W0.heap.size vv (colL (us.take i) c)) ∧ Hid (Below W0.heap.size W0 wx))
      case atStart => exact ⟨0, rfl, by omega, Lib.hid (by rw [List.take_zero]; unfold colL; exact Own.ofNil _ _), HWW⟩
      case round =>
        obtain ⟨i, rfl, hi, hO, hBi⟩ := hrel
        cases gk with
        | zero =>
          have hlt2 : ¬ (i : Int) < (n : Int) := by omega
          obtain rfl : n = i := by omega
          have hO1 := hO.out
          rw [List.take_of_length_le (by rw [HUL.out]; exact Nat.le_refl _)] at hO1
          obtain ⟨adv, capv, rfl, hlv, -, -, -⟩ := hO1.slice
          have HVN : Hid ((colL us c).length = n) := Lib.hid (by rw [colL_length, HUL.out])
          rw [HVN.out]
          have HLV := Lib.hid hlv
          have HB8 := Lib.hid (HBC.out.trans (hBi.out.mono HBC.out.size))
          clear hO hO1 hlv
          go_wp2_with fail
          refine (app_any ad6 adv n n cap6 capv MI (colL us c) wr (HL7.out.below HB8.out) HMV.out.2.2.symm (by unfold maxLen; omega) HLV.out HVN.out.symm (by unfold maxLen; omega)).mono ?_
          rintro e w8 ⟨hb8, ⟨-, adg, capg, rfl, hlg, hcg, hmg⟩ | ⟨hno, -⟩⟩
          rotate_left
          · exact absurd ⟨HMV.out.1, by rw [HMV.out.2.1, HVN.out]⟩ hno
          rw [HMV.out.2.2] at hcg ⊢
          have HGL := Lib.hid hlg
          have HGN : Hid ((appL MI (colL us c)).length = n) := Lib.hid (by rw [appL_eq, rowF_length]; exact HMV.out.2.2)
          have HCX := Lib.hid (HCC.out c)
          have HB9 := Lib.hid (HB8.out.trans (hb8.mono HB8.out.size))
          have HBX := Lib.hid (HB6.out.trans (HB9.out.mono HB6.out.size))
          have HD9 := Lib.hid (HL.out.below HBX.out)
          generalize appL MI (colL us c) = got at HGL HGN HCX
          clear hlg hb8 hcg hmg
          go_wp2_with fail
          go_loopg [19] n (fun gj vj wx => ∃ j : Nat, vj = .int .i64 j ∧ j + gj = n ∧ Hid (Below w8.heap.size w8 wx))
          case atStart => exact ⟨0, rfl, by omega, Lib.hid (Below.refl _ _)⟩
          case round =>
            obtain ⟨j, rfl, hj, hBj⟩ := hrel
            cases gk with
            | zero =>
              have hlt3 : ¬ (j : Int) < (n : Int) := by omega
              have HBE := Lib.hid (HB9.out.trans (hBj.out.mono HB9.out.size))
              go_wp2
              go_roundg gk0
              case rel => exact ⟨c + 1, by go_num, by omega, HBE⟩
              case measure => omega
            | succ gj0 =>
              have hlt3 : (j : Int) < (n : Int) := by omega
              have hjn : j < n := by omega
              have y1 : j < got.length := by rw [HGN.out]; exact hjn
              have y2 : j < ls.length := by rw [← HN.out]; exact hjn
              have y3 : c < (ls[j]).length := by rw [HRL.out _ (List.getElem_mem y2)]; exact hcL
              obtain ⟨q1, s1, rfl, -, k1⟩ := (HGL.out.below hBj.out rfl).ev (by omega)
              obtain ⟨b', off', e', -, a7, c7, f7, l7, g7, m7, -⟩ := (HD9.out.below hBj.out).row j y2
              cases e'
              obtain ⟨q2, s2, rfl, -, k2⟩ := l7.ev (by omega)
              have k3 := k1 j y1
              have k4 := k2 c y3
              rw [HCX.out j y1 y2 y3] at k3
              rw [HRL.out _ (List.getElem_mem y2)] at f7 g7
              generalize (ls[j])[c] = z at k3 k4
              unfold maxLen at m7
              clear k1 k2 l7 y1 y2 y3
              go_wp2_with fail
              go_quiet (fail)
              go_wp2
              go_roundg gj0
              case rel => exact ⟨j + 1, by go_num, by omega, Lib.hid (below_drewN hBj.out _)⟩
              case measure => omega
        | succ gj0 =>
          have hlt2 : (i : Int) < (n : Int) := by omega
          have hin : i < n := by omega
          have hiu : i < us.length := by rw [HUL.out]; exact hin
          have hcu : c < (us[i]).length := by rw [HKR.out _ (List.getElem_mem hiu)]; exact hcL
          have HBY := Lib.hid (HBC.out.trans (hBi.out.mono HBC.out.size))
          obtain ⟨b7, off7, rfl, -, a7, c7, f7, l7, g7, m7, -⟩ := (HU6.out.below HBY.out).row i hiu
          obtain ⟨q2, s2, rfl, -, k2⟩ := l7.ev (by omega)
          have k4 := k2 c hcu
          have HTX := Lib.hid (colL_take us c i hiu hcu)
          rw [HKR.out _ (List.getElem_mem hiu)] at f7 g7
          generalize (us[i])[c] = z at k4 HTX
          have z0 := ev_lo z
          have z1 := ev_hi z
          have HLT : Hid ((colL (us.take i) c).length ≤ 100) := Lib.hid (by rw [colL_length, List.length_take, HUL.out]; omega)
          have HO1 := Lib.hid (hO.out.below ((Below.refl _ _).alloc (Nat.le_refl _) (.cells #[.int .u8 (ev z)] 5)))
          have HB1 := Lib.hid (hBi.out.alloc hBi.out.size (.cells #[.int .u8 (ev z)] 5))
          have HLI := Lib.hid (Lie.one wr (ev z) z (ev_nat z))
          have hlt4 : ¬ (L : Int) ≤ (c : Int) := by omega
          unfold maxLen at m7
          clear k2 l7 hiu hcu hO
          go_wp2_with (at_builtin; refine wpList_append_u rfl (.tmp 108) (.tmp 116) rfl W0.heap.size u15 _ rfl HO1.out _ 1 1 [z] (fun h => by cases h) HLI.out rfl rfl (by have := HLT.out; omega) HB1.out.size ?_; intro v3 w3 ho3 hg3; rw [← HTX.out] at ho3; have HO3 := Lib.hid ho3; have HB3 : Hid (Below W0.heap.size W0 w3) := Lib.hid (below_app HB1.out HO1.out hg3); clear ho3 hg3)
          go_roundg gj0
          case rel => exact ⟨i + 1, by go_num, by omega, HO3, HB3⟩
          case measure => omega
end Go.Proofs.Ytinfjidclkgfnaa
