/-
  ErasureFollows: the walk.
-/
import Derived.Test.YtinfjidclkgfnaaEFolM
import Derived.Test.YtinfjidclkgfnaaEUpd
namespace Go.Proofs.Ytinfjidclkgfnaa
open Go.RowKit
attribute [local irreducible] parL parR parE upE upR upL chkL fewL oneL oneR sameL cauF
set_option maxRecDepth 100000 in
set_option maxHeartbeats 4000000 in
theorem law_follows (ad nd : Option Addr) (n m cap nc : Nat) (xs : List (List UInt8)) (new : List UInt8) (p x : Int) (w : World) (hl : Lr w ad xs) (hn : n = xs.length) (hm : n ≤ maxLen) (hw : Lie w nd new) (hw1 : m = new.length) (hw2 : m ≤ nc) (hw3 : nc ≤ maxLen) (hw4 : nd = none → nc = 0) :
    Calls Try.prog 7 #[.slice ad n cap, .int .i64 p, .int .i64 x, .slice nd m nc] w fun e w' => e = .returned (.bool true) ∧ Below w.heap.size w w' := by
  have HDN : Hid (Hds w (.slice nd m nc) new) := Lib.hid ⟨nd, nc, by rw [hw1], hw, by omega, hw3, hw4⟩
  have HLW := Lib.hid hw
  have HMW := Lib.hid hw1
  have HNC := Lib.hid hw3
  have HL := Lib.hid hl
  have HN := Lib.hid hn
  have HM := Lib.hid hm
  unfold maxLen at hw3
  clear hl hn hm hw hw1 hw4
  go_enter Try.func7, Try.ntmps7
  go_wp2_with fail
  refine (few_any ad n cap xs w HL.out HN.out HM.out).mono ?_
  rintro e w1 ⟨a1, c1, rfl, hl1, hc1, hm1, hn1, hb1⟩
  have HF := Lib.hid (fewL_length xs)
  have HR : Hid (∀ r ∈ fewL xs, r.length ≤ 1000) := Lib.hid fun r hr => Nat.le_trans (fewL_row xs r hr) (by omega)
  have HR4 := Lib.hid (fewL_row xs)
  obtain ⟨ls, hls⟩ : ∃ ls, ls = fewL xs := ⟨_, rfl⟩
  rw [← hls] at hl1 hc1 HF HR HR4 ⊢
  obtain ⟨k, hk⟩ : ∃ k, k = ls.length := ⟨_, rfl⟩
  rw [← hk] at hc1 HF ⊢
  have hk17 : k ≤ 17 := HF.out
  have HK := Lib.hid hk
  have HB1 := Lib.hid hb1
  have HL1 := Lib.hid hl1
  have HC1 : Hid (k ≤ c1 ∧ c1 ≤ maxLen ∧ (a1 = none → c1 = 0)) := Lib.hid ⟨hc1, hm1, hn1⟩
  have HKM : Hid (k ≤ maxLen) := Lib.hid (Nat.le_trans hc1 hm1)
  clear hls hl1 hc1 hm1 hn1 hb1 hk HF
  go_wp2_with fail
  refine (parity_any a1 k c1 ls p w1 HL1.out HK.out HKM.out HR.out).mono ?_
  rintro e w2 ⟨v2, rfl, ho2, hb2⟩
  obtain ⟨a2, c2, rfl, hl2, hc2, hm2, hn2⟩ := ho2.read
  have HB2 := Lib.hid (HB1.out.trans (hb2.mono HB1.out.size))
  have HLS := Lib.hid (HL1.out.below hb2)
  have HP2 := Lib.hid hl2
  have HN2 : Hid ((parR ls p).length ≤ c2 ∧ (a2 = none → c2 = 0)) := Lib.hid ⟨hc2, hn2⟩
  clear ho2 hb2 hl2 hc2 hm2 hn2 HL1
  rcases hE : decide (parE ls p = 0) with _ | _
  · have hE2 : ¬ parE ls p = 0 := of_decide_eq_false hE
    generalize parE ls p = E at hE2
    clear hE
    go_wp2_with fail
    refine (awake_any w2).mono ?_
    rintro e w3 ⟨rfl, hb3⟩
    have HB3 := Lib.hid (HB2.out.trans (hb3.mono HB2.out.size))
    clear hb3
    go_wp2
    go_ret
    exact ⟨rfl, HB3.out⟩
  have hE2 : parE ls p = 0 := of_decide_eq_true hE
  obtain ⟨hv, hsm⟩ := parE_zero hE2
  have hq := (vc_iff _ _).1 hv
  rw [← HK.out] at hq
  obtain ⟨q, rfl⟩ := Int.eq_ofNat_of_zero_le hq.2.1
  have HPR : Hid (parR ls (q : Int) = parL ls q) := Lib.hid (by rw [parR_ok hv hsm, Int.toNat_natCast])
  have HV : Hid (vc (k : Int) q = true) := Lib.hid (by rw [HK.out]; exact hv)
  have HSM := Lib.hid hsm
  have hk1 : 1 ≤ k := by omega
  have hkq : k + q ≤ 16 := by omega
  have HPL := Lib.hid (parL_length ls q)
  rw [HPR.out] at HP2 HN2 ⊢
  rw [HPL.out] at HN2 ⊢
  rw [hE2]
  clear hE hE2 hv hsm hq
  have haw : ∀ (W : World), Below w.heap.size w W → Calls Try.prog 16 #[] W fun e w' => e = .returned (.bool true) ∧ Below w.heap.size w w' := fun W hW => (awake_any W).mono fun e w' ⟨h1, h2⟩ => ⟨h1, hW.trans (h2.mono hW.size)⟩
  have HAW := Lib.hid haw
  clear haw
  by_cases hx0 : x < 0
  · go_wp2_with fail
    refine (HAW.out w2 HB2.out).mono ?_
    rintro e w3 ⟨rfl, hb3⟩
    go_wp2
    go_ret
    exact ⟨rfl, hb3⟩
  by_cases hx1 : (k : Int) ≤ x
  · go_wp2_with fail
    refine (HAW.out w2 HB2.out).mono ?_
    rintro e w3 ⟨rfl, hb3⟩
    go_wp2
    go_ret
    exact ⟨rfl, hb3⟩
  obtain ⟨y, rfl⟩ := Int.eq_ofNat_of_zero_le (show 0 ≤ x by omega)
  have hyk : y < k := by omega
  have hyk2 : (y : Int) < (k : Int) := by omega
  have hyl : y < ls.length := by rw [← HK.out]; exact hyk
  obtain ⟨b, off, e1, hbl, a3, c3, f3, l3, g3, m3, n3⟩ := HLS.out.row y hyl
  subst e1
  have hlen : (ls[y]).length = cols ls := sameL_len HSM.out y hyl
  obtain ⟨L, hL⟩ : ∃ L, L = cols ls := ⟨_, rfl⟩
  rw [hlen, ← hL] at f3 g3
  by_cases hmL : m = L
  rotate_left
  · have hmL2 : ((m : Int) != (L : Int)) = true := bne_iff_ne.2 (by omega)
    unfold maxLen at m3
    clear hlen hL l3 hyl
    go_wp2_with fail
    refine (HAW.out w2 HB2.out).mono ?_
    rintro e w3 ⟨rfl, hb3⟩
    go_wp2
    go_ret
    exact ⟨rfl, hb3⟩
  subst hmL
  have HLL := Lib.hid hL
  have HNW : Hid (new.length = cols ls) := Lib.hid (by rw [← HMW.out]; exact hL)
  have HDO : Hid (Hds w2 (.slice a3 m c3) (ls[y])) := Lib.hid ⟨a3, c3, by rw [hlen, ← hL], l3, by rw [hlen, ← hL]; exact g3, m3, n3⟩
  have HM40 : Hid (m ≤ 40) := Lib.hid (by rw [hL, ← hlen]; exact HR4.out _ (List.getElem_mem hyl))
  have HUP : Hid (upL (parL ls q) k y (ls[y]) new = parL (ls.set y new) q) := Lib.hid (by rw [HK.out]; exact up_set q HSM.out hyl HNW.out)
  have HSS : Hid (sameL (ls.set y new) = true) := Lib.hid (set_same HSM.out hyl HNW.out)
  have HSC : Hid (cols (ls.set y new) = cols ls) := Lib.hid (set_cols hyl HNW.out)
  have HSLN : Hid ((ls.set y new).length = k) := Lib.hid (by rw [List.length_set]; exact HK.out.symm)
  have HSR : Hid (∀ r ∈ ls.set y new, r.length ≤ 1000) := Lib.hid fun r hr => by
    rw [(sameL_iff _).1 HSS.out r hr, HSC.out]; exact cols_le ls 1000 HR.out
  have HPW : Hid (∀ r ∈ parL ls q, r.length ≤ 1000) := Lib.hid fun r hr => by rw [parL_row ls q r hr]; exact cols_le ls 1000 HR.out
  have HUE : Hid (upE (parL ls q) k y (ls[y]) new = 0) := Lib.hid (upE_ok (by rw [HPL.out]; exact HV.out) (by omega) (by omega) ((same_cons _ _ _).2 ⟨by rw [HNW.out, hlen], fun r hr => by rw [parL_row ls q r hr, hlen]⟩))
  have HUR : Hid (upR (parL ls q) k y (ls[y]) new = parL (ls.set y new) q) := Lib.hid (by unfold upR; rw [if_pos HUE.out, Int.toNat_natCast, Int.toNat_natCast]; exact HUP.out)
  have HOY : Hid ((ls[y]).length ≤ 1000) := Lib.hid (by rw [hlen]; exact cols_le ls 1000 HR.out)
  have HVS : Hid (vc (((ls.set y new).length : Nat) : Int) (q : Int) = true) := Lib.hid (by rw [HSLN.out]; exact HV.out)
  have HKD : Hid (y < ls.length) := Lib.hid hyl
  have HLO : Hid (Lie w2 a3 (ls[y])) := Lib.hid l3
  have HOM : Hid ((ls[y]).length = m) := Lib.hid (hlen.trans hL.symm)
  have HOE : Hid (∀ j (h : j < (ls[y]).length), (ls[y])[j] = ent ls y j) := Lib.hid fun j h => ent_get ls y j hyl h
  generalize ls[y] = old at HDO HUE HUR HOY HLO HOM HOE
  unfold maxLen at m3
  clear hlen hL l3 n3 hyl HUP
  have HQ1 := Lib.hid (Lq.made w2 0 _ rfl)
  have HA1 : Hid (Below w2.heap.size w2 (w2.alloc (.cells #[] 33))) := Lib.hid ((Below.refl _ _).alloc (Nat.le_refl _) _)
  have HX1 := Lib.hid (Lx.of_low (x := (Value.slice (some ⟨w2.heap.size, 0, none⟩) 0 0).ownBlock) HLS.out HA1.out (fun g hg => by cases hg; exact Nat.le_refl _))
  have HZ1 := Lib.hid HA1.out.size
  have HDN2 := Lib.hid (HDN.out.below HB2.out)
  go_wp2_with (at_builtin; refine wpList_append_q rfl (.tmp 55) (.tmp 56) rfl w2.heap.size 0 0 0 _ [] rfl HQ1.out (some ⟨b, off, none⟩) k c1 ls HC1.out.2.2 HX1.out HK.out rfl (by simp; omega) HZ1.out (Nat.le_refl _) (Nat.le_refl _) ?_; intro v3 w3 ho3 hg3 h5; clear h5; rw [List.nil_append] at ho3; have HB3 := Lib.hid (HQ1.out.grow HA1.out (Nat.le_refl _) hg3); obtain ⟨nd', nc', en, hln, gn1, gn2, gn3⟩ := HDN2.out; obtain ⟨g, cp, e3, hg1, hg2, hg4, hg5, ⟨u, hu⟩, hz, hset⟩ := ho3.set_ y HKD.out (.slice nd m nc) new ⟨nd', nc', en, LieX.of_low hln HB3.out (fun g hg => (ho3.lt g hg).1), gn1, gn2, gn3⟩; rw [← HK.out] at e3 hg4; subst e3; have HST := Lib.hid hset; have HG := Lib.hid hg1; have HCP : Hid (k ≤ cp ∧ cp ≤ maxLen) := Lib.hid ⟨hg4, hg5⟩; have HBS := Lib.hid (HB3.out.setCell (p := ⟨g, y, none⟩) hg1 (.slice nd m nc)); clear ho3 hg3 hln gn1 gn2 gn3 en hset hg1 hg2 hg4 hg5)
  obtain ⟨a5, c5, e5, hl5, -⟩ := HST.out.read
  rw [HSLN.out] at e5
  cases e5
  have HL5 := Lib.hid hl5
  generalize World.setCell w3 _ _ = W5 at HST HBS HL5 ⊢
  have HE5 : Hid (parE (ls.set y new) (q : Int) = 0) := Lib.hid (parE_ok HVS.out HSS.out)
  have HR5 : Hid (parR (ls.set y new) (q : Int) = parL (ls.set y new) q) := Lib.hid (by rw [parR_ok HVS.out HSS.out, Int.toNat_natCast])
  have HPS : Hid ((parL (ls.set y new) q).length = q) := Lib.hid (parL_length _ _)
  clear hl5 hu hz
  refine (parity_any (some ⟨g, 0, none⟩) k cp (ls.set y new) q W5 HL5.out HSLN.out.symm HKM.out HSR.out).mono ?_
  rintro e w4 ⟨v4, rfl, ho4, hb4⟩
  rw [HE5.out]
  rw [HR5.out] at ho4
  obtain ⟨a4, c4, rfl, hl4, -, -, -⟩ := ho4.read
  rw [HPS.out]
  have HB4 := Lib.hid (HBS.out.trans (hb4.mono HBS.out.size))
  have HL4 := Lib.hid hl4
  have HP4 := Lib.hid (HP2.out.below HB4.out)
  have HDO4 := Lib.hid (HDO.out.below HB4.out)
  have HDN4 := Lib.hid (HDN2.out.below HB4.out)
  have f4 : w4.cell? ⟨b, off + y, none⟩ = some (.slice a3 m c3) := (HB4.out.cell (p := ⟨b, off + y, none⟩) hbl).trans f3
  clear ho4 hb4 hl4
  go_wp2_with fail
  refine (update_any a2 a3 nd q c2 m c3 m nc (parL ls q) old new (k : Int) (y : Int) w4 HP4.out HPL.out.symm (by omega) HN2.out.1 HN2.out.2 HPW.out HDO4.out HOY.out HDN4.out (by omega) (by omega)).mono ?_
  rintro e w6 ⟨v6, rfl, ho6, hb6⟩
  rw [HUE.out]
  rw [HUR.out] at ho6
  obtain ⟨a6, c6, rfl, hl6, -, -, -⟩ := ho6.read
  rw [HPS.out]
  have HB6 := Lib.hid (HB4.out.trans (hb6.mono HB4.out.size))
  have HL6 := Lib.hid hl6
  have HL46 := Lib.hid (HL4.out.below hb6)
  clear ho6 hb6 hl6 f4
  go_wp2_with fail
  refine (rsame_any a6 a4 q q c6 c4 (parL (ls.set y new) q) (parL (ls.set y new) q) w6 HL6.out HL46.out HPS.out.symm HPS.out.symm (by omega)).mono ?_
  rintro e w7 ⟨rfl, hb7⟩
  rw [eqL_self]
  have HB7 := Lib.hid (HB6.out.trans (hb7.mono HB6.out.size))
  have HQ7 := Lib.hid (HL46.out.below hb7)
  have HP7 := Lib.hid (HP2.out.below HB7.out)
  clear hb7
  go_wp2_with fail
  have hm40 := HM40.out
  clear hx0 hx1 hw2 hw3 HST HBS HL5 HL6 HL46 HL4 HP4 HDO4 HDN4 HUE HUR HQ1 HX1 HZ1 HA1 HDN HDN2 HDO HOY HPW HSR HVS HPR HL HN HM HNC HE5 HR5
  go_loopg [16, 17] k (fun gk vo vk wx => ∃ i : Nat, vk = .int .i64 i ∧ i + gk = k ∧ Hid (Lq wx w7.heap.size 0 vo (oneL ls y new i)) ∧ Hid (Below w7.heap.size w7 wx))
  case atStart => exact ⟨0, rfl, by omega, Lib.hid (by rw [oneL_zero]; exact Lq.nil _ _ _), Lib.hid (Below.refl _ _)⟩
  case round =>
    obtain ⟨i, rfl, hi, hO, hB⟩ := hrel
    cases gk with
    | zero =>
      have hlt : ¬ (i : Int) < (k : Int) := by omega
      obtain rfl : k = i := by omega
      obtain ⟨a9, c9, rfl, hl9, -, -, -⟩ := hO.out.read
      rw [oneL_length] at ⊢
      have HL9 := Lib.hid hl9
      have HOS : Hid (sameL (oneL ls y new k) = true) := Lib.hid (oneL_same k hk1)
      have HOR : Hid (∀ r ∈ oneL ls y new k, r.length ≤ 1000) := Lib.hid fun r hr => by rw [oneL_row k r hr, ← HLL.out]; omega
      have HVO : Hid (vc ((oneL ls y new k).length : Int) (q : Int) = true) := Lib.hid (by rw [oneL_length]; exact HV.out)
      have HE9 : Hid (parE (oneL ls y new k) (q : Int) = 0) := Lib.hid (parE_ok HVO.out HOS.out)
      have HR9 : Hid (parR (oneL ls y new k) (q : Int) = parL (oneL ls y new k) q) := Lib.hid (by rw [parR_ok HVO.out HOS.out, Int.toNat_natCast])
      have HPO : Hid ((parL (oneL ls y new k) q).length = q) := Lib.hid (parL_length _ _)
      clear hl9 hO
      go_wp2_with fail
      refine (parity_any a9 k c9 (oneL ls y new k) q wr HL9.out (oneL_length k).symm HKM.out HOR.out).mono ?_
      rintro e w9 ⟨v9, rfl, ho9, hb9⟩
      rw [HE9.out]
      rw [HR9.out] at ho9
      obtain ⟨d9, dc, rfl, hd9, -, -, -⟩ := ho9.read
      rw [HPO.out]
      have HB9 := Lib.hid (hB.out.trans (hb9.mono hB.out.size))
      have HD9 := Lib.hid hd9
      have HP9 := Lib.hid (HP7.out.below HB9.out)
      have HQ9 := Lib.hid (HQ7.out.below HB9.out)
      have HB29 : Hid (Below w.heap.size w w9) := Lib.hid ((HB2.out.trans (HB7.out.mono HB2.out.size)).trans (HB9.out.mono (HB2.out.trans (HB7.out.mono HB2.out.size)).size))
      have HRD : Hid (∀ r ∈ parL (oneL ls y new k) q, r.length = m) := Lib.hid fun r hr => by rw [parL_row _ q r hr, oneL_cols k hk1, HLL.out]
      have HRP : Hid (∀ r ∈ parL ls q, r.length = m) := Lib.hid fun r hr => by rw [parL_row _ q r hr, HLL.out]
      have HRQ : Hid (∀ r ∈ parL (ls.set y new) q, r.length = m) := Lib.hid fun r hr => by rw [parL_row _ q r hr, HSC.out, HLL.out]
      have HXR : Hid (∀ t a (h1 : t < (parL (oneL ls y new k) q).length) (h2 : t < (parL ls q).length) (h3 : t < (parL (ls.set y new) q).length) (g1 : a < ((parL (oneL ls y new k) q)[t]).length) (g2 : a < ((parL ls q)[t]).length) (g3 : a < ((parL (ls.set y new) q)[t]).length), ((parL (oneL ls y new k) q)[t])[a] = ((parL ls q)[t])[a] ^^^ ((parL (ls.set y new) q)[t])[a]) := Lib.hid (by
        have hKK := HK.out
        subst hKK
        intro t a h1 h2 h3 g1 g2 g3
        exact par_one q t a HKD.out HNW.out (by rw [← HPL.out]; exact h2) (by rw [← HLL.out, ← HRP.out _ (List.getElem_mem h2)]; exact g2) h1 h2 h3 g1 g2 g3)
      clear ho9 hb9 hd9 HE9 HR9 HVO HOR HOS HL9
      generalize parL (oneL ls y new k) q = D1 at HPO HD9 HRD HXR
      generalize parL ls q = D2 at HPL HP2 HP7 HP9 HRP HXR
      generalize parL (ls.set y new) q = D3 at HPS HQ7 HQ9 HRQ HXR
      go_wp2_with fail
      go_loopg [22] q (fun gk vk wx => ∃ t : Nat, vk = .int .i64 t ∧ t + gk = q ∧ Hid (Below w9.heap.size w9 wx))
      case atStart => exact ⟨0, rfl, by omega, Lib.hid (Below.refl _ _)⟩
      case round =>
        obtain ⟨t, rfl, ht, hBx⟩ := hrel
        cases gk with
        | zero =>
          have hlt2 : ¬ (t : Int) < (q : Int) := by omega
          go_wp2_with fail
          refine (HAW.out wr (HB29.out.trans (hBx.out.mono HB29.out.size))).mono ?_
          rintro e w11 ⟨rfl, hb11⟩
          go_wp2
          go_ret
          exact ⟨rfl, hb11⟩
        | succ gk0 =>
          have hlt2 : (t : Int) < (q : Int) := by omega
          have htq : t < q := by omega
          have h1 : t < D1.length := by rw [HPO.out]; exact htq
          have h2 : t < D2.length := by rw [HPL.out]; exact htq
          have h3 : t < D3.length := by rw [HPS.out]; exact htq
          obtain ⟨e1, o1, rfl, hb1, p1, x1, f1, l1, g1, m1, -⟩ := HD9.out.row t h1
          obtain ⟨e2, o2, rfl, hb2, p2, x2, f2, l2, g2, m2, -⟩ := HP9.out.row t h2
          obtain ⟨e3, o3, rfl, hb3, p3, x3, f5, l5, g5, m5, -⟩ := HQ9.out.row t h3
          rw [HRD.out _ (List.getElem_mem h1)] at f1 g1
          rw [HRP.out _ (List.getElem_mem h2)] at f2 g2
          rw [HRQ.out _ (List.getElem_mem h3)] at f5 g5
          have HZ1 : Hid ((D1[t]).length = m) := Lib.hid (HRD.out _ (List.getElem_mem h1))
          have HZ2 : Hid ((D2[t]).length = m) := Lib.hid (HRP.out _ (List.getElem_mem h2))
          have HZ3 : Hid ((D3[t]).length = m) := Lib.hid (HRQ.out _ (List.getElem_mem h3))
          have HXT := Lib.hid fun a => HXR.out t a h1 h2 h3
          have HI1 := Lib.hid l1
          have HI2 := Lib.hid l2
          have HI3 := Lib.hid l5
          have HF1 : Hid (∀ wx, Below w9.heap.size w9 wx → wx.cell? ⟨e1, o1 + t, none⟩ = some (.slice p1 m x1)) := Lib.hid fun wx hb => (hb.cell (p := ⟨e1, o1 + t, none⟩) hb1).trans f1
          have HF2 : Hid (∀ wx, Below w9.heap.size w9 wx → wx.cell? ⟨e2, o2 + t, none⟩ = some (.slice p2 m x2)) := Lib.hid fun wx hb => (hb.cell (p := ⟨e2, o2 + t, none⟩) hb2).trans f2
          have HF3 : Hid (∀ wx, Below w9.heap.size w9 wx → wx.cell? ⟨e3, o3 + t, none⟩ = some (.slice p3 m x3)) := Lib.hid fun wx hb => (hb.cell (p := ⟨e3, o3 + t, none⟩) hb3).trans f5
          generalize D1[t] = r1 at HZ1 HXT HI1
          generalize D2[t] = r2 at HZ2 HXT HI2
          generalize D3[t] = r3 at HZ3 HXT HI3
          unfold maxLen at m1 m2 m5
          clear f1 f2 f5 l1 l2 l5 h1 h2 h3
          go_wp2_with fail
          go_loopg [23] m (fun gj vj wx => ∃ a : Nat, vj = .int .i64 a ∧ a + gj = m ∧ Hid (Below w9.heap.size w9 wx))
          case atStart => exact ⟨0, rfl, by omega, hBx⟩
          case round =>
            obtain ⟨a, rfl, ha, hBy⟩ := hrel
            cases gk with
            | zero =>
              have hlt3 : ¬ (a : Int) < (m : Int) := by omega
              go_wp2
              go_roundg gk0
              case rel => exact ⟨t + 1, by go_num, by omega, hBy⟩
              case measure => omega
            | succ gj0 =>
              have hlt3 : (a : Int) < (m : Int) := by omega
              have ham : a < m := by omega
              have y1 : a < r1.length := by rw [HZ1.out]; exact ham
              have y2 : a < r2.length := by rw [HZ2.out]; exact ham
              have y3 : a < r3.length := by rw [HZ3.out]; exact ham
              have f1 := HF1.out wr hBy.out
              have f2 := HF2.out wr hBy.out
              have f3' := HF3.out wr hBy.out
              obtain ⟨q1, s1, rfl, -, k1⟩ := (HI1.out.below hBy.out rfl).ev (by omega)
              obtain ⟨q2, s2, rfl, -, k2⟩ := (HI2.out.below hBy.out rfl).ev (by omega)
              obtain ⟨q3, s3, rfl, -, k3⟩ := (HI3.out.below hBy.out rfl).ev (by omega)
              have c1' := k1 a y1
              have c2' := k2 a y2
              have c3' := k3 a y3
              rw [HXT.out a y1 y2 y3] at c1'
              generalize r2[a] = z2 at c1' c2'
              generalize r3[a] = z3 at c1' c3'
              have hx := bits_xor_ev z2 z3
              clear k1 k2 k3 y1 y2 y3
              go_wp2_with fail
              go_quiet (fail)
              go_wp2
              go_roundg gj0
              case rel => exact ⟨a + 1, by go_num, by omega, Lib.hid (below_drewN hBy.out _)⟩
              case measure => omega
    | succ gk0 =>
      have hlt : (i : Int) < (k : Int) := by omega
      have hik : i < k := by omega
      obtain ⟨F, hF⟩ : ∃ F : Nat → UInt8, F = fun a => if i = y then ent ls y a ^^^ new.getD a 0 else 0 := ⟨_, rfl⟩
      have HFR : Hid (oneR ls y new i = rowF m F) := Lib.hid (by rw [hF, HLL.out]; unfold oneR; rfl)
      have HFY : Hid (∀ j (h1 : j < old.length) (h2 : j < new.length), i = y → old[j] ^^^ new[j] = F j) := Lib.hid fun j h1 h2 e => by
        rw [hF, HOE.out j h1]
        show _ = if i = y then _ else _
        rw [if_pos e, show new[j] = new.getD j 0 by simp [h2]]
      have HFN : Hid (i ≠ y → progF m 0 F = oneR ls y new i) := Lib.hid fun e => by
        rw [HFR.out, progF_zero, zeros_rowF, hF]
        exact List.map_congr_left fun a _ => (if_neg e).symm
      have HSU : Hid (oneL ls y new (i + 1) = oneL ls y new i ++ [oneR ls y new i]) := Lib.hid (oneL_succ i)
      have HLN : Hid ((oneR ls y new i).length = m) := Lib.hid (by rw [oneR_length, HLL.out])
      have HLT : Hid ((oneL ls y new i).length ≤ 100) := Lib.hid (by rw [oneL_length]; omega)
      obtain ⟨W0, HW0⟩ : ∃ W0 : World, Hid (W0 = wr) := ⟨_, Lib.hid rfl⟩
      have HO0 : Hid (Lq W0 w7.heap.size 0 u16 (oneL ls y new i)) := Lib.hid (by rw [HW0.out]; exact hO.out)
      have HB0 : Hid (Below w7.heap.size w7 W0) := Lib.hid (by rw [HW0.out]; exact hB.out)
      clear hO hB hF
      go_wp2_with (at_make; refine wpList_make_row rfl (.tmp 100) (.tmp 100) rfl _ _ m rfl rfl rfl rfl (by omega) ?_; intro gx w8 hr8 hg8 hb8)
      have HR8 : Hid (Rowu w8 gx (progF m 0 F)) := Lib.hid (by rw [progF_zero]; exact hr8)
      have HG8 : Hid (W0.heap.size ≤ gx) := Lib.hid (by rw [HW0.out]; exact hg8)
      have HB8 : Hid (Below W0.heap.size W0 w8) := Lib.hid (by rw [HW0.out]; exact hb8)
      clear hr8 hg8 hb8
      go_loopg [19] m (fun gj vj wx => ∃ j : Nat, vj = .int .i64 j ∧ j + gj = m ∧ Hid (i ≠ y → j = 0) ∧ Hid (Rowu wx gx (progF m j F)) ∧ Hid (Below W0.heap.size W0 wx))
      case atStart => exact ⟨0, rfl, by omega, Lib.hid fun _ => rfl, HR8, HB8⟩
      case round =>
        obtain ⟨j, rfl, hj, hne, hR, hB8⟩ := hrel
        by_cases hrun : j < m ∧ i = y
        · obtain ⟨hjm, hiy⟩ := hrun
          obtain ⟨gj0, rfl⟩ : ∃ g0, gk = g0 + 1 := ⟨gk - 1, by omega⟩
          have hj1 : (j : Int) < (m : Int) := by omega
          have hie : ((i : Int) == (y : Int)) = true := by rw [hiy]; exact beq_self_eq_true _
          have HIY := Lib.hid hiy
          have HY := Lib.hid fun h1 h2 => HFY.out j h1 h2 hiy
          clear hiy
          go_wp2_with fail
          refine wp_region_still_tail 15 (by kernel_rfl) (by kernel_rfl) ?_
          simp only [List.take_succ_cons, List.take_zero, List.drop_succ_cons, List.drop_zero]
          change wpStill _ _ wr.drew (fun a' => wpList _ _ _ _ a' wr.drew) _ _
          have hr3 : Rowu wr.drew gx (progF m j F) := hR.out.below (Below.refl _ _).drew hR.out.blk.lt
          have hb3 : Below W0.heap.size W0 wr.drew := hB8.out.drew
          generalize wr.drew = w9 at hr3 hb3 ⊢
          have hBW : Below w7.heap.size w7 w9 := HB0.out.trans (hb3.mono HB0.out.size)
          have hB2 : Below w2.heap.size w2 w9 := HB7.out.trans (hBW.mono HB7.out.size)
          have f4 : w9.cell? ⟨b, off + i, none⟩ = some (.slice a3 m c3) := by rw [HIY.out]; exact (hB2.cell (p := ⟨b, off + y, none⟩) hbl).trans f3
          have ho : j < old.length := by rw [HOM.out]; exact hjm
          have hw : j < new.length := by rw [← HMW.out]; exact hjm
          obtain ⟨b3, off3, rfl, -, hc3⟩ := (HLO.out.below hB2 rfl).ev (by omega)
          obtain ⟨b4, off4, rfl, -, hc4⟩ := (HLW.out.below (HB2.out.trans (hB2.mono HB2.out.size)) rfl).ev (by omega)
          have fo := hc3 j ho
          have fn := hc4 j hw
          have HX := Lib.hid (HY.out ho hw)
          generalize old[j] = xo at fo HX
          generalize new[j] = xn at fn HX
          have hx := bits_xor_ev xo xn
          have fr := hr3.cell j (by rw [progF_length]; exact hjm)
          have fz := hr3.blk.frozen j
          have HS9 : Hid (Rowu (w9.setCell ⟨gx, j, none⟩ (.int .u8 (ev (xo ^^^ xn)))) gx (progF m (j + 1) F)) := Lib.hid (by
            have h := hr3.set_ j (ev (xo ^^^ xn)) (xo ^^^ xn) (ev_nat _)
            rw [show (progF m j F).set j (xo ^^^ xn) = progF m (j + 1) F by rw [HX.out]; exact progF_next m j F] at h
            exact h)
          have HBS9 := Lib.hid (hb3.setCell (p := ⟨gx, j, none⟩) HG8.out (.int .u8 (ev (xo ^^^ xn))))
          clear hc3 hc4 hr3 hb3 hBW hB2 ho hw
          repeat still_step
          refine wpStill_nil ?_
          go_wp2
          go_roundg gj0
          case rel => exact ⟨j + 1, by go_num, by omega, Lib.hid fun h => absurd HIY.out h, HS9, HBS9⟩
          case measure => omega
        have hE : progF m j F = oneR ls y new i := by
          by_cases e : i = y
          · obtain rfl : j = m := by omega
            rw [progF_end, HFR.out]
          · rw [hne.out e]
            exact HFN.out e
        have hR9 : Rowu wr gx (oneR ls y new i) := by rw [← hE]; exact hR.out
        have HA1 : Hid (Below W0.heap.size W0 (wr.alloc (.cells #[.slice (some ⟨gx, 0, none⟩) m m] 33))) := Lib.hid (hB8.out.alloc hB8.out.size _)
        have HX1 : Hid (Lx (wr.alloc (.cells #[.slice (some ⟨gx, 0, none⟩) m m] 33)) 0 u16.ownBlock (some ⟨wr.heap.size, 0, none⟩) [oneR ls y new i]) := Lib.hid (Lx.one wr _ (oneR ls y new i) _ rfl ⟨some ⟨gx, 0, none⟩, m, by rw [HLN.out], .inr ⟨gx, 0, rfl, Nat.zero_le _, hR9.blk.lt, fun e' => by have := (HO0.out.lt gx e'.symm).2; have := HG8.out; omega, fun a ha => by rw [Nat.zero_add]; exact hR9.cell a ha⟩, by rw [HLN.out]; exact Nat.le_refl _, by unfold maxLen; omega, fun h => by cases h⟩)
        have HO1 := Lib.hid (HO0.out.below HA1.out)
        have HBA := Lib.hid (HB0.out.trans (HA1.out.mono HB0.out.size))
        have HZ1 := Lib.hid HBA.out.size
        have HNR : Hid (j < m → i ≠ y) := Lib.hid fun h e => hrun ⟨h, e⟩
        clear hE hR9 hR hrun
        rcases Nat.lt_or_ge j m with hjm | hjm
        · have hj1 : (j : Int) < (m : Int) := by omega
          have hie : ((i : Int) == (y : Int)) = false := beq_eq_false_iff_ne.2 (by have := HNR.out hjm; omega)
          go_wp2_with (at_builtin; refine wpList_append_q rfl (.tmp 128) (.tmp 130) rfl w7.heap.size 0 0 0 u16 _ rfl HO1.out _ 1 1 [oneR ls y new i] (fun h => by cases h) HX1.out rfl rfl (by have := HLT.out; omega) HZ1.out (Nat.le_refl _) (Nat.le_refl _) ?_; intro v8 w10 ho8 hg8 h8; clear h8; rw [← HSU.out] at ho8; have HO8 := Lib.hid ho8; have HB10 : Hid (Below w7.heap.size w7 w10) := Lib.hid (HO1.out.grow HBA.out (Nat.le_refl _) hg8); clear ho8 hg8)
          go_roundg gk0
          case rel => exact ⟨i + 1, by go_num, by omega, HO8, HB10⟩
          case measure => omega
        · have hj1 : ¬ (j : Int) < (m : Int) := by omega
          go_wp2_with (at_builtin; refine wpList_append_q rfl (.tmp 128) (.tmp 130) rfl w7.heap.size 0 0 0 u16 _ rfl HO1.out _ 1 1 [oneR ls y new i] (fun h => by cases h) HX1.out rfl rfl (by have := HLT.out; omega) HZ1.out (Nat.le_refl _) (Nat.le_refl _) ?_; intro v8 w10 ho8 hg8 h8; clear h8; rw [← HSU.out] at ho8; have HO8 := Lib.hid ho8; have HB10 : Hid (Below w7.heap.size w7 w10) := Lib.hid (HO1.out.grow HBA.out (Nat.le_refl _) hg8); clear ho8 hg8)
          go_roundg gk0
          case rel => exact ⟨i + 1, by go_num, by omega, HO8, HB10⟩
          case measure => omega
end Go.Proofs.Ytinfjidclkgfnaa
