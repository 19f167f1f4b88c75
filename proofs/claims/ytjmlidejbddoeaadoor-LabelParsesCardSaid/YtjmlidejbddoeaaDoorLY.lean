/-
  The program's Blocks.
  The program's Parse.
-/
import Derived.Test.YtjmlidejbddoeaaDoorLV
import Derived.Test.YtjmlidejbddoeaaDoorLX
import Derived.Test.YtjmlidejbddoeaaDoorLN
import Derived.Test.YtjmlidejbddoeaaDoorLO
import Derived.Test.YtjmlidejbddoeaaDoorLR
import Derived.Test.YtjmlidejbddoeaaDoorLS
import Derived.Test.YtjmlidejbddoeaaDoorLM
namespace Go.Proofs.YtjmlidejbddoeaaDoor
open Go.RowKit
set_option linter.unusedVariables false
attribute [local irreducible] blkR divB bodyT
set_option maxRecDepth 100000 in
set_option maxHeartbeats 4000000 in
theorem blocksT_any (x : Lbl) (w : World) (hx : x.Fit) (hm : Lmg w) :
    Calls Tryd.prog 9 #[lbV x] w (RetBk w (blkR x)) := by
  have HX := Lib.hid (LbRow.new w x)
  have HXL := Lib.hid (show w.heap.size < (w.alloc (boxL x)).heap.size by simp)
  have HB0 := Lib.hid (vl_boxw w (boxL x))
  have HM0 := Lib.hid (hm.step (vl_boxw w (boxL x)))
  have HV := Lib.hid (fun W hW => validL_any x W hx hW)
  have HYE := Lib.hid (@blkR_yes x)
  have HNO := Lib.hid (@blkR_no x)
  have HBO := Lib.hid (fun W h => body_any x W h)
  have HLN := Lib.hid (@bodyT_len x)
  clear hx hm
  go_enter Tryd.func9, Tryd.ntmps9
  obtain ⟨-, c0, c1, c2, c3⟩ := HX.out.at_
  go_wp2_with fail
  generalize World.alloc w _ = X0 at *
  refine (HV.out _ HM0.out).mono ?_
  generalize hv : vldT x = V at *
  rintro e X1 ⟨rfl, hb1⟩
  have HX1 := Lib.hid (HX.out.below hb1 HXL.out)
  have HB1 := Lib.hid (HB0.out.trans (hb1.mono HB0.out.size))
  have HM1 := Lib.hid (HM0.out.step hb1)
  clear hb1 HX HB0 HM0 HXL c0 c1 c2 c3 HV
  cases V
  · have HR := Lib.hid (HNO.out rfl)
    go_wp2_with fail
    go_ret2
    exact retBk HR.out _ _ rfl (Kq.nil _ _ _) HB1.out
  have HR := Lib.hid (HYE.out rfl)
  have HL := Lib.hid (HLN.out rfl)
  have HBD := Lib.hid (fun W => HBO.out W rfl)
  clear HYE HNO HLN HBO
  generalize bodyT x = T at *
  obtain ⟨-, c0, c1, c2, c3⟩ := HX1.out.at_
  go_wp2_with fail
  refine (HBD.out _).mono ?_
  rintro e X2 ⟨v2, rfl, ho2, hb2⟩
  obtain ⟨ad2, cap2, rfl, hl2, -, -, ha2⟩ := ho2.slice
  have HB2 := Lib.hid (HB1.out.trans (hb2.mono HB1.out.size))
  have HM2 := Lib.hid (HM1.out.step hb2)
  have HL2 := Lib.hid hl2
  have HA2 := Lib.hid ha2
  clear ho2 hl2 ha2 hb2 HX1 HB1 HM1 c0 c1 c2 c3 HBD
  go_wp2_with fail
  refine (append_any none ad2 0 0 _ cap2 [] T _ (.nil _ _) rfl (by simp) (fun _ => rfl) HL2.out rfl (by have := HL.out; omega) HA2.out HM2.out.mag).mono ?_
  rintro e X7 ⟨v7, rfl, ho7, hb7⟩
  rw [List.nil_append] at ho7
  obtain ⟨ad7, cap7, rfl, hl7, hc7, hm7, ha7⟩ := ho7.slice
  have HL7 := Lib.hid hl7
  have HA7 := Lib.hid ha7
  have HC7 := Lib.hid hc7
  have HM7 := Lib.hid hm7
  have HB7 := Lib.hid (HB2.out.trans (hb7.mono HB2.out.size))
  have HF7 := Lib.hid (show (frm T).length ≤ 1000 by rw [frm_length]; have := HL.out; omega)
  clear ho7 hl7 hc7 hm7 ha7 hb7 HB2 HL2 HA2 HM2
  generalize frm T = F at *
  go_wp2_with fail
  refine (divide_any ad7 _ cap7 F _ HL7.out rfl HC7.out HM7.out HA7.out (by have := HF7.out; omega)).mono ?_
  rintro e X8 ⟨v8, rfl, hk8, hb8⟩
  have HK8 := Lib.hid hk8
  have HB8 := Lib.hid (HB7.out.trans (hb8.mono HB7.out.size))
  have HD8 := Lib.hid (show (divB F).length ≤ 20 by rw [divB_length]; unfold cntB; have := HF7.out; omega)
  have HK9 := Lib.hid (hk8.below ((Below.refl _ X8).alloc (Nat.le_refl _) (.cells #[.bool true, .bool false, .slice none 0 0] 39)))
  have HB9 := Lib.hid (HB8.out.alloc HB8.out.size (.cells #[.bool true, .bool false, .slice none 0 0] 39))
  have HS9 := Lib.hid (show X7.heap.size ≤ (X8.alloc (.cells #[.bool true, .bool false, .slice none 0 0] 39)).heap.size by have := hb8.size; simp; omega)
  have HS7 := Lib.hid HB7.out.size
  clear hk8 hb8 HB7
  go_wp2_with (at_builtin; refine wpList_append_k rfl (.tmp 16) (.tmp 18) rfl X7.heap.size X7.heap.size w.heap.size w.heap.size _ _ rfl HK9.out _ 1 1 [markB] (fun h => by cases h) (Kx.mark X8 _ _ _ rfl) rfl rfl (by have := HD8.out; omega) HS9.out HS7.out (Nat.le_refl _) ?_; intro v10 w10 ho10 hg10 _; have HK10 := Lib.hid ho10; have HB10 := Lib.hid ((HB9.out).grown hg10 HB9.out.size (fun k hk => Nat.le_trans HS7.out (HK9.out.lt k hk).1)); clear ho10 hg10)
  go_ret2
  exact retBk HR.out _ _ rfl (HK10.out.mono HS7.out (Nat.le_refl _)) HB10.out
end Go.Proofs.YtjmlidejbddoeaaDoor
namespace Go.Proofs.YtjmlidejbddoeaaDoor
open Go.RowKit
set_option linter.unusedVariables false
theorem txU_size (xs : List UInt8) (A E : Int) : (txU xs A E).1.size ≤ 24 := by
  unfold txU
  split
  · exact tR_size (p := (tR xs A 24).2.1) (e := (tR xs A 24).2.2) rfl
  · show emS.size ≤ 24
    unfold emS
    decide
theorem Rds.fit {xs : List UInt8} (r : Rds xs) : r.ans.1.Fit := by
  have hz : Lbl.zero.Fit := ⟨by decide, by decide⟩
  have h2 := txU_size xs r.p1 r.e1
  have h3 := txU_size xs r.p2 r.e2
  rw [r.h2] at h2
  rw [r.h3] at h3
  unfold Rds.ans
  split
  · exact hz
  split
  · exact hz
  split
  · exact hz
  · exact ⟨by unfold maxLen; dsimp only at h2 ⊢; omega, by unfold maxLen; dsimp only at h3 ⊢; omega⟩
theorem medB_end (l : List Blk) : (endK l = l.length ∧ medB l = false) ∨ ∃ h : endK l < l.length, medB l = l[endK l].bad := by
  obtain ⟨e1, e2, e3⟩ := endK_cases l
  have e4 : ∀ j (h : j < l.length), j < endK l → l[j].m = false ∧ l[j].bad = false := fun j h hj => by simpa using e3 j h hj
  rcases e2 with h | ⟨h, hm⟩
  · exact .inl ⟨h, medB_none l fun j hj => e4 j hj (by omega)⟩
  · right
    refine ⟨h, ?_⟩
    rw [medB_skip l _ h e4]
    cases hb : l[endK l].bad
    · rw [hb] at hm
      have hm2 : l[endK l].m = true := by simpa using hm
      rw [hm2]; rfl
    · rfl
attribute [local irreducible] fldT chk bodyAt bytB blkT divB frm vldT parT medB endK
set_option maxRecDepth 100000 in
set_option maxHeartbeats 10000000 in
theorem parse_any (ad : Option Addr) (n cap : Nat) (l : List Blk) (w : World) (hl : Ki w ad l) (hn : n = l.length) (hc : n ≤ cap) (hcm : cap ≤ maxLen) (ha : ad = none → cap = 0) (hs : n ≤ 1000) (hd : ∀ b ∈ l, b.d.length ≤ 1000) (hm : Lmg w) :
    Calls Tryd.prog 17 #[.slice ad n cap] w (RetL3 w (parT l)) := by
  have HL := Lib.hid hl
  have HN := Lib.hid hn
  have HD := Lib.hid hd
  have HA := Lib.hid ha
  have HCM := Lib.hid hcm
  have HM := Lib.hid (@parT_med l)
  have HME := Lib.hid (medB_end l)
  have HEN := Lib.hid (show endK l ≤ n by rw [hn]; exact (endK_cases l).1)
  have HX0 := Lib.hid (LbRow.new w .zero)
  have HB0 := Lib.hid (vl_box1 w (boxL .zero))
  have HS0 := Lib.hid (show w.heap.size < (w.alloc (boxL .zero)).heap.size by simp)
  have HK0 := Lib.hid (hl.below (vl_box1 w (boxL .zero)))
  have HM0 := Lib.hid (hm.step (vl_box1 w (boxL .zero)))
  clear hl hn hd ha hcm hm
  go_enter Tryd.func17, Tryd.ntmps17
  go_wp2_with fail
  change Calls Tryd.prog 34 #[.slice ad n cap] (w.alloc (boxL .zero)) _
  generalize World.alloc w _ = X0 at *
  refine (intact_any ad n cap l _ HK0.out HN.out (by omega)).mono ?_
  generalize endK l = E at *
  rintro e X1 ⟨rfl, hb1⟩
  have HX1 := Lib.hid (HX0.out.below hb1 HS0.out)
  have HB1 := Lib.hid (HB0.out.trans (hb1.mono (Nat.le_of_lt HS0.out)))
  have HS1 := Lib.hid (Nat.lt_of_lt_of_le HS0.out hb1.size)
  have HK1 := Lib.hid (HK0.out.below hb1)
  have HM1 := Lib.hid (HM0.out.step hb1)
  clear hb1 HX0 HB0 HS0 HK0 HM0
  have hEn := HEN.out
  rcases HME.out with ⟨hE, hz⟩ | ⟨hE, hz⟩
  · have HZ := Lib.hid hz
    have hEq : ¬ E < n := by have := HN.out; omega
    clear hE hz HME HEN
    have PN := Lib.hid (@parT_next l HZ.out)
    have PF := Lib.hid (@parT_fld l HZ.out)
    have PE := Lib.hid (@parT_fin l HZ.out)
    clear HM HZ
    go_wp2_with fail
    refine (bytes_any _ n cap l _ HK1.out HN.out hc HCM.out (by omega) HD.out).mono ?_
    rintro e Y1 ⟨v1, rfl, ho1, hb1⟩
    obtain ⟨ad1, cap1, rfl, hl1, hc1, hm1, ha1⟩ := ho1.slice
    have HL1 := Lib.hid hl1
    have HC1 := Lib.hid hc1
    have HCM1 := Lib.hid hm1
    have HA1 := Lib.hid ha1
    have HYX1 := Lib.hid (HX1.out.below hb1 HS1.out)
    have HYB1 := Lib.hid (HB1.out.trans (hb1.mono (Nat.le_of_lt HS1.out)))
    have HYS1 := Lib.hid (Nat.lt_of_lt_of_le HS1.out hb1.size)
    have HYK1 := Lib.hid (HK1.out.below hb1)
    have HYM1 := Lib.hid (HM1.out.step hb1)
    have hblen : (bytB l).length ≤ 1000000 := by
      have := bytB_le l 1000 1000 (by have := HN.out; omega) HD.out
      omega
    have HBL := Lib.hid hblen
    clear ho1 hl1 hc1 hm1 ha1 hb1 HX1 HB1 HS1 HK1 HM1 hblen
    generalize bytB l = bs at *
    generalize hbn : bs.length = bn at *
    have HBN := Lib.hid hbn
    clear hbn
    go_wp2_with fail
    refine (next_any ad1 bn cap1 bs 0 _ HL1.out HBN.out.symm (by rw [HBN.out]; exact HBL.out) HC1.out HCM1.out HA1.out HYM1.out.mag).mono ?_
    rintro e X2 ⟨v2, rfl, ho2, hb2⟩
    have HX2 := Lib.hid (HYX1.out.below hb2 HYS1.out)
    have HB2 := Lib.hid (HYB1.out.trans (hb2.mono (Nat.le_of_lt HYS1.out)))
    have HS2 := Lib.hid (Nat.lt_of_lt_of_le HYS1.out hb2.size)
    have HK2 := Lib.hid (HYK1.out.below hb2)
    have HM2 := Lib.hid (HYM1.out.step hb2)
    have HBD := Lib.hid (show (bodyAt bs 0).length ≤ 1000000 by
      have h1 : (bodyAt bs 0).length ≤ bs.length := by
        unfold bodyAt
        split
        · rw [List.length_take, List.length_drop]; omega
        · simp
      have := HBL.out
      have := HBN.out
      omega)
    generalize bodyAt bs 0 = body at *
    generalize (chk bs 0).1 = cx at *
    generalize (chk bs 0).2 = ce at *
    clear hb2 HYX1 HYB1 HYS1 HYK1 HYM1 HL1 HC1 HCM1 HA1
    by_cases hce : ce = 0
    rotate_left
    · have HR := Lib.hid (PN.out hce)
      have k1 : (ce != 0) = true := by simpa using hce
      clear hce PN PF PE ho2
      go_wp2_with (with_reducible refine wpList_store_lb rfl (.tmp 2) (.tmp 34) rfl w.heap.size rfl .zero .zero rfl HX2.out ?_)
      refine post_cell3 (cs := lbC .zero) (x := .int .i64 0) (y := .int .i64 ce) rfl rfl (HX2.out.put .zero).row Tryd.underlying23 rfl infoLb rfl rfl rfl ?_
      exact retL3 HR.out (below_set HB2.out (Nat.le_refl _) _)
    subst hce
    replace PF := Lib.hid (PF.out rfl)
    replace PE := Lib.hid (fun z (h : fldT body = (z, 0)) => PE.out rfl h)
    clear PN
    obtain ⟨ad2, cap2, rfl, hl2, hc2, hm2, ha2⟩ := ho2.slice
    have HL2 := Lib.hid hl2
    have HC2 := Lib.hid hc2
    have HA2 := Lib.hid ha2
    clear ho2 hl2 hc2 hm2 ha2
    generalize hdn : body.length = dn at *
    have HDN := Lib.hid hdn
    clear hdn
    obtain ⟨rd⟩ := rds_any body
    have HFL := Lib.hid rd.fld
    have HFT := Lib.hid rd.fit
    go_wp2_with fail
    refine (unpack_any ad2 dn cap2 body rd _ HL2.out HDN.out.symm HC2.out HBD.out HA2.out).mono ?_
    rcases hfl : rd.ans with ⟨z, e2⟩
    rw [hfl] at HFL HFT
    clear hfl rd
    dsimp only at HFL HFT
    rintro e X3 ⟨rfl, hb3⟩
    have HX3 := Lib.hid ((HX2.out.below hb3 HS2.out).below (vl_box1 X3 (boxL z)) (Nat.lt_of_lt_of_le HS2.out hb3.size))
    have HB3 := Lib.hid ((HB2.out.trans (hb3.mono (Nat.le_of_lt HS2.out))).alloc (Nat.le_of_lt (Nat.lt_of_lt_of_le HS2.out hb3.size)) (boxL z))
    have HS3 := Lib.hid (show w.heap.size < (X3.alloc (boxL z)).heap.size by have := HS2.out; have := hb3.size; simp; omega)
    have HK3 := Lib.hid ((HK2.out.below hb3).below (vl_box1 X3 (boxL z)))
    have HQ3 := Lib.hid (LbRow.new X3 z)
    have HM3 := Lib.hid ((HM2.out.step hb3).step (vl_box1 X3 (boxL z)))
    clear hb3 HX2 HB2 HS2 HK2 HL2 HC2 HA2 HM2
    dsimp only
    by_cases he2 : e2 = 0
    rotate_left
    · have HF2 := Lib.hid (show fldT body = (.zero, e2) from HFL.out.trans (if_pos he2))
      have HR := Lib.hid (show parT l = (.zero, 0, e2) by rw [PF.out (by rw [HF2.out]; exact he2), HF2.out])
      have k1 : (e2 != 0) = true := by simpa using he2
      clear he2 PF PE HQ3 HFL
      go_wp2_with (with_reducible refine wpList_store_lb rfl (.tmp 2) (.tmp 43) rfl w.heap.size rfl .zero .zero rfl HX3.out ?_)
      refine post_cell3 (cs := lbC .zero) (x := .int .i64 0) (y := .int .i64 e2) rfl rfl (HX3.out.put .zero).row Tryd.underlying23 rfl infoLb rfl rfl rfl ?_
      exact retL3 HR.out (below_set HB3.out (Nat.le_refl _) _)
    subst he2
    replace HFL := Lib.hid (show fldT body = if vldT z = false then (.zero, 8) else (z, 0) from HFL.out.trans (if_neg (by simp)))
    obtain ⟨-, c0, c1, c2, c3⟩ := HQ3.out.at_
    go_wp2_with fail
    have hq4 : X3.heap.size < (X3.alloc (boxL z)).heap.size := by simp
    generalize World.alloc X3 _ = X4 at *
    generalize X3.heap.size = g4 at *
    refine (blocksT_any z _ HFT.out HM3.out).mono ?_
    rintro e X5 ⟨v5, rfl, hk5, hb5⟩
    have HX5 := Lib.hid (HX3.out.below hb5 HS3.out)
    have HB5 := Lib.hid (HB3.out.trans (hb5.mono (Nat.le_of_lt HS3.out)))
    have HS5 := Lib.hid (Nat.lt_of_lt_of_le HS3.out hb5.size)
    have HK5 := Lib.hid (HK3.out.below hb5)
    have HQ5 := Lib.hid (HQ3.out.below hb5 hq4)
    clear hb5 HX3 HB3 HS3 HK3 HQ3 HM3 c0 c1 c2 c3 hq4
    cases hv : vldT z
    · rw [blkR_no hv] at hk5 ⊢
      have HF2 := Lib.hid (show fldT body = (.zero, 8) from HFL.out.trans (if_pos hv))
      have HR := Lib.hid (show parT l = (.zero, 0, 8) by rw [PF.out (by rw [HF2.out]; decide), HF2.out])
      obtain ⟨ad5, cap5, rfl, -⟩ := hk5.read
      clear hv hk5 PF PE HFL HQ5
      dsimp only [List.length_nil]
      go_wp2_with (with_reducible refine wpList_store_lb rfl (.tmp 2) (.tmp 52) rfl w.heap.size rfl .zero .zero rfl HX5.out ?_)
      refine post_cell3 (cs := lbC .zero) (x := .int .i64 0) (y := .int .i64 8) rfl rfl (HX5.out.put .zero).row Tryd.underlying23 rfl infoLb rfl rfl rfl ?_
      exact retL3 HR.out (below_set HB5.out (Nat.le_refl _) _)
    have hbr : blkR z = (blkT z, 0) := by unfold blkR; rw [hv]; rfl
    rw [hbr] at hk5 ⊢
    replace PE := Lib.hid (PE.out z (HFL.out.trans (if_neg (by rw [hv]; simp))))
    dsimp only at hk5 ⊢
    obtain ⟨ad5, cap5, rfl, hx5, hc5, -, ha5, -⟩ := hk5.read
    have HW5 := Lib.hid hx5.ki
    have hm1 : 1 ≤ (blkT z).length := by rw [blkT_length]; omega
    clear hv hbr hk5 hx5 hc5 ha5 HFL PF
    generalize blkT z = want at *
    generalize hmm : want.length = m at *
    have HMM := Lib.hid hmm
    clear hmm
    by_cases hnm : n < m
    · have HR := Lib.hid (PE.out.trans (if_neg (fun h => by have := congrArg List.length h; rw [List.length_take] at this; have := HN.out; have := HMM.out; omega)))
      clear PE
      go_wp2_with (with_reducible refine wpList_store_lb rfl (.tmp 2) (.tmp 68) rfl w.heap.size rfl .zero .zero rfl HX5.out ?_)
      refine post_cell3 (cs := lbC .zero) (x := .int .i64 0) (y := .int .i64 24) rfl rfl (HX5.out.put .zero).row Tryd.underlying23 rfl infoLb rfl rfl rfl ?_
      exact retL3 HR.out (below_set HB5.out (Nat.le_refl _) _)
    obtain ⟨b, off, rfl⟩ : ∃ b off, ad = some ⟨b, off, none⟩ := by
      obtain ⟨E0, h1, h2, -⟩ := HL.out
      rcases h2 with h0 | ⟨b, off, e, _⟩
      · have hz : E0 = [] := List.eq_nil_of_length_eq_zero (by have := cellsB_length E0; rw [h0] at this; simp at this; omega)
        subst hz
        have := HN.out
        rw [← h1] at this
        simp at this
        omega
      · exact ⟨b, off, e⟩
    have HSM : Hid (∀ W, Below X5.heap.size X5 W → Calls Tryd.prog 37 #[.slice (some ⟨b, off, none⟩) m cap, .slice ad5 m cap5, .func (.func 38) #[] #[]] W fun e w' => e = .returned (.bool (eqK (l.take m) want)) ∧ Below W.heap.size W w') :=
      Lib.hid fun W hW => eqfuncB_any _ _ _ _ _ _ _ _ W ((HK5.out.below hW).front m) (HW5.out.below hW) (by rw [List.length_take]; have := HN.out; omega) HMM.out.symm (by omega)
    have hmc : m ≤ cap := by omega
    by_cases heq : l.take m = want
    · have HR := Lib.hid (PE.out.trans (if_pos heq))
      rw [eqK_yes heq] at HSM
      clear PE heq
      go_wp2_with fail
      refine (HSM.out _ (Below.refl _ _)).mono ?_
      rintro e X6 ⟨rfl, hb6⟩
      have HX6 := Lib.hid (HX5.out.below hb6 HS5.out)
      have HB6 := Lib.hid (HB5.out.trans (hb6.mono (Nat.le_of_lt HS5.out)))
      obtain ⟨-, c0, c1, c2, c3⟩ := (HQ5.out.below hb6 HQ5.out.at_.lt).at_
      clear hb6
      go_wp2_with (with_reducible refine wpList_store_lb rfl (.tmp 2) (.tmp 69) rfl w.heap.size rfl z .zero rfl HX6.out ?_)
      refine post_cell3 (cs := lbC z) (x := .int .i64 m) (y := .int .i64 0) rfl rfl (HX6.out.put z).row Tryd.underlying23 rfl infoLb rfl rfl rfl ?_
      exact retL3 HR.out (below_set HB6.out (Nat.le_refl _) _)
    · have HR := Lib.hid (PE.out.trans (if_neg heq))
      rw [eqK_no heq] at HSM
      clear PE heq
      go_wp2_with fail
      refine (HSM.out _ (Below.refl _ _)).mono ?_
      rintro e X6 ⟨rfl, hb6⟩
      have HX6 := Lib.hid (HX5.out.below hb6 HS5.out)
      have HB6 := Lib.hid (HB5.out.trans (hb6.mono (Nat.le_of_lt HS5.out)))
      clear hb6
      go_wp2_with (with_reducible refine wpList_store_lb rfl (.tmp 2) (.tmp 68) rfl w.heap.size rfl .zero .zero rfl HX6.out ?_)
      refine post_cell3 (cs := lbC .zero) (x := .int .i64 0) (y := .int .i64 24) rfl rfl (HX6.out.put .zero).row Tryd.underlying23 rfl infoLb rfl rfl rfl ?_
      exact retL3 HR.out (below_set HB6.out (Nat.le_refl _) _)
  have hEq : E < n := by have := HN.out; omega
  obtain ⟨b, off, ad', cap', rfl, hlt, q0, q1, q2, -⟩ := HK1.out.get hE
  cases hbd : l[E].bad
  · rw [hbd] at q1
    have HZ := Lib.hid (show medB l = false by rw [hz]; exact hbd)
    clear hbd hE hz HME HEN q0 q2
    have PN := Lib.hid (@parT_next l HZ.out)
    have PF := Lib.hid (@parT_fld l HZ.out)
    have PE := Lib.hid (@parT_fin l HZ.out)
    clear HM HZ
    go_wp2_with fail
    refine (bytes_any _ n cap l _ HK1.out HN.out hc HCM.out (by omega) HD.out).mono ?_
    rintro e Y1 ⟨v1, rfl, ho1, hb1⟩
    obtain ⟨ad1, cap1, rfl, hl1, hc1, hm1, ha1⟩ := ho1.slice
    have HL1 := Lib.hid hl1
    have HC1 := Lib.hid hc1
    have HCM1 := Lib.hid hm1
    have HA1 := Lib.hid ha1
    have HYX1 := Lib.hid (HX1.out.below hb1 HS1.out)
    have HYB1 := Lib.hid (HB1.out.trans (hb1.mono (Nat.le_of_lt HS1.out)))
    have HYS1 := Lib.hid (Nat.lt_of_lt_of_le HS1.out hb1.size)
    have HYK1 := Lib.hid (HK1.out.below hb1)
    have HYM1 := Lib.hid (HM1.out.step hb1)
    have hblen : (bytB l).length ≤ 1000000 := by
      have := bytB_le l 1000 1000 (by have := HN.out; omega) HD.out
      omega
    have HBL := Lib.hid hblen
    clear ho1 hl1 hc1 hm1 ha1 hb1 HX1 HB1 HS1 HK1 HM1 hblen
    generalize bytB l = bs at *
    generalize hbn : bs.length = bn at *
    have HBN := Lib.hid hbn
    clear hbn
    go_wp2_with fail
    refine (next_any ad1 bn cap1 bs 0 _ HL1.out HBN.out.symm (by rw [HBN.out]; exact HBL.out) HC1.out HCM1.out HA1.out HYM1.out.mag).mono ?_
    rintro e X2 ⟨v2, rfl, ho2, hb2⟩
    have HX2 := Lib.hid (HYX1.out.below hb2 HYS1.out)
    have HB2 := Lib.hid (HYB1.out.trans (hb2.mono (Nat.le_of_lt HYS1.out)))
    have HS2 := Lib.hid (Nat.lt_of_lt_of_le HYS1.out hb2.size)
    have HK2 := Lib.hid (HYK1.out.below hb2)
    have HM2 := Lib.hid (HYM1.out.step hb2)
    have HBD := Lib.hid (show (bodyAt bs 0).length ≤ 1000000 by
      have h1 : (bodyAt bs 0).length ≤ bs.length := by
        unfold bodyAt
        split
        · rw [List.length_take, List.length_drop]; omega
        · simp
      have := HBL.out
      have := HBN.out
      omega)
    generalize bodyAt bs 0 = body at *
    generalize (chk bs 0).1 = cx at *
    generalize (chk bs 0).2 = ce at *
    clear hb2 HYX1 HYB1 HYS1 HYK1 HYM1 HL1 HC1 HCM1 HA1
    by_cases hce : ce = 0
    rotate_left
    · have HR := Lib.hid (PN.out hce)
      have k1 : (ce != 0) = true := by simpa using hce
      clear hce PN PF PE ho2
      go_wp2_with (with_reducible refine wpList_store_lb rfl (.tmp 2) (.tmp 34) rfl w.heap.size rfl .zero .zero rfl HX2.out ?_)
      refine post_cell3 (cs := lbC .zero) (x := .int .i64 0) (y := .int .i64 ce) rfl rfl (HX2.out.put .zero).row Tryd.underlying23 rfl infoLb rfl rfl rfl ?_
      exact retL3 HR.out (below_set HB2.out (Nat.le_refl _) _)
    subst hce
    replace PF := Lib.hid (PF.out rfl)
    replace PE := Lib.hid (fun z (h : fldT body = (z, 0)) => PE.out rfl h)
    clear PN
    obtain ⟨ad2, cap2, rfl, hl2, hc2, hm2, ha2⟩ := ho2.slice
    have HL2 := Lib.hid hl2
    have HC2 := Lib.hid hc2
    have HA2 := Lib.hid ha2
    clear ho2 hl2 hc2 hm2 ha2
    generalize hdn : body.length = dn at *
    have HDN := Lib.hid hdn
    clear hdn
    obtain ⟨rd⟩ := rds_any body
    have HFL := Lib.hid rd.fld
    have HFT := Lib.hid rd.fit
    go_wp2_with fail
    refine (unpack_any ad2 dn cap2 body rd _ HL2.out HDN.out.symm HC2.out HBD.out HA2.out).mono ?_
    rcases hfl : rd.ans with ⟨z, e2⟩
    rw [hfl] at HFL HFT
    clear hfl rd
    dsimp only at HFL HFT
    rintro e X3 ⟨rfl, hb3⟩
    have HX3 := Lib.hid ((HX2.out.below hb3 HS2.out).below (vl_box1 X3 (boxL z)) (Nat.lt_of_lt_of_le HS2.out hb3.size))
    have HB3 := Lib.hid ((HB2.out.trans (hb3.mono (Nat.le_of_lt HS2.out))).alloc (Nat.le_of_lt (Nat.lt_of_lt_of_le HS2.out hb3.size)) (boxL z))
    have HS3 := Lib.hid (show w.heap.size < (X3.alloc (boxL z)).heap.size by have := HS2.out; have := hb3.size; simp; omega)
    have HK3 := Lib.hid ((HK2.out.below hb3).below (vl_box1 X3 (boxL z)))
    have HQ3 := Lib.hid (LbRow.new X3 z)
    have HM3 := Lib.hid ((HM2.out.step hb3).step (vl_box1 X3 (boxL z)))
    clear hb3 HX2 HB2 HS2 HK2 HL2 HC2 HA2 HM2
    dsimp only
    by_cases he2 : e2 = 0
    rotate_left
    · have HF2 := Lib.hid (show fldT body = (.zero, e2) from HFL.out.trans (if_pos he2))
      have HR := Lib.hid (show parT l = (.zero, 0, e2) by rw [PF.out (by rw [HF2.out]; exact he2), HF2.out])
      have k1 : (e2 != 0) = true := by simpa using he2
      clear he2 PF PE HQ3 HFL
      go_wp2_with (with_reducible refine wpList_store_lb rfl (.tmp 2) (.tmp 43) rfl w.heap.size rfl .zero .zero rfl HX3.out ?_)
      refine post_cell3 (cs := lbC .zero) (x := .int .i64 0) (y := .int .i64 e2) rfl rfl (HX3.out.put .zero).row Tryd.underlying23 rfl infoLb rfl rfl rfl ?_
      exact retL3 HR.out (below_set HB3.out (Nat.le_refl _) _)
    subst he2
    replace HFL := Lib.hid (show fldT body = if vldT z = false then (.zero, 8) else (z, 0) from HFL.out.trans (if_neg (by simp)))
    obtain ⟨-, c0, c1, c2, c3⟩ := HQ3.out.at_
    go_wp2_with fail
    have hq4 : X3.heap.size < (X3.alloc (boxL z)).heap.size := by simp
    generalize World.alloc X3 _ = X4 at *
    generalize X3.heap.size = g4 at *
    refine (blocksT_any z _ HFT.out HM3.out).mono ?_
    rintro e X5 ⟨v5, rfl, hk5, hb5⟩
    have HX5 := Lib.hid (HX3.out.below hb5 HS3.out)
    have HB5 := Lib.hid (HB3.out.trans (hb5.mono (Nat.le_of_lt HS3.out)))
    have HS5 := Lib.hid (Nat.lt_of_lt_of_le HS3.out hb5.size)
    have HK5 := Lib.hid (HK3.out.below hb5)
    have HQ5 := Lib.hid (HQ3.out.below hb5 hq4)
    clear hb5 HX3 HB3 HS3 HK3 HQ3 HM3 c0 c1 c2 c3 hq4
    cases hv : vldT z
    · rw [blkR_no hv] at hk5 ⊢
      have HF2 := Lib.hid (show fldT body = (.zero, 8) from HFL.out.trans (if_pos hv))
      have HR := Lib.hid (show parT l = (.zero, 0, 8) by rw [PF.out (by rw [HF2.out]; decide), HF2.out])
      obtain ⟨ad5, cap5, rfl, -⟩ := hk5.read
      clear hv hk5 PF PE HFL HQ5
      dsimp only [List.length_nil]
      go_wp2_with (with_reducible refine wpList_store_lb rfl (.tmp 2) (.tmp 52) rfl w.heap.size rfl .zero .zero rfl HX5.out ?_)
      refine post_cell3 (cs := lbC .zero) (x := .int .i64 0) (y := .int .i64 8) rfl rfl (HX5.out.put .zero).row Tryd.underlying23 rfl infoLb rfl rfl rfl ?_
      exact retL3 HR.out (below_set HB5.out (Nat.le_refl _) _)
    have hbr : blkR z = (blkT z, 0) := by unfold blkR; rw [hv]; rfl
    rw [hbr] at hk5 ⊢
    replace PE := Lib.hid (PE.out z (HFL.out.trans (if_neg (by rw [hv]; simp))))
    dsimp only at hk5 ⊢
    obtain ⟨ad5, cap5, rfl, hx5, hc5, -, ha5, -⟩ := hk5.read
    have HW5 := Lib.hid hx5.ki
    have hm1 : 1 ≤ (blkT z).length := by rw [blkT_length]; omega
    clear hv hbr hk5 hx5 hc5 ha5 HFL PF
    generalize blkT z = want at *
    generalize hmm : want.length = m at *
    have HMM := Lib.hid hmm
    clear hmm
    by_cases hnm : n < m
    · have HR := Lib.hid (PE.out.trans (if_neg (fun h => by have := congrArg List.length h; rw [List.length_take] at this; have := HN.out; have := HMM.out; omega)))
      clear PE
      go_wp2_with (with_reducible refine wpList_store_lb rfl (.tmp 2) (.tmp 68) rfl w.heap.size rfl .zero .zero rfl HX5.out ?_)
      refine post_cell3 (cs := lbC .zero) (x := .int .i64 0) (y := .int .i64 24) rfl rfl (HX5.out.put .zero).row Tryd.underlying23 rfl infoLb rfl rfl rfl ?_
      exact retL3 HR.out (below_set HB5.out (Nat.le_refl _) _)
    have HSM : Hid (∀ W, Below X5.heap.size X5 W → Calls Tryd.prog 37 #[.slice (some ⟨b, off, none⟩) m cap, .slice ad5 m cap5, .func (.func 38) #[] #[]] W fun e w' => e = .returned (.bool (eqK (l.take m) want)) ∧ Below W.heap.size W w') :=
      Lib.hid fun W hW => eqfuncB_any _ _ _ _ _ _ _ _ W ((HK5.out.below hW).front m) (HW5.out.below hW) (by rw [List.length_take]; have := HN.out; omega) HMM.out.symm (by omega)
    have hmc : m ≤ cap := by omega
    by_cases heq : l.take m = want
    · have HR := Lib.hid (PE.out.trans (if_pos heq))
      rw [eqK_yes heq] at HSM
      clear PE heq
      go_wp2_with fail
      refine (HSM.out _ (Below.refl _ _)).mono ?_
      rintro e X6 ⟨rfl, hb6⟩
      have HX6 := Lib.hid (HX5.out.below hb6 HS5.out)
      have HB6 := Lib.hid (HB5.out.trans (hb6.mono (Nat.le_of_lt HS5.out)))
      obtain ⟨-, c0, c1, c2, c3⟩ := (HQ5.out.below hb6 HQ5.out.at_.lt).at_
      clear hb6
      go_wp2_with (with_reducible refine wpList_store_lb rfl (.tmp 2) (.tmp 69) rfl w.heap.size rfl z .zero rfl HX6.out ?_)
      refine post_cell3 (cs := lbC z) (x := .int .i64 m) (y := .int .i64 0) rfl rfl (HX6.out.put z).row Tryd.underlying23 rfl infoLb rfl rfl rfl ?_
      exact retL3 HR.out (below_set HB6.out (Nat.le_refl _) _)
    · have HR := Lib.hid (PE.out.trans (if_neg heq))
      rw [eqK_no heq] at HSM
      clear PE heq
      go_wp2_with fail
      refine (HSM.out _ (Below.refl _ _)).mono ?_
      rintro e X6 ⟨rfl, hb6⟩
      have HX6 := Lib.hid (HX5.out.below hb6 HS5.out)
      have HB6 := Lib.hid (HB5.out.trans (hb6.mono (Nat.le_of_lt HS5.out)))
      clear hb6
      go_wp2_with (with_reducible refine wpList_store_lb rfl (.tmp 2) (.tmp 68) rfl w.heap.size rfl .zero .zero rfl HX6.out ?_)
      refine post_cell3 (cs := lbC .zero) (x := .int .i64 0) (y := .int .i64 24) rfl rfl (HX6.out.put .zero).row Tryd.underlying23 rfl infoLb rfl rfl rfl ?_
      exact retL3 HR.out (below_set HB6.out (Nat.le_refl _) _)
  · rw [hbd] at q1
    have HR := Lib.hid (HM.out (by rw [hz]; exact hbd))
    clear hbd hE hz HME HEN q0 q2
    go_wp2_with (with_reducible refine wpList_store_lb rfl (.tmp 2) (.tmp 24) rfl w.heap.size rfl .zero .zero rfl HX1.out ?_)
    refine post_cell3 (cs := lbC .zero) (x := .int .i64 0) (y := .int .i64 15) rfl rfl (HX1.out.put .zero).row Tryd.underlying23 rfl infoLb rfl rfl rfl ?_
    exact retL3 HR.out (below_set HB1.out (Nat.le_refl _) _)
end Go.Proofs.YtjmlidejbddoeaaDoor
