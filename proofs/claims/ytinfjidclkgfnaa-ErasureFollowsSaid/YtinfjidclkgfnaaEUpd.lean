/-
  Update, by the program.
-/
import Derived.Test.YtinfjidclkgfnaaEUpdM
import Derived.Test.YtinfjidclkgfnaaEHeldQ
namespace Go.Proofs.Ytinfjidclkgfnaa
open Go.RowKit
theorem held_two {P : Program} {md : Region.Mode} {l : List Oper} {Q : Exit → Act → World → Prop} {S : World → Prop} {i j : Nat} {oi oj : Oper} {fuel : Nat} {listed : Array Bool} {a : Act} {w : World} (hi : l[i]? = some oi) (hj : l[j]? = some oj)
    (hr : Region.ready md l.toArray listed = [i, j]) (hwi : Region.wanted oi (yielded l.toArray a.tmps) = true) (hwj : Region.wanted oj (yielded l.toArray a.tmps) = true)
    (h1 : ∀ K' : Act → World → Prop, Shut (∀ a w, S w → (S w → wpAnyH P md l.toArray Q S fuel (listed.setIfInBounds i true) a w) → K' a w) → Oper.wp P oi a w K' Q)
    (h2 : ∀ K' : Act → World → Prop, Shut (∀ a w, S w → (S w → wpAnyH P md l.toArray Q S fuel (listed.setIfInBounds j true) a w) → K' a w) → Oper.wp P oj a w K' Q) :
    wpAnyH P md l.toArray Q S (fuel + 1) listed a w :=
  wpAnyH_ready hr (by simp) (AllReadyH.cons (by rw [List.getElem?_toArray]; exact hi) (fun K hK => by rw [if_pos hwi]; exact h1 K hK)
    (AllReadyH.cons (by rw [List.getElem?_toArray]; exact hj) (fun K hK => by rw [if_pos hwj]; exact h2 K hK) AllReadyH.nil))
attribute [local irreducible] cauL combL parL sameL upE upR upL cauF
set_option maxRecDepth 100000 in
set_option maxHeartbeats 2000000 in
theorem update_any (ad od nd : Option Addr) (n cap m1 oc m2 nc : Nat) (ls : List (List UInt8)) (old new : List UInt8) (d x : Int) (w : World) (hl : Lr w ad ls) (hn : n = ls.length) (hn2 : n ≤ 1000) (hcap : n ≤ cap) (hca : ad = none → cap = 0) (hrow : ∀ r ∈ ls, r.length ≤ 1000)
    (ho : Hds w (.slice od m1 oc) old) (hm1 : old.length ≤ 1000) (hw : Hds w (.slice nd m2 nc) new) (d0 : -9223372036854775808 ≤ d) (d1 : d ≤ 9223372036854775807) :
    Calls Try.prog 20 #[.slice ad n cap, .int .i64 d, .int .i64 x, .slice od m1 oc, .slice nd m2 nc] w (UpdP w ls d x old new) := by
  have HL := Lib.hid hl
  have HN := Lib.hid hn
  have HR := Lib.hid hrow
  have HO := Lib.hid ho
  have HW := Lib.hid hw
  have HCA := Lib.hid hca
  clear hl hrow ho hw hca
  rcases hv : vc d (n : Int) with _ | _
  · have HF : Hid (upE ls d x old new = 7) := Lib.hid (upE_range (.inl (by rw [← hn]; exact hv)))
    clear hn
    go_enter Try.func20, Try.ntmps20
    go_wp2_with fail
    refine (counts_any d n w d0 d1).mono ?_
    rintro e w' ⟨rfl, rfl⟩
    rw [hv]
    go_wp2
    go_ret2
    exact UpdP.no (by decide) HF.out (Below.refl _ _)
  have HV : Hid (vc d (ls.length : Int) = true) := Lib.hid (by rw [← hn]; exact hv)
  have hq := (vc_iff _ _).1 hv
  by_cases hx0 : x < 0
  · have HF : Hid (upE ls d x old new = 7) := Lib.hid (upE_range (.inr (.inl hx0)))
    clear hn
    go_enter Try.func20, Try.ntmps20
    go_wp2_with fail
    refine (counts_any d n w d0 d1).mono ?_
    rintro e w' ⟨rfl, rfl⟩
    rw [hv]
    go_wp2
    go_ret2
    exact UpdP.no (by decide) HF.out (Below.refl _ _)
  by_cases hx1 : d ≤ x
  · have HF : Hid (upE ls d x old new = 7) := Lib.hid (upE_range (.inr (.inr hx1)))
    clear hn
    go_enter Try.func20, Try.ntmps20
    go_wp2_with fail
    refine (counts_any d n w d0 d1).mono ?_
    rintro e w' ⟨rfl, rfl⟩
    rw [hv]
    go_wp2
    go_ret2
    exact UpdP.no (by decide) HF.out (Below.refl _ _)
  obtain ⟨k, rfl⟩ := Int.eq_ofNat_of_zero_le (show 0 ≤ d by omega)
  obtain ⟨y, rfl⟩ := Int.eq_ofNat_of_zero_le (show 0 ≤ x by omega)
  have hyk : y < k := by omega
  have hk1 : 1 ≤ k := by omega
  have hkn : k + n ≤ 16 := by omega
  obtain ⟨od', oc', eo, hlo, go1, go2, go3⟩ := HO.out
  obtain ⟨nd', nc', en, hln, gn1, gn2, gn3⟩ := HW.out
  cases eo
  cases en
  have HLO := Lib.hid hlo
  have HLN := Lib.hid hln
  have hN1 : (w.alloc (.cells #[.slice od old.length oc, .slice nd new.length nc] 33)).heap.size = w.heap.size + 1 := by simp
  have HQ := Lib.hid (Lq.two w (.slice od old.length oc) (.slice nd new.length nc) old new w.heap.size rfl HO.out HW.out)
  have HA1 : Hid (Below w.heap.size w (w.alloc (.cells #[.slice od old.length oc, .slice nd new.length nc] 33))) := Lib.hid ((Below.refl _ _).alloc (Nat.le_refl _) _)
  have HY := Lib.hid (Lx.of_low (x := (Value.slice (some ⟨w.heap.size, 0, none⟩) 2 2).ownBlock) HL.out HA1.out (fun g hg => by cases hg; exact Nat.le_refl _))
  have HZ1 := Lib.hid HA1.out.size
  have HSC := Lib.hid (same_cons old new ls)
  obtain ⟨mo, hmo⟩ : ∃ mo, mo = old.length := ⟨_, rfl⟩
  obtain ⟨mn, hmn⟩ : ∃ mn, mn = new.length := ⟨_, rfl⟩
  rw [← hmo] at go1 hm1 HQ HA1 HY HZ1 HO ⊢
  rw [← hmn] at gn1 HQ HA1 HY HZ1 HW ⊢
  have HMO := Lib.hid hmo
  have HMN := Lib.hid hmn
  clear hn hq hlo hln hN1 hmo hmn go3 gn3
  unfold maxLen at go2 gn2
  go_enter Try.func20, Try.ntmps20
  go_wp2_with fail
  refine (counts_any (k : Int) n w d0 d1).mono ?_
  rintro e w' ⟨rfl, rfl⟩
  rw [hv]
  clear hv
  go_wp2_with (at_builtin; refine wpList_append_q rfl (.tmp 32) (.tmp 33) rfl w.heap.size 0 0 0 _ [old, new] rfl HQ.out ad n cap ls HCA.out HY.out HN.out rfl (by simp; omega) HZ1.out (Nat.le_refl _) (Nat.le_refl _) ?_; intro v1 w1 ho1 hg1 _; have HB1 := Lib.hid (HQ.out.grow HA1.out (Nat.le_refl _) hg1); obtain ⟨a1, c1, rfl, hl1, hc1, hm1', -⟩ := ho1.read; have HL1 := Lib.hid hl1; have HC1 : Hid (([old, new] ++ ls).length ≤ maxLen) := Lib.hid (Nat.le_trans hc1 hm1'); clear ho1 hg1 hl1 hc1 hm1')
  rcases hs : sameL (old :: new :: ls) with _ | _
  · have HF : Hid (upE ls k y old new = 8) := Lib.hid (upE_same HV.out (by omega) (by omega) hs)
    refine (same_any a1 _ c1 ([old, new] ++ ls) w1 HL1.out (by simp) (by simpa using HC1.out)).mono ?_
    rintro e w' ⟨rfl, rfl⟩
    rw [show [old, new] ++ ls = old :: new :: ls from rfl, hs]
    go_wp2
    go_ret2
    exact UpdP.no (by decide) HF.out HB1.out
  have HF : Hid (upE ls k y old new = 0) := Lib.hid (upE_ok HV.out (by omega) (by omega) hs)
  obtain ⟨hmm, hrl⟩ := (HSC.out).1 hs
  refine (same_any a1 _ c1 ([old, new] ++ ls) w1 HL1.out (by simp) (by simpa using HC1.out)).mono ?_
  rintro e w' ⟨rfl, rfl⟩
  rw [show [old, new] ++ ls = old :: new :: ls from rfl, hs]
  have hmon : mn = mo := by rw [HMO.out, HMN.out]; exact hmm
  subst hmon
  have HRL := Lib.hid hrl
  have HMM := Lib.hid hmm
  clear hs hmm hrl HQ HY HA1 HZ1
  have hlen2 : (combL [1, 1] [old, new]).length = mn := by rw [combL_two_length]; exact HMO.out.symm
  have HLEN := Lib.hid hlen2
  have HLI : Hid (Lie ((w1.alloc (.cells #[.int .u8 1, .int .u8 1] 5)).alloc (.cells #[.slice od mn oc, .slice nd mn nc] 33)) (some ⟨w1.heap.size, 0, none⟩) [1, 1]) := Lib.hid ((Lie.two' w1 1 1 1 1 _ rfl rfl rfl).below ((Below.refl _ _).alloc (Nat.le_refl _) _) rfl)
  have HLL : Hid (Lr ((w1.alloc (.cells #[.int .u8 1, .int .u8 1] 5)).alloc (.cells #[.slice od mn oc, .slice nd mn nc] 33)) (some ⟨w1.heap.size + 1, 0, none⟩) [old, new]) := Lib.hid (Lr.two (w1.alloc (.cells #[.int .u8 1, .int .u8 1] 5)) _ _ old new _ (by simp) (HO.out.below (HB1.out.alloc HB1.out.size _)) (HW.out.below (HB1.out.alloc HB1.out.size _)))
  have HB2 : Hid (Below w.heap.size w ((w1.alloc (.cells #[.int .u8 1, .int .u8 1] 5)).alloc (.cells #[.slice od mn oc, .slice nd mn nc] 33))) := Lib.hid ((HB1.out.alloc HB1.out.size _).alloc (by have := HB1.out.size; simp; omega) _)
  have HCL : Hid (cols [old, new] ≤ 1000) := Lib.hid (by show old.length ≤ 1000; rw [← HMO.out]; exact hm1)
  have HS2 := Lib.hid (same_two old new HMM.out)
  clear hlen2 HL1 HC1
  go_wp2_with fail
  refine (combine_any _ _ 2 2 2 2 [1, 1] [old, new] _ HLI.out rfl HLL.out rfl (by omega) (by omega) HS2.out HCL.out (by omega) (by omega)).mono ?_
  rintro e w2 ⟨v2, rfl, ho2, hb2⟩
  have HB3 := Lib.hid (HB2.out.trans (hb2.mono HB2.out.size))
  obtain ⟨a2, c2, rfl, hl2, g2, m2', e2⟩ := ho2.slice
  have HCH : Hid (Hds w2 (.slice a2 mn c2) (combL [1, 1] [old, new])) := Lib.hid ⟨a2, c2, by rw [HLEN.out], hl2, g2, m2', e2⟩
  rw [HLEN.out]
  clear ho2 hb2 hl2 g2 m2' e2 HLI HLL HB2
  go_wp2_with (at_make; refine wpList_make_outer rfl (.tmp 43) (.tmp 43) rfl _ _ n rfl rfl rfl rfl (by omega) ?_; intro g w5 ho5 hb5)
  have HO5 : Hid (Out w5 w2.heap.size g n w5.heap.size ((upL ls k y old new).take 0)) := Lib.hid (by have h := ho5.take 0; rw [List.take_zero] at h ⊢; exact h)
  have HB5 := Lib.hid hb5
  clear ho5 hb5
  refine (prows_any k n w5 hk1 (by omega)).mono ?_
  rintro e w6 ⟨v6, rfl, ho6, hb6⟩
  have hlt6 := ho6.lt
  obtain ⟨a6, c6, rfl, hx6, hc6, hm6, -⟩ := ho6.lx
  rw [cauL_length] at hc6 ⊢
  have HO6 := Lib.hid (HO5.out.below hb6)
  have HX6 := Lib.hid hx6
  have HLT6 := Lib.hid hlt6
  have HB6 := Lib.hid (HB5.out.trans (hb6.mono HB5.out.size))
  have HS6 := Lib.hid hb6.size
  have HUL := Lib.hid (upL_length ls k y old new)
  have HUT := Lib.hid (upL_take ls k y old new)
  have HG5 := Lib.hid HO5.out.lt
  have HGB := Lib.hid HO5.out.base
  unfold maxLen at hm6
  clear ho6 hx6 hb6 hlt6 HO5
  go_wp2_with fail
  go_loopg [50] n (fun gk vi wx => ∃ i : Nat, vi = .int .i64 i ∧ i + gk = n ∧ Hid (Out wx w2.heap.size g n wx.heap.size ((upL ls k y old new).take i)) ∧ Hid (Below w2.heap.size w2 wx) ∧ Hid (∀ q, w5.heap.size ≤ q → q < w6.heap.size → wx.heap[q]? = w6.heap[q]?) ∧ Hid (w6.heap.size ≤ wx.heap.size))
  case atStart => exact ⟨0, rfl, by omega, Lib.hid (HO6.out.up _ HS6.out (Nat.le_refl _)), HB6, Lib.hid (fun q _ _ => rfl), Lib.hid (Nat.le_refl _)⟩
  case round =>
    obtain ⟨i, rfl, hi, hO, hB, hblk, hsz⟩ := hrel
    cases gk with
    | zero =>
      have hlt : ¬ (i : Int) < (n : Int) := by omega
      obtain rfl : i = n := by omega
      have hO1 := hO.out
      rw [List.take_of_length_le (by rw [HUL.out, ← HN.out]; exact Nat.le_refl _)] at hO1
      have HOF := Lib.hid (Lq.of_out hO1 (by rw [HUL.out]; exact HN.out.symm))
      clear hO1 hO
      go_wp2
      go_ret2
      exact UpdP.ok HF.out (HOF.out.mono HB3.out.size HB3.out.size) (HB3.out.trans (hB.out.mono HB3.out.size))
    | succ gk0 =>
      have hlt : (i : Int) < (n : Int) := by omega
      have hiN : i < n := by omega
      have hil : i < ls.length := by have := HN.out; omega
      have hic : i < (cauL n k).length := by rw [cauL_length]; exact hiN
      -- the factor
      rcases HX6.out with h0 | ⟨b7, off7, e7, hb7, hc7⟩
      · rw [h0] at hic; exact absurd hic (by simp)
      subst e7
      obtain ⟨a8, c8, f8, l8, g8, m8, e8⟩ := hc7 i hic
      have hb75 : w5.heap.size ≤ b7 := (HLT6.out b7 rfl).1
      have hrl : ((cauL n k)[i]).length = k := cauL_row n k _ (List.getElem_mem hic)
      rw [hrl] at f8 g8
      have f9 : wr.cell? ⟨b7, off7 + i, none⟩ = some (.slice a8 k c8) := (World.cell?_of_block (a := ⟨b7, off7 + i, none⟩) (hblk.out b7 hb75 hb7)).trans f8
      rcases l8 with h0 | ⟨b9, off9, e9, h95, h96, -, hc9⟩
      · rw [h0] at hrl; simp at hrl; omega
      subst e9
      have f10 := hc9 y (by rw [hrl]; exact hyk)
      have hcf : ((cauL n k)[i])[y]'(by rw [hrl]; exact hyk) = cauF k i y := by
        have gen : ∀ (l : List (List UInt8)) (h : i < l.length) (h2 : y < (l[i]).length), l = matL n k (cauF k) → (l[i])[y] = cauF k i y := fun l h h2 e => by
          subst e
          have e1 : (matL n k (cauF k))[i] = rowF k (cauF k i) := matL_rowF n k i _ h
          have g2 : ∀ (r : List UInt8) (h : y < r.length), r = rowF k (cauF k i) → r[y] = cauF k i y := fun r h e => by subst e; exact rowF_get _ _ _ h
          exact g2 _ _ e1
        exact gen _ hic _ (cauL_eq n k)
      rw [hcf, ← ev_nat] at f10
      have f11 : wr.cell? ⟨b9, off9 + y, none⟩ = some (.int .u8 (ev (cauF k i y))) := (World.cell?_of_block (a := ⟨b9, off9 + y, none⟩) (hblk.out b9 h95 h96)).trans f10
      -- the parity shard
      obtain ⟨bp, offp, ep, hbp, a1, c1, f1, l1, g1, m1, e1⟩ := HL.out.row i hil
      subst ep
      have hpl : (ls[i]).length = mn := by rw [HMO.out]; exact HRL.out _ (List.getElem_mem hil)
      rw [hpl] at f1 g1
      have HBW := Lib.hid (HB3.out.trans (hB.out.mono HB3.out.size))
      have f2 : wr.cell? ⟨bp, offp + i, none⟩ = some (.slice a1 mn c1) := (HBW.out.cell (p := ⟨bp, offp + i, none⟩) hbp).trans f1
      have HP : Hid (Hds wr (.slice a1 mn c1) (ls[i])) := Lib.hid ⟨a1, c1, by rw [hpl], l1.below HBW.out rfl, by rw [hpl]; exact g1, m1, e1⟩
      have HCW := Lib.hid (HCH.out.below hB.out)
      have HUX := Lib.hid (HUT.out i hil)
      have HPL := Lib.hid hpl
      have hg9 : b9 ≠ g := by have := HG5.out; omega
      have hgp : bp ≠ g := by have := HGB.out; have := HB3.out.size; omega
      have hg7 : b7 ≠ g := by have := HG5.out; omega
      have HGL := Lib.hid hO.out.lt
      unfold maxLen at m8 m1
      generalize ls[i] = par at HP HUX HPL
      generalize cauF k i y = cf at f11 HUX
      clear f8 f10 hcf hc7 hc9 hrl hic hil f1 l1 hpl e8 e1
      obtain ⟨W0, HW0⟩ : ∃ W0 : World, Hid (W0 = wr) := ⟨_, Lib.hid rfl⟩
      have HO0 : Hid (Out W0 w2.heap.size g n W0.heap.size ((upL ls k y old new).take i)) := Lib.hid (by rw [HW0.out]; exact hO.out)
      have HD0 : Below W0.heap.size W0 wr.drew := by rw [HW0.out]; exact (Below.refl _ _).drew
      have HS3 : Hid (∀ j (hj : j < [par, combL [1, 1] [old, new]].length), ([par, combL [1, 1] [old, new]][j]).length = cols [par, combL [1, 1] [old, new]]) := Lib.hid (same_two par _ (by rw [HLEN.out, HPL.out]))
      have HCP : Hid (cols [par, combL [1, 1] [old, new]] ≤ 1000) := Lib.hid (by show par.length ≤ 1000; rw [HPL.out]; exact hm1)
      have HSX : Hid (∀ X, Below W0.heap.size W0 X → X.cell? ⟨b9, off9 + y, none⟩ = some (.int .u8 (ev cf)) ∧ X.cell? ⟨bp, offp + i, none⟩ = some (.slice a1 mn c1)) := Lib.hid fun X hX => by
        have h9 : b9 < W0.heap.size := by rw [HW0.out]; exact Nat.lt_of_lt_of_le h96 hsz.out
        have hp : bp < W0.heap.size := by rw [HW0.out]; exact Nat.lt_of_lt_of_le hbp HBW.out.size
        exact ⟨(hX.cell (p := ⟨b9, off9 + y, none⟩) h9).trans (by rw [HW0.out]; exact f11), (hX.cell (p := ⟨bp, offp + i, none⟩) hp).trans (by rw [HW0.out]; exact f2)⟩
      have HT : Hid (∀ w7 v7, Below W0.heap.size W0 w7 → Own w7 W0.heap.size v7 (combL [1, cf] [par, combL [1, 1] [old, new]]) → (∃ u, w7.cell? ⟨g, i, none⟩ = some u) ∧ w7.frozen? ⟨g, i, none⟩ = false ∧ Out (w7.setCell ⟨g, i, none⟩ v7) w2.heap.size g n (w7.setCell ⟨g, i, none⟩ v7).heap.size ((upL ls k y old new).take (i + 1)) ∧ Below w2.heap.size w2 (w7.setCell ⟨g, i, none⟩ v7) ∧ (∀ q, w5.heap.size ≤ q → q < w6.heap.size → (w7.setCell ⟨g, i, none⟩ v7).heap[q]? = w6.heap[q]?) ∧ w6.heap.size ≤ (w7.setCell ⟨g, i, none⟩ v7).heap.size ∧
          (w7.setCell ⟨g, i, none⟩ v7).cell? ⟨b9, off9 + y, none⟩ = some (.int .u8 (ev cf)) ∧ (w7.setCell ⟨g, i, none⟩ v7).cell? ⟨bp, offp + i, none⟩ = some (.slice a1 mn c1)) := Lib.hid fun w7 v7 hX ho => by
        have hO2 := HO0.out.below hX
        have hc := HSX.out w7 hX
        have hlen : i = ((upL ls k y old new).take i).length := by rw [List.length_take, HUL.out]; have := HN.out; omega
        have h1 := hO2.putLast i hlen hiN v7 _ W0.heap.size ho HO0.out.lt
        rw [← HUX.out] at h1
        have hB0 : Below w2.heap.size w2 W0 := by rw [HW0.out]; exact hB.out
        have hsz0 : w6.heap.size ≤ W0.heap.size := by rw [HW0.out]; exact hsz.out
        refine ⟨hO2.there i hiN, hO2.frozen i, by simpa using h1, (hB0.trans (hX.mono hB0.size)).setCell (p := ⟨g, i, none⟩) HGB.out _, fun q q1 q2 => ?_, by simpa using Nat.le_trans hsz0 hX.size, ?_, ?_⟩
        · rw [Below.heap_setCell w7 ⟨g, i, none⟩ v7 q (by intro e; have e : q = g := e; have := HG5.out; omega), hX.block q (by omega), HW0.out]
          exact hblk.out q q1 q2
        · rw [World.cell?_setCell_far _ _ _ _ (by exact fun e => hg9 e.symm)]
          exact hc.1
        · rw [World.cell?_setCell_far _ _ _ _ (by exact fun e => hgp e.symm)]
          exact hc.2
      clear hO
      go_wp2_with fail
      refine wp_region_noPanic ?_
      refine wp_region_held_drew (S := fun X => X.cell? ⟨b9, off9 + y, none⟩ = some (.int .u8 (ev cf)) ∧ X.cell? ⟨bp, offp + i, none⟩ = some (.slice a1 mn c1)) (by kernel_rfl) (⟨f11, f2⟩) (fun hS0 => ?_)
      refine held_take (i := 0) (v := ?_) rfl (by kernel_rfl) (by kernel_rfl) (by kernel_rfl) (fun _ _ _ h => h) (by rfl) ?_ (by assumption) ?_
      rotate_left
      · intro X hSX
        try dsimp only at hSX
        go_simp <;> with_reducible rfl
      simp only [Act.put, List.setIfInBounds_toArray, List.set_cons_zero, List.set_cons_succ]
      refine held_take (i := 1) (v := ?_) rfl (by kernel_rfl) (by kernel_rfl) (by kernel_rfl) (fun _ _ _ h => h) (by rfl) ?_ (by assumption) ?_
      rotate_left
      · intro X hSX
        try dsimp only at hSX
        go_simp <;> with_reducible rfl
      simp only [Act.put, List.setIfInBounds_toArray, List.set_cons_zero, List.set_cons_succ]
      refine held_take (i := 2) (v := ?_) rfl (by kernel_rfl) (by kernel_rfl) (by kernel_rfl) (fun _ _ _ h => h) (by rfl) ?_ (by assumption) ?_
      rotate_left
      · intro X hSX
        try dsimp only at hSX
        go_simp <;> with_reducible rfl
      simp only [Act.put, List.setIfInBounds_toArray, List.set_cons_zero, List.set_cons_succ]
      refine held_take (i := 3) (v := ?_) rfl (by kernel_rfl) (by kernel_rfl) (by kernel_rfl) (fun _ _ _ h => h) (by rfl) ?_ (by assumption) ?_
      rotate_left
      · intro X hSX
        try dsimp only at hSX
        go_simp <;> with_reducible rfl
      simp only [Act.put, List.setIfInBounds_toArray, List.set_cons_zero, List.set_cons_succ]
      refine held_take (i := 4) (v := ?_) rfl (by kernel_rfl) (by kernel_rfl) (by kernel_rfl) (fun _ _ _ h => h) (by rfl) ?_ (by assumption) ?_
      rotate_left
      · intro X hSX
        try dsimp only at hSX
        go_simp <;> with_reducible rfl
      simp only [Act.put, List.setIfInBounds_toArray, List.set_cons_zero, List.set_cons_succ]
      refine held_take (i := 5) (v := ?_) rfl (by kernel_rfl) (by kernel_rfl) (by kernel_rfl) (fun _ _ _ h => h) (by rfl) ?_ (by assumption) ?_
      rotate_left
      · intro X hSX
        try dsimp only at hSX
        have hcell := hSX.1
        go_simp <;> with_reducible rfl
      simp only [Act.put, List.setIfInBounds_toArray, List.set_cons_zero, List.set_cons_succ]
      refine held_take (i := 7) (v := ?_) rfl (by kernel_rfl) (by kernel_rfl) (by kernel_rfl) (fun _ _ _ h => h) (by rfl) ?_ (by assumption) ?_
      rotate_left
      · intro X hSX
        try dsimp only at hSX
        go_simp <;> with_reducible rfl
      simp only [Act.put, List.setIfInBounds_toArray, List.set_cons_zero, List.set_cons_succ]
      refine held_take (i := 8) (v := ?_) rfl (by kernel_rfl) (by kernel_rfl) (by kernel_rfl) (fun _ _ _ h => h) (by rfl) ?_ (by assumption) ?_
      rotate_left
      · intro X hSX
        try dsimp only at hSX
        go_simp <;> with_reducible rfl
      simp only [Act.put, List.setIfInBounds_toArray, List.set_cons_zero, List.set_cons_succ]
      refine held_take (i := 9) (v := ?_) rfl (by kernel_rfl) (by kernel_rfl) (by kernel_rfl) (fun _ _ _ h => h) (by rfl) ?_ (by assumption) ?_
      rotate_left
      · intro X hSX
        try dsimp only at hSX
        go_simp <;> with_reducible rfl
      simp only [Act.put, List.setIfInBounds_toArray, List.set_cons_zero, List.set_cons_succ]
      refine held_take (i := 10) (v := ?_) rfl (by kernel_rfl) (by kernel_rfl) (by kernel_rfl) (fun _ _ _ h => h) (by rfl) ?_ (by assumption) ?_
      rotate_left
      · intro X hSX
        try dsimp only at hSX
        have hcell := hSX.2
        go_simp <;> with_reducible rfl
      simp only [Act.put, List.setIfInBounds_toArray, List.set_cons_zero, List.set_cons_succ]
      refine held_take (i := 11) (v := ?_) rfl (by kernel_rfl) (by kernel_rfl) (by kernel_rfl) (fun _ _ _ h => h) (by rfl) ?_ (by assumption) ?_
      rotate_left
      · intro X hSX
        try dsimp only at hSX
        go_simp <;> with_reducible rfl
      simp only [Act.put, List.setIfInBounds_toArray, List.set_cons_zero, List.set_cons_succ]
      refine held_two (i := 6) (j := 12) rfl rfl (by kernel_rfl) (by rfl) (by rfl) (fun K' hK' => ?_) (fun K' hK' => ?_)
      · have HXA1 : Hid (Below W0.heap.size W0 (wr.drew.alloc (.cells #[.int .u8 1, .int .u8 (ev cf)] 5))) := Lib.hid (HD0.alloc HD0.size _)
        have HXA2 : Hid (Below W0.heap.size W0 ((wr.drew.alloc (.cells #[.int .u8 1, .int .u8 (ev cf)] 5)).alloc (.cells #[.slice a1 mn c1, .slice a2 mn c2] 33))) := Lib.hid (HXA1.out.alloc HXA1.out.size _)
        have HAI : Hid (Lie ((wr.drew.alloc (.cells #[.int .u8 1, .int .u8 (ev cf)] 5)).alloc (.cells #[.slice a1 mn c1, .slice a2 mn c2] 33)) (some ⟨wr.heap.size, 0, none⟩) [1, cf]) := Lib.hid ((Lie.two' wr.drew 1 (ev cf) 1 cf _ rfl (ev_nat cf) rfl).below ((Below.refl _ _).alloc (Nat.le_refl _) _) rfl)
        have HAL : Hid (Lr ((wr.drew.alloc (.cells #[.int .u8 1, .int .u8 (ev cf)] 5)).alloc (.cells #[.slice a1 mn c1, .slice a2 mn c2] 33)) (some ⟨wr.heap.size + 1, 0, none⟩) [par, combL [1, 1] [old, new]]) := Lib.hid (Lr.two (wr.drew.alloc (.cells #[.int .u8 1, .int .u8 (ev cf)] 5)) _ _ par (combL [1, 1] [old, new]) _ (by simp) (HP.out.below ((Below.refl _ _).drew.alloc (Nat.le_refl _) _)) (HCW.out.below ((Below.refl _ _).drew.alloc (Nat.le_refl _) _)))
        go_simp
        refine held_go hK' (HSX.out _ HXA1.out) ?_
        try simp only [Act.put, List.setIfInBounds_toArray, List.set_cons_zero, List.set_cons_succ]
        refine held_call (i := 12) rfl (by kernel_rfl) (by rfl) (fun K' hK' => ?_)
        go_simp
        refine held_go hK' (HSX.out _ HXA2.out) ?_
        try simp only [Act.put, List.setIfInBounds_toArray, List.set_cons_zero, List.set_cons_succ]
        refine held_call (i := 13) rfl (by kernel_rfl) (by rfl) (fun K' hK' => ?_)
        go_simp
        refine (combine_any _ _ 2 2 2 2 [1, cf] [par, combL [1, 1] [old, new]] _ HAI.out rfl HAL.out rfl (by omega) (by omega) HS3.out HCP.out (by omega) (by omega)).mono ?_
        rintro e w7 ⟨v7, rfl, ho7, hb7⟩
        have hb7' := HXA2.out.trans (hb7.mono HXA2.out.size)
        obtain ⟨⟨u, hu⟩, hz, hO7, hB7, hK7, hs7, hS7⟩ := HT.out w7 v7 hb7' (ho7.mono HXA2.out.size)
        have HO7 := Lib.hid hO7
        have HB7 := Lib.hid hB7
        have HK7 := Lib.hid hK7
        have HS7 := Lib.hid hs7
        have HSX7 := Lib.hid (HSX.out _ hb7')
        have HSZ := Lib.hid hS7
        obtain ⟨ad9, cap9, e9, -⟩ := ho7.slice
        subst e9
        clear ho7 hb7 hb7' hO7 hB7 hK7 hs7 hS7
        refine held_go hK' (HSX7.out) ?_
        try simp only [Act.put, List.setIfInBounds_toArray, List.set_cons_zero, List.set_cons_succ]
        refine held_call (i := 14) rfl (by kernel_rfl) (by rfl) (fun K' hK' => ?_)
        go_simp
        refine held_go hK' (HSX7.out) ?_
        try simp only [Act.put, List.setIfInBounds_toArray, List.set_cons_zero, List.set_cons_succ]
        refine held_call (i := 15) rfl (by kernel_rfl) (by rfl) (fun K' hK' => ?_)
        go_simp
        refine held_go hK' (HSZ.out) ?_
        try simp only [Act.put, List.setIfInBounds_toArray, List.set_cons_zero, List.set_cons_succ]
        refine wpAnyH_done (by kernel_rfl) ?_ _
        refine NoPanic.normal ?_
        go_wp2
        go_roundg gk0
        case rel => exact ⟨i + 1, by go_num, by omega, by simpa using HO7, by simpa using HB7, by simpa using HK7, by simpa using HS7⟩
        case measure => omega
      · have HXA1 : Hid (Below W0.heap.size W0 (wr.drew.alloc (.cells #[.slice a1 mn c1, .slice a2 mn c2] 33))) := Lib.hid (HD0.alloc HD0.size _)
        have HXA2 : Hid (Below W0.heap.size W0 ((wr.drew.alloc (.cells #[.slice a1 mn c1, .slice a2 mn c2] 33)).alloc (.cells #[.int .u8 1, .int .u8 (ev cf)] 5))) := Lib.hid (HXA1.out.alloc HXA1.out.size _)
        have HAI : Hid (Lie ((wr.drew.alloc (.cells #[.slice a1 mn c1, .slice a2 mn c2] 33)).alloc (.cells #[.int .u8 1, .int .u8 (ev cf)] 5)) (some ⟨wr.heap.size + 1, 0, none⟩) [1, cf]) := Lib.hid (Lie.two' (wr.drew.alloc (.cells #[.slice a1 mn c1, .slice a2 mn c2] 33)) 1 (ev cf) 1 cf _ rfl (ev_nat cf) (by simp))
        have HAL : Hid (Lr ((wr.drew.alloc (.cells #[.slice a1 mn c1, .slice a2 mn c2] 33)).alloc (.cells #[.int .u8 1, .int .u8 (ev cf)] 5)) (some ⟨wr.heap.size, 0, none⟩) [par, combL [1, 1] [old, new]]) := Lib.hid ((Lr.two wr.drew (.slice a1 mn c1) (.slice a2 mn c2) par (combL [1, 1] [old, new]) _ rfl (HP.out.below (Below.refl _ _).drew) (HCW.out.below (Below.refl _ _).drew)).below ((Below.refl _ _).alloc (Nat.le_refl _) _))
        go_simp
        refine held_go hK' (HSX.out _ HXA1.out) ?_
        try simp only [Act.put, List.setIfInBounds_toArray, List.set_cons_zero, List.set_cons_succ]
        refine held_call (i := 6) rfl (by kernel_rfl) (by rfl) (fun K' hK' => ?_)
        go_simp
        refine held_go hK' (HSX.out _ HXA2.out) ?_
        try simp only [Act.put, List.setIfInBounds_toArray, List.set_cons_zero, List.set_cons_succ]
        refine held_call (i := 13) rfl (by kernel_rfl) (by rfl) (fun K' hK' => ?_)
        go_simp
        refine (combine_any _ _ 2 2 2 2 [1, cf] [par, combL [1, 1] [old, new]] _ HAI.out rfl HAL.out rfl (by omega) (by omega) HS3.out HCP.out (by omega) (by omega)).mono ?_
        rintro e w7 ⟨v7, rfl, ho7, hb7⟩
        have hb7' := HXA2.out.trans (hb7.mono HXA2.out.size)
        obtain ⟨⟨u, hu⟩, hz, hO7, hB7, hK7, hs7, hS7⟩ := HT.out w7 v7 hb7' (ho7.mono HXA2.out.size)
        have HO7 := Lib.hid hO7
        have HB7 := Lib.hid hB7
        have HK7 := Lib.hid hK7
        have HS7 := Lib.hid hs7
        have HSX7 := Lib.hid (HSX.out _ hb7')
        have HSZ := Lib.hid hS7
        obtain ⟨ad9, cap9, e9, -⟩ := ho7.slice
        subst e9
        clear ho7 hb7 hb7' hO7 hB7 hK7 hs7 hS7
        refine held_go hK' (HSX7.out) ?_
        try simp only [Act.put, List.setIfInBounds_toArray, List.set_cons_zero, List.set_cons_succ]
        refine held_call (i := 14) rfl (by kernel_rfl) (by rfl) (fun K' hK' => ?_)
        go_simp
        refine held_go hK' (HSX7.out) ?_
        try simp only [Act.put, List.setIfInBounds_toArray, List.set_cons_zero, List.set_cons_succ]
        refine held_call (i := 15) rfl (by kernel_rfl) (by rfl) (fun K' hK' => ?_)
        go_simp
        refine held_go hK' (HSZ.out) ?_
        try simp only [Act.put, List.setIfInBounds_toArray, List.set_cons_zero, List.set_cons_succ]
        refine wpAnyH_done (by kernel_rfl) ?_ _
        refine NoPanic.normal ?_
        go_wp2
        go_roundg gk0
        case rel => exact ⟨i + 1, by go_num, by omega, by simpa using HO7, by simpa using HB7, by simpa using HK7, by simpa using HS7⟩
        case measure => omega
end Go.Proofs.Ytinfjidclkgfnaa
