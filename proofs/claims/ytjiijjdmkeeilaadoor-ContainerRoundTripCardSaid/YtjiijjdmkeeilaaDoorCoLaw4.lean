/-
  The statement ContainerRoundTrip, over the contracts.
-/
import Derived.Test.YtjiijjdmkeeilaaDoorCoLawQ
import Derived.Test.YtjiijjdmkeeilaaDoorCoFewP
import Derived.Test.YtjiijjdmkeeilaaDoorCAN
namespace Go.Proofs.YtjiijjdmkeeilaaDoor
open Go.RowKit
set_option linter.unusedVariables false
set_option linter.unusedSimpArgs false
attribute [local irreducible] bldR eqH smlH vldH hbU blU parH payU fewB hbL payB
set_option maxRecDepth 100000 in
set_option maxHeartbeats 16000000 in
theorem law_cround {I : World → Prop} (H : CoSide I) (h : Hdr) (hd : Option Addr) (hn hcap : Nat) (pd : Option Addr) (pn pcap : Nat) (p : List UInt8) (ad : Option Addr) (n cap : Nat) (l : List Blk) (w : World) (hin : HdIn w h hd hn hcap) (hfit : h.Fit)
    (hlp : Lie w pd p) (hpn : pn = p.length) (hpc : pn ≤ pcap) (hpm : pcap ≤ maxLen) (hpa : pd = none → pcap = 0) (hl : Ki w ad l) (hn2 : n = l.length) (hc : n ≤ cap) (hcm : cap ≤ maxLen) (ha : ad = none → cap = 0) (hi : I w) :
    Calls Tryd.prog 6 #[hdV h hd hn hcap, .slice pd pn pcap, .slice ad n cap] w fun e w' => e = .returned (.bool true) ∧ Below w.heap.size w w' := by
  have HS := Lib.hid H
  have HI := Lib.hid hi
  have HX0 := Lib.hid (HdRow.new w h hd hn hcap)
  have HI0 := Lib.hid (hin.below (co_box1 w (boxH h hd hn hcap)))
  have HB0 := Lib.hid (co_box1 w (boxH h hd hn hcap))
  have HIN := Lib.hid hin.sml
  have HFT := Lib.hid (smlH_fit hfit)
  have HLP := Lib.hid hlp
  have HPN := Lib.hid hpn
  have HPC := Lib.hid hpc
  have HPM := Lib.hid hpm
  have HPA := Lib.hid hpa
  have HM66 := Lib.hid (smlH_len h)
  have HL := Lib.hid hl
  have HN := Lib.hid hn2
  clear H hi hin hfit hlp hpn hpc hpm hpa hl hn2 hc hcm ha
  go_enter Tryd.func6, Tryd.ntmps6
  go_wp2_with (with_reducible refine ld_hdr rfl (.tmp 3) rfl rfl HX0.out ?_)
  change Calls Tryd.prog 9 _ (w.alloc (boxH h hd hn hcap)) _
  generalize World.alloc w _ = X0 at *
  refine (small_at h hd hn hcap X0 HI0.out).mono ?_
  rintro e X1 ⟨rfl, hb1⟩
  have HR1 := Lib.hid (HX0.out.below hb1 HX0.out.lt)
  generalize smlH h = S at *
  obtain ⟨M, hM⟩ : ∃ M, M = S.es.length := ⟨_, rfl⟩
  rw [← hM] at HIN HM66 ⊢
  have HX1 := Lib.hid (HR1.out.put S hd M hcap)
  have HB1 := Lib.hid (below_set (HB0.out.trans (hb1.mono HB0.out.size)) (Nat.le_refl w.heap.size) (hdC S hd M hcap))
  have HSL := Lib.hid hM
  clear hM hb1 HX0 HI0 HB0
  go_wp2_with (with_reducible refine st_hdr rfl (.tmp 3) (.tmp 18) rfl rfl S hd M hcap rfl HR1.out ?_)
  generalize World.setRow X1 _ _ = X2 at *
  clear HR1
  refine (short_any pd pn pcap p X2 (HLP.out.below HB1.out rfl) HPN.out HPC.out HPM.out HPA.out).mono ?_
  rintro e w2 ⟨pe, pc, rfl, hl2, hc2, hm2, ha2, rfl⟩
  have hb6 : (p.take 600).length ≤ 600 := by rw [List.length_take]; omega
  generalize p.take 600 = b at *
  obtain ⟨m, hm⟩ : ∃ m, m = b.length := ⟨_, rfl⟩
  rw [← hm] at hc2 hb6 ⊢
  have HLB := Lib.hid hl2
  have HBN := Lib.hid hm
  have HBC := Lib.hid hc2
  have HBM := Lib.hid hm2
  have HBA := Lib.hid ha2
  have HB6 := Lib.hid hb6
  clear hl2 hm hc2 hm2 ha2 hb6 HLP HPN HPC HPM HPA
  go_wp2_with (with_reducible refine ld_hdr rfl (.tmp 3) rfl rfl HX1.out ?_)
  refine (HS.out.build S hd M hcap pe m pc b X2 (HIN.out.below HB1.out) HFT.out HM66.out HLB.out HBN.out HBC.out HBM.out HBA.out HB6.out (HS.out.step w X2 HI.out HB1.out)).mono ?_
  rcases bld_cases (S := S) (b := b) HFT.out (by have := HB6.out; have := HBN.out; omega) with ⟨k, hk, hE⟩ | ⟨L, G, hE, ok⟩
  · rw [hE]
    rintro e X3 ⟨v3, ad3, cap3, rfl, hk3, hi3, hb3⟩
    dsimp only at hk3 hi3 ⊢
    obtain ⟨ld3, lc3, rfl, -⟩ := hk3.read
    have HB3 := Lib.hid ((HB1.out.trans (hb3.mono HB1.out.size)).alloc (Nat.le_trans HB1.out.size hb3.size) (boxH .zero ad3 Hdr.zero.es.length cap3))
    rw [List.length_nil]
    clear hk3 hi3 hb3 HX1 HB1
    go_wp2_with fail
    change Calls Tryd.prog 21 _ (X3.alloc (boxH .zero ad3 Hdr.zero.es.length cap3)) _
    refine (awake15_any HS.out _ (HS.out.step w _ HI.out HB3.out)).mono ?_
    rintro e X4 ⟨rfl, hb4⟩
    have HB4 := Lib.hid (HB3.out.trans (hb4.mono HB3.out.size))
    clear hb4 HB3
    go_wp2_with fail
    go_ret
    exact ⟨rfl, HB4.out⟩
  rw [hE]
  have OK := Lib.hid ok
  clear hE ok
  rintro e X3 ⟨v3, ad3, cap3, rfl, hk3, hi3, hb3⟩
  dsimp only at hk3 hi3 ⊢
  obtain ⟨ld3, lc3, rfl, hx3, hc3, hm3, ha3, -⟩ := hk3.read
  obtain ⟨K, hK⟩ : ∃ K, K = G.es.length := ⟨_, rfl⟩
  obtain ⟨N, hN⟩ : ∃ N, N = L.length := ⟨_, rfl⟩
  rw [← hK] at hi3 ⊢
  rw [← hN] at hc3 ⊢
  have HKG := Lib.hid hK
  have HNL := Lib.hid hN
  have HA3 := Lib.hid ha3
  have HN100 := Lib.hid (show N ≤ 100 by rw [hN]; exact OK.out.cnt)
  have HK3 := Lib.hid (hx3.ki.below (co_box1 X3 (boxH G ad3 K cap3)))
  have HG3 := Lib.hid (HdRow.new X3 G ad3 K cap3)
  have HJ3 := Lib.hid (hi3.below (co_box1 X3 (boxH G ad3 K cap3)))
  have HB3 := Lib.hid ((HB1.out.trans (hb3.mono HB1.out.size)).alloc (Nat.le_trans HB1.out.size hb3.size) (boxH G ad3 K cap3))
  have HL3 := Lib.hid ((HLB.out.below hb3 rfl).below (co_box1 X3 (boxH G ad3 K cap3)) rfl)
  clear hK hN hk3 hi3 hb3 hx3 hc3 hm3 ha3 HX1 HB1
  go_wp2_with (with_reducible refine ld_hdr rfl (.tmp 8) rfl rfl HG3.out ?_)
  change Calls Tryd.prog 19 _ (X3.alloc (boxH G ad3 K cap3)) _
  generalize World.alloc X3 _ = X4 at *
  generalize X3.heap.size = g4 at *
  refine (HS.out.blocks G ad3 K cap3 X4 HJ3.out OK.out.fit (HS.out.step w X4 HI.out HB3.out)).mono ?_
  rw [OK.out.bl, ← HNL.out]
  rintro e X5 ⟨rfl, hb5⟩
  have HK5 := Lib.hid (HK3.out.below hb5)
  have HG5 := Lib.hid (HG3.out.below hb5 HG3.out.lt)
  have HJ5 := Lib.hid (HJ3.out.below hb5)
  have HB5 := Lib.hid (HB3.out.trans (hb5.mono HB3.out.size))
  have HL5 := Lib.hid (HL3.out.below hb5 rfl)
  have c9 := HG5.out.at_.c9
  rw [OK.out.sz, ← HBN.out] at c9
  have kN : ((N : Int) != (N : Int)) = false := by simp
  have km : ((m : Int) != (m : Int)) = false := by simp
  clear hb5 HK3 HG3 HJ3 HB3 HL3
  go_wp2_with (with_reducible refine wpList_unguard rfl (ld_hdr rfl (.tmp 8) rfl rfl HG5.out ?_))
  refine (HS.out.valid G ad3 K cap3 X5 HJ5.out OK.out.fit (HS.out.step w X5 HI.out HB5.out)).mono ?_
  rw [OK.out.vld]
  rintro e X6 ⟨rfl, hb6⟩
  have HK6 := Lib.hid (HK5.out.below hb6)
  have HG6 := Lib.hid (HG5.out.below hb6 HG5.out.lt)
  have HJ6 := Lib.hid (HJ5.out.below hb6)
  have HB6 := Lib.hid (HB5.out.trans (hb6.mono HB5.out.size))
  have HL6 := Lib.hid (HL5.out.below hb6 rfl)
  have hlen1 : ([] : List Blk).length + N ≤ 100000 := by have := HN100.out; simp; omega
  clear hb6 HK5 HG5 HJ5 HB5 HL5 c9 kN km
  go_wp2_with (at_builtin; refine wpList_append_k rfl (.tmp 53) (.tmp 54) rfl X6.heap.size 0 0 0 (.slice (some ⟨X6.heap.size, 0, none⟩) 0 0) [] rfl (Kq.made0 X6 _ 0 _ rfl (Nat.le_refl _)) ld3 N lc3 L HA3.out (HK6.out.kx (co_box1 X6 _) (fun g hg => by cases hg; exact Nat.le_refl _)) HNL.out rfl hlen1 (by simp) (Nat.le_refl _) (Nat.le_refl _) ?_; intro v7 w7 ho7 hg7 _; have HK7 := Lib.hid ho7; have hb7 := (co_box1 X6 (.cells #[] 57)).grown hg7 (by simp) (fun k hk => by cases hk; exact Nat.le_refl _); clear ho7 hg7)
  rw [List.nil_append] at HK7
  have HB67 := Lib.hid hb7
  have HB7 := Lib.hid (HB6.out.trans (hb7.mono HB6.out.size))
  have HS7 := Lib.hid (show X6.heap.size ≤ w7.heap.size from hb7.size)
  clear hb7 HK6 hlen1
  refine (few_low ad n cap l w w7 HL.out HB7.out HN.out).mono ?_
  rintro e X8 ⟨v8, rfl, hp8, hb8⟩
  obtain ⟨fd8, fc8, rfl, hx8, hc8, hm8, ha8⟩ := hp8.kx (y := v7.ownBlock) (fun g hg => Nat.le_trans HB6.out.size (HK7.out.lt g hg).1)
  have HF := Lib.hid (fewB_ok l)
  generalize fewB l = F at *
  obtain ⟨f, hf⟩ : ∃ f, f = F.length := ⟨_, rfl⟩
  rw [← hf]
  have HFN := Lib.hid hf
  have HX8 := Lib.hid hx8
  have HA8 := Lib.hid ha8
  have HK8 := Lib.hid (HK7.out.below hb8)
  have HB68 := Lib.hid (HB67.out.trans (hb8.mono HS7.out))
  have HS8 := Lib.hid (show X6.heap.size ≤ X8.heap.size from Nat.le_trans HS7.out hb8.size)
  have hlen2 : L.length + f ≤ 100000 := by have h1 := HN100.out; have h2 := HNL.out; have h3 := HF.out.1; omega
  clear hf hp8 hx8 hc8 hm8 ha8 hb8 HK7 HB7 HS7 HB67
  go_wp2_with (at_builtin; refine wpList_append_k rfl (.tmp 55) (.tmp 57) rfl X6.heap.size 0 0 0 v7 L rfl HK8.out fd8 f fc8 F HA8.out HX8.out HFN.out rfl hlen2 HS8.out (Nat.le_refl _) (Nat.le_refl _) ?_; intro v9 w9 ho9 hg9 _; have HK9 := Lib.hid ho9; have HB69 := Lib.hid (HB68.out.grown hg9 HS8.out (fun k hk => (HK8.out.lt k hk).1)); clear ho9 hg9)
  obtain ⟨ad9, cap9, rfl, hx9, hc9, hm9, ha9, -⟩ := HK9.out.read
  have HP := Lib.hid (OK.out.par F)
  have HQ := Lib.hid (OK.out.pay F)
  have HD9 : Hid (∀ x ∈ L ++ F, x.d.length ≤ 100) := Lib.hid fun x hx => by
    rcases List.mem_append.1 hx with h | h
    · have := OK.out.dat x h; omega
    · have := HF.out.2 x h; omega
  have HTL : Hid ((L ++ F).length ≤ 200) := Lib.hid (by rw [List.length_append]; have h1 := HN100.out; have h2 := HNL.out; have h3 := HF.out.1; omega)
  generalize L ++ F = Z at *
  obtain ⟨t, ht⟩ : ∃ t, t = Z.length := ⟨_, rfl⟩
  rw [← ht] at hc9 HTL ⊢
  have HTN := Lib.hid ht
  have HK := Lib.hid hx9.ki
  have HC9 := Lib.hid hc9
  have HM9 := Lib.hid hm9
  have HA9 := Lib.hid ha9
  have HG9 := Lib.hid (HG6.out.below HB69.out HG6.out.lt)
  have HJ9 := Lib.hid (HJ6.out.below HB69.out)
  have HB9 := Lib.hid (HB6.out.trans (HB69.out.mono HB6.out.size))
  have HL9 := Lib.hid (HL6.out.below HB69.out rfl)
  clear ht hx9 hc9 hm9 ha9 hlen2 HG6 HJ6 HB6 HL6 HB69 HB68 HK8 HK9 HX8 HA8 HS8 HFN HF
  have HSL2 := Lib.hid (show K ≤ 64 by rw [HKG.out]; exact OK.out.len)
  have HHB := Lib.hid OK.out.hb
  generalize hbL G = HB_ at *
  obtain ⟨q, hq⟩ : ∃ q, q = HB_.length := ⟨_, rfl⟩
  rw [← hq] at HP HHB
  clear hq
  refine (HS.out.parse ad9 t cap9 Z w9 HK.out HTN.out HC9.out HM9.out HA9.out HTL.out HD9.out (HS.out.step w w9 HI.out HB9.out)).mono ?_
  rw [HP.out]
  rintro e XA ⟨ad10, cap10, rfl, hoA, hbA⟩
  dsimp only at hoA ⊢
  rw [← HKG.out] at hoA ⊢
  have HGA := Lib.hid ((HG9.out.below hbA HG9.out.lt).below (co_box1 XA (boxH G ad10 K cap10)) (Nat.lt_of_lt_of_le HG9.out.lt hbA.size))
  have HJA := Lib.hid ((HJ9.out.below hbA).below (co_box1 XA (boxH G ad10 K cap10)))
  have HKA := Lib.hid ((HK.out.below hbA).below (co_box1 XA (boxH G ad10 K cap10)))
  have HLA := Lib.hid ((HL9.out.below hbA rfl).below (co_box1 XA (boxH G ad10 K cap10)) rfl)
  have HBA := Lib.hid ((HB9.out.trans (hbA.mono HB9.out.size)).alloc (Nat.le_trans HB9.out.size hbA.size) (boxH G ad10 K cap10))
  have HYA := Lib.hid (HdRow.new XA G ad10 K cap10)
  have HUA := Lib.hid (hoA.hin.below (co_box1 XA (boxH G ad10 K cap10)))
  clear hoA hbA HG9 HJ9 HK HL9 HB9
  go_wp2_with fail
  change Calls Tryd.prog 25 _ (XA.alloc (boxH G ad10 K cap10)) _
  generalize World.alloc XA _ = XB at *
  generalize XA.heap.size = gB at *
  refine (HS.out.payload ad9 t cap9 Z XB HKA.out HTN.out HC9.out HM9.out HA9.out HTL.out HD9.out (HS.out.step w XB HI.out HBA.out)).mono ?_
  rw [HQ.out]
  rintro e XC ⟨ad11, cap11, v11, rfl, hoC, hwC, hbC⟩
  dsimp only at hoC hwC ⊢
  rw [← HKG.out] at hoC ⊢
  obtain ⟨bd, bc, rfl, hlC, -⟩ := hwC.slice
  rw [← HBN.out]
  have HGC := Lib.hid ((HGA.out.below hbC HGA.out.lt).below (co_box1 XC (boxH G ad11 K cap11)) (Nat.lt_of_lt_of_le HGA.out.lt hbC.size))
  have HJC := Lib.hid ((HJA.out.below hbC).below (co_box1 XC (boxH G ad11 K cap11)))
  have HLC := Lib.hid ((HLA.out.below hbC rfl).below (co_box1 XC (boxH G ad11 K cap11)) rfl)
  have HBC := Lib.hid ((HBA.out.trans (hbC.mono HBA.out.size)).alloc (Nat.le_trans HBA.out.size hbC.size) (boxH G ad11 K cap11))
  have HYC := Lib.hid ((HYA.out.below hbC HYA.out.lt).below (co_box1 XC (boxH G ad11 K cap11)) (Nat.lt_of_lt_of_le HYA.out.lt hbC.size))
  have HUC := Lib.hid ((HUA.out.below hbC).below (co_box1 XC (boxH G ad11 K cap11)))
  have HVC := Lib.hid (HdRow.new XC G ad11 K cap11)
  have HWC := Lib.hid (hoC.hin.below (co_box1 XC (boxH G ad11 K cap11)))
  have HTC := Lib.hid (hlC.below (co_box1 XC (boxH G ad11 K cap11)) rfl)
  clear hoC hwC hlC hbC HGA HJA HKA HLA HBA HYA HUA
  have kq : ((q : Int) == (q : Int)) = true := by simp
  go_wp2_with (with_reducible refine wpList_unguard rfl (ld_hdr rfl (.tmp 8) rfl rfl HGC.out ?_))
  change Calls Tryd.prog 17 _ (XC.alloc (boxH G ad11 K cap11)) _
  generalize World.alloc XC _ = XD at *
  generalize XC.heap.size = gD at *
  refine (HS.out.head G ad3 K cap3 XD HJC.out OK.out.fit (HS.out.step w XD HI.out HBC.out)).mono ?_
  rw [HHB.out]
  rintro e XE ⟨rfl, hbE⟩
  have HGE := Lib.hid (HGC.out.below hbE HGC.out.lt)
  have HJE := Lib.hid (HJC.out.below hbE)
  have HLE := Lib.hid (HLC.out.below hbE rfl)
  have HBE := Lib.hid (HBC.out.trans (hbE.mono HBC.out.size))
  have HYE := Lib.hid (HYC.out.below hbE HYC.out.lt)
  have HUE := Lib.hid (HUC.out.below hbE)
  have HVE := Lib.hid (HVC.out.below hbE HVC.out.lt)
  have HWE := Lib.hid (HWC.out.below hbE)
  have HTE := Lib.hid (HTC.out.below hbE rfl)
  clear hbE HGC HJC HLC HBC HYC HUC HVC HWC HTC
  go_wp2_with (first | (with_reducible refine wpList_unguard rfl (ld_hdr rfl (.tmp 11) rfl rfl HYE.out ?_)) | (with_reducible refine wpList_unguard rfl (ld_hdr rfl (.tmp 8) rfl rfl HGE.out ?_)))
  refine (rsameh_any G G ad10 K cap10 ad3 K cap3 XE HUE.out HJE.out (by have := HSL2.out; omega)).mono ?_
  rw [eqH_refl]
  rintro e XF ⟨rfl, hbF⟩
  have HGF := Lib.hid (HGE.out.below hbF HGE.out.lt)
  have HJF := Lib.hid (HJE.out.below hbF)
  have HLF := Lib.hid (HLE.out.below hbF rfl)
  have HBF := Lib.hid (HBE.out.trans (hbF.mono HBE.out.size))
  have HVF := Lib.hid (HVE.out.below hbF HVE.out.lt)
  have HWF := Lib.hid (HWE.out.below hbF)
  have HTF := Lib.hid (HTE.out.below hbF rfl)
  clear hbF HGE HJE HLE HBE HYE HUE HVE HWE HTE kq
  go_wp2_with (first | (with_reducible refine wpList_unguard rfl (ld_hdr rfl (.tmp 14) rfl rfl HVF.out ?_)) | (with_reducible refine wpList_unguard rfl (ld_hdr rfl (.tmp 8) rfl rfl HGF.out ?_)))
  refine (rsameh_any G G ad11 K cap11 ad3 K cap3 XF HWF.out HJF.out (by have := HSL2.out; omega)).mono ?_
  rw [eqH_refl]
  rintro e XH ⟨rfl, hbH⟩
  have HBH := Lib.hid (HBF.out.trans (hbH.mono HBF.out.size))
  have kc1 := conv_lie bc (HTF.out.below hbH rfl)
  have kc2 := conv_lie pc (HLF.out.below hbH rfl)
  rw [← HBN.out] at kc1 kc2
  generalize (⟨b.toArray⟩ : ByteArray) = T at *
  have kT : (T.toList == T.toList) = true := by simp
  clear hbH HGF HJF HLF HBF HVF HWF HTF
  go_wp2_with fail
  refine (awake15_any HS.out XH (HS.out.step w XH HI.out HBH.out)).mono ?_
  rintro e XI ⟨rfl, hbI⟩
  have HBI := Lib.hid (HBH.out.trans (hbI.mono HBH.out.size))
  clear hbI
  go_wp2_with fail
  go_ret
  exact ⟨rfl, HBI.out⟩
end Go.Proofs.YtjiijjdmkeeilaaDoor
