/-
  The statement ContainerDetects, over the contracts.
-/
import Derived.Test.YtjiijjdmkeeilaaDoorCoLawQ
import Derived.Test.YtjiijjdmkeeilaaDoorCoChg
import Derived.Test.YtjiijjdmkeeilaaDoorCBK
import Derived.Deep.DeepCutAuto
import Derived.Deep.CutBlock
namespace Go.Proofs.YtjiijjdmkeeilaaDoor
open Go.RowKit
set_option linter.unusedVariables false
set_option linter.unusedSimpArgs false
theorem chg_get {S G : Hdr} {b : List UInt8} {L : List Blk} (ok : BtOk S b L G) {a s : Nat} (hs : s = szP S.vr) (ha : a < b.length) :
    ∃ (h : (hbL G).length + a / s < L.length) (h2 : a % s < (L[(hbL G).length + a / s]).d.length), (L[(hbL G).length + a / s]).d[a % s] = b[a] ∧
      ∀ x : UInt8, L.set ((hbL G).length + a / s) ⟨(L[(hbL G).length + a / s]).m, (L[(hbL G).length + a / s]).bad, (L[(hbL G).length + a / s]).d.set (a % s) x⟩ = hbL G ++ chgB S.vr b a x := by
  have h60 : s = 60 ∨ s = 64 := by rcases szP_cases S.vr with ⟨_, e, _⟩ | ⟨_, e, _⟩ <;> (rw [e] at hs; omega)
  have hpl : (payB S.vr b).length = (b.length + s - 1) / s := by unfold payB; rw [List.length_map, List.length_range, ← hs]
  have hd : a / s < (payB S.vr b).length := by rw [hpl]; rcases h60 with e | e <;> (rw [e]; omega)
  have hL := ok.eqL
  have hle : (hbL G).length + a / s < L.length := by rw [hL, List.length_append]; omega
  have hget : L[(hbL G).length + a / s] = pcB S.vr (piece s b (a / s)) := by
    simp only [hL]
    rw [List.getElem_append_right (Nat.le_add_right _ _)]
    simp only [Nat.add_sub_cancel_left]
    unfold payB
    rw [List.getElem_map, List.getElem_range, ← hs]
  have hql : a % s < (piece s b (a / s)).length := by rw [piece_len]; rcases h60 with e | e <;> (rw [e]; omega)
  have hqa : (piece s b (a / s))[a % s] = b[a] := by
    have e : s * (a / s) + a % s = a := Nat.div_add_mod a s
    rw [piece_get hql (by omega)]
    simp only [e]
  have hdl : a % s < (pcB S.vr (piece s b (a / s))).d.length := by
    unfold pcB
    show _ < (if S.vr = 2 then _ else _ : List UInt8).length
    split
    · rw [List.length_append]; omega
    · exact hql
  have hdv : (pcB S.vr (piece s b (a / s))).d[a % s] = b[a] := by
    rw [← hqa]
    unfold pcB
    dsimp only
    split
    · rw [List.getElem_append_left hql]
    · rfl
  refine ⟨hle, by rw [hget]; exact hdl, by simp only [hget]; exact hdv, fun x => ?_⟩
  rw [hget]
  simp only [hL]
  rw [List.set_append_right _ _ (Nat.le_add_right _ _), Nat.add_sub_cancel_left]
  unfold chgB
  rw [← hs]
  rfl
theorem frozen_below {w w' : World} {g j : Nat} (hb : Below w.heap.size w w') (hg : g < w.heap.size) (h : w.frozen? ⟨g, j, none⟩ = false) : w'.frozen? ⟨g, j, none⟩ = false := by
  have e := hb.block g hg
  have e2 : w'.frozen? ⟨g, j, none⟩ = w.frozen? ⟨g, j, none⟩ := by simp only [World.frozen?, e]
  exact e2.trans h
attribute [local irreducible] bldR smlH vldH hbU blU hbL payB payU chgB
set_option maxRecDepth 100000 in
set_option maxHeartbeats 16000000 in
theorem law_cdetects {I : World → Prop} (H : CoSide I) (h : Hdr) (hd : Option Addr) (hn hcap : Nat) (pd : Option Addr) (pn pcap : Nat) (p : List UInt8) (at_ by_ : Int) (w : World) (hin : HdIn w h hd hn hcap) (hfit : h.Fit)
    (hlp : Lie w pd p) (hpn : pn = p.length) (hpc : pn ≤ pcap) (hpm : pcap ≤ maxLen) (hpa : pd = none → pcap = 0) (hat : -9223372036854775808 ≤ at_ ∧ at_ ≤ 9223372036854775807) (hby : 0 ≤ by_ ∧ by_ ≤ 255) (hi : I w) :
    Calls Tryd.prog 8 #[hdV h hd hn hcap, .slice pd pn pcap, .int .i64 at_, .int .u8 by_] w fun e w' => e = .returned (.bool true) ∧ Below w.heap.size w w' := by
  have HS := Lib.hid H
  have HI := Lib.hid hi
  have HX0 := Lib.hid (HdRow.new w h hd hn hcap)
  have HI0 := Lib.hid (hin.below (co_box1 w (boxH h hd hn hcap)))
  have HB0 := Lib.hid (co_box1 w (boxH h hd hn hcap))
  have HIN := Lib.hid hin.sml
  have HFT := Lib.hid (smlH_fit hfit)
  have HLP := Lib.hid hlp
  have HPN := Lib.hid hpn
  have HPC := Lib.hid hpc
  have HPM := Lib.hid hpm
  have HPA := Lib.hid hpa
  have HM66 := Lib.hid (smlH_len h)
  have HBY := Lib.hid hby
  clear H hi hin hfit hlp hpn hpc hpm hpa hat hby
  go_enter Tryd.func8, Tryd.ntmps8
  go_wp2_with (with_reducible refine ld_hdr rfl (.tmp 4) rfl rfl HX0.out ?_)
  change Calls Tryd.prog 9 _ (w.alloc (boxH h hd hn hcap)) _
  generalize World.alloc w _ = X0 at *
  refine (small_at h hd hn hcap X0 HI0.out).mono ?_
  rintro e X1 ⟨rfl, hb1⟩
  have HR1 := Lib.hid (HX0.out.below hb1 HX0.out.lt)
  generalize smlH h = S at *
  obtain ⟨M, hM⟩ : ∃ M, M = S.es.length := ⟨_, rfl⟩
  rw [← hM] at HIN HM66 ⊢
  have HX1 := Lib.hid (HR1.out.put S hd M hcap)
  have HB1 := Lib.hid (below_set (HB0.out.trans (hb1.mono HB0.out.size)) (Nat.le_refl w.heap.size) (hdC S hd M hcap))
  have HSL := Lib.hid hM
  clear hM hb1 HX0 HI0 HB0
  go_wp2_with (with_reducible refine st_hdr rfl (.tmp 4) (.tmp 19) rfl rfl S hd M hcap rfl HR1.out ?_)
  generalize World.setRow X1 _ _ = X2 at *
  clear HR1
  refine (short_any pd pn pcap p X2 (HLP.out.below HB1.out rfl) HPN.out HPC.out HPM.out HPA.out).mono ?_
  rintro e w2 ⟨pe, pc, rfl, hl2, hc2, hm2, ha2, rfl⟩
  have hb6 : (p.take 600).length ≤ 600 := by rw [List.length_take]; omega
  generalize p.take 600 = b at *
  obtain ⟨m, hm⟩ : ∃ m, m = b.length := ⟨_, rfl⟩
  rw [← hm] at hc2 hb6 ⊢
  have HLB := Lib.hid hl2
  have HBN := Lib.hid hm
  have HBC := Lib.hid hc2
  have HBM := Lib.hid hm2
  have HBA := Lib.hid ha2
  have HB6 := Lib.hid hb6
  clear hl2 hm hc2 hm2 ha2 hb6 HLP HPN HPC HPM HPA
  go_wp2_with (with_reducible refine ld_hdr rfl (.tmp 4) rfl rfl HX1.out ?_)
  refine (HS.out.build S hd M hcap pe m pc b X2 (HIN.out.below HB1.out) HFT.out HM66.out HLB.out HBN.out HBC.out HBM.out HBA.out HB6.out (HS.out.step w X2 HI.out HB1.out)).mono ?_
  rcases bld_cases (S := S) (b := b) HFT.out (by have := HB6.out; have := HBN.out; omega) with ⟨k, hk, hE⟩ | ⟨L, G, hE, ok⟩
  · rw [hE]
    rintro e X3 ⟨v3, ad3, cap3, rfl, hk3, hi3, hb3⟩
    dsimp only at hk3 hi3 ⊢
    obtain ⟨ld3, lc3, rfl, -⟩ := hk3.read
    have HB3 := Lib.hid ((HB1.out.trans (hb3.mono HB1.out.size)).alloc (Nat.le_trans HB1.out.size hb3.size) (boxH .zero ad3 Hdr.zero.es.length cap3))
    rw [List.length_nil]
    clear hk3 hi3 hb3 HX1 HB1
    go_wp2_with fail
    change Calls Tryd.prog 21 _ (X3.alloc (boxH .zero ad3 Hdr.zero.es.length cap3)) _
    generalize World.alloc X3 _ = X4 at *
    refine (awake15_any HS.out X4 (HS.out.step w X4 HI.out HB3.out)).mono ?_
    rintro e X5 ⟨rfl, hbZ⟩
    have HBZ := Lib.hid (HB3.out.trans (hbZ.mono HB3.out.size))
    clear hbZ
    go_wp2_with fail
    go_ret
    exact ⟨rfl, HBZ.out⟩
  rw [hE]
  have OK := Lib.hid ok
  clear hE ok
  rintro e X3 ⟨v3, ad3, cap3, rfl, hk3, hi3, hb3⟩
  dsimp only at hk3 hi3 ⊢
  obtain ⟨ld3, lc3, rfl, hx3, hc3, hm3, ha3, -⟩ := hk3.read
  obtain ⟨K, hK⟩ : ∃ K, K = G.es.length := ⟨_, rfl⟩
  obtain ⟨N, hN⟩ : ∃ N, N = L.length := ⟨_, rfl⟩
  rw [← hK] at hi3 ⊢
  rw [← hN] at hc3 ⊢
  have HNL := Lib.hid hN
  have HA3 := Lib.hid ha3
  have HN100 := Lib.hid (show N ≤ 100 by rw [hN]; exact OK.out.cnt)
  have HK3 := Lib.hid (hx3.ki.below (co_box1 X3 (boxH G ad3 K cap3)))
  have HG3 := Lib.hid (HdRow.new X3 G ad3 K cap3)
  have HJ3 := Lib.hid (hi3.below (co_box1 X3 (boxH G ad3 K cap3)))
  have HB3 := Lib.hid ((HB1.out.trans (hb3.mono HB1.out.size)).alloc (Nat.le_trans HB1.out.size hb3.size) (boxH G ad3 K cap3))
  clear hK hN hk3 hi3 hb3 hx3 hc3 hm3 ha3 HX1 HB1
  by_cases e1 : at_ < 0
  · go_wp2_with fail
    change Calls Tryd.prog 21 _ (X3.alloc (boxH G ad3 K cap3)) _
    generalize World.alloc X3 _ = X4 at *
    refine (awake15_any HS.out X4 (HS.out.step w X4 HI.out HB3.out)).mono ?_
    rintro e X5 ⟨rfl, hbZ⟩
    have HBZ := Lib.hid (HB3.out.trans (hbZ.mono HB3.out.size))
    clear hbZ
    go_wp2_with fail
    go_ret
    exact ⟨rfl, HBZ.out⟩
  by_cases e2 : (m : Int) ≤ at_
  · go_wp2_with fail
    change Calls Tryd.prog 21 _ (X3.alloc (boxH G ad3 K cap3)) _
    generalize World.alloc X3 _ = X4 at *
    refine (awake15_any HS.out X4 (HS.out.step w X4 HI.out HB3.out)).mono ?_
    rintro e X5 ⟨rfl, hbZ⟩
    have HBZ := Lib.hid (HB3.out.trans (hbZ.mono HB3.out.size))
    clear hbZ
    go_wp2_with fail
    go_ret
    exact ⟨rfl, HBZ.out⟩
  by_cases e3 : by_ = 0
  · have k3 : (by_ == 0) = true := by simpa using e3
    go_wp2_with fail
    change Calls Tryd.prog 21 _ (X3.alloc (boxH G ad3 K cap3)) _
    generalize World.alloc X3 _ = X4 at *
    refine (awake15_any HS.out X4 (HS.out.step w X4 HI.out HB3.out)).mono ?_
    rintro e X5 ⟨rfl, hbZ⟩
    have HBZ := Lib.hid (HB3.out.trans (hbZ.mono HB3.out.size))
    clear hbZ
    go_wp2_with fail
    go_ret
    exact ⟨rfl, HBZ.out⟩
  have k3 : (by_ == 0) = false := by simpa using e3
  obtain ⟨a, ha⟩ := Int.eq_ofNat_of_zero_le (show 0 ≤ at_ by omega)
  subst ha
  have ham : a < m := by omega
  obtain ⟨s, hs⟩ : ∃ s, s = szP S.vr := ⟨_, rfl⟩
  have hgv : G.vr = S.vr := by rw [OK.out.eqG]; rfl
  have HVR : Hid ((s = 60 ∧ (G.vr == 2) = true) ∨ (s = 64 ∧ (G.vr == 2) = false)) := Lib.hid (by
    rw [hgv]
    rcases szP_cases S.vr with ⟨h1, e, _⟩ | ⟨h1, e, _⟩
    · exact .inl ⟨by rw [hs]; exact e, by simpa using h1⟩
    · exact .inr ⟨by rw [hs]; exact e, by simpa using h1⟩)
  obtain ⟨hil, hrl, hba, hset⟩ := chg_get OK.out (a := a) hs (by rw [← HBN.out]; exact ham)
  obtain ⟨y, hy⟩ : ∃ y : UInt8, by_ = (y.toNat : Int) := ⟨UInt8.ofNat by_.toNat, by
    have := HBY.out
    rw [UInt8.toNat_ofNat']
    omega⟩
  have hy0 : y ≠ 0 := fun h => e3 (by rw [hy, h]; rfl)
  have hvP : VHdr (hdP S b) := OK.out.eqG ▸ OK.out.v
  have hpay := payU_chg hvP HFT.out.2 (a := a) (by rw [← HBN.out]; exact ham) hy0
  rw [← OK.out.eqG, ← hset, ← hba] at hpay
  have HHB := Lib.hid OK.out.hb
  subst hy
  generalize hqq : (hbL G).length = q at *
  have hs6 : s = 60 ∨ s = 64 := by rcases HVR.out with h | h <;> omega
  obtain ⟨dv, hdv⟩ : ∃ dv, dv = a / s := ⟨_, rfl⟩
  obtain ⟨r, hr⟩ : ∃ r, r = a % s := ⟨_, rfl⟩
  obtain ⟨i, hi⟩ : ∃ i, i = q + dv := ⟨_, rfl⟩
  have HKD := Lib.hid (show IntKind.i64.wrap ((a : Int).tdiv (s : Int)) = (dv : Int) by
    rw [Int.tdiv_eq_ediv_of_nonneg (by omega), hdv]
    exact (IntWalk.i64_in _ (by have := HB6.out; rcases hs6 with e | e <;> (rw [e]; omega))).trans (by push_cast; rfl))
  have HKE := Lib.hid (show IntKind.i64.wrap ((a : Int) / (s : Int)) = (dv : Int) by
    rw [hdv]
    exact (IntWalk.i64_in _ (by have := HB6.out; rcases hs6 with e | e <;> (rw [e]; omega))).trans (by push_cast; rfl))
  have HKT := Lib.hid (show (a : Int).tmod (s : Int) = (r : Int) by rw [Int.tmod_eq_emod_of_nonneg (by omega), hr]; push_cast; rfl)
  have HKM := Lib.hid (show (a : Int) % (s : Int) = (r : Int) by rw [hr]; push_cast; rfl)
  simp only [← hdv, ← hr, ← hi] at hil hrl hpay
  have HIL := Lib.hid hil
  have HDD := Lib.hid (OK.out.dat L[i] (List.getElem_mem hil))
  have HALL := Lib.hid OK.out.dat
  have hi100 : i < 100 := by have := HNL.out; have := HN100.out; omega
  have hiN : i < N := by rw [HNL.out]; exact hil
  clear hset hba hvP hqq hgv hs
  generalize hDr : (L[i]'hil).d[r]'hrl = dr at *
  have HDR : Hid (∀ h : r < (L[i]'hil).d.length, (L[i]'hil).d[r]'h = dr) := Lib.hid (fun h => hDr)
  clear hDr
  generalize hDD : (L[i]'hil).d = D at *
  have HDE : Hid ((L[i]'HIL.out).d = D) := Lib.hid hDD
  clear hDD
  obtain ⟨Dl, hDl⟩ : ∃ Dl, Dl = D.length := ⟨_, rfl⟩
  have HDL := Lib.hid hDl
  have hrD : r < Dl := by rw [hDl]; exact hrl
  have HPAY : Hid (payU (L.set i ⟨(L[i]'HIL.out).m, (L[i]'HIL.out).bad, D.set r (dr ^^^ y)⟩) = (.zero, [], 4)) := Lib.hid hpay
  clear hDl hpay
  have hD64 : Dl ≤ 64 := by rw [HDL.out]; exact HDD.out
  have hr64 : r ≤ 64 := by omega
  have hq100 : q ≤ 100 := by omega
  have hdv100 : dv ≤ 100 := by omega
  have HIQ := Lib.hid hi
  have c2 := HG3.out.at_.c2
  have hs0 : ((s : Int) == 0) = false := by rcases hs6 with e | e <;> (rw [e]; rfl)
  clear hdv hr hi hil hrl
  rcases HVR.out with ⟨h1, h2⟩ | ⟨h1, h2⟩
  · have kdv := HKD.out
    have kde := HKE.out
    rw [h1] at kdv kde
    push_cast at kdv kde
    go_upto_region 9 with fail
    generalize World.alloc X3 _ = X4 at *
    generalize X3.heap.size = g4 at *
    clear c2
    go_wp2_with fail
    have HBX := Lib.hid (Below.refl X4.heap.size X4).drew
    refine wp_region_noPanic ?_
    refine wp_region_held_drew (S := fun X => Below X4.heap.size X4 X) (by kernel_rfl) (HBX.out) (fun hS0 => ?_)
    refine held_take (i := 0) (v := ?_) rfl (by kernel_rfl) (by kernel_rfl) (by kernel_rfl) (fun _ _ _ h => h) (by rfl) ?_ (by assumption) ?_
    rotate_left
    · intro X hSX
      try dsimp only at hSX
      obtain ⟨-, c0, c1, c2, c3, c4, c5, c6, c7, c8, c9, c10⟩ := (HG3.out.below hSX HG3.out.lt).at_
      go_simp <;> with_reducible rfl
    simp only [Act.put, List.setIfInBounds_toArray, List.set_cons_zero, List.set_cons_succ]
    refine held_take (i := 2) (v := ?_) rfl (by kernel_rfl) (by kernel_rfl) (by kernel_rfl) (fun _ _ _ h => h) (by rfl) ?_ (by assumption) ?_
    rotate_left
    · intro X hSX
      try dsimp only at hSX
      go_simp <;> with_reducible rfl
    simp only [Act.put, List.setIfInBounds_toArray, List.set_cons_zero, List.set_cons_succ]
    refine held_take (i := 3) (v := ?_) rfl (by kernel_rfl) (by kernel_rfl) (by kernel_rfl) (fun _ _ _ h => h) (by rfl) ?_ (by assumption) ?_
    rotate_left
    · intro X hSX
      try dsimp only at hSX
      go_simp <;> with_reducible rfl
    simp only [Act.put, List.setIfInBounds_toArray, List.set_cons_zero, List.set_cons_succ]
    refine held_take (i := 4) (v := ?_) rfl (by kernel_rfl) (by kernel_rfl) (by kernel_rfl) (fun _ _ _ h => h) (by rfl) ?_ (by assumption) ?_
    rotate_left
    · intro X hSX
      try dsimp only at hSX
      go_simp <;> with_reducible rfl
    simp only [Act.put, List.setIfInBounds_toArray, List.set_cons_zero, List.set_cons_succ]
    refine held_call (i := 1) rfl (by kernel_rfl) (by rfl) (fun K' hK' => ?_)
    go_simp
    refine (HS.out.head G ad3 K cap3 _ (HJ3.out.below HBX.out) OK.out.fit (HS.out.step w _ HI.out (HB3.out.trans (HBX.out.mono HB3.out.size)))).mono ?_
    rw [HHB.out]
    rintro e X5 ⟨rfl, hb5⟩
    have hS5 : Below X4.heap.size X4 X5 := HBX.out.trans (hb5.mono HBX.out.size)
    refine held_go hK' (hS5) ?_
    try simp only [Act.put, List.setIfInBounds_toArray, List.set_cons_zero, List.set_cons_succ]
    have kwi : IntKind.i64.wrap ((q : Int) + (dv : Int)) = (i : Int) := by rw [HIQ.out]; exact (IntWalk.i64_in _ (by omega)).trans (by push_cast; rfl)
    refine held_take (i := 5) (v := ?_) rfl (by kernel_rfl) (by kernel_rfl) (by kernel_rfl) (fun _ _ _ h => h) (by rfl) ?_ (by assumption) ?_
    rotate_left
    · intro X hSX
      try dsimp only at hSX
      go_simp <;> with_reducible rfl
    simp only [Act.put, List.setIfInBounds_toArray, List.set_cons_zero, List.set_cons_succ]
    refine held_take (i := 6) (v := ?_) rfl (by kernel_rfl) (by kernel_rfl) (by kernel_rfl) (fun _ _ _ h => h) (by rfl) ?_ (by assumption) ?_
    rotate_left
    · intro X hSX
      try dsimp only at hSX
      go_simp <;> with_reducible rfl
    simp only [Act.put, List.setIfInBounds_toArray, List.set_cons_zero, List.set_cons_succ]
    refine wpAnyH_done (by kernel_rfl) ?_ _
    refine NoPanic.normal ?_
    have HB5 := Lib.hid (HB3.out.trans (hS5.mono HB3.out.size))
    have HK5 := Lib.hid (HK3.out.below hS5)
    clear HBX hS5 hb5 HG3 HJ3 HK3 HB3 hS0 kdv kde kwi
    obtain ⟨bb, off, xd, xc, hadr, hlt, -, -, q2, hq, hq2, hq3, hq4⟩ := HK5.out.get HIL.out
    subst hadr
    rw [HDE.out] at q2 hq hq2
    rw [← HDL.out] at q2 hq2
    have HLT := Lib.hid hlt
    have HQ2 := Lib.hid q2
    have HLQ := Lib.hid hq
    have HXC := Lib.hid hq2
    have HXM := Lib.hid hq3
    have HXA := Lib.hid hq4
    clear q2 hq hq2 hq3 hq4 hlt
    have kmd := HKM.out
    have kmt := HKT.out
    rw [h1] at kmd kmt
    push_cast at kmd kmt
    have n0 : decide ((i : Int) < 0) = false := decide_eq_false (by omega)
    have nN : decide ((N : Int) ≤ (i : Int)) = false := decide_eq_false (by omega)
    have nD : decide ((Dl : Int) ≤ (r : Int)) = false := decide_eq_false (by omega)
    have nN2 : decide (N ≤ i) = false := decide_eq_false (by omega)
    have nD2 : decide (Dl ≤ r) = false := decide_eq_false (by omega)
    go_wp2_with fail
    have HBX := Lib.hid (Below.refl X5.heap.size X5).drew
    refine wp_region_noPanic ?_
    refine wp_region_held_drew (S := fun X => Below X5.heap.size X5 X) (by kernel_rfl) (HBX.out) (fun hS0 => ?_)
    refine held_take (i := 0) (v := ?_) rfl (by kernel_rfl) (by kernel_rfl) (by kernel_rfl) (fun _ _ _ h => h) (by rfl) ?_ (by assumption) ?_
    rotate_left
    · intro X hSX
      try dsimp only at hSX
      go_simp <;> with_reducible rfl
    simp only [Act.put, List.setIfInBounds_toArray, List.set_cons_zero, List.set_cons_succ]
    refine held_take (i := 1) (v := ?_) rfl (by kernel_rfl) (by kernel_rfl) (by kernel_rfl) (fun _ _ _ h => h) (by rfl) ?_ (by assumption) ?_
    rotate_left
    · intro X hSX
      try dsimp only at hSX
      go_simp <;> with_reducible rfl
    simp only [Act.put, List.setIfInBounds_toArray, List.set_cons_zero, List.set_cons_succ]
    refine held_take (i := 2) (v := ?_) rfl (by kernel_rfl) (by kernel_rfl) (by kernel_rfl) (fun _ _ _ h => h) (by rfl) ?_ (by assumption) ?_
    rotate_left
    · intro X hSX
      try dsimp only at hSX
      go_simp <;> with_reducible rfl
    simp only [Act.put, List.setIfInBounds_toArray, List.set_cons_zero, List.set_cons_succ]
    refine held_take (i := 3) (v := ?_) rfl (by kernel_rfl) (by kernel_rfl) (by kernel_rfl) (fun _ _ _ h => h) (by rfl) ?_ (by assumption) ?_
    rotate_left
    · intro X hSX
      try dsimp only at hSX
      go_simp <;> with_reducible rfl
    simp only [Act.put, List.setIfInBounds_toArray, List.set_cons_zero, List.set_cons_succ]
    refine held_take (i := 4) (v := ?_) rfl (by kernel_rfl) (by kernel_rfl) (by kernel_rfl) (fun _ _ _ h => h) (by rfl) ?_ (by assumption) ?_
    rotate_left
    · intro X hSX
      try dsimp only at hSX
      go_simp <;> with_reducible rfl
    simp only [Act.put, List.setIfInBounds_toArray, List.set_cons_zero, List.set_cons_succ]
    refine held_take (i := 5) (v := ?_) rfl (by kernel_rfl) (by kernel_rfl) (by kernel_rfl) (fun _ _ _ h => h) (by rfl) ?_ (by assumption) ?_
    rotate_left
    · intro X hSX
      try dsimp only at hSX
      go_simp <;> with_reducible rfl
    simp only [Act.put, List.setIfInBounds_toArray, List.set_cons_zero, List.set_cons_succ]
    refine held_take (i := 6) (v := ?_) rfl (by kernel_rfl) (by kernel_rfl) (by kernel_rfl) (fun _ _ _ h => h) (by rfl) ?_ (by assumption) ?_
    rotate_left
    · intro X hSX
      try dsimp only at hSX
      go_simp <;> with_reducible rfl
    simp only [Act.put, List.setIfInBounds_toArray, List.set_cons_zero, List.set_cons_succ]
    refine held_take (i := 7) (v := ?_) rfl (by kernel_rfl) (by kernel_rfl) (by kernel_rfl) (fun _ _ _ h => h) (by rfl) ?_ (by assumption) ?_
    rotate_left
    · intro X hSX
      try dsimp only at hSX
      go_simp <;> with_reducible rfl
    simp only [Act.put, List.setIfInBounds_toArray, List.set_cons_zero, List.set_cons_succ]
    refine held_take (i := 8) (v := ?_) rfl (by kernel_rfl) (by kernel_rfl) (by kernel_rfl) (fun _ _ _ h => h) (by rfl) ?_ (by assumption) ?_
    rotate_left
    · intro X hSX
      try dsimp only at hSX
      go_simp <;> with_reducible rfl
    simp only [Act.put, List.setIfInBounds_toArray, List.set_cons_zero, List.set_cons_succ]
    refine held_take (i := 9) (v := ?_) rfl (by kernel_rfl) (by kernel_rfl) (by kernel_rfl) (fun _ _ _ h => h) (by rfl) ?_ (by assumption) ?_
    rotate_left
    · intro X hSX
      try dsimp only at hSX
      go_simp <;> with_reducible rfl
    simp only [Act.put, List.setIfInBounds_toArray, List.set_cons_zero, List.set_cons_succ]
    refine held_take (i := 10) (v := ?_) rfl (by kernel_rfl) (by kernel_rfl) (by kernel_rfl) (fun _ _ _ h => h) (by rfl) ?_ (by assumption) ?_
    rotate_left
    · intro X hSX
      try dsimp only at hSX
      go_simp <;> with_reducible rfl
    simp only [Act.put, List.setIfInBounds_toArray, List.set_cons_zero, List.set_cons_succ]
    refine held_take (i := 11) (v := ?_) rfl (by kernel_rfl) (by kernel_rfl) (by kernel_rfl) (fun _ _ _ h => h) (by rfl) ?_ (by assumption) ?_
    rotate_left
    · intro X hSX
      try dsimp only at hSX
      go_simp <;> with_reducible rfl
    simp only [Act.put, List.setIfInBounds_toArray, List.set_cons_zero, List.set_cons_succ]
    refine held_take (i := 12) (v := ?_) rfl (by kernel_rfl) (by kernel_rfl) (by kernel_rfl) (fun _ _ _ h => h) (by rfl) ?_ (by assumption) ?_
    rotate_left
    · intro X hSX
      try dsimp only at hSX
      go_simp <;> with_reducible rfl
    simp only [Act.put, List.setIfInBounds_toArray, List.set_cons_zero, List.set_cons_succ]
    refine held_take (i := 13) (v := ?_) rfl (by kernel_rfl) (by kernel_rfl) (by kernel_rfl) (fun _ _ _ h => h) (by rfl) ?_ (by assumption) ?_
    rotate_left
    · intro X hSX
      try dsimp only at hSX
      go_simp <;> with_reducible rfl
    simp only [Act.put, List.setIfInBounds_toArray, List.set_cons_zero, List.set_cons_succ]
    refine held_take (i := 14) (v := ?_) rfl (by kernel_rfl) (by kernel_rfl) (by kernel_rfl) (fun _ _ _ h => h) (by rfl) ?_ (by assumption) ?_
    rotate_left
    · intro X hSX
      try dsimp only at hSX
      go_simp <;> with_reducible rfl
    simp only [Act.put, List.setIfInBounds_toArray, List.set_cons_zero, List.set_cons_succ]
    refine held_take (i := 15) (v := ?_) rfl (by kernel_rfl) (by kernel_rfl) (by kernel_rfl) (fun _ _ _ h => h) (by rfl) ?_ (by assumption) ?_
    rotate_left
    · intro X hSX
      try dsimp only at hSX
      go_simp <;> with_reducible rfl
    simp only [Act.put, List.setIfInBounds_toArray, List.set_cons_zero, List.set_cons_succ]
    refine held_take (i := 16) (v := ?_) rfl (by kernel_rfl) (by kernel_rfl) (by kernel_rfl) (fun _ _ _ h => h) (by rfl) ?_ (by assumption) ?_
    rotate_left
    · intro X hSX
      try dsimp only at hSX
      have q2 := (hSX.cell (p := ⟨bb, off + i * 3 + 2, none⟩) HLT.out).trans HQ2.out
      go_simp <;> with_reducible rfl
    simp only [Act.put, List.setIfInBounds_toArray, List.set_cons_zero, List.set_cons_succ]
    refine held_take (i := 17) (v := ?_) rfl (by kernel_rfl) (by kernel_rfl) (by kernel_rfl) (fun _ _ _ h => h) (by rfl) ?_ (by assumption) ?_
    rotate_left
    · intro X hSX
      try dsimp only at hSX
      go_simp <;> with_reducible rfl
    simp only [Act.put, List.setIfInBounds_toArray, List.set_cons_zero, List.set_cons_succ]
    refine held_take (i := 18) (v := ?_) rfl (by kernel_rfl) (by kernel_rfl) (by kernel_rfl) (fun _ _ _ h => h) (by rfl) ?_ (by assumption) ?_
    rotate_left
    · intro X hSX
      try dsimp only at hSX
      go_simp <;> with_reducible rfl
    simp only [Act.put, List.setIfInBounds_toArray, List.set_cons_zero, List.set_cons_succ]
    refine held_take (i := 19) (v := ?_) rfl (by kernel_rfl) (by kernel_rfl) (by kernel_rfl) (fun _ _ _ h => h) (by rfl) ?_ (by assumption) ?_
    rotate_left
    · intro X hSX
      try dsimp only at hSX
      go_simp <;> with_reducible rfl
    simp only [Act.put, List.setIfInBounds_toArray, List.set_cons_zero, List.set_cons_succ]
    refine wpAnyH_done (by kernel_rfl) ?_ _
    refine NoPanic.normal ?_
    have hbd : Below X5.heap.size X5 X5.drew := (Below.refl X5.heap.size X5).drew
    have HB6w := Lib.hid (HB5.out.trans (hbd.mono HB5.out.size))
    have HK6 := Lib.hid (HK5.out.below hbd)
    have HQ6 := Lib.hid ((hbd.cell (p := ⟨bb, off + i * 3 + 2, none⟩) HLT.out).trans HQ2.out)
    have HLQ6 := Lib.hid (HLQ.out.below hbd rfl)
    have HLT6 := Lib.hid (Nat.lt_of_lt_of_le HLT.out hbd.size)
    have hlen1 : ([] : List Blk).length + N ≤ 100000 := by have := HN100.out; simp; omega
    clear HBX hS0 hbd HB5 HK5 HQ2 HLQ HLT n0 nN nD nN2 nD2
    generalize World.drew X5 = X6 at *
    have hlen3 : ([] : List UInt8).length + Dl ≤ 10000000 := by simp; omega
    go_wp2_with (first
      | (at_builtin; refine wpList_append_k rfl (.tmp 75) (.tmp 76) rfl X6.heap.size 0 0 0 (.slice (some ⟨X6.heap.size, 0, none⟩) 0 0) [] rfl (Kq.made0 X6 _ 0 _ rfl (Nat.le_refl _)) (some ⟨bb, off, none⟩) N lc3 L HA3.out (HK6.out.kx (co_box1 X6 _) (fun g hg => by cases hg; exact Nat.le_refl _)) HNL.out rfl hlen1 (by simp) (Nat.le_refl _) (Nat.le_refl _) ?_; intro v7 w7 ho7 hg7 _; rw [List.nil_append] at ho7; have hb7 := (co_box1 X6 (.cells #[] 57)).grown hg7 (by simp) (fun k hk => by cases hk; exact Nat.le_refl _); clear hg7; obtain ⟨g7, cap7, zd, zc, rfl, hB7, hl7, hc7, hf7, hNc, hcm⟩ := ho7.row1 HIL.out; rw [HDE.out, ← HDL.out] at hc7; rw [← HNL.out] at ho7 hNc ⊢; have HK7 := Lib.hid ho7; have HB7 := Lib.hid (HB6w.out.trans (hb7.mono HB6w.out.size)); have q7 := (hb7.cell (p := ⟨bb, off + i * 3 + 2, none⟩) HLT6.out).trans HQ6.out; have q8 := ((co_box1 w7 (.cells #[] 5)).cell (p := ⟨bb, off + i * 3 + 2, none⟩) (Nat.lt_of_lt_of_le HLT6.out hb7.size)).trans q7; have HLQ7 := Lib.hid (HLQ6.out.below hb7 rfl); have HC7 := Lib.hid hc7; have HF7 := Lib.hid hf7; have HL7 := Lib.hid hl7; have HNC := Lib.hid hNc; have HCM := Lib.hid hcm; have HG67 := Lib.hid (show w.heap.size ≤ g7 from Nat.le_trans HB6w.out.size hB7); clear hB7 hl7 hc7 hf7 hNc hcm hb7 ho7)
      | (at_builtin; refine wpList_append_u rfl (.tmp 80) (.tmp 85) rfl w7.heap.size (.slice (some ⟨w7.heap.size, 0, none⟩) 0 0) [] rfl (Own.made w7) xd Dl xc D HXA.out (HLQ7.out.below (co_box1 w7 _) rfl) HDL.out rfl hlen3 (by simp) ?_; intro v8 w8 ho8 hg8; rw [List.nil_append] at ho8; have hb8 := (co_box1 w7 (.cells #[] 5)).grown hg8 (by simp) (fun k hk => by cases hk; exact Nat.le_refl _); obtain ⟨g8, cap8, rfl, hB8, hl8, hDc, hc8m, hf8, hb8c⟩ := ho8.row1 (by rw [← HDL.out]; omega); rw [← HDL.out] at hDc ⊢; have c7 := (hb8.cell (p := ⟨g7, i * 3 + 2, none⟩) HL7.out).trans HC7.out; have f7 : w8.frozen? ⟨g7, i * 3 + 2, none⟩ = false := frozen_below hb8 HL7.out (HF7.out _); have HH8 := Lib.hid (And.intro hb8 (And.intro hB8 (And.intro hl8 (And.intro hDc (And.intro hc8m (And.intro hf8 hb8c)))))); clear hb8 hB8 hl8 hDc hc8m hf8 hb8c ho8 hg8))
    clear HB6w HK6 HQ6 HLQ6 HLT6 hlen1
    obtain ⟨hb8, hB8, hl8, hDc, hc8m, hf8, hb8c⟩ := HH8.out
    have hne : g7 ≠ g8 := by have := HL7.out; omega
    have HC9 : Hid ((w8.setCell ⟨g7, i * 3 + 2, none⟩ (.slice (some ⟨g8, 0, none⟩) Dl cap8)).cell? ⟨g7, i * 3 + 2, none⟩ = some (.slice (some ⟨g8, 0, none⟩) Dl cap8)) := Lib.hid (World.cell?_setCell_same _ _ _ ((hb8.cell (p := ⟨g7, i * 3 + 2, none⟩) HL7.out).trans HC7.out))
    have HO9 : Hid (∀ j, j ≠ i * 3 + 2 → (w8.setCell ⟨g7, i * 3 + 2, none⟩ (.slice (some ⟨g8, 0, none⟩) Dl cap8)).cell? ⟨g7, j, none⟩ = w7.cell? ⟨g7, j, none⟩) := Lib.hid fun j hj => (World.cell?_setCell_other _ _ _ _ (fun e => hj (by injection e with _ e2; exact e2.symm))).trans (hb8.cell (p := ⟨g7, j, none⟩) HL7.out)
    have HK9 : Hid (∀ k, k < w7.heap.size → k ≠ g7 → (w8.setCell ⟨g7, i * 3 + 2, none⟩ (.slice (some ⟨g8, 0, none⟩) Dl cap8)).heap[k]? = w7.heap[k]?) := Lib.hid fun k h1 h2 => (Below.heap_setCell _ _ _ _ (by show k ≠ g7; exact h2)).trans (hb8.block k h1)
    have HB9 : Hid (∀ j (h : j < D.length), (w8.setCell ⟨g7, i * 3 + 2, none⟩ (.slice (some ⟨g8, 0, none⟩) Dl cap8)).cell? ⟨g8, j, none⟩ = some (.int .u8 ((D[j]).toNat : Int))) := Lib.hid fun j h => (World.cell?_setCell_far _ _ _ _ hne).trans (hb8c j h)
    have HF9 : Hid (∀ j, (w8.setCell ⟨g7, i * 3 + 2, none⟩ (.slice (some ⟨g8, 0, none⟩) Dl cap8)).frozen? ⟨g8, j, none⟩ = false) := Lib.hid fun j => by
      have e := Below.heap_setCell w8 ⟨g7, i * 3 + 2, none⟩ (.slice (some ⟨g8, 0, none⟩) Dl cap8) g8 (by show g8 ≠ g7; exact hne.symm)
      have e2 : (w8.setCell ⟨g7, i * 3 + 2, none⟩ (.slice (some ⟨g8, 0, none⟩) Dl cap8)).frozen? ⟨g8, j, none⟩ = w8.frozen? ⟨g8, j, none⟩ := by simp only [World.frozen?, e]
      exact e2.trans (hf8 j)
    have HW9 := Lib.hid ((HB7.out.trans (hb8.mono HB7.out.size)).setCell (p := ⟨g7, i * 3 + 2, none⟩) HG67.out (.slice (some ⟨g8, 0, none⟩) Dl cap8))
    have HS9 : Hid (w7.heap.size ≤ g8 ∧ g8 < (w8.setCell ⟨g7, i * 3 + 2, none⟩ (.slice (some ⟨g8, 0, none⟩) Dl cap8)).heap.size ∧ w7.heap.size ≤ (w8.setCell ⟨g7, i * 3 + 2, none⟩ (.slice (some ⟨g8, 0, none⟩) Dl cap8)).heap.size) := Lib.hid ⟨hB8, by simpa using hl8, by simpa using hb8.size⟩
    have HDC := Lib.hid (show Dl ≤ cap8 ∧ cap8 ≤ maxLen from ⟨hDc, hc8m⟩)
    have HNE := Lib.hid hne
    clear hb8 hB8 hl8 hDc hc8m hf8 hb8c HH8 hlen3 q7 q8 HLQ7 HXA HXM HXC
    generalize World.setCell w8 _ _ = w9 at *
    have b17 : w9.drew.cell? ⟨g8, r, none⟩ = some (.int .u8 (dr.toNat : Int)) := by have h := HB9.out r (by rw [← HDL.out]; exact hrD); rw [HDR.out] at h; exact h
    have f17 : w9.drew.frozen? ⟨g8, r, none⟩ = false := HF9.out r
    have hxo : bits .xor .u8 (dr.toNat : Int) (y.toNat : Int) = ((dr.toNat ^^^ y.toNat : Nat) : Int) := by
      have h := bits_xor_ev dr y
      rwa [ev_nat, ev_nat, ev_nat, UInt8.toNat_xor] at h
    have HX9 := Lib.hid (show w9.drew.cell? ⟨g7, i * 3 + 2, none⟩ = some (.slice (some ⟨g8, 0, none⟩) Dl cap8) from HC9.out)
    refine wp_region_noPanic ?_
    refine wp_region_held_drew (S := fun X => X.cell? ⟨g7, i * 3 + 2, none⟩ = some (.slice (some ⟨g8, 0, none⟩) Dl cap8)) (by kernel_rfl) (HX9.out) (fun hS0 => ?_)
    refine held_take (i := 0) (v := ?_) rfl (by kernel_rfl) (by kernel_rfl) (by kernel_rfl) (fun _ _ _ h => h) (by rfl) ?_ (by assumption) ?_
    rotate_left
    · intro X hSX
      try dsimp only at hSX
      go_simp <;> with_reducible rfl
    simp only [Act.put, List.setIfInBounds_toArray, List.set_cons_zero, List.set_cons_succ]
    refine held_take (i := 1) (v := ?_) rfl (by kernel_rfl) (by kernel_rfl) (by kernel_rfl) (fun _ _ _ h => h) (by rfl) ?_ (by assumption) ?_
    rotate_left
    · intro X hSX
      try dsimp only at hSX
      go_simp <;> with_reducible rfl
    simp only [Act.put, List.setIfInBounds_toArray, List.set_cons_zero, List.set_cons_succ]
    refine held_take (i := 2) (v := ?_) rfl (by kernel_rfl) (by kernel_rfl) (by kernel_rfl) (fun _ _ _ h => h) (by rfl) ?_ (by assumption) ?_
    rotate_left
    · intro X hSX
      try dsimp only at hSX
      go_simp <;> with_reducible rfl
    simp only [Act.put, List.setIfInBounds_toArray, List.set_cons_zero, List.set_cons_succ]
    refine held_take (i := 3) (v := ?_) rfl (by kernel_rfl) (by kernel_rfl) (by kernel_rfl) (fun _ _ _ h => h) (by rfl) ?_ (by assumption) ?_
    rotate_left
    · intro X hSX
      try dsimp only at hSX
      go_simp <;> with_reducible rfl
    simp only [Act.put, List.setIfInBounds_toArray, List.set_cons_zero, List.set_cons_succ]
    refine held_take (i := 4) (v := ?_) rfl (by kernel_rfl) (by kernel_rfl) (by kernel_rfl) (fun _ _ _ h => h) (by rfl) ?_ (by assumption) ?_
    rotate_left
    · intro X hSX
      try dsimp only at hSX
      have c := hSX
      go_simp <;> with_reducible rfl
    simp only [Act.put, List.setIfInBounds_toArray, List.set_cons_zero, List.set_cons_succ]
    refine held_take (i := 5) (v := ?_) rfl (by kernel_rfl) (by kernel_rfl) (by kernel_rfl) (fun _ _ _ h => h) (by rfl) ?_ (by assumption) ?_
    rotate_left
    · intro X hSX
      try dsimp only at hSX
      go_simp <;> with_reducible rfl
    simp only [Act.put, List.setIfInBounds_toArray, List.set_cons_zero, List.set_cons_succ]
    refine held_take (i := 6) (v := ?_) rfl (by kernel_rfl) (by kernel_rfl) (by kernel_rfl) (fun _ _ _ h => h) (by rfl) ?_ (by assumption) ?_
    rotate_left
    · intro X hSX
      try dsimp only at hSX
      go_simp <;> with_reducible rfl
    simp only [Act.put, List.setIfInBounds_toArray, List.set_cons_zero, List.set_cons_succ]
    refine held_take (i := 7) (v := ?_) rfl (by kernel_rfl) (by kernel_rfl) (by kernel_rfl) (fun _ _ _ h => h) (by rfl) ?_ (by assumption) ?_
    rotate_left
    · intro X hSX
      try dsimp only at hSX
      go_simp <;> with_reducible rfl
    simp only [Act.put, List.setIfInBounds_toArray, List.set_cons_zero, List.set_cons_succ]
    refine held_take (i := 8) (v := ?_) rfl (by kernel_rfl) (by kernel_rfl) (by kernel_rfl) (fun _ _ _ h => h) (by rfl) ?_ (by assumption) ?_
    rotate_left
    · intro X hSX
      try dsimp only at hSX
      go_simp <;> with_reducible rfl
    simp only [Act.put, List.setIfInBounds_toArray, List.set_cons_zero, List.set_cons_succ]
    refine held_take (i := 9) (v := ?_) rfl (by kernel_rfl) (by kernel_rfl) (by kernel_rfl) (fun _ _ _ h => h) (by rfl) ?_ (by assumption) ?_
    rotate_left
    · intro X hSX
      try dsimp only at hSX
      go_simp <;> with_reducible rfl
    simp only [Act.put, List.setIfInBounds_toArray, List.set_cons_zero, List.set_cons_succ]
    refine held_take (i := 10) (v := ?_) rfl (by kernel_rfl) (by kernel_rfl) (by kernel_rfl) (fun _ _ _ h => h) (by rfl) ?_ (by assumption) ?_
    rotate_left
    · intro X hSX
      try dsimp only at hSX
      go_simp <;> with_reducible rfl
    simp only [Act.put, List.setIfInBounds_toArray, List.set_cons_zero, List.set_cons_succ]
    refine held_take (i := 11) (v := ?_) rfl (by kernel_rfl) (by kernel_rfl) (by kernel_rfl) (fun _ _ _ h => h) (by rfl) ?_ (by assumption) ?_
    rotate_left
    · intro X hSX
      try dsimp only at hSX
      go_simp <;> with_reducible rfl
    simp only [Act.put, List.setIfInBounds_toArray, List.set_cons_zero, List.set_cons_succ]
    refine held_take (i := 12) (v := ?_) rfl (by kernel_rfl) (by kernel_rfl) (by kernel_rfl) (fun _ _ _ h => h) (by rfl) ?_ (by assumption) ?_
    rotate_left
    · intro X hSX
      try dsimp only at hSX
      have c := hSX
      go_simp <;> with_reducible rfl
    simp only [Act.put, List.setIfInBounds_toArray, List.set_cons_zero, List.set_cons_succ]
    refine held_take (i := 13) (v := ?_) rfl (by kernel_rfl) (by kernel_rfl) (by kernel_rfl) (fun _ _ _ h => h) (by rfl) ?_ (by assumption) ?_
    rotate_left
    · intro X hSX
      try dsimp only at hSX
      go_simp <;> with_reducible rfl
    simp only [Act.put, List.setIfInBounds_toArray, List.set_cons_zero, List.set_cons_succ]
    refine held_take (i := 14) (v := ?_) rfl (by kernel_rfl) (by kernel_rfl) (by kernel_rfl) (fun _ _ _ h => h) (by rfl) ?_ (by assumption) ?_
    rotate_left
    · intro X hSX
      try dsimp only at hSX
      go_simp <;> with_reducible rfl
    simp only [Act.put, List.setIfInBounds_toArray, List.set_cons_zero, List.set_cons_succ]
    refine held_take (i := 15) (v := ?_) rfl (by kernel_rfl) (by kernel_rfl) (by kernel_rfl) (fun _ _ _ h => h) (by rfl) ?_ (by assumption) ?_
    rotate_left
    · intro X hSX
      try dsimp only at hSX
      go_simp <;> with_reducible rfl
    simp only [Act.put, List.setIfInBounds_toArray, List.set_cons_zero, List.set_cons_succ]
    refine held_take (i := 16) (v := ?_) rfl (by kernel_rfl) (by kernel_rfl) (by kernel_rfl) (fun _ _ _ h => h) (by rfl) ?_ (by assumption) ?_
    rotate_left
    · intro X hSX
      try dsimp only at hSX
      go_simp <;> with_reducible rfl
    simp only [Act.put, List.setIfInBounds_toArray, List.set_cons_zero, List.set_cons_succ]
    refine held_take (i := 18) (v := ?_) rfl (by kernel_rfl) (by kernel_rfl) (by kernel_rfl) (fun _ _ _ h => h) (by rfl) ?_ (by assumption) ?_
    rotate_left
    · intro X hSX
      try dsimp only at hSX
      go_simp <;> with_reducible rfl
    simp only [Act.put, List.setIfInBounds_toArray, List.set_cons_zero, List.set_cons_succ]
    refine held_call (i := 17) rfl (by kernel_rfl) (by rfl) (fun K' hK' => ?_)
    go_simp
    refine held_go hK' (HX9.out) ?_
    try simp only [Act.put, List.setIfInBounds_toArray, List.set_cons_zero, List.set_cons_succ]
    refine held_take (i := 19) (v := ?_) rfl (by kernel_rfl) (by kernel_rfl) (by kernel_rfl) (fun _ _ _ h => h) (by rfl) ?_ (by assumption) ?_
    rotate_left
    · intro X hSX
      try dsimp only at hSX
      go_simp <;> with_reducible rfl
    simp only [Act.put, List.setIfInBounds_toArray, List.set_cons_zero, List.set_cons_succ]
    refine held_take (i := 20) (v := ?_) rfl (by kernel_rfl) (by kernel_rfl) (by kernel_rfl) (fun _ _ _ h => h) (by rfl) ?_ (by assumption) ?_
    rotate_left
    · intro X hSX
      try dsimp only at hSX
      go_simp <;> with_reducible rfl
    simp only [Act.put, List.setIfInBounds_toArray, List.set_cons_zero, List.set_cons_succ]
    refine held_call (i := 21) rfl (by kernel_rfl) (by rfl) (fun K' hK' => ?_)
    go_simp
    refine held_go hK' ((World.cell?_setCell_far _ _ _ _ (fun e => HNE.out e.symm)).trans HX9.out) ?_
    try simp only [Act.put, List.setIfInBounds_toArray, List.set_cons_zero, List.set_cons_succ]
    refine wpAnyH_done (by kernel_rfl) ?_ _
    refine NoPanic.normal ?_
    have HKW : Hid (Ki (w9.setCell ⟨g8, r, none⟩ (.int .u8 ((dr.toNat ^^^ y.toNat : Nat) : Int))).drew (some ⟨g7, 0, none⟩) (L.set i ⟨(L[i]'HIL.out).m, (L[i]'HIL.out).bad, D.set r (dr ^^^ y)⟩)) := Lib.hid (by
      refine Ki.chg HK7.out HIL.out (by simpa using HS9.out.2.2) (fun k hk hne => ?_) (fun j hj => ?_) (ad := some ⟨g8, 0, none⟩) (c := cap8) ?_ ⟨.inr ⟨g8, 0, rfl, by simpa using HS9.out.2.1, fun j hj => ?_⟩⟩ (by rw [List.length_set, ← HDL.out]; exact HDC.out.1) HDC.out.2 (fun h => by cases h)
      · exact (Below.heap_setCell _ _ _ _ (by show k ≠ g8; have := HS9.out.1; omega)).trans (HK9.out k hk hne)
      · exact (World.cell?_setCell_far _ _ _ _ (fun e => HNE.out e.symm)).trans (HO9.out j hj)
      · rw [List.length_set, ← HDL.out]
        exact (World.cell?_setCell_far _ _ _ _ (fun e => HNE.out e.symm)).trans HX9.out
      · rw [Nat.zero_add]
        rw [List.length_set] at hj
        by_cases e : r = j
        · subst e
          rw [List.getElem_set_self]
          rw [UInt8.toNat_xor]
          exact World.cell?_setCell_same w9 ⟨g8, r, none⟩ _ b17
        · rw [List.getElem_set_ne e]
          exact (World.cell?_setCell_other _ _ _ _ (fun e' => e (by injection e' with _ e2))).trans (HB9.out j hj))
    have HBW := Lib.hid ((HW9.out.setCell (p := ⟨g8, r, none⟩) (by show w.heap.size ≤ g8; have h1 := HS9.out.1; have h2 := HB7.out.size; omega) (.int .u8 ((dr.toNat ^^^ y.toNat : Nat) : Int))).drew)
    clear hS0 b17 f17 hxo HX9 HS9 HW9 HF9 HB9 HK9 HO9 HC9 HB7 HK7
    go_wp2_with fail
    change Calls Tryd.prog 25 _ ((w9.setCell ⟨g8, r, none⟩ (.int .u8 ((dr.toNat ^^^ y.toNat : Nat) : Int))).drew) _
    generalize World.drew (World.setCell w9 _ _) = W at *
    refine (HS.out.payload (some ⟨g7, 0, none⟩) N cap7 _ W HKW.out (by rw [List.length_set]; exact HNL.out) HNC.out HCM.out (fun h => by cases h) (by have := HN100.out; omega) (fun x hx => by
      rcases List.mem_or_eq_of_mem_set hx with h | h
      · have := HALL.out x h; omega
      · rw [h]
        show (D.set r (dr ^^^ y)).length ≤ 100
        rw [List.length_set, ← HDL.out]
        omega) (HS.out.step w W HI.out HBW.out)).mono ?_
    rw [HPAY.out]
    rintro e X9 ⟨ad9, cp9, v9, rfl, -, hw9, hb9⟩
    dsimp only at hw9 ⊢
    obtain ⟨bd, bc, rfl, -⟩ := hw9.slice
    rw [List.length_nil]
    have HBZ9 := Lib.hid ((HBW.out.trans (hb9.mono HBW.out.size)).alloc (Nat.le_trans HBW.out.size hb9.size) (boxH .zero ad9 Hdr.zero.es.length cp9))
    clear hw9 hb9 HBW HKW
    go_wp2_with fail
    change Calls Tryd.prog 21 _ (X9.alloc (boxH .zero ad9 Hdr.zero.es.length cp9)) _
    generalize World.alloc X9 _ = XA at *
    refine (awake15_any HS.out XA (HS.out.step w XA HI.out HBZ9.out)).mono ?_
    rintro e XB ⟨rfl, hbZ⟩
    have HBZ := Lib.hid (HBZ9.out.trans (hbZ.mono HBZ9.out.size))
    clear hbZ
    go_wp2_with fail
    go_ret
    exact ⟨rfl, HBZ.out⟩
  · have kdv := HKD.out
    have kde := HKE.out
    rw [h1] at kdv kde
    push_cast at kdv kde
    go_upto_region 9 with fail
    generalize World.alloc X3 _ = X4 at *
    generalize X3.heap.size = g4 at *
    clear c2
    go_wp2_with fail
    have HBX := Lib.hid (Below.refl X4.heap.size X4).drew
    refine wp_region_noPanic ?_
    refine wp_region_held_drew (S := fun X => Below X4.heap.size X4 X) (by kernel_rfl) (HBX.out) (fun hS0 => ?_)
    refine held_take (i := 0) (v := ?_) rfl (by kernel_rfl) (by kernel_rfl) (by kernel_rfl) (fun _ _ _ h => h) (by rfl) ?_ (by assumption) ?_
    rotate_left
    · intro X hSX
      try dsimp only at hSX
      obtain ⟨-, c0, c1, c2, c3, c4, c5, c6, c7, c8, c9, c10⟩ := (HG3.out.below hSX HG3.out.lt).at_
      go_simp <;> with_reducible rfl
    simp only [Act.put, List.setIfInBounds_toArray, List.set_cons_zero, List.set_cons_succ]
    refine held_take (i := 2) (v := ?_) rfl (by kernel_rfl) (by kernel_rfl) (by kernel_rfl) (fun _ _ _ h => h) (by rfl) ?_ (by assumption) ?_
    rotate_left
    · intro X hSX
      try dsimp only at hSX
      go_simp <;> with_reducible rfl
    simp only [Act.put, List.setIfInBounds_toArray, List.set_cons_zero, List.set_cons_succ]
    refine held_take (i := 3) (v := ?_) rfl (by kernel_rfl) (by kernel_rfl) (by kernel_rfl) (fun _ _ _ h => h) (by rfl) ?_ (by assumption) ?_
    rotate_left
    · intro X hSX
      try dsimp only at hSX
      go_simp <;> with_reducible rfl
    simp only [Act.put, List.setIfInBounds_toArray, List.set_cons_zero, List.set_cons_succ]
    refine held_take (i := 4) (v := ?_) rfl (by kernel_rfl) (by kernel_rfl) (by kernel_rfl) (fun _ _ _ h => h) (by rfl) ?_ (by assumption) ?_
    rotate_left
    · intro X hSX
      try dsimp only at hSX
      go_simp <;> with_reducible rfl
    simp only [Act.put, List.setIfInBounds_toArray, List.set_cons_zero, List.set_cons_succ]
    refine held_call (i := 1) rfl (by kernel_rfl) (by rfl) (fun K' hK' => ?_)
    go_simp
    refine (HS.out.head G ad3 K cap3 _ (HJ3.out.below HBX.out) OK.out.fit (HS.out.step w _ HI.out (HB3.out.trans (HBX.out.mono HB3.out.size)))).mono ?_
    rw [HHB.out]
    rintro e X5 ⟨rfl, hb5⟩
    have hS5 : Below X4.heap.size X4 X5 := HBX.out.trans (hb5.mono HBX.out.size)
    refine held_go hK' (hS5) ?_
    try simp only [Act.put, List.setIfInBounds_toArray, List.set_cons_zero, List.set_cons_succ]
    have kwi : IntKind.i64.wrap ((q : Int) + (dv : Int)) = (i : Int) := by rw [HIQ.out]; exact (IntWalk.i64_in _ (by omega)).trans (by push_cast; rfl)
    refine held_take (i := 5) (v := ?_) rfl (by kernel_rfl) (by kernel_rfl) (by kernel_rfl) (fun _ _ _ h => h) (by rfl) ?_ (by assumption) ?_
    rotate_left
    · intro X hSX
      try dsimp only at hSX
      go_simp <;> with_reducible rfl
    simp only [Act.put, List.setIfInBounds_toArray, List.set_cons_zero, List.set_cons_succ]
    refine held_take (i := 6) (v := ?_) rfl (by kernel_rfl) (by kernel_rfl) (by kernel_rfl) (fun _ _ _ h => h) (by rfl) ?_ (by assumption) ?_
    rotate_left
    · intro X hSX
      try dsimp only at hSX
      go_simp <;> with_reducible rfl
    simp only [Act.put, List.setIfInBounds_toArray, List.set_cons_zero, List.set_cons_succ]
    refine wpAnyH_done (by kernel_rfl) ?_ _
    refine NoPanic.normal ?_
    have HB5 := Lib.hid (HB3.out.trans (hS5.mono HB3.out.size))
    have HK5 := Lib.hid (HK3.out.below hS5)
    clear HBX hS5 hb5 HG3 HJ3 HK3 HB3 hS0 kdv kde kwi
    obtain ⟨bb, off, xd, xc, hadr, hlt, -, -, q2, hq, hq2, hq3, hq4⟩ := HK5.out.get HIL.out
    subst hadr
    rw [HDE.out] at q2 hq hq2
    rw [← HDL.out] at q2 hq2
    have HLT := Lib.hid hlt
    have HQ2 := Lib.hid q2
    have HLQ := Lib.hid hq
    have HXC := Lib.hid hq2
    have HXM := Lib.hid hq3
    have HXA := Lib.hid hq4
    clear q2 hq hq2 hq3 hq4 hlt
    have kmd := HKM.out
    have kmt := HKT.out
    rw [h1] at kmd kmt
    push_cast at kmd kmt
    have n0 : decide ((i : Int) < 0) = false := decide_eq_false (by omega)
    have nN : decide ((N : Int) ≤ (i : Int)) = false := decide_eq_false (by omega)
    have nD : decide ((Dl : Int) ≤ (r : Int)) = false := decide_eq_false (by omega)
    have nN2 : decide (N ≤ i) = false := decide_eq_false (by omega)
    have nD2 : decide (Dl ≤ r) = false := decide_eq_false (by omega)
    go_wp2_with fail
    have HBX := Lib.hid (Below.refl X5.heap.size X5).drew
    refine wp_region_noPanic ?_
    refine wp_region_held_drew (S := fun X => Below X5.heap.size X5 X) (by kernel_rfl) (HBX.out) (fun hS0 => ?_)
    refine held_take (i := 0) (v := ?_) rfl (by kernel_rfl) (by kernel_rfl) (by kernel_rfl) (fun _ _ _ h => h) (by rfl) ?_ (by assumption) ?_
    rotate_left
    · intro X hSX
      try dsimp only at hSX
      go_simp <;> with_reducible rfl
    simp only [Act.put, List.setIfInBounds_toArray, List.set_cons_zero, List.set_cons_succ]
    refine held_take (i := 1) (v := ?_) rfl (by kernel_rfl) (by kernel_rfl) (by kernel_rfl) (fun _ _ _ h => h) (by rfl) ?_ (by assumption) ?_
    rotate_left
    · intro X hSX
      try dsimp only at hSX
      go_simp <;> with_reducible rfl
    simp only [Act.put, List.setIfInBounds_toArray, List.set_cons_zero, List.set_cons_succ]
    refine held_take (i := 2) (v := ?_) rfl (by kernel_rfl) (by kernel_rfl) (by kernel_rfl) (fun _ _ _ h => h) (by rfl) ?_ (by assumption) ?_
    rotate_left
    · intro X hSX
      try dsimp only at hSX
      go_simp <;> with_reducible rfl
    simp only [Act.put, List.setIfInBounds_toArray, List.set_cons_zero, List.set_cons_succ]
    refine held_take (i := 3) (v := ?_) rfl (by kernel_rfl) (by kernel_rfl) (by kernel_rfl) (fun _ _ _ h => h) (by rfl) ?_ (by assumption) ?_
    rotate_left
    · intro X hSX
      try dsimp only at hSX
      go_simp <;> with_reducible rfl
    simp only [Act.put, List.setIfInBounds_toArray, List.set_cons_zero, List.set_cons_succ]
    refine held_take (i := 4) (v := ?_) rfl (by kernel_rfl) (by kernel_rfl) (by kernel_rfl) (fun _ _ _ h => h) (by rfl) ?_ (by assumption) ?_
    rotate_left
    · intro X hSX
      try dsimp only at hSX
      go_simp <;> with_reducible rfl
    simp only [Act.put, List.setIfInBounds_toArray, List.set_cons_zero, List.set_cons_succ]
    refine held_take (i := 5) (v := ?_) rfl (by kernel_rfl) (by kernel_rfl) (by kernel_rfl) (fun _ _ _ h => h) (by rfl) ?_ (by assumption) ?_
    rotate_left
    · intro X hSX
      try dsimp only at hSX
      go_simp <;> with_reducible rfl
    simp only [Act.put, List.setIfInBounds_toArray, List.set_cons_zero, List.set_cons_succ]
    refine held_take (i := 6) (v := ?_) rfl (by kernel_rfl) (by kernel_rfl) (by kernel_rfl) (fun _ _ _ h => h) (by rfl) ?_ (by assumption) ?_
    rotate_left
    · intro X hSX
      try dsimp only at hSX
      go_simp <;> with_reducible rfl
    simp only [Act.put, List.setIfInBounds_toArray, List.set_cons_zero, List.set_cons_succ]
    refine held_take (i := 7) (v := ?_) rfl (by kernel_rfl) (by kernel_rfl) (by kernel_rfl) (fun _ _ _ h => h) (by rfl) ?_ (by assumption) ?_
    rotate_left
    · intro X hSX
      try dsimp only at hSX
      go_simp <;> with_reducible rfl
    simp only [Act.put, List.setIfInBounds_toArray, List.set_cons_zero, List.set_cons_succ]
    refine held_take (i := 8) (v := ?_) rfl (by kernel_rfl) (by kernel_rfl) (by kernel_rfl) (fun _ _ _ h => h) (by rfl) ?_ (by assumption) ?_
    rotate_left
    · intro X hSX
      try dsimp only at hSX
      go_simp <;> with_reducible rfl
    simp only [Act.put, List.setIfInBounds_toArray, List.set_cons_zero, List.set_cons_succ]
    refine held_take (i := 9) (v := ?_) rfl (by kernel_rfl) (by kernel_rfl) (by kernel_rfl) (fun _ _ _ h => h) (by rfl) ?_ (by assumption) ?_
    rotate_left
    · intro X hSX
      try dsimp only at hSX
      go_simp <;> with_reducible rfl
    simp only [Act.put, List.setIfInBounds_toArray, List.set_cons_zero, List.set_cons_succ]
    refine held_take (i := 10) (v := ?_) rfl (by kernel_rfl) (by kernel_rfl) (by kernel_rfl) (fun _ _ _ h => h) (by rfl) ?_ (by assumption) ?_
    rotate_left
    · intro X hSX
      try dsimp only at hSX
      go_simp <;> with_reducible rfl
    simp only [Act.put, List.setIfInBounds_toArray, List.set_cons_zero, List.set_cons_succ]
    refine held_take (i := 11) (v := ?_) rfl (by kernel_rfl) (by kernel_rfl) (by kernel_rfl) (fun _ _ _ h => h) (by rfl) ?_ (by assumption) ?_
    rotate_left
    · intro X hSX
      try dsimp only at hSX
      go_simp <;> with_reducible rfl
    simp only [Act.put, List.setIfInBounds_toArray, List.set_cons_zero, List.set_cons_succ]
    refine held_take (i := 12) (v := ?_) rfl (by kernel_rfl) (by kernel_rfl) (by kernel_rfl) (fun _ _ _ h => h) (by rfl) ?_ (by assumption) ?_
    rotate_left
    · intro X hSX
      try dsimp only at hSX
      go_simp <;> with_reducible rfl
    simp only [Act.put, List.setIfInBounds_toArray, List.set_cons_zero, List.set_cons_succ]
    refine held_take (i := 13) (v := ?_) rfl (by kernel_rfl) (by kernel_rfl) (by kernel_rfl) (fun _ _ _ h => h) (by rfl) ?_ (by assumption) ?_
    rotate_left
    · intro X hSX
      try dsimp only at hSX
      go_simp <;> with_reducible rfl
    simp only [Act.put, List.setIfInBounds_toArray, List.set_cons_zero, List.set_cons_succ]
    refine held_take (i := 14) (v := ?_) rfl (by kernel_rfl) (by kernel_rfl) (by kernel_rfl) (fun _ _ _ h => h) (by rfl) ?_ (by assumption) ?_
    rotate_left
    · intro X hSX
      try dsimp only at hSX
      go_simp <;> with_reducible rfl
    simp only [Act.put, List.setIfInBounds_toArray, List.set_cons_zero, List.set_cons_succ]
    refine held_take (i := 15) (v := ?_) rfl (by kernel_rfl) (by kernel_rfl) (by kernel_rfl) (fun _ _ _ h => h) (by rfl) ?_ (by assumption) ?_
    rotate_left
    · intro X hSX
      try dsimp only at hSX
      go_simp <;> with_reducible rfl
    simp only [Act.put, List.setIfInBounds_toArray, List.set_cons_zero, List.set_cons_succ]
    refine held_take (i := 16) (v := ?_) rfl (by kernel_rfl) (by kernel_rfl) (by kernel_rfl) (fun _ _ _ h => h) (by rfl) ?_ (by assumption) ?_
    rotate_left
    · intro X hSX
      try dsimp only at hSX
      have q2 := (hSX.cell (p := ⟨bb, off + i * 3 + 2, none⟩) HLT.out).trans HQ2.out
      go_simp <;> with_reducible rfl
    simp only [Act.put, List.setIfInBounds_toArray, List.set_cons_zero, List.set_cons_succ]
    refine held_take (i := 17) (v := ?_) rfl (by kernel_rfl) (by kernel_rfl) (by kernel_rfl) (fun _ _ _ h => h) (by rfl) ?_ (by assumption) ?_
    rotate_left
    · intro X hSX
      try dsimp only at hSX
      go_simp <;> with_reducible rfl
    simp only [Act.put, List.setIfInBounds_toArray, List.set_cons_zero, List.set_cons_succ]
    refine held_take (i := 18) (v := ?_) rfl (by kernel_rfl) (by kernel_rfl) (by kernel_rfl) (fun _ _ _ h => h) (by rfl) ?_ (by assumption) ?_
    rotate_left
    · intro X hSX
      try dsimp only at hSX
      go_simp <;> with_reducible rfl
    simp only [Act.put, List.setIfInBounds_toArray, List.set_cons_zero, List.set_cons_succ]
    refine held_take (i := 19) (v := ?_) rfl (by kernel_rfl) (by kernel_rfl) (by kernel_rfl) (fun _ _ _ h => h) (by rfl) ?_ (by assumption) ?_
    rotate_left
    · intro X hSX
      try dsimp only at hSX
      go_simp <;> with_reducible rfl
    simp only [Act.put, List.setIfInBounds_toArray, List.set_cons_zero, List.set_cons_succ]
    refine wpAnyH_done (by kernel_rfl) ?_ _
    refine NoPanic.normal ?_
    have hbd : Below X5.heap.size X5 X5.drew := (Below.refl X5.heap.size X5).drew
    have HB6w := Lib.hid (HB5.out.trans (hbd.mono HB5.out.size))
    have HK6 := Lib.hid (HK5.out.below hbd)
    have HQ6 := Lib.hid ((hbd.cell (p := ⟨bb, off + i * 3 + 2, none⟩) HLT.out).trans HQ2.out)
    have HLQ6 := Lib.hid (HLQ.out.below hbd rfl)
    have HLT6 := Lib.hid (Nat.lt_of_lt_of_le HLT.out hbd.size)
    have hlen1 : ([] : List Blk).length + N ≤ 100000 := by have := HN100.out; simp; omega
    clear HBX hS0 hbd HB5 HK5 HQ2 HLQ HLT n0 nN nD nN2 nD2
    generalize World.drew X5 = X6 at *
    have hlen3 : ([] : List UInt8).length + Dl ≤ 10000000 := by simp; omega
    go_wp2_with (first
      | (at_builtin; refine wpList_append_k rfl (.tmp 75) (.tmp 76) rfl X6.heap.size 0 0 0 (.slice (some ⟨X6.heap.size, 0, none⟩) 0 0) [] rfl (Kq.made0 X6 _ 0 _ rfl (Nat.le_refl _)) (some ⟨bb, off, none⟩) N lc3 L HA3.out (HK6.out.kx (co_box1 X6 _) (fun g hg => by cases hg; exact Nat.le_refl _)) HNL.out rfl hlen1 (by simp) (Nat.le_refl _) (Nat.le_refl _) ?_; intro v7 w7 ho7 hg7 _; rw [List.nil_append] at ho7; have hb7 := (co_box1 X6 (.cells #[] 57)).grown hg7 (by simp) (fun k hk => by cases hk; exact Nat.le_refl _); clear hg7; obtain ⟨g7, cap7, zd, zc, rfl, hB7, hl7, hc7, hf7, hNc, hcm⟩ := ho7.row1 HIL.out; rw [HDE.out, ← HDL.out] at hc7; rw [← HNL.out] at ho7 hNc ⊢; have HK7 := Lib.hid ho7; have HB7 := Lib.hid (HB6w.out.trans (hb7.mono HB6w.out.size)); have q7 := (hb7.cell (p := ⟨bb, off + i * 3 + 2, none⟩) HLT6.out).trans HQ6.out; have q8 := ((co_box1 w7 (.cells #[] 5)).cell (p := ⟨bb, off + i * 3 + 2, none⟩) (Nat.lt_of_lt_of_le HLT6.out hb7.size)).trans q7; have HLQ7 := Lib.hid (HLQ6.out.below hb7 rfl); have HC7 := Lib.hid hc7; have HF7 := Lib.hid hf7; have HL7 := Lib.hid hl7; have HNC := Lib.hid hNc; have HCM := Lib.hid hcm; have HG67 := Lib.hid (show w.heap.size ≤ g7 from Nat.le_trans HB6w.out.size hB7); clear hB7 hl7 hc7 hf7 hNc hcm hb7 ho7)
      | (at_builtin; refine wpList_append_u rfl (.tmp 80) (.tmp 85) rfl w7.heap.size (.slice (some ⟨w7.heap.size, 0, none⟩) 0 0) [] rfl (Own.made w7) xd Dl xc D HXA.out (HLQ7.out.below (co_box1 w7 _) rfl) HDL.out rfl hlen3 (by simp) ?_; intro v8 w8 ho8 hg8; rw [List.nil_append] at ho8; have hb8 := (co_box1 w7 (.cells #[] 5)).grown hg8 (by simp) (fun k hk => by cases hk; exact Nat.le_refl _); obtain ⟨g8, cap8, rfl, hB8, hl8, hDc, hc8m, hf8, hb8c⟩ := ho8.row1 (by rw [← HDL.out]; omega); rw [← HDL.out] at hDc ⊢; have c7 := (hb8.cell (p := ⟨g7, i * 3 + 2, none⟩) HL7.out).trans HC7.out; have f7 : w8.frozen? ⟨g7, i * 3 + 2, none⟩ = false := frozen_below hb8 HL7.out (HF7.out _); have HH8 := Lib.hid (And.intro hb8 (And.intro hB8 (And.intro hl8 (And.intro hDc (And.intro hc8m (And.intro hf8 hb8c)))))); clear hb8 hB8 hl8 hDc hc8m hf8 hb8c ho8 hg8))
    clear HB6w HK6 HQ6 HLQ6 HLT6 hlen1
    obtain ⟨hb8, hB8, hl8, hDc, hc8m, hf8, hb8c⟩ := HH8.out
    have hne : g7 ≠ g8 := by have := HL7.out; omega
    have HC9 : Hid ((w8.setCell ⟨g7, i * 3 + 2, none⟩ (.slice (some ⟨g8, 0, none⟩) Dl cap8)).cell? ⟨g7, i * 3 + 2, none⟩ = some (.slice (some ⟨g8, 0, none⟩) Dl cap8)) := Lib.hid (World.cell?_setCell_same _ _ _ ((hb8.cell (p := ⟨g7, i * 3 + 2, none⟩) HL7.out).trans HC7.out))
    have HO9 : Hid (∀ j, j ≠ i * 3 + 2 → (w8.setCell ⟨g7, i * 3 + 2, none⟩ (.slice (some ⟨g8, 0, none⟩) Dl cap8)).cell? ⟨g7, j, none⟩ = w7.cell? ⟨g7, j, none⟩) := Lib.hid fun j hj => (World.cell?_setCell_other _ _ _ _ (fun e => hj (by injection e with _ e2; exact e2.symm))).trans (hb8.cell (p := ⟨g7, j, none⟩) HL7.out)
    have HK9 : Hid (∀ k, k < w7.heap.size → k ≠ g7 → (w8.setCell ⟨g7, i * 3 + 2, none⟩ (.slice (some ⟨g8, 0, none⟩) Dl cap8)).heap[k]? = w7.heap[k]?) := Lib.hid fun k h1 h2 => (Below.heap_setCell _ _ _ _ (by show k ≠ g7; exact h2)).trans (hb8.block k h1)
    have HB9 : Hid (∀ j (h : j < D.length), (w8.setCell ⟨g7, i * 3 + 2, none⟩ (.slice (some ⟨g8, 0, none⟩) Dl cap8)).cell? ⟨g8, j, none⟩ = some (.int .u8 ((D[j]).toNat : Int))) := Lib.hid fun j h => (World.cell?_setCell_far _ _ _ _ hne).trans (hb8c j h)
    have HF9 : Hid (∀ j, (w8.setCell ⟨g7, i * 3 + 2, none⟩ (.slice (some ⟨g8, 0, none⟩) Dl cap8)).frozen? ⟨g8, j, none⟩ = false) := Lib.hid fun j => by
      have e := Below.heap_setCell w8 ⟨g7, i * 3 + 2, none⟩ (.slice (some ⟨g8, 0, none⟩) Dl cap8) g8 (by show g8 ≠ g7; exact hne.symm)
      have e2 : (w8.setCell ⟨g7, i * 3 + 2, none⟩ (.slice (some ⟨g8, 0, none⟩) Dl cap8)).frozen? ⟨g8, j, none⟩ = w8.frozen? ⟨g8, j, none⟩ := by simp only [World.frozen?, e]
      exact e2.trans (hf8 j)
    have HW9 := Lib.hid ((HB7.out.trans (hb8.mono HB7.out.size)).setCell (p := ⟨g7, i * 3 + 2, none⟩) HG67.out (.slice (some ⟨g8, 0, none⟩) Dl cap8))
    have HS9 : Hid (w7.heap.size ≤ g8 ∧ g8 < (w8.setCell ⟨g7, i * 3 + 2, none⟩ (.slice (some ⟨g8, 0, none⟩) Dl cap8)).heap.size ∧ w7.heap.size ≤ (w8.setCell ⟨g7, i * 3 + 2, none⟩ (.slice (some ⟨g8, 0, none⟩) Dl cap8)).heap.size) := Lib.hid ⟨hB8, by simpa using hl8, by simpa using hb8.size⟩
    have HDC := Lib.hid (show Dl ≤ cap8 ∧ cap8 ≤ maxLen from ⟨hDc, hc8m⟩)
    have HNE := Lib.hid hne
    clear hb8 hB8 hl8 hDc hc8m hf8 hb8c HH8 hlen3 q7 q8 HLQ7 HXA HXM HXC
    generalize World.setCell w8 _ _ = w9 at *
    have b17 : w9.drew.cell? ⟨g8, r, none⟩ = some (.int .u8 (dr.toNat : Int)) := by have h := HB9.out r (by rw [← HDL.out]; exact hrD); rw [HDR.out] at h; exact h
    have f17 : w9.drew.frozen? ⟨g8, r, none⟩ = false := HF9.out r
    have hxo : bits .xor .u8 (dr.toNat : Int) (y.toNat : Int) = ((dr.toNat ^^^ y.toNat : Nat) : Int) := by
      have h := bits_xor_ev dr y
      rwa [ev_nat, ev_nat, ev_nat, UInt8.toNat_xor] at h
    have HX9 := Lib.hid (show w9.drew.cell? ⟨g7, i * 3 + 2, none⟩ = some (.slice (some ⟨g8, 0, none⟩) Dl cap8) from HC9.out)
    refine wp_region_noPanic ?_
    refine wp_region_held_drew (S := fun X => X.cell? ⟨g7, i * 3 + 2, none⟩ = some (.slice (some ⟨g8, 0, none⟩) Dl cap8)) (by kernel_rfl) (HX9.out) (fun hS0 => ?_)
    refine held_take (i := 0) (v := ?_) rfl (by kernel_rfl) (by kernel_rfl) (by kernel_rfl) (fun _ _ _ h => h) (by rfl) ?_ (by assumption) ?_
    rotate_left
    · intro X hSX
      try dsimp only at hSX
      go_simp <;> with_reducible rfl
    simp only [Act.put, List.setIfInBounds_toArray, List.set_cons_zero, List.set_cons_succ]
    refine held_take (i := 1) (v := ?_) rfl (by kernel_rfl) (by kernel_rfl) (by kernel_rfl) (fun _ _ _ h => h) (by rfl) ?_ (by assumption) ?_
    rotate_left
    · intro X hSX
      try dsimp only at hSX
      go_simp <;> with_reducible rfl
    simp only [Act.put, List.setIfInBounds_toArray, List.set_cons_zero, List.set_cons_succ]
    refine held_take (i := 2) (v := ?_) rfl (by kernel_rfl) (by kernel_rfl) (by kernel_rfl) (fun _ _ _ h => h) (by rfl) ?_ (by assumption) ?_
    rotate_left
    · intro X hSX
      try dsimp only at hSX
      go_simp <;> with_reducible rfl
    simp only [Act.put, List.setIfInBounds_toArray, List.set_cons_zero, List.set_cons_succ]
    refine held_take (i := 3) (v := ?_) rfl (by kernel_rfl) (by kernel_rfl) (by kernel_rfl) (fun _ _ _ h => h) (by rfl) ?_ (by assumption) ?_
    rotate_left
    · intro X hSX
      try dsimp only at hSX
      go_simp <;> with_reducible rfl
    simp only [Act.put, List.setIfInBounds_toArray, List.set_cons_zero, List.set_cons_succ]
    refine held_take (i := 4) (v := ?_) rfl (by kernel_rfl) (by kernel_rfl) (by kernel_rfl) (fun _ _ _ h => h) (by rfl) ?_ (by assumption) ?_
    rotate_left
    · intro X hSX
      try dsimp only at hSX
      have c := hSX
      go_simp <;> with_reducible rfl
    simp only [Act.put, List.setIfInBounds_toArray, List.set_cons_zero, List.set_cons_succ]
    refine held_take (i := 5) (v := ?_) rfl (by kernel_rfl) (by kernel_rfl) (by kernel_rfl) (fun _ _ _ h => h) (by rfl) ?_ (by assumption) ?_
    rotate_left
    · intro X hSX
      try dsimp only at hSX
      go_simp <;> with_reducible rfl
    simp only [Act.put, List.setIfInBounds_toArray, List.set_cons_zero, List.set_cons_succ]
    refine held_take (i := 6) (v := ?_) rfl (by kernel_rfl) (by kernel_rfl) (by kernel_rfl) (fun _ _ _ h => h) (by rfl) ?_ (by assumption) ?_
    rotate_left
    · intro X hSX
      try dsimp only at hSX
      go_simp <;> with_reducible rfl
    simp only [Act.put, List.setIfInBounds_toArray, List.set_cons_zero, List.set_cons_succ]
    refine held_take (i := 7) (v := ?_) rfl (by kernel_rfl) (by kernel_rfl) (by kernel_rfl) (fun _ _ _ h => h) (by rfl) ?_ (by assumption) ?_
    rotate_left
    · intro X hSX
      try dsimp only at hSX
      go_simp <;> with_reducible rfl
    simp only [Act.put, List.setIfInBounds_toArray, List.set_cons_zero, List.set_cons_succ]
    refine held_take (i := 8) (v := ?_) rfl (by kernel_rfl) (by kernel_rfl) (by kernel_rfl) (fun _ _ _ h => h) (by rfl) ?_ (by assumption) ?_
    rotate_left
    · intro X hSX
      try dsimp only at hSX
      go_simp <;> with_reducible rfl
    simp only [Act.put, List.setIfInBounds_toArray, List.set_cons_zero, List.set_cons_succ]
    refine held_take (i := 9) (v := ?_) rfl (by kernel_rfl) (by kernel_rfl) (by kernel_rfl) (fun _ _ _ h => h) (by rfl) ?_ (by assumption) ?_
    rotate_left
    · intro X hSX
      try dsimp only at hSX
      go_simp <;> with_reducible rfl
    simp only [Act.put, List.setIfInBounds_toArray, List.set_cons_zero, List.set_cons_succ]
    refine held_take (i := 10) (v := ?_) rfl (by kernel_rfl) (by kernel_rfl) (by kernel_rfl) (fun _ _ _ h => h) (by rfl) ?_ (by assumption) ?_
    rotate_left
    · intro X hSX
      try dsimp only at hSX
      go_simp <;> with_reducible rfl
    simp only [Act.put, List.setIfInBounds_toArray, List.set_cons_zero, List.set_cons_succ]
    refine held_take (i := 11) (v := ?_) rfl (by kernel_rfl) (by kernel_rfl) (by kernel_rfl) (fun _ _ _ h => h) (by rfl) ?_ (by assumption) ?_
    rotate_left
    · intro X hSX
      try dsimp only at hSX
      go_simp <;> with_reducible rfl
    simp only [Act.put, List.setIfInBounds_toArray, List.set_cons_zero, List.set_cons_succ]
    refine held_take (i := 12) (v := ?_) rfl (by kernel_rfl) (by kernel_rfl) (by kernel_rfl) (fun _ _ _ h => h) (by rfl) ?_ (by assumption) ?_
    rotate_left
    · intro X hSX
      try dsimp only at hSX
      have c := hSX
      go_simp <;> with_reducible rfl
    simp only [Act.put, List.setIfInBounds_toArray, List.set_cons_zero, List.set_cons_succ]
    refine held_take (i := 13) (v := ?_) rfl (by kernel_rfl) (by kernel_rfl) (by kernel_rfl) (fun _ _ _ h => h) (by rfl) ?_ (by assumption) ?_
    rotate_left
    · intro X hSX
      try dsimp only at hSX
      go_simp <;> with_reducible rfl
    simp only [Act.put, List.setIfInBounds_toArray, List.set_cons_zero, List.set_cons_succ]
    refine held_take (i := 14) (v := ?_) rfl (by kernel_rfl) (by kernel_rfl) (by kernel_rfl) (fun _ _ _ h => h) (by rfl) ?_ (by assumption) ?_
    rotate_left
    · intro X hSX
      try dsimp only at hSX
      go_simp <;> with_reducible rfl
    simp only [Act.put, List.setIfInBounds_toArray, List.set_cons_zero, List.set_cons_succ]
    refine held_take (i := 15) (v := ?_) rfl (by kernel_rfl) (by kernel_rfl) (by kernel_rfl) (fun _ _ _ h => h) (by rfl) ?_ (by assumption) ?_
    rotate_left
    · intro X hSX
      try dsimp only at hSX
      go_simp <;> with_reducible rfl
    simp only [Act.put, List.setIfInBounds_toArray, List.set_cons_zero, List.set_cons_succ]
    refine held_take (i := 16) (v := ?_) rfl (by kernel_rfl) (by kernel_rfl) (by kernel_rfl) (fun _ _ _ h => h) (by rfl) ?_ (by assumption) ?_
    rotate_left
    · intro X hSX
      try dsimp only at hSX
      go_simp <;> with_reducible rfl
    simp only [Act.put, List.setIfInBounds_toArray, List.set_cons_zero, List.set_cons_succ]
    refine held_take (i := 18) (v := ?_) rfl (by kernel_rfl) (by kernel_rfl) (by kernel_rfl) (fun _ _ _ h => h) (by rfl) ?_ (by assumption) ?_
    rotate_left
    · intro X hSX
      try dsimp only at hSX
      go_simp <;> with_reducible rfl
    simp only [Act.put, List.setIfInBounds_toArray, List.set_cons_zero, List.set_cons_succ]
    refine held_call (i := 17) rfl (by kernel_rfl) (by rfl) (fun K' hK' => ?_)
    go_simp
    refine held_go hK' (HX9.out) ?_
    try simp only [Act.put, List.setIfInBounds_toArray, List.set_cons_zero, List.set_cons_succ]
    refine held_take (i := 19) (v := ?_) rfl (by kernel_rfl) (by kernel_rfl) (by kernel_rfl) (fun _ _ _ h => h) (by rfl) ?_ (by assumption) ?_
    rotate_left
    · intro X hSX
      try dsimp only at hSX
      go_simp <;> with_reducible rfl
    simp only [Act.put, List.setIfInBounds_toArray, List.set_cons_zero, List.set_cons_succ]
    refine held_take (i := 20) (v := ?_) rfl (by kernel_rfl) (by kernel_rfl) (by kernel_rfl) (fun _ _ _ h => h) (by rfl) ?_ (by assumption) ?_
    rotate_left
    · intro X hSX
      try dsimp only at hSX
      go_simp <;> with_reducible rfl
    simp only [Act.put, List.setIfInBounds_toArray, List.set_cons_zero, List.set_cons_succ]
    refine held_call (i := 21) rfl (by kernel_rfl) (by rfl) (fun K' hK' => ?_)
    go_simp
    refine held_go hK' ((World.cell?_setCell_far _ _ _ _ (fun e => HNE.out e.symm)).trans HX9.out) ?_
    try simp only [Act.put, List.setIfInBounds_toArray, List.set_cons_zero, List.set_cons_succ]
    refine wpAnyH_done (by kernel_rfl) ?_ _
    refine NoPanic.normal ?_
    have HKW : Hid (Ki (w9.setCell ⟨g8, r, none⟩ (.int .u8 ((dr.toNat ^^^ y.toNat : Nat) : Int))).drew (some ⟨g7, 0, none⟩) (L.set i ⟨(L[i]'HIL.out).m, (L[i]'HIL.out).bad, D.set r (dr ^^^ y)⟩)) := Lib.hid (by
      refine Ki.chg HK7.out HIL.out (by simpa using HS9.out.2.2) (fun k hk hne => ?_) (fun j hj => ?_) (ad := some ⟨g8, 0, none⟩) (c := cap8) ?_ ⟨.inr ⟨g8, 0, rfl, by simpa using HS9.out.2.1, fun j hj => ?_⟩⟩ (by rw [List.length_set, ← HDL.out]; exact HDC.out.1) HDC.out.2 (fun h => by cases h)
      · exact (Below.heap_setCell _ _ _ _ (by show k ≠ g8; have := HS9.out.1; omega)).trans (HK9.out k hk hne)
      · exact (World.cell?_setCell_far _ _ _ _ (fun e => HNE.out e.symm)).trans (HO9.out j hj)
      · rw [List.length_set, ← HDL.out]
        exact (World.cell?_setCell_far _ _ _ _ (fun e => HNE.out e.symm)).trans HX9.out
      · rw [Nat.zero_add]
        rw [List.length_set] at hj
        by_cases e : r = j
        · subst e
          rw [List.getElem_set_self]
          rw [UInt8.toNat_xor]
          exact World.cell?_setCell_same w9 ⟨g8, r, none⟩ _ b17
        · rw [List.getElem_set_ne e]
          exact (World.cell?_setCell_other _ _ _ _ (fun e' => e (by injection e' with _ e2))).trans (HB9.out j hj))
    have HBW := Lib.hid ((HW9.out.setCell (p := ⟨g8, r, none⟩) (by show w.heap.size ≤ g8; have h1 := HS9.out.1; have h2 := HB7.out.size; omega) (.int .u8 ((dr.toNat ^^^ y.toNat : Nat) : Int))).drew)
    clear hS0 b17 f17 hxo HX9 HS9 HW9 HF9 HB9 HK9 HO9 HC9 HB7 HK7
    go_wp2_with fail
    change Calls Tryd.prog 25 _ ((w9.setCell ⟨g8, r, none⟩ (.int .u8 ((dr.toNat ^^^ y.toNat : Nat) : Int))).drew) _
    generalize World.drew (World.setCell w9 _ _) = W at *
    refine (HS.out.payload (some ⟨g7, 0, none⟩) N cap7 _ W HKW.out (by rw [List.length_set]; exact HNL.out) HNC.out HCM.out (fun h => by cases h) (by have := HN100.out; omega) (fun x hx => by
      rcases List.mem_or_eq_of_mem_set hx with h | h
      · have := HALL.out x h; omega
      · rw [h]
        show (D.set r (dr ^^^ y)).length ≤ 100
        rw [List.length_set, ← HDL.out]
        omega) (HS.out.step w W HI.out HBW.out)).mono ?_
    rw [HPAY.out]
    rintro e X9 ⟨ad9, cp9, v9, rfl, -, hw9, hb9⟩
    dsimp only at hw9 ⊢
    obtain ⟨bd, bc, rfl, -⟩ := hw9.slice
    rw [List.length_nil]
    have HBZ9 := Lib.hid ((HBW.out.trans (hb9.mono HBW.out.size)).alloc (Nat.le_trans HBW.out.size hb9.size) (boxH .zero ad9 Hdr.zero.es.length cp9))
    clear hw9 hb9 HBW HKW
    go_wp2_with fail
    change Calls Tryd.prog 21 _ (X9.alloc (boxH .zero ad9 Hdr.zero.es.length cp9)) _
    generalize World.alloc X9 _ = XA at *
    refine (awake15_any HS.out XA (HS.out.step w XA HI.out HBZ9.out)).mono ?_
    rintro e XB ⟨rfl, hbZ⟩
    have HBZ := Lib.hid (HBZ9.out.trans (hbZ.mono HBZ9.out.size))
    clear hbZ
    go_wp2_with fail
    go_ret
    exact ⟨rfl, HBZ.out⟩
end Go.Proofs.YtjiijjdmkeeilaaDoor
