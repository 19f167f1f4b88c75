/-
  The statement ContainerExtracts, over the contracts.
-/
import Derived.Test.YtjiijjdmkeeilaaDoorCoLawQ
import Derived.Test.YtjiijjdmkeeilaaDoorCoLawN
import Derived.Test.YtjiijjdmkeeilaaDoorCBA
namespace Go.Proofs.YtjiijjdmkeeilaaDoor
open Go.RowKit
set_option linter.unusedVariables false
set_option linter.unusedSimpArgs false
theorem sta_next (l : List Ent) (i : Nat) (h : i < l.length) : staU l (i + 1) = staU l i + (l[i]).n := by
  unfold staU
  rw [List.take_succ_eq_append_getElem h, sumE_snoc]
theorem ptB_nil {ad : Option Addr} {cap : Nat} (h : ad = none → cap = 0) (a : Nat) : ptB ad cap a = none → cap - a = 0 := by
  unfold ptB
  intro e
  split at e
  · omega
  · cases ad with
    | none => have := h rfl; omega
    | some x => cases e
attribute [local irreducible] bldR smlH vldH hbU blU hbL payB needU extU staU
set_option maxRecDepth 100000 in
set_option maxHeartbeats 16000000 in
theorem law_cextracts {I : World → Prop} (H : CoSide I) (h : Hdr) (hd : Option Addr) (hn hcap : Nat) (pd : Option Addr) (pn pcap : Nat) (p : List UInt8) (en of le : Int) (w : World) (hin : HdIn w h hd hn hcap) (hfit : h.Fit)
    (hlp : Lie w pd p) (hpn : pn = p.length) (hpc : pn ≤ pcap) (hpm : pcap ≤ maxLen) (hpa : pd = none → pcap = 0) (hen : -9223372036854775808 ≤ en ∧ en ≤ 9223372036854775807) (hof : -9223372036854775808 ≤ of ∧ of ≤ 9223372036854775807) (hle : -9223372036854775808 ≤ le ∧ le ≤ 9223372036854775807) (hi : I w) :
    Calls Tryd.prog 7 #[hdV h hd hn hcap, .slice pd pn pcap, .int .i64 en, .int .i64 of, .int .i64 le] w fun e w' => e = .returned (.bool true) ∧ Below w.heap.size w w' := by
  have HS := Lib.hid H
  have HI := Lib.hid hi
  have HX0 := Lib.hid (HdRow.new w h hd hn hcap)
  have HI0 := Lib.hid (hin.below (co_box1 w (boxH h hd hn hcap)))
  have HB0 := Lib.hid (co_box1 w (boxH h hd hn hcap))
  have HIN := Lib.hid hin.sml
  have HFT := Lib.hid (smlH_fit hfit)
  have HLP := Lib.hid hlp
  have HPN := Lib.hid hpn
  have HPC := Lib.hid hpc
  have HPM := Lib.hid hpm
  have HPA := Lib.hid hpa
  have HM66 := Lib.hid (smlH_len h)
  have HEN := Lib.hid hen
  have HOF := Lib.hid hof
  have HLE := Lib.hid hle
  clear H hi hin hfit hlp hpn hpc hpm hpa hen hof hle
  go_enter Tryd.func7, Tryd.ntmps7
  go_wp2_with (with_reducible refine ld_hdr rfl (.tmp 5) rfl rfl HX0.out ?_)
  change Calls Tryd.prog 9 _ (w.alloc (boxH h hd hn hcap)) _
  generalize World.alloc w _ = X0 at *
  refine (small_at h hd hn hcap X0 HI0.out).mono ?_
  rintro e X1 ⟨rfl, hb1⟩
  have HR1 := Lib.hid (HX0.out.below hb1 HX0.out.lt)
  generalize smlH h = S at *
  obtain ⟨M, hM⟩ : ∃ M, M = S.es.length := ⟨_, rfl⟩
  rw [← hM] at HIN HM66 ⊢
  have HX1 := Lib.hid (HR1.out.put S hd M hcap)
  have HB1 := Lib.hid (below_set (HB0.out.trans (hb1.mono HB0.out.size)) (Nat.le_refl w.heap.size) (hdC S hd M hcap))
  have HSL := Lib.hid hM
  clear hM hb1 HX0 HI0 HB0
  go_wp2_with (with_reducible refine st_hdr rfl (.tmp 5) (.tmp 21) rfl rfl S hd M hcap rfl HR1.out ?_)
  generalize World.setRow X1 _ _ = X2 at *
  clear HR1
  refine (short_any pd pn pcap p X2 (HLP.out.below HB1.out rfl) HPN.out HPC.out HPM.out HPA.out).mono ?_
  rintro e w2 ⟨pe, pc, rfl, hl2, hc2, hm2, ha2, rfl⟩
  have hb6 : (p.take 600).length ≤ 600 := by rw [List.length_take]; omega
  generalize p.take 600 = b at *
  obtain ⟨m, hm⟩ : ∃ m, m = b.length := ⟨_, rfl⟩
  rw [← hm] at hc2 hb6 ⊢
  have HLB := Lib.hid hl2
  have HBN := Lib.hid hm
  have HBC := Lib.hid hc2
  have HBM := Lib.hid hm2
  have HBA := Lib.hid ha2
  have HB6 := Lib.hid hb6
  clear hl2 hm hc2 hm2 ha2 hb6 HLP HPN HPC HPM HPA
  go_wp2_with (with_reducible refine ld_hdr rfl (.tmp 5) rfl rfl HX1.out ?_)
  refine (HS.out.build S hd M hcap pe m pc b X2 (HIN.out.below HB1.out) HFT.out HM66.out HLB.out HBN.out HBC.out HBM.out HBA.out HB6.out (HS.out.step w X2 HI.out HB1.out)).mono ?_
  rcases bld_cases (S := S) (b := b) HFT.out (by have := HB6.out; have := HBN.out; omega) with ⟨k, hk, hE⟩ | ⟨L, G, hE, ok⟩
  · rw [hE]
    rintro e X3 ⟨v3, ad3, cap3, rfl, hk3, hi3, hb3⟩
    dsimp only at hk3 hi3 ⊢
    obtain ⟨ld3, lc3, rfl, -⟩ := hk3.read
    have HB3 := Lib.hid ((HB1.out.trans (hb3.mono HB1.out.size)).alloc (Nat.le_trans HB1.out.size hb3.size) (boxH .zero ad3 Hdr.zero.es.length cap3))
    rw [List.length_nil]
    clear hk3 hi3 hb3 HX1 HB1
    go_wp2_with fail
    change Calls Tryd.prog 21 _ (X3.alloc (boxH .zero ad3 Hdr.zero.es.length cap3)) _
    generalize World.alloc X3 _ = X4 at *
    refine (awake15_any HS.out X4 (HS.out.step w X4 HI.out HB3.out)).mono ?_
    rintro e X5 ⟨rfl, hbZ⟩
    have HBZ := Lib.hid (HB3.out.trans (hbZ.mono HB3.out.size))
    clear hbZ
    go_wp2_with fail
    go_ret
    exact ⟨rfl, HBZ.out⟩
  rw [hE]
  have OK := Lib.hid ok
  clear hE ok
  rintro e X3 ⟨v3, ad3, cap3, rfl, hk3, hi3, hb3⟩
  dsimp only at hk3 hi3 ⊢
  obtain ⟨ld3, lc3, rfl, hx3, hc3, hm3, ha3, -⟩ := hk3.read
  obtain ⟨K, hK⟩ : ∃ K, K = G.es.length := ⟨_, rfl⟩
  obtain ⟨N, hN⟩ : ∃ N, N = L.length := ⟨_, rfl⟩
  rw [← hK] at hi3 ⊢
  rw [← hN] at hc3 ⊢
  have HKG := Lib.hid hK
  have HNL := Lib.hid hN
  have HC3 := Lib.hid hc3
  have HM3 := Lib.hid hm3
  have HA3 := Lib.hid ha3
  have HN100 := Lib.hid (show N ≤ 100 by rw [hN]; exact OK.out.cnt)
  have HKM := Lib.hid (show K = M by rw [hK, HSL.out, OK.out.eqG]; rfl)
  have HK3 := Lib.hid (hx3.ki.below (co_box1 X3 (boxH G ad3 K cap3)))
  have HG3 := Lib.hid (HdRow.new X3 G ad3 K cap3)
  have HJ3 := Lib.hid (hi3.below (co_box1 X3 (boxH G ad3 K cap3)))
  have HB3 := Lib.hid ((HB1.out.trans (hb3.mono HB1.out.size)).alloc (Nat.le_trans HB1.out.size hb3.size) (boxH G ad3 K cap3))
  have HL3 := Lib.hid ((HLB.out.below hb3 rfl).below (co_box1 X3 (boxH G ad3 K cap3)) rfl)
  have HX3 := Lib.hid ((HX1.out.below hb3 HX1.out.lt).below (co_box1 X3 (boxH G ad3 K cap3)) (Nat.lt_of_lt_of_le HX1.out.lt hb3.size))
  clear hK hN hk3 hi3 hb3 hx3 hc3 hm3 ha3 HX1 HB1
  go_wp2_with (with_reducible refine ld_hdr rfl (.tmp 12) rfl rfl HG3.out ?_)
  change Calls Tryd.prog 27 _ (X3.alloc (boxH G ad3 K cap3)) _
  generalize World.alloc X3 _ = X4 at *
  generalize X3.heap.size = g4 at *
  refine (HS.out.need G ad3 K cap3 en of le X4 HJ3.out OK.out.fit (HS.out.step w X4 HI.out HB3.out)).mono ?_
  obtain ⟨F, Q, f, hnd⟩ : ∃ F Q f, needU G en of le = (F, Q, f) := ⟨_, _, _, rfl⟩
  rw [hnd]
  have HND := Lib.hid hnd
  rintro e X5 ⟨rfl, hb5⟩
  dsimp only
  have HY5 := Lib.hid (show (X5.alloc (.cells #[.int .i64 F, .int .i64 Q] 46)).heap[X5.heap.size]? = some (.cells #[.int .i64 F, .int .i64 Q] 46 (0, 0)) from heap_alloc_new X5 _)
  have HX5 := Lib.hid ((HX3.out.below hb5 HX3.out.lt).below (co_box1 X5 (.cells #[.int .i64 F, .int .i64 Q] 46)) (Nat.lt_of_lt_of_le HX3.out.lt hb5.size))
  have HG5 := Lib.hid ((HG3.out.below hb5 HG3.out.lt).below (co_box1 X5 (.cells #[.int .i64 F, .int .i64 Q] 46)) (Nat.lt_of_lt_of_le HG3.out.lt hb5.size))
  have HK5 := Lib.hid ((HK3.out.below hb5).below (co_box1 X5 (.cells #[.int .i64 F, .int .i64 Q] 46)))
  have HJ5 := Lib.hid ((HJ3.out.below hb5).below (co_box1 X5 (.cells #[.int .i64 F, .int .i64 Q] 46)))
  have HL5 := Lib.hid ((HL3.out.below hb5 rfl).below (co_box1 X5 (.cells #[.int .i64 F, .int .i64 Q] 46)) rfl)
  have HB5 := Lib.hid ((HB3.out.trans (hb5.mono HB3.out.size)).alloc (Nat.le_trans HB3.out.size hb5.size) (.cells #[.int .i64 F, .int .i64 Q] 46))
  have HZ5 := Lib.hid (show X5.heap.size < (X5.alloc (.cells #[.int .i64 F, .int .i64 Q] 46)).heap.size by simp)
  clear hb5 hnd HX3 HG3 HK3 HJ3 HL3 HB3
  have c8 := HG5.out.at_.c8
  by_cases hf : f = 0
  rotate_left
  · have kf : (f != 0) = true := by simpa using hf
    by_cases e1 : en < 0
    · clear c8
      go_wp2_with fail
      change Calls Tryd.prog 21 _ (X5.alloc (.cells #[.int .i64 F, .int .i64 Q] 46)) _
      generalize World.alloc X5 _ = X6 at *
      refine (awake15_any HS.out X6 (HS.out.step w X6 HI.out HB5.out)).mono ?_
      rintro e X7 ⟨rfl, hbZ⟩
      have HBZ := Lib.hid (HB5.out.trans (hbZ.mono HB5.out.size))
      clear hbZ
      go_wp2_with fail
      go_ret
      exact ⟨rfl, HBZ.out⟩
    by_cases e2 : (K : Int) ≤ en
    · go_wp2_with fail
      change Calls Tryd.prog 21 _ (X5.alloc (.cells #[.int .i64 F, .int .i64 Q] 46)) _
      generalize World.alloc X5 _ = X6 at *
      refine (awake15_any HS.out X6 (HS.out.step w X6 HI.out HB5.out)).mono ?_
      rintro e X7 ⟨rfl, hbZ⟩
      have HBZ := Lib.hid (HB5.out.trans (hbZ.mono HB5.out.size))
      clear hbZ
      go_wp2_with fail
      go_ret
      exact ⟨rfl, HBZ.out⟩
    by_cases e3 : of < 0
    · go_wp2_with fail
      change Calls Tryd.prog 21 _ (X5.alloc (.cells #[.int .i64 F, .int .i64 Q] 46)) _
      generalize World.alloc X5 _ = X6 at *
      refine (awake15_any HS.out X6 (HS.out.step w X6 HI.out HB5.out)).mono ?_
      rintro e X7 ⟨rfl, hbZ⟩
      have HBZ := Lib.hid (HB5.out.trans (hbZ.mono HB5.out.size))
      clear hbZ
      go_wp2_with fail
      go_ret
      exact ⟨rfl, HBZ.out⟩
    by_cases e4 : le < 0
    · go_wp2_with fail
      change Calls Tryd.prog 21 _ (X5.alloc (.cells #[.int .i64 F, .int .i64 Q] 46)) _
      generalize World.alloc X5 _ = X6 at *
      refine (awake15_any HS.out X6 (HS.out.step w X6 HI.out HB5.out)).mono ?_
      rintro e X7 ⟨rfl, hbZ⟩
      have HBZ := Lib.hid (HB5.out.trans (hbZ.mono HB5.out.size))
      clear hbZ
      go_wp2_with fail
      go_ret
      exact ⟨rfl, HBZ.out⟩
    obtain ⟨j, hj⟩ := Int.eq_ofNat_of_zero_le (show 0 ≤ en by omega)
    subst hj
    have hjl : j < G.es.length := by have := HKG.out; omega
    have hno := needU_no OK.out.vld HND.out hf e1 (by rw [← HKG.out]; exact e2) e3 e4 hjl
    have hno2 : (G.es[j]).n - le < of := hno
    have hbd := OK.out.v.bnd hjl
    have hjK : j < K := by have := HKG.out; omega
    obtain ⟨bb, off, hadr, hlt, hcell⟩ := HJ5.out.lf.get celE hjl
    have q3 := hcell 3 _ (by decide) rfl
    subst hadr
    generalize (G.es[j]).n = nx at *
    have kw : IntKind.i64.wrap (nx - le) = nx - le := IntWalk.i64_in _ (by have := HLE.out; omega)
    clear hcell hlt hno hjl
    go_wp2_with fail
    change Calls Tryd.prog 21 _ (X5.alloc (.cells #[.int .i64 F, .int .i64 Q] 46)) _
    generalize World.alloc X5 _ = X6 at *
    refine (awake15_any HS.out X6 (HS.out.step w X6 HI.out HB5.out)).mono ?_
    rintro e X7 ⟨rfl, hbZ⟩
    have HBZ := Lib.hid (HB5.out.trans (hbZ.mono HB5.out.size))
    clear hbZ
    go_wp2_with fail
    go_ret
    exact ⟨rfl, HBZ.out⟩
  subst hf
  obtain ⟨hj0, x, hx, ho, hl2, hol⟩ := needU_ok HND.out
  obtain ⟨j, hj⟩ := Int.eq_ofNat_of_zero_le hj0
  subst hj
  obtain ⟨O, hO⟩ := Int.eq_ofNat_of_zero_le ho.1
  subst hO
  obtain ⟨E, hE⟩ := Int.eq_ofNat_of_zero_le hl2.1
  subst hE
  rw [Int.toNat_natCast] at hx
  have hNP : needU (hdP S b) (j : Int) (O : Int) (E : Int) = (F, Q, 0) := OK.out.eqG ▸ HND.out
  have hLP : L = hbL (hdP S b) ++ payB S.vr b := by have h1 := OK.out.eqL; have h2 := OK.out.eqG; rw [← h2]; exact h1
  obtain ⟨r1, r2, r3⟩ := needU_rng hNP
  rw [← hLP, ← HNL.out] at r3
  obtain ⟨FN, hFN⟩ := Int.eq_ofNat_of_zero_le r1
  subst hFN
  obtain ⟨QN, hQN⟩ := Int.eq_ofNat_of_zero_le r2
  subst hQN
  have hv : VHdr (hdP S b) := OK.out.eqG ▸ OK.out.v
  have HBND : Hid (∀ i (h : i < S.es.length), 0 ≤ (S.es[i]).n ∧ (S.es[i]).n ≤ 262144 ∧ 0 ≤ staU S.es i ∧ staU S.es i + (S.es[i]).n ≤ 262144) := Lib.hid fun i h => hv.bnd (i := i) h
  have hx2 : S.es[j]? = some x := by have h2 := OK.out.eqG; rw [h2] at hx; exact hx
  obtain ⟨hjS, hjx⟩ := List.getElem?_eq_some_iff.1 hx2
  have hjM : j < M := by rw [HSL.out]; exact hjS
  have hss := sta_sum S.es j hjS (fun e he => (VEs.all hv e he).2.2.2.1.1)
  have hsf : sumE S.es ≤ (b.length : Int) := sum_full hv
  rw [hjx] at hss
  obtain ⟨A0, hA0⟩ := Int.eq_ofNat_of_zero_le (show 0 ≤ staU S.es j + (O : Int) by omega)
  have hAm : A0 + E ≤ m := by have := HBN.out; omega
  have hxu := extU_back hNP
  simp only [Int.toNat_natCast] at hxu
  rw [hA0, Int.toNat_natCast, ← hLP, ← OK.out.eqG] at hxu
  have HXU := Lib.hid hxu
  have HA0 := Lib.hid hA0
  have HRL := Lib.hid (show ((b.drop A0).take E).length = E by rw [List.length_take, List.length_drop, ← HBN.out]; omega)
  have nF : ¬ (FN : Int) < 0 := by omega
  have nQ : ¬ (QN : Int) < 0 := by omega
  have nN : ¬ (N : Int) < (FN : Int) := by omega
  have kw : IntKind.i64.wrap ((N : Int) - (FN : Int)) = (N : Int) - (FN : Int) := IntWalk.i64_in _ (by have := HN100.out; omega)
  have nD : ¬ (N : Int) - (FN : Int) < (QN : Int) := by omega
  have nj : ¬ (j : Int) < 0 := by omega
  have njM : ¬ (M : Int) ≤ (j : Int) := by omega
  have hm600 : m ≤ 600 := HB6.out
  have hj66 : j < 66 := Nat.lt_of_lt_of_le hjM HM66.out
  have hO3 : O ≤ 600 := by omega
  have hN1 : N ≤ 100 := HN100.out
  have hFQ : FN + QN ≤ N := by omega
  have c8 := HX5.out.at_.c8
  have d0 : (X5.alloc (.cells #[.int .i64 (FN : Int), .int .i64 (QN : Int)] 46)).cell? ⟨X5.heap.size, 0, none⟩ = some (.int .i64 (FN : Int)) := cell_of_row _ _ 0 _ _ _ HY5.out
  have d1 : (X5.alloc (.cells #[.int .i64 (FN : Int), .int .i64 (QN : Int)] 46)).cell? ⟨X5.heap.size, 1, none⟩ = some (.int .i64 (QN : Int)) := cell_of_row _ _ 1 _ _ _ HY5.out
  clear hNP hx ho hl2 hol r1 r2 r3 hss hsf hx2 hjx hjS hA0 hxu hv HND HEN HOF HLE hj0 hLP
  go_wp2_with fail
  generalize World.alloc X5 _ = X6 at *
  generalize X5.heap.size = g6 at *
  clear d0 d1 c8 nF nQ nN kw nD nj njM
  go_loopg [16, 17] j (fun gk v16 v17 wx => ∃ i A : Nat, v16 = .int .i64 A ∧ v17 = .int .i64 i ∧ i + gk = j ∧ A ≤ 300000 ∧ Hid ((A : Int) = staU S.es i + (O : Int)) ∧ wx = X6)
  case atStart => exact ⟨0, O, rfl, rfl, by omega, by omega, Lib.hid (by unfold staU; simp [sumE]), rfl⟩
  case round =>
    obtain ⟨i, A, rfl, rfl, hi, hA3, hA, rfl⟩ := hrel
    cases gk with
    | succ gk0 =>
      have hij : i < j := by omega
      have hiM : i < M := by omega
      have hiS : i < S.es.length := by rw [← HSL.out]; exact hiM
      have c8 := HX5.out.at_.c8
      obtain ⟨bb, off, hadr, hlt, hcell⟩ := (HIN.out.below HB5.out).lf.get celE hiS
      have q3 := hcell 3 _ (by decide) rfl
      obtain ⟨b1, b2, b3, b4⟩ := HBND.out i hiS
      have hnx := sta_next S.es i hiS
      subst hadr
      obtain ⟨nn, hnn⟩ := Int.eq_ofNat_of_zero_le b1
      rw [hnn] at q3 b2 b4 hnx
      have hA2 := hA.out
      have kw : IntKind.i64.wrap ((A : Int) + (nn : Int)) = ((A + nn : Nat) : Int) := (IntWalk.i64_in _ (by omega)).trans (by push_cast; rfl)
      have HA2 := Lib.hid (show ((A + nn : Nat) : Int) = staU S.es (i + 1) + (O : Int) by rw [hnx]; push_cast; omega)
      have hA4 : A + nn ≤ 300000 := by omega
      clear hcell hlt hA2 hnx hnn b1 b2 b3 b4 hiS
      go_wp2
      go_roundg gk0
      case rel => exact ⟨i + 1, A + nn, rfl, by go_num, by omega, hA4, HA2, rfl⟩
      case measure => omega
    | zero =>
      have hij : i = j := by omega
      have hAA : A = A0 := by have h1 := hA.out; have h2 := HA0.out; rw [hij] at h1; omega
      subst hij hAA
      obtain ⟨EN, hEN⟩ : ∃ EN, EN = FN + QN := ⟨_, rfl⟩
      have kwE : IntKind.i64.wrap ((FN : Int) + (QN : Int)) = (EN : Int) := by rw [hEN]; exact (IntWalk.i64_in _ (by omega)).trans (by push_cast; rfl)
      have hlc : EN ≤ lc3 := by have := HC3.out; omega
      have kpt := fun W => run_partB ld3 N lc3 FN EN W (by omega) hlc
      rw [show EN - FN = QN by omega] at kpt
      have HKP := Lib.hid (HK5.out.pt (by rw [← HNL.out]; exact HC3.out) FN QN)
      have HBX := Lib.hid (Below.refl wr.heap.size wr).drew
      have HENH := Lib.hid hEN
      have HLC := Lib.hid (show QN ≤ lc3 - FN by omega)
      clear hEN hlc
      have nlt : ¬ (i : Int) < (i : Int) := by omega
      clear hi hjM
      go_wp2_with fail
      refine wp_region_noPanic ?_
      refine wp_region_held_drew (S := fun X => Below wr.heap.size wr X) (by kernel_rfl) (HBX.out) (fun hS0 => ?_)
      refine held_take (i := 0) (v := ?_) rfl (by kernel_rfl) (by kernel_rfl) (by kernel_rfl) (fun _ _ _ h => h) (by rfl) ?_ (by assumption) ?_
      rotate_left
      · intro X hSX
        try dsimp only at hSX
        obtain ⟨-, c0, c1, c2, c3, c4, c5, c6, c7, c8, c9, c10⟩ := (HG5.out.below hSX HG5.out.lt).at_
        go_simp <;> with_reducible rfl
      simp only [Act.put, List.setIfInBounds_toArray, List.set_cons_zero, List.set_cons_succ]
      refine held_take (i := 1) (v := ?_) rfl (by kernel_rfl) (by kernel_rfl) (by kernel_rfl) (fun _ _ _ h => h) (by rfl) ?_ (by assumption) ?_
      rotate_left
      · intro X hSX
        try dsimp only at hSX
        go_simp <;> with_reducible rfl
      simp only [Act.put, List.setIfInBounds_toArray, List.set_cons_zero, List.set_cons_succ]
      refine held_take (i := 2) (v := ?_) rfl (by kernel_rfl) (by kernel_rfl) (by kernel_rfl) (fun _ _ _ h => h) (by rfl) ?_ (by assumption) ?_
      rotate_left
      · intro X hSX
        try dsimp only at hSX
        go_simp <;> with_reducible rfl
      simp only [Act.put, List.setIfInBounds_toArray, List.set_cons_zero, List.set_cons_succ]
      refine held_take (i := 3) (v := ?_) rfl (by kernel_rfl) (by kernel_rfl) (by kernel_rfl) (fun _ _ _ h => h) (by rfl) ?_ (by assumption) ?_
      rotate_left
      · intro X hSX
        try dsimp only at hSX
        go_simp <;> with_reducible rfl
      simp only [Act.put, List.setIfInBounds_toArray, List.set_cons_zero, List.set_cons_succ]
      refine held_take (i := 4) (v := ?_) rfl (by kernel_rfl) (by kernel_rfl) (by kernel_rfl) (fun _ _ _ h => h) (by rfl) ?_ (by assumption) ?_
      rotate_left
      · intro X hSX
        try dsimp only at hSX
        go_simp <;> with_reducible rfl
      simp only [Act.put, List.setIfInBounds_toArray, List.set_cons_zero, List.set_cons_succ]
      refine held_take (i := 5) (v := ?_) rfl (by kernel_rfl) (by kernel_rfl) (by kernel_rfl) (fun _ _ _ h => h) (by rfl) ?_ (by assumption) ?_
      rotate_left
      · intro X hSX
        try dsimp only at hSX
        go_simp <;> with_reducible rfl
      simp only [Act.put, List.setIfInBounds_toArray, List.set_cons_zero, List.set_cons_succ]
      refine held_take (i := 7) (v := ?_) rfl (by kernel_rfl) (by kernel_rfl) (by kernel_rfl) (fun _ _ _ h => h) (by rfl) ?_ (by assumption) ?_
      rotate_left
      · intro X hSX
        try dsimp only at hSX
        go_simp <;> with_reducible rfl
      simp only [Act.put, List.setIfInBounds_toArray, List.set_cons_zero, List.set_cons_succ]
      refine held_take (i := 9) (v := ?_) rfl (by kernel_rfl) (by kernel_rfl) (by kernel_rfl) (fun _ _ _ h => h) (by rfl) ?_ (by assumption) ?_
      rotate_left
      · intro X hSX
        try dsimp only at hSX
        go_simp <;> with_reducible rfl
      simp only [Act.put, List.setIfInBounds_toArray, List.set_cons_zero, List.set_cons_succ]
      refine held_take (i := 6) (v := ?_) rfl (by kernel_rfl) (by kernel_rfl) (by kernel_rfl) (fun _ _ _ h => h) (by rfl) ?_ (by assumption) ?_
      rotate_left
      · intro X hSX
        try dsimp only at hSX
        have d0 : X.cell? ⟨g6, 0, none⟩ = some (.int .i64 (FN : Int)) := cell_of_row X g6 0 _ _ _ ((hSX.block _ HZ5.out).trans HY5.out)
        go_simp <;> with_reducible rfl
      simp only [Act.put, List.setIfInBounds_toArray, List.set_cons_zero, List.set_cons_succ]
      refine held_take (i := 8) (v := ?_) rfl (by kernel_rfl) (by kernel_rfl) (by kernel_rfl) (fun _ _ _ h => h) (by rfl) ?_ (by assumption) ?_
      rotate_left
      · intro X hSX
        try dsimp only at hSX
        have d0 : X.cell? ⟨g6, 0, none⟩ = some (.int .i64 (FN : Int)) := cell_of_row X g6 0 _ _ _ ((hSX.block _ HZ5.out).trans HY5.out)
        go_simp <;> with_reducible rfl
      simp only [Act.put, List.setIfInBounds_toArray, List.set_cons_zero, List.set_cons_succ]
      refine held_take (i := 10) (v := ?_) rfl (by kernel_rfl) (by kernel_rfl) (by kernel_rfl) (fun _ _ _ h => h) (by rfl) ?_ (by assumption) ?_
      rotate_left
      · intro X hSX
        try dsimp only at hSX
        have d1 : X.cell? ⟨g6, 1, none⟩ = some (.int .i64 (QN : Int)) := cell_of_row X g6 1 _ _ _ ((hSX.block _ HZ5.out).trans HY5.out)
        go_simp <;> with_reducible rfl
      simp only [Act.put, List.setIfInBounds_toArray, List.set_cons_zero, List.set_cons_succ]
      refine held_take (i := 11) (v := ?_) rfl (by kernel_rfl) (by kernel_rfl) (by kernel_rfl) (fun _ _ _ h => h) (by rfl) ?_ (by assumption) ?_
      rotate_left
      · intro X hSX
        try dsimp only at hSX
        go_simp <;> with_reducible rfl
      simp only [Act.put, List.setIfInBounds_toArray, List.set_cons_zero, List.set_cons_succ]
      refine held_take (i := 12) (v := ?_) rfl (by kernel_rfl) (by kernel_rfl) (by kernel_rfl) (fun _ _ _ h => h) (by rfl) ?_ (by assumption) ?_
      rotate_left
      · intro X hSX
        try dsimp only at hSX
        have kp := kpt X
        go_simp <;> with_reducible rfl
      simp only [Act.put, List.setIfInBounds_toArray, List.set_cons_zero, List.set_cons_succ]
      refine held_call (i := 13) rfl (by kernel_rfl) (by rfl) (fun K' hK' => ?_)
      go_simp
      refine (HS.out.extract G ad3 K cap3 (i : Int) (O : Int) (E : Int) (ptB ld3 lc3 FN) QN (lc3 - FN) ((L.drop FN).take QN) _ (HJ5.out.below HBX.out) OK.out.fit (HKP.out.below HBX.out) (by rw [List.length_take, List.length_drop, ← HNL.out]; omega) HLC.out (by have := HM3.out; omega) (ptB_nil HA3.out FN) (by omega) (fun x hx => by have := OK.out.dat x (List.mem_of_mem_drop (List.mem_of_mem_take hx)); omega) (HS.out.step w _ HI.out (HB5.out.trans (HBX.out.mono HB5.out.size)))).mono ?_
      rw [HXU.out]
      rintro e X7 ⟨bd7, bc7, rfl, hl7, -, -, -, hb7⟩
      dsimp only at hl7 ⊢
      have hS7 : Below wr.heap.size wr X7 := HBX.out.trans (hb7.mono HBX.out.size)
      have HR7 := Lib.hid hl7
      rw [HRL.out]
      refine held_go hK' (hS7) ?_
      try simp only [Act.put, List.setIfInBounds_toArray, List.set_cons_zero, List.set_cons_succ]
      refine held_take (i := 14) (v := ?_) rfl (by kernel_rfl) (by kernel_rfl) (by kernel_rfl) (fun _ _ _ h => h) (by rfl) ?_ (by assumption) ?_
      rotate_left
      · intro X hSX
        try dsimp only at hSX
        go_simp <;> with_reducible rfl
      simp only [Act.put, List.setIfInBounds_toArray, List.set_cons_zero, List.set_cons_succ]
      refine held_take (i := 15) (v := ?_) rfl (by kernel_rfl) (by kernel_rfl) (by kernel_rfl) (fun _ _ _ h => h) (by rfl) ?_ (by assumption) ?_
      rotate_left
      · intro X hSX
        try dsimp only at hSX
        go_simp <;> with_reducible rfl
      simp only [Act.put, List.setIfInBounds_toArray, List.set_cons_zero, List.set_cons_succ]
      refine held_take (i := 16) (v := ?_) rfl (by kernel_rfl) (by kernel_rfl) (by kernel_rfl) (fun _ _ _ h => h) (by rfl) ?_ (by assumption) ?_
      rotate_left
      · intro X hSX
        try dsimp only at hSX
        go_simp <;> with_reducible rfl
      simp only [Act.put, List.setIfInBounds_toArray, List.set_cons_zero, List.set_cons_succ]
      refine held_take (i := 17) (v := ?_) rfl (by kernel_rfl) (by kernel_rfl) (by kernel_rfl) (fun _ _ _ h => h) (by rfl) ?_ (by assumption) ?_
      rotate_left
      · intro X hSX
        try dsimp only at hSX
        go_simp <;> with_reducible rfl
      simp only [Act.put, List.setIfInBounds_toArray, List.set_cons_zero, List.set_cons_succ]
      refine held_take (i := 18) (v := ?_) rfl (by kernel_rfl) (by kernel_rfl) (by kernel_rfl) (fun _ _ _ h => h) (by rfl) ?_ (by assumption) ?_
      rotate_left
      · intro X hSX
        try dsimp only at hSX
        go_simp <;> with_reducible rfl
      simp only [Act.put, List.setIfInBounds_toArray, List.set_cons_zero, List.set_cons_succ]
      refine wpAnyH_done (by kernel_rfl) ?_ _
      refine NoPanic.normal ?_
      have HL7 := Lib.hid (HL5.out.below hS7 rfl)
      have HB7 := Lib.hid (HB5.out.trans (hS7.mono HB5.out.size))
      have HT7 := Lib.hid (show (convert 26 9 (.slice bd7 E bc7)) = (convert 26 9 (.slice bd7 ((b.drop A).take E).length bc7)) by rw [HRL.out])
      clear HBX hS7 hb7 hl7 hS0 kpt HKP HG5 HX5 HJ5 HL5 HB5 HY5 HZ5 HK5 kwE
      obtain ⟨U, hU⟩ : ∃ U, U = A + E := ⟨_, rfl⟩
      have kwU : IntKind.i64.wrap ((A : Int) + (E : Int)) = (U : Int) := by rw [hU]; exact (IntWalk.i64_in _ (by omega)).trans (by push_cast; rfl)
      have hUm : U ≤ pc := by have := HBC.out; omega
      have kpu := fun W => run_part pe m pc A U W (by omega) hUm
      rw [show U - A = E by omega] at kpu
      have HLP := Lib.hid (HL7.out.pt (by rw [← HBN.out]; exact HBC.out) A E)
      clear hU hUm
      have kc1 := fun (X : World) (k : Below X7.heap.size X7 X) => (congrArg (fun c => c.run Tryd.prog X) HT7.out).trans (conv_lie bc7 (HR7.out.below k rfl))
      have kc2 := fun (X : World) (k : Below X7.heap.size X7 X) => conv_lie (pc - A) (HLP.out.below k rfl)
      rw [HRL.out] at kc2
      generalize (⟨((b.drop A).take E).toArray⟩ : ByteArray) = T at *
      have kT : (T.toList == T.toList) = true := by simp
      generalize ptA pe pc A = qd at *
      go_wp2_with fail
      have HBX := Lib.hid (Below.refl X7.heap.size X7).drew
      refine wp_region_noPanic ?_
      refine wp_region_held_drew (S := fun X => Below X7.heap.size X7 X) (by kernel_rfl) (HBX.out) (fun hS0 => ?_)
      refine held_take (i := 0) (v := ?_) rfl (by kernel_rfl) (by kernel_rfl) (by kernel_rfl) (fun _ _ _ h => h) (by rfl) ?_ (by assumption) ?_
      rotate_left
      · intro X hSX
        try dsimp only at hSX
        go_simp <;> with_reducible rfl
      simp only [Act.put, List.setIfInBounds_toArray, List.set_cons_zero, List.set_cons_succ]
      refine held_take (i := 1) (v := ?_) rfl (by kernel_rfl) (by kernel_rfl) (by kernel_rfl) (fun _ _ _ h => h) (by rfl) ?_ (by assumption) ?_
      rotate_left
      · intro X hSX
        try dsimp only at hSX
        go_simp <;> with_reducible rfl
      simp only [Act.put, List.setIfInBounds_toArray, List.set_cons_zero, List.set_cons_succ]
      refine held_take (i := 2) (v := ?_) rfl (by kernel_rfl) (by kernel_rfl) (by kernel_rfl) (fun _ _ _ h => h) (by rfl) ?_ (by assumption) ?_
      rotate_left
      · intro X hSX
        try dsimp only at hSX
        go_simp <;> with_reducible rfl
      simp only [Act.put, List.setIfInBounds_toArray, List.set_cons_zero, List.set_cons_succ]
      refine held_take (i := 3) (v := ?_) rfl (by kernel_rfl) (by kernel_rfl) (by kernel_rfl) (fun _ _ _ h => h) (by rfl) ?_ (by assumption) ?_
      rotate_left
      · intro X hSX
        try dsimp only at hSX
        go_simp <;> with_reducible rfl
      simp only [Act.put, List.setIfInBounds_toArray, List.set_cons_zero, List.set_cons_succ]
      refine held_take (i := 4) (v := ?_) rfl (by kernel_rfl) (by kernel_rfl) (by kernel_rfl) (fun _ _ _ h => h) (by rfl) ?_ (by assumption) ?_
      rotate_left
      · intro X hSX
        try dsimp only at hSX
        have kc := kc1 X hSX
        go_simp <;> with_reducible rfl
      simp only [Act.put, List.setIfInBounds_toArray, List.set_cons_zero, List.set_cons_succ]
      refine held_take (i := 5) (v := ?_) rfl (by kernel_rfl) (by kernel_rfl) (by kernel_rfl) (fun _ _ _ h => h) (by rfl) ?_ (by assumption) ?_
      rotate_left
      · intro X hSX
        try dsimp only at hSX
        go_simp <;> with_reducible rfl
      simp only [Act.put, List.setIfInBounds_toArray, List.set_cons_zero, List.set_cons_succ]
      refine held_take (i := 6) (v := ?_) rfl (by kernel_rfl) (by kernel_rfl) (by kernel_rfl) (fun _ _ _ h => h) (by rfl) ?_ (by assumption) ?_
      rotate_left
      · intro X hSX
        try dsimp only at hSX
        go_simp <;> with_reducible rfl
      simp only [Act.put, List.setIfInBounds_toArray, List.set_cons_zero, List.set_cons_succ]
      refine held_take (i := 7) (v := ?_) rfl (by kernel_rfl) (by kernel_rfl) (by kernel_rfl) (fun _ _ _ h => h) (by rfl) ?_ (by assumption) ?_
      rotate_left
      · intro X hSX
        try dsimp only at hSX
        go_simp <;> with_reducible rfl
      simp only [Act.put, List.setIfInBounds_toArray, List.set_cons_zero, List.set_cons_succ]
      refine held_take (i := 8) (v := ?_) rfl (by kernel_rfl) (by kernel_rfl) (by kernel_rfl) (fun _ _ _ h => h) (by rfl) ?_ (by assumption) ?_
      rotate_left
      · intro X hSX
        try dsimp only at hSX
        go_simp <;> with_reducible rfl
      simp only [Act.put, List.setIfInBounds_toArray, List.set_cons_zero, List.set_cons_succ]
      refine held_take (i := 9) (v := ?_) rfl (by kernel_rfl) (by kernel_rfl) (by kernel_rfl) (fun _ _ _ h => h) (by rfl) ?_ (by assumption) ?_
      rotate_left
      · intro X hSX
        try dsimp only at hSX
        go_simp <;> with_reducible rfl
      simp only [Act.put, List.setIfInBounds_toArray, List.set_cons_zero, List.set_cons_succ]
      refine held_take (i := 10) (v := ?_) rfl (by kernel_rfl) (by kernel_rfl) (by kernel_rfl) (fun _ _ _ h => h) (by rfl) ?_ (by assumption) ?_
      rotate_left
      · intro X hSX
        try dsimp only at hSX
        have kp := kpu X
        go_simp <;> with_reducible rfl
      simp only [Act.put, List.setIfInBounds_toArray, List.set_cons_zero, List.set_cons_succ]
      refine held_take (i := 11) (v := ?_) rfl (by kernel_rfl) (by kernel_rfl) (by kernel_rfl) (fun _ _ _ h => h) (by rfl) ?_ (by assumption) ?_
      rotate_left
      · intro X hSX
        try dsimp only at hSX
        have kc := kc2 X hSX
        go_simp <;> with_reducible rfl
      simp only [Act.put, List.setIfInBounds_toArray, List.set_cons_zero, List.set_cons_succ]
      refine held_take (i := 12) (v := ?_) rfl (by kernel_rfl) (by kernel_rfl) (by kernel_rfl) (fun _ _ _ h => h) (by rfl) ?_ (by assumption) ?_
      rotate_left
      · intro X hSX
        try dsimp only at hSX
        go_simp <;> with_reducible rfl
      simp only [Act.put, List.setIfInBounds_toArray, List.set_cons_zero, List.set_cons_succ]
      refine held_take (i := 13) (v := ?_) rfl (by kernel_rfl) (by kernel_rfl) (by kernel_rfl) (fun _ _ _ h => h) (by rfl) ?_ (by assumption) ?_
      rotate_left
      · intro X hSX
        try dsimp only at hSX
        go_simp <;> with_reducible rfl
      simp only [Act.put, List.setIfInBounds_toArray, List.set_cons_zero, List.set_cons_succ]
      refine held_take (i := 14) (v := ?_) rfl (by kernel_rfl) (by kernel_rfl) (by kernel_rfl) (fun _ _ _ h => h) (by rfl) ?_ (by assumption) ?_
      rotate_left
      · intro X hSX
        try dsimp only at hSX
        go_simp <;> with_reducible rfl
      simp only [Act.put, List.setIfInBounds_toArray, List.set_cons_zero, List.set_cons_succ]
      refine held_call (i := 15) rfl (by kernel_rfl) (by rfl) (fun K' hK' => ?_)
      go_simp
      refine (awake15_any HS.out _ (HS.out.step w _ HI.out (HB7.out.trans (HBX.out.mono HB7.out.size)))).mono ?_
      rintro e X8 ⟨rfl, hb8⟩
      have hS8 : Below X7.heap.size X7 X8 := HBX.out.trans (hb8.mono HBX.out.size)
      refine held_go hK' (hS8) ?_
      try simp only [Act.put, List.setIfInBounds_toArray, List.set_cons_zero, List.set_cons_succ]
      refine held_take (i := 16) (v := ?_) rfl (by kernel_rfl) (by kernel_rfl) (by kernel_rfl) (fun _ _ _ h => h) (by rfl) ?_ (by assumption) ?_
      rotate_left
      · intro X hSX
        try dsimp only at hSX
        go_simp <;> with_reducible rfl
      simp only [Act.put, List.setIfInBounds_toArray, List.set_cons_zero, List.set_cons_succ]
      refine held_take (i := 17) (v := ?_) rfl (by kernel_rfl) (by kernel_rfl) (by kernel_rfl) (fun _ _ _ h => h) (by rfl) ?_ (by assumption) ?_
      rotate_left
      · intro X hSX
        try dsimp only at hSX
        go_simp <;> with_reducible rfl
      simp only [Act.put, List.setIfInBounds_toArray, List.set_cons_zero, List.set_cons_succ]
      refine wpAnyH_done (by kernel_rfl) ?_ _
      refine NoPanic.normal ?_
      have HB8 := Lib.hid (HB7.out.trans (hS8.mono HB7.out.size))
      clear HBX hS8 hb8 kc1 kc2 kpu hS0
      go_wp2
      go_ret
      exact ⟨rfl, HB8.out⟩
end Go.Proofs.YtjiijjdmkeeilaaDoor
