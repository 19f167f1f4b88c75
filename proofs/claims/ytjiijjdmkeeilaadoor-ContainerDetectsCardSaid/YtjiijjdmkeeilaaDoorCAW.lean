/-
  The specification's Build: the walk.
  The law package's small.
  The law package's short.
-/
import Derived.Test.YtjiijjdmkeeilaaDoorCAP
import Derived.Test.YtjiijjdmkeeilaaDoorCAV
import Derived.Deep.DeepCutAuto
import Derived.Deep.CutBlock
import Derived.Test.YtjiijjdmkeeilaaDoorCAA
import Derived.Test.YtjiijjdmkeeilaaDoorCAO
namespace Go.Proofs.YtjiijjdmkeeilaaDoor
open Go.RowKit
set_option linter.unusedVariables false
set_option linter.unusedSimpArgs false
attribute [local irreducible] prtsB encN hbL piece pcB
set_option maxRecDepth 100000 in
set_option maxHeartbeats 4000000 in
theorem rbuild_any (h : Hdr) (ad : Option Addr) (n cap : Nat) (pd : Option Addr) (m pcap : Nat) (p : List UInt8) (w : World) (hin : HdIn w h ad n cap) (hs : ∀ e ∈ h.es, e.s < 4294967296) (hn : n ≤ 100000) (hl : Lie w pd p) (hm : m = p.length) (hpc : m ≤ pcap) (hpm : pcap ≤ maxLen) (hpd : pd = none → pcap = 0) (hm2 : m ≤ 1000000) :
    Calls Tryd.prog 12 #[hdV h ad n cap, .slice pd m pcap] w (RetBH w (bldR h p)) := by
  have HS := Lib.hid hs
  have HX0 := Lib.hid ((HdRow.new w h ad n cap).below (co_box1 _ (boxH .zero none 0 0)) (by simp))
  have HY0 := Lib.hid (HdRow.new (w.alloc (boxH h ad n cap)) .zero none 0 0)
  have HB0 := Lib.hid (co_box2 w (boxH h ad n cap) (boxH .zero none 0 0))
  have HI0 := Lib.hid (hin.below (co_box2 w (boxH h ad n cap) (boxH .zero none 0 0)))
  have HL := Lib.hid hl
  have HSZ := Lib.hid (show w.heap.size + 2 ≤ ((w.alloc (boxH h ad n cap)).alloc (boxH .zero none 0 0)).heap.size by simp)
  rw [World.size_alloc] at HY0
  have HN := Lib.hid hin.len
  have HM := Lib.hid hm
  have HPC := Lib.hid hpc
  have HPM := Lib.hid hpm
  have HPD := Lib.hid hpd
  clear hin hs hl hm hpc hpm hpd
  go_enter Tryd.func12, Tryd.ntmps12
  go_wp2_with (with_reducible refine ld_hdr rfl (.tmp 2) rfl rfl HX0.out ?_)
  change Calls Tryd.prog 40 #[hdV h ad n cap] ((w.alloc (boxH h ad n cap)).alloc (boxH .zero none 0 0)) _
  generalize World.alloc (World.alloc w _) _ = X0 at *
  refine (rcopiedh_any h ad n cap _ HI0.out (by omega)).mono ?_
  rintro e X1 ⟨ad1, cap1, rfl, hi1, hb1⟩
  have HX1 := Lib.hid ((HX0.out.below hb1 HX0.out.lt).put h ad1 n cap1)
  have HR1 := Lib.hid (HX0.out.below hb1 HX0.out.lt)
  have HY1 := Lib.hid ((HY0.out.below hb1 HY0.out.lt).putOther (k := w.heap.size) (by omega) (hdC h ad1 n cap1))
  have HB1 := Lib.hid (below_set (HB0.out.trans (hb1.mono HB0.out.size)) (Nat.le_refl w.heap.size) (hdC h ad1 n cap1))
  have HO1 := Lib.hid ((hi1.mono HSZ.out).row (k := w.heap.size) (by omega) (hdC h ad1 n cap1))
  have c9 := HX1.out.at_.c9
  have f9 := HX1.out.frozen 9
  clear hi1 HX0 HY0 HB0 HI0
  go_wp2_with (with_reducible refine st_hdr rfl (.tmp 2) (.tmp 12) rfl rfl h ad1 n cap1 rfl HR1.out ?_)
  have HX2 := Lib.hid (HX1.out.setZ (m : Int))
  have HY2 := Lib.hid (HY1.out.other (k := w.heap.size) (by omega) 9 (.int .i64 (m : Int)))
  have HB2 := Lib.hid (HB1.out.setCell (p := ⟨w.heap.size, 9, none⟩) (Nat.le_refl _) (.int .i64 (m : Int)))
  have HO2 := Lib.hid (HO1.out.cell (k := w.heap.size) (by omega) 9 (.int .i64 (m : Int)))
  generalize World.setCell _ _ _ = X2 at *
  clear HX1 HY1 HB1 HO1 HR1 c9 f9 hb1
  refine (rcsum_any pd m pcap p _ (HL.out.below HB2.out rfl) HM.out (by have := HM.out; omega)).mono ?_
  rintro e w' ⟨rfl, rfl⟩
  have c10 := HX2.out.at_.c10
  have f10 := HX2.out.frozen 10
  have HG := Lib.hid (show bldR h p = if vldH (hdP h p) = true then (if prtsB (hdP h p).es p = true then (hbL (hdP h p) ++ payB (hdP h p).vr p, hdP h p, 0) else ([], .zero, 4)) else ([], .zero, 8) from rfl)
  have HX3 : Hid (HdRow (X2.setCell ⟨w.heap.size, 10, none⟩ (.int .u32 ((crc p : Nat) : Int))) w.heap.size (hdP h p) ad1 n cap1) := Lib.hid (by
    have := HX2.out.setS (crc p)
    rw [show ({ ({ h with sz := (m : Int) } : Hdr) with sm := crc p } : Hdr) = hdP h p by rw [HM.out]; rfl] at this
    exact this)
  have HY3 := Lib.hid (HY2.out.other (k := w.heap.size) (by omega) 10 (.int .u32 ((crc p : Nat) : Int)))
  have HB3 := Lib.hid (HB2.out.setCell (p := ⟨w.heap.size, 10, none⟩) (Nat.le_refl _) (.int .u32 ((crc p : Nat) : Int)))
  have HO3 : Hid (HdOw (X2.setCell ⟨w.heap.size, 10, none⟩ (.int .u32 ((crc p : Nat) : Int))) (w.heap.size + 2) (hdP h p) ad1 n cap1) := Lib.hid (by have := HO2.out.cell (k := w.heap.size) (by omega) 10 (.int .u32 ((crc p : Nat) : Int)); exact ⟨this.own, this.len⟩)
  have HSG : Hid (∀ e ∈ (hdP h p).es, e.s < 4294967296) := Lib.hid HS.out
  have HSM : Hid ((hdP h p).sm < 4294967296) := Lib.hid (crc_lt p)
  have HVS := Lib.hid (fun hv => @vld_small h p hv)
  have HVU : Hid (VHdr (hdP h p) → sumE (hdP h p).es ≤ p.length) := Lib.hid (fun hv => @vld_sum h p hv)
  go_wp2_with (with_reducible refine ld_hdr rfl (.tmp 2) rfl rfl HX3.out ?_)
  clear c10 f10 HX2 HY2 HB2 HO2 HS
  generalize World.setCell _ _ _ = X3 at *
  generalize hdP h p = G at *
  refine (rvalidh_any G ad1 n cap1 _ HO3.out.hin HSG.out).mono ?_
  rintro e X4 ⟨rfl, hb4⟩
  have hz3 : w.heap.size + 1 < X3.heap.size := HY3.out.lt
  have HX4 := Lib.hid (HX3.out.below hb4 HX3.out.lt)
  have HY4 := Lib.hid (HY3.out.below hb4 HY3.out.lt)
  have HB4 := Lib.hid (HB3.out.trans (hb4.mono HB3.out.size))
  have HO4 := Lib.hid (HO3.out.below hb4)
  clear HX3 HY3 HB3 HO3 hb4 hz3
  have HVI := Lib.hid (@vldH_iff G)
  generalize vldH G = V at *
  cases V
  · have HR := Lib.hid (HG.out.trans (if_neg (by simp)))
    go_wp2_with (with_reducible refine st_hdr rfl (.tmp 5) (.tmp 22) rfl rfl .zero none 0 0 rfl HY4.out ?_)
    refine post_tct (cs := hdC .zero none 0 0) (x := .slice none 0 0) (y := .int .i64 8) rfl rfl (HY4.out.put .zero none 0 0).row Tryd.underlying25 rfl infoHd rfl rfl rfl ?_
    exact retBH0 HR.out (below_set HB4.out (by omega) _)
  have HV := Lib.hid (HVI.out.1 (by simp))
  replace HG := Lib.hid (HG.out.trans (if_pos (by simp)))
  have hm3 : m ≤ 262144 := by have := HVS.out HV.out; have := HM.out; omega
  clear HVI HVS
  go_wp2_with (with_reducible refine ld_hdr rfl (.tmp 2) rfl rfl HX4.out ?_)
  refine (rparts_any G ad1 n cap1 pd m pcap p _ HO4.out.hin (fun e he => (VEs.all HV.out e he).2.2.2.1.1) (by have := HVU.out HV.out; have := HM.out; omega) (HL.out.below HB4.out rfl) HM.out HPC.out HPM.out (by omega)).mono ?_
  rintro e X5 ⟨rfl, hb5⟩
  have HX5 := Lib.hid (HX4.out.below hb5 HX4.out.lt)
  have HY5 := Lib.hid (HY4.out.below hb5 HY4.out.lt)
  have HB5 := Lib.hid (HB4.out.trans (hb5.mono HB4.out.size))
  have HO5 := Lib.hid (HO4.out.below hb5)
  clear HX4 HY4 HB4 HO4 hb5
  generalize prtsB G.es p = V at *
  cases V
  · have HR := Lib.hid (HG.out.trans (if_neg (by simp)))
    go_wp2_with (with_reducible refine st_hdr rfl (.tmp 5) (.tmp 27) rfl rfl .zero none 0 0 rfl HY5.out ?_)
    refine post_tct (cs := hdC .zero none 0 0) (x := .slice none 0 0) (y := .int .i64 4) rfl rfl (HY5.out.put .zero none 0 0).row Tryd.underlying25 rfl infoHd rfl rfl rfl ?_
    exact retBH0 HR.out (below_set HB5.out (by omega) _)
  replace HG := Lib.hid (HG.out.trans (if_pos (by simp)))
  go_wp2_with (with_reducible refine ld_hdr rfl (.tmp 2) rfl rfl HX5.out ?_)
  refine (rhead_any G ad1 n cap1 _ HO5.out.hin HV.out HSM.out HSG.out).mono ?_
  rintro e X6 ⟨v6, rfl, hk6, hb6⟩
  have HX6 := Lib.hid (HX5.out.below hb6 HX5.out.lt)
  have HB6 := Lib.hid hb6
  have HK6 := Lib.hid hk6
  have HHL := Lib.hid (hbL_short HV.out HSM.out HSG.out)
  clear hb6 hk6
  have c2 := HX6.out.at_.c2
  go_wp2_with fail
  refine (rpart_any G.vr _).mono ?_
  rintro e w' ⟨rfl, rfl⟩
  obtain ⟨ad6, cap6, rfl, -⟩ := HK6.out.read
  have hs := szP_cases G.vr
  have HPR := Lib.hid (show prtU G.vr = (szP G.vr : Int) by rcases hs with ⟨_, e1, e2⟩ | ⟨_, e1, e2⟩ <;> rw [e1, e2] <;> rfl)
  rw [HPR.out]
  have hs1 : szP G.vr = 60 ∨ szP G.vr = 64 := by rcases hs with ⟨_, e1, _⟩ | ⟨_, e1, _⟩ <;> omega
  have HVR := Lib.hid (Classical.em (G.vr = 2))
  clear c2 hs HPR
  have HPQ := Lib.hid (show payB G.vr p = (List.range ((p.length + szP G.vr - 1) / szP G.vr)).map fun i => pcB G.vr (piece (szP G.vr) p i) from rfl)
  generalize szP G.vr = s at *
  obtain ⟨N, hN⟩ : ∃ N, N = (m + s - 1) / s := ⟨_, rfl⟩
  have HNN := Lib.hid hN
  have hNb : N ≤ 4400 := by rcases hs1 with e | e <;> (rw [e] at hN; omega)
  clear hN
  go_wp2_with fail
  go_loopg [7, 9] N (fun gk v7 v9 wx => ∃ (k A : Nat), v9 = .int .i64 A ∧ k + gk = N ∧ A ≤ 300000 ∧ Hid (A = s * k) ∧ Hid (Kq wx X5.heap.size X5.heap.size v7 (hbL G ++ (List.range k).map fun i => pcB G.vr (piece s p i))) ∧ Hid (Below X5.heap.size X5 wx))
  case atStart => exact ⟨0, 0, rfl, by omega, by omega, Lib.hid (by simp), Lib.hid (by simpa using HK6.out), HB6⟩
  case round =>
    obtain ⟨k, A, rfl, hk, hA3, hA, hK, hB5⟩ := hrel
    have hX := Lib.hid (HX5.out.below hB5.out HX5.out.lt)
    have hY := Lib.hid (HY5.out.below hB5.out HY5.out.lt)
    have hO := Lib.hid (HO5.out.below hB5.out)
    have hB := Lib.hid (HB5.out.trans (hB5.out.mono HB5.out.size))
    have HKN := Lib.hid hk
    clear hk
    cases gk with
    | zero =>
      have hAm : ¬ A < m := by rw [cnt_iff hs1 hA.out HNN.out]; have := HKN.out; omega
      have hkN : k = N := by have := HKN.out; omega
      have HE := Lib.hid (show (hbL G ++ ((List.range k).map fun i => pcB G.vr (piece s p i))) = hbL G ++ payB G.vr p by rw [HPQ.out, ← HM.out, ← HNN.out, hkN])
      have HK2 : Hid (Kq wr X5.heap.size X5.heap.size u7 (hbL G ++ payB G.vr p)) := HE.out ▸ hK
      have HBX := Lib.hid (Below.refl wr.heap.size wr).drew
      have HR9 := Lib.hid (hX.out.below HBX.out hX.out.lt)
      have HR8 := Lib.hid (hY.out.below HBX.out hY.out.lt)
      have HO9 := Lib.hid (hO.out.below HBX.out)
      have HK9 := Lib.hid (HK2.out.below (HBX.out.mono HBX.out.size))
      have hz5 : w.heap.size + 2 ≤ X5.heap.size := HY5.out.lt
      go_wp2_with fail
      refine wp_region_noPanic ?_
      refine wp_region_held_drew (S := fun X => HdRow X w.heap.size G ad1 n cap1) (by kernel_rfl) (HR9.out) (fun hS0 => ?_)
      refine held_take (i := 0) (v := ?_) rfl (by kernel_rfl) (by kernel_rfl) (by kernel_rfl) (fun _ _ _ h => h) (by rfl) ?_ (by assumption) ?_
      rotate_left
      · intro X hSX
        try dsimp only at hSX
        go_simp <;> with_reducible rfl
      simp only [Act.put, List.setIfInBounds_toArray, List.set_cons_zero, List.set_cons_succ]
      refine held_take (i := 1) (v := ?_) rfl (by kernel_rfl) (by kernel_rfl) (by kernel_rfl) (fun _ _ _ h => h) (by rfl) ?_ (by assumption) ?_
      rotate_left
      · intro X hSX
        try dsimp only at hSX
        obtain ⟨-, c0, c1, c2, c3, c4, c5, c6, c7, c8, c9, c10⟩ := hSX.at_
        go_simp <;> with_reducible rfl
      simp only [Act.put, List.setIfInBounds_toArray, List.set_cons_zero, List.set_cons_succ]
      refine held_take (i := 2) (v := ?_) rfl (by kernel_rfl) (by kernel_rfl) (by kernel_rfl) (fun _ _ _ h => h) (by rfl) ?_ (by assumption) ?_
      rotate_left
      · intro X hSX
        try dsimp only at hSX
        go_simp <;> with_reducible rfl
      simp only [Act.put, List.setIfInBounds_toArray, List.set_cons_zero, List.set_cons_succ]
      refine held_call (i := 3) rfl (by kernel_rfl) (by rfl) (fun K' hK' => ?_)
      refine oper_of_list (ops := #[]) (by unfold Region.wanted; rfl) (st_hdr rfl (.tmp 5) (.tmp 65) rfl rfl G ad1 n cap1 rfl HR8.out (onlyN_end ?_))
      have hS9 : HdRow (wr.drew.setRow (w.heap.size + 1) (hdC G ad1 n cap1)) w.heap.size G ad1 n cap1 := HR9.out.putOther (k := w.heap.size + 1) (by omega) _
      refine held_go hK' (hS9) ?_
      try simp only [Act.put, List.setIfInBounds_toArray, List.set_cons_zero, List.set_cons_succ]
      refine held_take (i := 4) (v := ?_) rfl (by kernel_rfl) (by kernel_rfl) (by kernel_rfl) (fun _ _ _ h => h) (by rfl) ?_ (by assumption) ?_
      rotate_left
      · intro X hSX
        try dsimp only at hSX
        go_simp <;> with_reducible rfl
      simp only [Act.put, List.setIfInBounds_toArray, List.set_cons_zero, List.set_cons_succ]
      refine wpAnyH_done (by kernel_rfl) ?_ _
      refine NoPanic.normal ?_
      go_wp2_with fail
      refine post_tct (cs := hdC G ad1 n cap1) (x := u7) (y := .int .i64 0) rfl rfl (HR8.out.put G ad1 n cap1).row Tryd.underlying25 rfl infoHd rfl rfl rfl ?_
      have hK7 : Kq (wr.drew.setRow (w.heap.size + 1) (hdC G ad1 n cap1)) w.heap.size w.heap.size u7 (hbL G ++ payB G.vr p) := (HK9.out.keep (fun k hk _ => setRow_other _ _ _ _ (by omega)) (by simp [World.setRow])).mono (by omega) (by omega)
      obtain ⟨ad7, cap7, e7, -⟩ := hK7.read
      have hO7 := (HO9.out.row (k := w.heap.size + 1) (by omega) (hdC G ad1 n cap1)).hin
      have hB7 := below_set (hB.out.trans (HBX.out.mono hB.out.size)) (by omega : w.heap.size ≤ w.heap.size + 1) (hdC G ad1 n cap1)
      have hl7 := hO7.len
      subst hl7
      exact ⟨u7, ad1, cap1, by rw [HG.out], by rw [HG.out]; exact hK7, by rw [HG.out]; exact hO7, hB7⟩
    | succ gk0 =>
      have hAm : A < m := by rw [cnt_iff hs1 hA.out HNN.out]; have := HKN.out; omega
      have hsb : 1 ≤ s ∧ s ≤ 64 := by omega
      have HQ := Lib.hid (show piece s p k = (p.drop A).take s by unfold piece; rw [hA.out])
      have HQL := Lib.hid (show ((p.drop A).take s).length ≤ 64 by rw [List.length_take]; omega)
      have HMS := Lib.hid (map_snoc (fun i => pcB G.vr (piece s p i)) k)
      have HPL := Lib.hid (HL.out.below hB.out rfl)
      have HPC2 := Lib.hid (show p.length ≤ pcap by have := HM.out; have := HPC.out; omega)
      have HPN := Lib.hid (ptA_nil HPD.out A)
      generalize hq : (p.drop A).take s = q at *
      have HQE := Lib.hid hq
      clear hq
      obtain ⟨hsb1, hsb2⟩ := hsb
      go_upto_region 14 with fail
      go_cut [10] from 33 to 63 (fun s10 wx => ∃ adq cq, s10 = .slice adq q.length cq ∧ Hid (Own wx wr.heap.size (.slice adq q.length cq) q) ∧ Hid (Below wr.heap.size wr wx))
      case first =>
        rcases Nat.lt_trichotomy (A + s) m with h3 | h3 | h3
        · have hrun := run_part pd m pcap A (A + s) wr (by omega) (by have := HPC.out; omega)
          rw [Int.natCast_add, Nat.add_sub_cancel_left] at hrun
          have hlq := Lib.hid (show s = q.length by rw [← HQE.out, List.length_take, List.length_drop]; have := HM.out; omega)
          have hpt := Lib.hid (HQE.out ▸ HPL.out.pt HPC2.out A s)
          go_wp2_with (at_builtin; refine wpList_append_u rfl (.tmp 40) (.tmp 49) rfl wr.heap.size _ [] rfl (Own.ofNil _ _) (ptA pd pcap A) s (pcap - A) q HPN.out hpt.out hlq.out rfl (by simp; omega) (Nat.le_refl _) ?_; intro v1 w1 ho1 hg1; rw [List.nil_append] at ho1; have HO1 := Lib.hid ho1; have HB1 := Lib.hid ((Below.refl wr.heap.size wr).grown hg1 (Nat.le_refl _) (fun k hk => by cases hk)); clear ho1 hg1)
          go_meet
          case rel =>
            obtain ⟨adq, cq, rfl, -⟩ := HO1.out.slice
            exact ⟨adq, cq, rfl, HO1, HB1⟩
        · have hrun := run_part pd m pcap A m wr (by omega) HPC.out
          have hAs : (A : Int) + (s : Int) = (m : Int) := by omega
          have hlq := Lib.hid (show m - A = q.length by rw [← HQE.out, List.length_take, List.length_drop]; have := HM.out; omega)
          have hpt := Lib.hid (HQE.out ▸ HPL.out.pt HPC2.out A s)
          go_wp2_with (at_builtin; refine wpList_append_u rfl (.tmp 40) (.tmp 49) rfl wr.heap.size _ [] rfl (Own.ofNil _ _) (ptA pd pcap A) (m - A) (pcap - A) q HPN.out hpt.out hlq.out rfl (by simp; omega) (Nat.le_refl _) ?_; intro v1 w1 ho1 hg1; rw [List.nil_append] at ho1; have HO1 := Lib.hid ho1; have HB1 := Lib.hid ((Below.refl wr.heap.size wr).grown hg1 (Nat.le_refl _) (fun k hk => by cases hk)); clear ho1 hg1)
          go_meet
          case rel =>
            obtain ⟨adq, cq, rfl, -⟩ := HO1.out.slice
            exact ⟨adq, cq, rfl, HO1, HB1⟩
        · have hrun := run_part pd m pcap A m wr (by omega) HPC.out
          have hlq := Lib.hid (show m - A = q.length by rw [← HQE.out, List.length_take, List.length_drop]; have := HM.out; omega)
          have hpt := Lib.hid (HQE.out ▸ HPL.out.pt HPC2.out A s)
          go_wp2_with (at_builtin; refine wpList_append_u rfl (.tmp 40) (.tmp 49) rfl wr.heap.size _ [] rfl (Own.ofNil _ _) (ptA pd pcap A) (m - A) (pcap - A) q HPN.out hpt.out hlq.out rfl (by simp; omega) (Nat.le_refl _) ?_; intro v1 w1 ho1 hg1; rw [List.nil_append] at ho1; have HO1 := Lib.hid ho1; have HB1 := Lib.hid ((Below.refl wr.heap.size wr).grown hg1 (Nat.le_refl _) (fun k hk => by cases hk)); clear ho1 hg1)
          go_meet
          case rel =>
            obtain ⟨adq, cq, rfl, -⟩ := HO1.out.slice
            exact ⟨adq, cq, rfl, HO1, HB1⟩
      case rest =>
        obtain ⟨adq, cq, rfl, hOq, hBq⟩ := hcut
        have hBW : X5.heap.size ≤ wr.heap.size := hB5.out.size
        have HBW := Lib.hid hBW
        have HXc := Lib.hid (hX.out.below hBq.out hX.out.lt)
        have c2 := HXc.out.at_.c2
        have HKL := Lib.hid hK.out.lt
        have hlen1 : (hbL G ++ (List.range k).map fun i => pcB G.vr (piece s p i)).length + 1 ≤ 100000 := by
          have := HHL.out
          have := HKN.out
          simp
          omega
        rcases HVR.out with hv | hv
        · have k2 := eq_t hv
          have HD := Lib.hid (show pcB G.vr (piece s p k) = ⟨false, false, q ++ be4 (crc q)⟩ by rw [HQ.out]; unfold pcB; rw [if_pos hv])
          clear hv
          obtain ⟨adq2, cq2, eq2, hlq, -⟩ := hOq.out.slice
          cases eq2
          have HLQ := Lib.hid hlq
          clear hlq
          go_wp2_with fail
          refine (rcsum_any adq _ cq q _ HLQ.out rfl (by have := HQL.out; omega)).mono ?_
          rintro e w' ⟨rfl, rfl⟩
          go_wp2_with fail
          have HCC := Lib.hid (crc_lt q)
          generalize hcq : crc q = C at *
          clear hcq
          refine (rfour15_any C _ HCC.out).mono ?_
          rintro e w4 ⟨rfl, hl4, -, hb4⟩
          have HO4 := Lib.hid (hOq.out.below hb4)
          have HL4 := Lib.hid hl4
          have HB4 := Lib.hid (hBq.out.trans (hb4.mono hBq.out.size))
          have HS4 := Lib.hid (HB4.out.size)
          clear hl4 hb4
          have hq4 : q.length + 4 ≤ 10000000 := by have := HQL.out; omega
          obtain ⟨d, hd⟩ : ∃ d, d = q ++ be4 C := ⟨_, rfl⟩
          have HDD := Lib.hid hd
          clear hd
          replace HD := Lib.hid (show pcB G.vr (piece s p k) = ⟨false, false, d⟩ by rw [HD.out, HDD.out])
          go_wp2_with (first
            | (at_builtin; refine wpList_append_u rfl (.tmp 54) (.tmp 57) rfl wr.heap.size _ q rfl HO4.out _ 4 4 (be4 C) (fun h => by cases h) HL4.out rfl rfl hq4 HS4.out ?_; intro v5 w5 ho5 hg5; rw [← HDD.out] at ho5; have hb5 := HB4.out.grown hg5 HS4.out (fun k hk => (HO4.out.lt k hk).1); obtain ⟨ad5, cap5, rfl, hx5, h51, h52, h53⟩ := LieX.of_own (x := u7.ownBlock) ho5 (fun g hg => (HKL.out g hg).2); have HZ5 := Lib.hid (Kx.one (w := w5) false false ad5 d cap5 hx5 h51 h52 h53 _ rfl); have hb6 := hb5.alloc hb5.size (.cells #[.bool false, .bool false, .slice ad5 d.length cap5] 57); have HB6 := Lib.hid hb6; have HK6 := Lib.hid (hK.out.below hb6); have HW6 := Lib.hid (Nat.le_trans HBW.out hb6.size); clear ho5 hg5 hb5 hx5 h51 h52 h53 hb6)
            | (at_builtin; refine wpList_append_k rfl (.tmp 59) (.tmp 62) rfl X5.heap.size X5.heap.size wr.heap.size X5.heap.size u7 _ rfl HK6.out _ 1 1 [⟨false, false, d⟩] (fun h => by cases h) HZ5.out rfl rfl hlen1 HW6.out (Nat.le_refl _) HBW.out ?_; intro v7 w7 ho7 hg7 _; have HK7 := Lib.hid ho7; have HB7 := Lib.hid (((HB6.out.mono HBW.out).grown hg7 HW6.out (fun k hk => (HK6.out.lt k hk).1))); clear ho7 hg7))
          go_roundg gk0
          case rel => exact ⟨k + 1, A + s, by go_num, by have := HKN.out; omega, by omega, Lib.hid (by rw [hA.out, Nat.mul_add, Nat.mul_one]), Lib.hid (by rw [HMS.out, HD.out, ← List.append_assoc]; exact HK7.out), Lib.hid (hB5.out.trans HB7.out)⟩
          case measure => have := HKN.out; omega
        · have k2 := ne_t hv
          have HD := Lib.hid (show pcB G.vr (piece s p k) = ⟨false, false, q⟩ by rw [HQ.out]; unfold pcB; rw [if_neg hv])
          clear hv
          have ho5 := hOq.out
          obtain ⟨ad5, cap5, eq5, hx5, h51, h52, h53⟩ := LieX.of_own (x := u7.ownBlock) ho5 (fun g hg => (HKL.out g hg).2)
          cases eq5
          have hb5 := hBq.out
          have HZ5 := Lib.hid (Kx.one false false adq q cq hx5 h51 h52 h53 _ rfl)
          have hb6 := hb5.alloc hb5.size (.cells #[.bool false, .bool false, .slice adq q.length cq] 57)
          have HB6 := Lib.hid hb6
          have HK6 := Lib.hid (hK.out.below hb6)
          have HW6 := Lib.hid (Nat.le_trans HBW.out hb6.size)
          clear ho5 hb5 hx5 h51 h52 h53 hb6
          go_wp2_with (at_builtin; refine wpList_append_k rfl (.tmp 59) (.tmp 62) rfl X5.heap.size X5.heap.size wr.heap.size X5.heap.size u7 _ rfl HK6.out _ 1 1 [⟨false, false, q⟩] (fun h => by cases h) HZ5.out rfl rfl hlen1 HW6.out (Nat.le_refl _) HBW.out ?_; intro v7 w7 ho7 hg7 _; have HK7 := Lib.hid ho7; have HB7 := Lib.hid (((HB6.out.mono HBW.out).grown hg7 HW6.out (fun k hk => (HK6.out.lt k hk).1))); clear ho7 hg7)
          go_roundg gk0
          case rel => exact ⟨k + 1, A + s, by go_num, by have := HKN.out; omega, by omega, Lib.hid (by rw [hA.out, Nat.mul_add, Nat.mul_one]), Lib.hid (by rw [HMS.out, HD.out, ← List.append_assoc]; exact HK7.out), Lib.hid (hB5.out.trans HB7.out)⟩
          case measure => have := HKN.out; omega
end Go.Proofs.YtjiijjdmkeeilaaDoor
namespace Go.Proofs.YtjiijjdmkeeilaaDoor
open Go.RowKit
set_option linter.unusedVariables false
/-- a header with at most 66 entries -/
def smlH (h : Hdr) : Hdr := { h with es := h.es.take 66 }
/-- a call gives a header whose list lies -/
def RetHi (w : World) (h : Hdr) (e : Ending) (w' : World) : Prop := ∃ ad n cap, e = .returned (hdV h ad n cap) ∧ HdIn w' h ad n cap ∧ Below w.heap.size w w'
theorem new2 (w : World) (o : Obj) (h : Hdr) (ad : Option Addr) (n cap : Nat) : ((w.alloc o).alloc (boxH h ad n cap)).heap[w.heap.size + 1]? = some (.cells (hdC h ad n cap) 25 (0, 0)) := by
  have := (HdRow.new (w.alloc o) h ad n cap).row
  rwa [World.size_alloc] at this
set_option maxRecDepth 100000 in
set_option maxHeartbeats 2000000 in
theorem small_any (h : Hdr) (ad : Option Addr) (n cap : Nat) (w : World) (hin : HdIn w h ad n cap) :
    Calls Tryd.prog 9 #[hdV h ad n cap] w (RetHi w (smlH h)) := by
  have HN := Lib.hid hin
  clear hin
  by_cases h6 : 66 < n
  · have hc6 : 66 ≤ cap := by have := HN.out.le; omega
    go_enter Tryd.func9, Tryd.ntmps9
    go_wp2_with fail
    refine post_cell1 (cs := hdC (smlH h) ad 66 cap) rfl rfl (new2 w _ (smlH h) ad 66 cap) Tryd.underlying25 rfl infoHd rfl ?_
    have hh : HdIn w (smlH h) ad 66 cap := ⟨HN.out.lf.front celE 66, by show 66 = (h.es.take 66).length; rw [List.length_take]; have := HN.out.len; omega, hc6, HN.out.mx, HN.out.nn⟩
    exact ⟨ad, 66, cap, rfl, hh.below (co_box2 w _ _), co_box2 w _ _⟩
  · have he : smlH h = h := by
      unfold smlH
      rw [List.take_of_length_le (by have := HN.out.len; omega)]
    rw [he]
    go_enter Tryd.func9, Tryd.ntmps9
    go_wp2_with fail
    refine post_cell1 (cs := hdC h ad n cap) rfl rfl (new2 w _ h ad n cap) Tryd.underlying25 rfl infoHd rfl ?_
    exact ⟨ad, n, cap, rfl, HN.out.below (co_box2 w _ _), co_box2 w _ _⟩
end Go.Proofs.YtjiijjdmkeeilaaDoor
namespace Go.Proofs.YtjiijjdmkeeilaaDoor
open Go.RowKit
set_option linter.unusedVariables false
/-- a call gives bytes that lie, and changes nothing -/
def RetSl (w : World) (r : List UInt8) (e : Ending) (w' : World) : Prop :=
  ∃ ad cap, e = .returned (.slice ad r.length cap) ∧ Lie w ad r ∧ r.length ≤ cap ∧ cap ≤ maxLen ∧ (ad = none → cap = 0) ∧ w = w'
theorem lie_take {w : World} {ad : Option Addr} {xs : List UInt8} (h : Lie w ad xs) (k : Nat) : Lie w ad (xs.take k) := by
  rcases h.at_ with h0 | ⟨b, off, e, hlt, hc⟩
  · subst h0
    exact ⟨.inl (by simp)⟩
  · refine ⟨.inr ⟨b, off, e, hlt, fun j hj => ?_⟩⟩
    rw [List.length_take] at hj
    rw [List.getElem_take]
    exact hc j (by omega)
set_option maxRecDepth 100000 in
set_option maxHeartbeats 1000000 in
theorem short_any (ad : Option Addr) (n cap : Nat) (xs : List UInt8) (w : World) (hl : Lie w ad xs) (hn : n = xs.length) (hc : n ≤ cap) (hm : cap ≤ maxLen) (hz : ad = none → cap = 0) :
    Calls Tryd.prog 10 #[.slice ad n cap] w (RetSl w (xs.take 600)) := by
  by_cases h6 : 600 < n
  · have hL : (xs.take 600).length = 600 := by rw [List.length_take]; omega
    have hr : RetSl w (xs.take 600) (.returned (.slice ad 600 cap)) w := ⟨ad, cap, by rw [hL], lie_take hl _, by omega, hm, hz, rfl⟩
    have hc6 : 600 ≤ cap := by omega
    clear hl hn hz hL
    go_enter Tryd.func10, Tryd.ntmps10
    go_wp2
    go_ret
    exact hr
  · have hr : RetSl w (xs.take 600) (.returned (.slice ad n cap)) w := by
      rw [List.take_of_length_le (by omega)]
      exact ⟨ad, cap, by rw [hn], hl, by omega, hm, hz, rfl⟩
    clear hl hn hz
    go_enter Tryd.func10, Tryd.ntmps10
    go_wp2
    go_ret
    exact hr
end Go.Proofs.YtjiijjdmkeeilaaDoor
