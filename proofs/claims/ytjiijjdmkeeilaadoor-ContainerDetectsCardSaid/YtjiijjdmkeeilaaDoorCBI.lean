/-
  The program's Build.
  The program keeps the contracts of the package's functions.
-/
import Derived.Test.YtjiijjdmkeeilaaDoorCBF
import Derived.Test.YtjiijjdmkeeilaaDoorCpDiv
import Derived.Test.YtjiijjdmkeeilaaDoorCAX
import Derived.Test.YtjiijjdmkeeilaaDoorCpPay
import Derived.Test.YtjiijjdmkeeilaaDoorCpExt
namespace Go.Proofs.YtjiijjdmkeeilaaDoor
open Go.RowKit
set_option linter.unusedVariables false
set_option linter.unusedSimpArgs false
attribute [local irreducible] prtsB encH hbL payB szP
set_option maxRecDepth 100000 in
set_option maxHeartbeats 8000000 in
theorem build_any (h : Hdr) (ad : Option Addr) (n cap : Nat) (pd : Option Addr) (m pcap : Nat) (p : List UInt8) (w : World) (hin : HdIn w h ad n cap) (hs : ∀ e ∈ h.es, e.s < 4294967296) (hn : n ≤ 100000) (hl : Lie w pd p) (hm : m = p.length) (hpc : m ≤ pcap) (hpm : pcap ≤ maxLen) (hpd : pd = none → pcap = 0) (hm2 : m ≤ 90000) (hmg : Mag w) :
    Calls Tryd.prog 11 #[hdV h ad n cap, .slice pd m pcap] w (RetBH w (bldR h p)) := by
  have HS := Lib.hid hs
  have HX0 := Lib.hid ((HdRow.new w h ad n cap).below (co_box1 _ (boxH .zero none 0 0)) (by simp))
  have HY0 := Lib.hid (HdRow.new (w.alloc (boxH h ad n cap)) .zero none 0 0)
  have HB0 := Lib.hid (co_box2 w (boxH h ad n cap) (boxH .zero none 0 0))
  have HIN := Lib.hid hin
  have HL := Lib.hid hl
  have HMG := Lib.hid hmg
  have HSZ := Lib.hid (show w.heap.size + 2 ≤ ((w.alloc (boxH h ad n cap)).alloc (boxH .zero none 0 0)).heap.size by simp)
  rw [World.size_alloc] at HY0
  have HN := Lib.hid hin.len
  have HM := Lib.hid hm
  have HPC := Lib.hid hpc
  have HPM := Lib.hid hpm
  have HPD := Lib.hid hpd
  clear hin hs hl hm hpc hpm hpd hmg
  go_enter Tryd.func11, Tryd.ntmps11
  go_wp2_with fail
  change Calls Tryd.prog 31 _ ((w.alloc (boxH h ad n cap)).alloc (boxH .zero none 0 0)) _
  generalize World.alloc (World.alloc w _) _ = X0 at *
  refine (csum_any pd m pcap p _ (HL.out.below HB0.out rfl) HM.out (by have := HM.out; omega)).mono ?_
  rintro e X1 ⟨rfl, hb1⟩
  have HX1 := Lib.hid (HX0.out.below hb1 HX0.out.lt)
  have HY1 := Lib.hid (HY0.out.below hb1 HY0.out.lt)
  have HB1 := Lib.hid (HB0.out.trans (hb1.mono HB0.out.size))
  clear HX0 HY0 HB0 hb1
  have c9 := HX1.out.at_.c9
  have f9 := HX1.out.frozen 9
  have HX2 := Lib.hid (HX1.out.setZ (m : Int))
  have HY2 := Lib.hid (HY1.out.other (k := w.heap.size) (by omega) 9 (.int .i64 (m : Int)))
  have HB2 := Lib.hid (HB1.out.setCell (p := ⟨w.heap.size, 9, none⟩) (Nat.le_refl _) (.int .i64 (m : Int)))
  have c10 := HX2.out.at_.c10
  have f10 := HX2.out.frozen 10
  have HG := Lib.hid (show bldR h p = if vldH (hdP h p) = true then (if prtsB (hdP h p).es p = true then (hbL (hdP h p) ++ payB (hdP h p).vr p, hdP h p, 0) else ([], .zero, 4)) else ([], .zero, 8) from rfl)
  have HX3 : Hid (HdRow ((X1.setCell ⟨w.heap.size, 9, none⟩ (.int .i64 (m : Int))).setCell ⟨w.heap.size, 10, none⟩ (.int .u32 ((crc p : Nat) : Int))) w.heap.size (hdP h p) ad n cap) := Lib.hid (by
    have := HX2.out.setS (crc p)
    rw [show ({ ({ h with sz := (m : Int) } : Hdr) with sm := crc p } : Hdr) = hdP h p by rw [HM.out]; rfl] at this
    exact this)
  have HY3 := Lib.hid (HY2.out.other (k := w.heap.size) (by omega) 10 (.int .u32 ((crc p : Nat) : Int)))
  have HB3 := Lib.hid (HB2.out.setCell (p := ⟨w.heap.size, 10, none⟩) (Nat.le_refl _) (.int .u32 ((crc p : Nat) : Int)))
  have HIG : Hid (HdIn w (hdP h p) ad n cap) := Lib.hid ⟨HIN.out.lf, HIN.out.len, HIN.out.le, HIN.out.mx, HIN.out.nn⟩
  have HSG : Hid (∀ e ∈ (hdP h p).es, e.s < 4294967296) := Lib.hid HS.out
  have HSM : Hid ((hdP h p).sm < 4294967296) := Lib.hid (crc_lt p)
  have HVS := Lib.hid (fun hv => @vld_small h p hv)
  have HVU : Hid (VHdr (hdP h p) → sumE (hdP h p).es ≤ p.length) := Lib.hid (fun hv => @vld_sum h p hv)
  have HNG : Hid (n = (hdP h p).es.length) := Lib.hid HN.out
  go_wp2_with (with_reducible refine ld_hdr rfl (.tmp 2) rfl rfl HX3.out ?_)
  clear c9 f9 c10 f10 HX1 HY1 HB1 HX2 HY2 HB2 HS HIN HN
  generalize World.setCell (World.setCell _ _ _) _ _ = X3 at *
  generalize hdP h p = G at *
  refine (valid15_any G ad n cap _ (HIG.out.below HB3.out) HSG.out).mono ?_
  rintro e X4 ⟨rfl, hb4⟩
  have HX4 := Lib.hid (HX3.out.below hb4 HX3.out.lt)
  have HY4 := Lib.hid (HY3.out.below hb4 HY3.out.lt)
  have HB4 := Lib.hid (HB3.out.trans (hb4.mono HB3.out.size))
  clear HX3 HY3 HB3 hb4
  have HVI := Lib.hid (@vldH_iff G)
  generalize vldH G = V at *
  cases V
  · have HR := Lib.hid (HG.out.trans (if_neg (by simp)))
    go_wp2_with (with_reducible refine st_hdr rfl (.tmp 5) (.tmp 19) rfl rfl .zero none 0 0 rfl HY4.out ?_)
    refine post_tct (cs := hdC .zero none 0 0) (x := .slice none 0 0) (y := .int .i64 8) rfl rfl (HY4.out.put .zero none 0 0).row Tryd.underlying25 rfl infoHd rfl rfl rfl ?_
    exact retBH0 HR.out (below_set HB4.out (by omega) _)
  have HV := Lib.hid (HVI.out.1 (by simp))
  replace HG := Lib.hid (HG.out.trans (if_pos (by simp)))
  clear HVI HVS
  have c8 := HX4.out.at_.c8
  go_wp2_with fail
  refine (havesums_any ad n cap G.es pd m pcap p _ (HIG.out.below HB4.out).lf HNG.out (by omega) (fun e he => (VEs.all HV.out e he).2.2.2.1.1) (by have := HVU.out HV.out; have := HM.out; omega) (HL.out.below HB4.out rfl) HM.out HPC.out HPM.out (by omega)).mono ?_
  rintro e X5 ⟨rfl, hb5⟩
  have HX5 := Lib.hid (HX4.out.below hb5 HX4.out.lt)
  have HY5 := Lib.hid (HY4.out.below hb5 HY4.out.lt)
  have HB5 := Lib.hid (HB4.out.trans (hb5.mono HB4.out.size))
  clear HX4 HY4 HB4 hb5 c8
  generalize prtsB G.es p = V at *
  cases V
  · have HR := Lib.hid (HG.out.trans (if_neg (by simp)))
    go_wp2_with (with_reducible refine st_hdr rfl (.tmp 5) (.tmp 25) rfl rfl .zero none 0 0 rfl HY5.out ?_)
    refine post_tct (cs := hdC .zero none 0 0) (x := .slice none 0 0) (y := .int .i64 4) rfl rfl (HY5.out.put .zero none 0 0).row Tryd.underlying25 rfl infoHd rfl rfl rfl ?_
    exact retBH0 HR.out (below_set HB5.out (by omega) _)
  replace HG := Lib.hid (HG.out.trans (if_pos (by simp)))
  have c8 := HX5.out.at_.c8
  go_wp2_with fail
  refine (eclone_any ad n cap G.es _ (HIG.out.below HB5.out).lf HNG.out HIG.out.nn (by have := HNG.out; omega)).mono ?_
  rintro e X6 ⟨ad6, cap6, rfl, ho6, hb6⟩
  rw [← HNG.out]
  have HX6 := Lib.hid (HX5.out.below hb6 HX5.out.lt)
  have HY6 := Lib.hid (HY5.out.below hb6 HY5.out.lt)
  have HB6 := Lib.hid (HB5.out.trans (hb6.mono HB5.out.size))
  have HO6 : Hid (HdOw X6 X5.heap.size G ad6 n cap6) := Lib.hid ⟨by rw [HNG.out]; exact ho6, HNG.out⟩
  have hlt5 := HY5.out.lt
  clear HX5 HY5 HB5 hb6 ho6 c8
  have c8 := HX6.out.at_.c8
  have f8 := HX6.out.frozen 8
  have HX7 : Hid (HdRow (X6.setCell ⟨w.heap.size, 8, none⟩ (.slice ad6 n cap6)) w.heap.size G ad6 n cap6) := Lib.hid (HX6.out.setE G.es ad6 n cap6)
  have HY7 := Lib.hid (HY6.out.other (k := w.heap.size) (by omega) 8 (.slice ad6 n cap6))
  have HB7 := Lib.hid (HB6.out.setCell (p := ⟨w.heap.size, 8, none⟩) (Nat.le_refl _) (.slice ad6 n cap6))
  have HO7 := Lib.hid (HO6.out.cell (k := w.heap.size) (by omega) 8 (.slice ad6 n cap6))
  go_wp2_with (with_reducible refine ld_hdr rfl (.tmp 2) rfl rfl HX7.out ?_)
  clear c8 f8 HX6 HY6 HB6 HO6
  generalize World.setCell _ _ _ = X7 at *
  refine (encoding_any G ad6 n cap6 _ HO7.out.hin HV.out HSM.out HSG.out).mono ?_
  rintro e X8 ⟨v8, rfl, ho8, hb8⟩
  have HX8 := Lib.hid (HX7.out.below hb8 HX7.out.lt)
  have HY8 := Lib.hid (HY7.out.below hb8 HY7.out.lt)
  have HB8 := Lib.hid (HB7.out.trans (hb8.mono HB7.out.size))
  have HO8 := Lib.hid (HO7.out.below hb8)
  obtain ⟨ad8, cap8, rfl, hl8, hc8, hm8, ha8⟩ := ho8.slice
  have HL8 := Lib.hid hl8
  have HA8 := Lib.hid ha8
  have HEL := Lib.hid (encH_len HV.out HSM.out HSG.out)
  have HHB := Lib.hid (show hbL G = divB (frm (encH G)) by unfold hbL; rfl)
  clear hb8 ho8 hl8 hc8 hm8 ha8 HX7 HY7 HB7 HO7
  generalize encH G = E at *
  go_wp2_with fail
  refine (append_any none ad8 0 0 _ cap8 [] E _ (.nil _ _) rfl (by simp) (fun _ => rfl) HL8.out rfl (by have := HEL.out; omega) HA8.out (HMG.out.step HB8.out)).mono ?_
  rintro e X9 ⟨v9, rfl, ho9, hb9⟩
  rw [List.nil_append] at ho9
  have HX9 := Lib.hid (HX8.out.below hb9 HX8.out.lt)
  have HY9 := Lib.hid (HY8.out.below hb9 HY8.out.lt)
  have HB9 := Lib.hid (HB8.out.trans (hb9.mono HB8.out.size))
  have HO9 := Lib.hid (HO8.out.below hb9)
  obtain ⟨ad9, cap9, rfl, hl9, hc9, hm9, ha9⟩ := ho9.slice
  have HL9 := Lib.hid hl9
  have HA9 := Lib.hid ha9
  have HC9 := Lib.hid hc9
  have HM9 := Lib.hid hm9
  have HFL := Lib.hid (show (frm E).length ≤ 5000 by rw [frm_length]; have := HEL.out; omega)
  clear hb9 ho9 hl9 hc9 hm9 ha9 HX8 HY8 HB8 HO8 HL8 HA8 HEL
  generalize frm E = F at *
  go_wp2_with (with_reducible refine ld_hdr rfl (.tmp 2) rfl rfl HX9.out ?_)
  have hvr : G.vr = 1 ∨ G.vr = 2 := by have := HV.out.1.2.1; omega
  have HLY := Lib.hid (fun W => layout_any G ad6 n cap6 W hvr)
  have HDV := Lib.hid (fun W hW => divideP_any G.vr pd m pcap (szP G.vr) p W hvr hW HM.out HPC.out HPM.out HPD.out (by omega) rfl)
  have HPR := Lib.hid (show prtU G.vr = (szP G.vr : Int) by rcases szP_cases G.vr with ⟨_, e1, e2⟩ | ⟨_, e1, e2⟩ <;> rw [e1, e2] <;> rfl)
  rw [HPR.out] at HLY HDV
  have HPBL := Lib.hid (show (payB G.vr p).length ≤ 5000 by
    have hm3 := HM.out
    unfold payB
    rw [List.length_map, List.length_range]
    rcases szP_cases G.vr with ⟨_, e, _⟩ | ⟨_, e, _⟩ <;> (rw [e]; omega))
  have HHBL := Lib.hid (hbL_short HV.out HSM.out HSG.out)
  clear HPR hvr
  generalize payB G.vr p = PB at *
  generalize szP G.vr = s at *
  generalize decide (G.vr = 2) = dv at *
  refine (HLY.out _).mono ?_
  rintro e Z0 ⟨rfl, hb10⟩
  have HX10 := Lib.hid ((HX9.out.below hb10 HX9.out.lt).below (co_box1 Z0 (.cells #[.int .i64 (s : Int), .bool dv] 65)) (Nat.lt_of_lt_of_le HX9.out.lt hb10.size))
  have HY10 := Lib.hid ((HY9.out.below hb10 HY9.out.lt).below (co_box1 Z0 (.cells #[.int .i64 (s : Int), .bool dv] 65)) (Nat.lt_of_lt_of_le HY9.out.lt hb10.size))
  have HB10 := Lib.hid ((HB9.out.trans (hb10.mono HB9.out.size)).alloc (Nat.le_trans HB9.out.size hb10.size) (.cells #[.int .i64 (s : Int), .bool dv] 65))
  have HO10 := Lib.hid ((HO9.out.below hb10).below (co_box1 Z0 (.cells #[.int .i64 (s : Int), .bool dv] 65)))
  have HL10 := Lib.hid ((HL9.out.below hb10 rfl).below (co_box1 Z0 (.cells #[.int .i64 (s : Int), .bool dv] 65)) rfl)
  have HW10 := Lib.hid (heap_alloc_new Z0 (.cells #[.int .i64 (s : Int), .bool dv] 65))
  have HZ10 := Lib.hid (show Z0.heap.size < (Z0.alloc (.cells #[.int .i64 (s : Int), .bool dv] 65)).heap.size by simp)
  have hg9l : w.heap.size + 1 < Z0.heap.size := Nat.lt_of_lt_of_le HY9.out.lt hb10.size
  clear hb10 HX9 HY9 HB9 HO9 HL9 HLY
  go_wp2_with fail
  obtain ⟨g9, hg9⟩ : ∃ g9, g9 = Z0.heap.size := ⟨_, rfl⟩
  rw [← hg9] at HW10 HZ10 hg9l ⊢
  clear hg9
  generalize World.alloc Z0 _ = Z1 at *
  have HBX := Lib.hid (Below.refl Z1.heap.size Z1).drew
  have HX11 := Lib.hid (HX10.out.below HBX.out HX10.out.lt)
  have HY11 := Lib.hid (HY10.out.below HBX.out HY10.out.lt)
  have HB11 := Lib.hid (HB10.out.trans (HBX.out.mono HB10.out.size))
  have HO11 := Lib.hid (HO10.out.below HBX.out)
  have HL11 := Lib.hid (HL10.out.below HBX.out rfl)
  have HW11 := Lib.hid ((HBX.out.block _ HZ10.out).trans HW10.out)
  clear HX10 HY10 HB10 HO10 HL10 HW10
  refine wp_region_noPanic ?_
  refine wp_region_held_drew (S := (fun X => HdRow X w.heap.size G ad6 n cap6 ∧ X.heap[g9]? = some (.cells #[.int .i64 (s : Int), .bool dv] 65 (0, 0)))) (by kernel_rfl) (⟨HX11.out, HW11.out⟩) (fun hS0 => ?_)
  clear HBX
  generalize World.drew Z1 = Z2 at *
  have hlx := HX11.out.lt
  have hly := HY11.out.lt
  have hl9 := (Array.getElem?_eq_some_iff.1 HW11.out).1
  have HLX := Lib.hid (And.intro hlx (And.intro hly hl9))
  clear hlx hly hl9
  refine held_take (i := 0) (v := ?_) rfl (by kernel_rfl) (by kernel_rfl) (by kernel_rfl) (fun _ _ _ h => h) (by rfl) ?_ (by assumption) ?_
  rotate_left
  · intro X hSX
    try dsimp only at hSX
    go_simp <;> with_reducible rfl
  simp only [Act.put, List.setIfInBounds_toArray, List.set_cons_zero, List.set_cons_succ]
  refine held_take (i := 2) (v := ?_) rfl (by kernel_rfl) (by kernel_rfl) (by kernel_rfl) (fun _ _ _ h => h) (by rfl) ?_ (by assumption) ?_
  rotate_left
  · intro X hSX
    try dsimp only at hSX
    go_simp <;> with_reducible rfl
  simp only [Act.put, List.setIfInBounds_toArray, List.set_cons_zero, List.set_cons_succ]
  refine held_take (i := 3) (v := ?_) rfl (by kernel_rfl) (by kernel_rfl) (by kernel_rfl) (fun _ _ _ h => h) (by rfl) ?_ (by assumption) ?_
  rotate_left
  · intro X hSX
    try dsimp only at hSX
    go_simp <;> with_reducible rfl
  simp only [Act.put, List.setIfInBounds_toArray, List.set_cons_zero, List.set_cons_succ]
  refine held_take (i := 4) (v := ?_) rfl (by kernel_rfl) (by kernel_rfl) (by kernel_rfl) (fun _ _ _ h => h) (by rfl) ?_ (by assumption) ?_
  rotate_left
  · intro X hSX
    try dsimp only at hSX
    have d0 : X.cell? ⟨g9, 0, none⟩ = some (.int .i64 (s : Int)) := cell_of_row X g9 0 _ _ _ hSX.2
    go_simp <;> with_reducible rfl
  simp only [Act.put, List.setIfInBounds_toArray, List.set_cons_zero, List.set_cons_succ]
  refine held_take (i := 5) (v := ?_) rfl (by kernel_rfl) (by kernel_rfl) (by kernel_rfl) (fun _ _ _ h => h) (by rfl) ?_ (by assumption) ?_
  rotate_left
  · intro X hSX
    try dsimp only at hSX
    have d0 : X.cell? ⟨g9, 0, none⟩ = some (.int .i64 (s : Int)) := cell_of_row X g9 0 _ _ _ hSX.2
    have d1 : X.cell? ⟨g9, 1, none⟩ = some (.bool dv) := cell_of_row X g9 1 _ _ _ hSX.2
    go_simp <;> with_reducible rfl
  simp only [Act.put, List.setIfInBounds_toArray, List.set_cons_zero, List.set_cons_succ]
  refine held_take (i := 6) (v := ?_) rfl (by kernel_rfl) (by kernel_rfl) (by kernel_rfl) (fun _ _ _ h => h) (by rfl) ?_ (by assumption) ?_
  rotate_left
  · intro X hSX
    try dsimp only at hSX
    go_simp <;> with_reducible rfl
  simp only [Act.put, List.setIfInBounds_toArray, List.set_cons_zero, List.set_cons_succ]
  refine held_take (i := 9) (v := ?_) rfl (by kernel_rfl) (by kernel_rfl) (by kernel_rfl) (fun _ _ _ h => h) (by rfl) ?_ (by assumption) ?_
  rotate_left
  · intro X hSX
    try dsimp only at hSX
    obtain ⟨-, c0, c1, c2, c3, c4, c5, c6, c7, c8, c9, c10⟩ := hSX.1.at_
    go_simp <;> with_reducible rfl
  simp only [Act.put, List.setIfInBounds_toArray, List.set_cons_zero, List.set_cons_succ]
  refine held_call (i := 1) rfl (by kernel_rfl) (by rfl) (fun K' hK' => ?_)
  go_simp
  refine (divide_any ad9 _ cap9 F _ HL11.out rfl HC9.out HM9.out HA9.out (by have := HFL.out; omega)).mono ?_
  rintro e Z3 ⟨v3, rfl, hk3, hb3⟩
  have HX12 := Lib.hid (HX11.out.below hb3 HX11.out.lt)
  have HY12 := Lib.hid (HY11.out.below hb3 HY11.out.lt)
  have HB12 := Lib.hid (HB11.out.trans (hb3.mono HB11.out.size))
  have HBZ3 := Lib.hid hb3
  have HW12 := Lib.hid ((hb3.block _ (Array.getElem?_eq_some_iff.1 HW11.out).1).trans HW11.out)
  have HK12 := Lib.hid hk3
  have HSZ3 := Lib.hid hb3.size
  have HS2 := Lib.hid HB11.out.size
  clear hk3 hb3 HX11 HY11 HB11 HW11 HL11 hS0
  rw [← HHB.out] at HK12
  have hs12 : HdRow Z3 w.heap.size G ad6 n cap6 ∧ Z3.heap[g9]? = some (.cells #[.int .i64 (s : Int), .bool dv] 65 (0, 0)) := ⟨HX12.out, HW12.out⟩
  refine held_go hK' (hs12) ?_
  try simp only [Act.put, List.setIfInBounds_toArray, List.set_cons_zero, List.set_cons_succ]
  refine held_call (i := 7) rfl (by kernel_rfl) (by rfl) (fun K' hK' => ?_)
  go_simp
  refine (HDV.out _ (HL.out.below HB12.out rfl)).mono ?_
  rintro e Z4 ⟨v4, rfl, hk4, hb4⟩
  have HX13 := Lib.hid (HX12.out.below hb4 HX12.out.lt)
  have HY13 := Lib.hid (HY12.out.below hb4 HY12.out.lt)
  have HB13 := Lib.hid (HB12.out.trans (hb4.mono HB12.out.size))
  have HBZ4 := Lib.hid (HBZ3.out.trans (hb4.mono HBZ3.out.size))
  have HW13 := Lib.hid ((hb4.block _ (Array.getElem?_eq_some_iff.1 HW12.out).1).trans HW12.out)
  have HK13 := Lib.hid (HK12.out.below hb4)
  have HLT3 := Lib.hid HK12.out.lt
  have HKK := Lib.hid hk4
  have HSZ4 := Lib.hid (Nat.le_trans HSZ3.out hb4.size)
  have HPL := Lib.hid (show (hbL G).length + PB.length ≤ 100000 by have := HPBL.out; have := HHBL.out; omega)
  clear hk4 hb4 HX12 HY12 HB12 HBZ3 HW12 HK12 hs12
  have hs13 : HdRow Z4 w.heap.size G ad6 n cap6 ∧ Z4.heap[g9]? = some (.cells #[.int .i64 (s : Int), .bool dv] 65 (0, 0)) := ⟨HX13.out, HW13.out⟩
  refine held_go hK' (hs13) ?_
  try simp only [Act.put, List.setIfInBounds_toArray, List.set_cons_zero, List.set_cons_succ]
  obtain ⟨ad4, cap4, rfl, hx4, hc4, hm4, ha4, -⟩ := HKK.out.read
  have HX4 := Lib.hid (hx4.other (z := v3.ownBlock) (fun g e => (HLT3.out g e).2))
  have HA4 := Lib.hid ha4
  clear hx4 hc4 hm4 ha4 hs13
  refine held_call (i := 8) rfl (by kernel_rfl) (by rfl) (fun K' hK' => ?_)
  refine oper_of_list (ops := #[]) (by unfold Region.wanted; rfl) (wpList_append_k rfl (.tmp 39) (.tmp 45) rfl Z2.heap.size Z2.heap.size Z3.heap.size Z2.heap.size v3 (hbL G) rfl HK13.out ad4 _ cap4 PB HA4.out HX4.out rfl rfl HPL.out HSZ4.out (Nat.le_refl _) HSZ3.out (fun v5 Z5 hk5 hg5 _ => onlyN_end ?_))
  have HK5 := Lib.hid hk5
  have HBZ5 := Lib.hid (HBZ4.out.grown hg5 HBZ4.out.size (fun k hk => (HK13.out.lt k hk).1))
  have hb5 : Below Z2.heap.size Z4 Z5 := (Below.refl Z2.heap.size Z4).grown hg5 HBZ4.out.size (fun k hk => (HK13.out.lt k hk).1)
  have HX14 := Lib.hid (HX13.out.below hb5 HLX.out.1)
  have HY14 := Lib.hid (HY13.out.below hb5 HLX.out.2.1)
  have HW14 := Lib.hid ((hb5.block _ HLX.out.2.2).trans HW13.out)
  have HB14 := Lib.hid (HB13.out.trans (hb5.mono HS2.out))
  clear hk5 hg5 hb5 HX13 HY13 HW13 HB13 HBZ4 HK13 HX4
  have hs14 : HdRow Z5 w.heap.size G ad6 n cap6 ∧ Z5.heap[g9]? = some (.cells #[.int .i64 (s : Int), .bool dv] 65 (0, 0)) := ⟨HX14.out, HW14.out⟩
  refine held_go hK' (hs14) ?_
  try simp only [Act.put, List.setIfInBounds_toArray, List.set_cons_zero, List.set_cons_succ]
  refine held_take (i := 10) (v := ?_) rfl (by kernel_rfl) (by kernel_rfl) (by kernel_rfl) (fun _ _ _ h => h) (by rfl) ?_ (by assumption) ?_
  rotate_left
  · intro X hSX
    try dsimp only at hSX
    go_simp <;> with_reducible rfl
  simp only [Act.put, List.setIfInBounds_toArray, List.set_cons_zero, List.set_cons_succ]
  clear hs14
  have HG9 := Lib.hid (show w.heap.size + 1 ≠ g9 by omega)
  refine held_call (i := 11) rfl (by kernel_rfl) (by rfl) (fun K' hK' => ?_)
  refine oper_of_list (ops := #[]) (by unfold Region.wanted; rfl) (st_hdr rfl (.tmp 5) (.tmp 47) rfl rfl G ad6 n cap6 rfl HY14.out (onlyN_end ?_))
  have hs15 : HdRow (Z5.setRow (w.heap.size + 1) (hdC G ad6 n cap6)) w.heap.size G ad6 n cap6 ∧ (Z5.setRow (w.heap.size + 1) (hdC G ad6 n cap6)).heap[g9]? = some (.cells #[.int .i64 (s : Int), .bool dv] 65 (0, 0)) := ⟨HX14.out.putOther (by omega) _, (setRow_other _ _ _ _ HG9.out.symm).trans HW14.out⟩
  refine held_go hK' (hs15) ?_
  try simp only [Act.put, List.setIfInBounds_toArray, List.set_cons_zero, List.set_cons_succ]
  refine held_take (i := 12) (v := ?_) rfl (by kernel_rfl) (by kernel_rfl) (by kernel_rfl) (fun _ _ _ h => h) (by rfl) ?_ (by assumption) ?_
  rotate_left
  · intro X hSX
    try dsimp only at hSX
    go_simp <;> with_reducible rfl
  simp only [Act.put, List.setIfInBounds_toArray, List.set_cons_zero, List.set_cons_succ]
  refine wpAnyH_done (by kernel_rfl) ?_ _
  refine NoPanic.normal ?_
  go_wp2_with fail
  refine post_tct (cs := hdC G ad6 n cap6) (x := v5) (y := .int .i64 0) rfl rfl (HY14.out.put G ad6 n cap6).row Tryd.underlying25 rfl infoHd rfl rfl rfl ?_
  refine ⟨v5, ad6, cap6, ?_, ?_, ?_, below_set HB14.out (by omega) _⟩
  · rw [HG.out]; dsimp only; rw [← HNG.out]
  · rw [HG.out]
    exact (HK5.out.keep (fun k hk _ => setRow_other _ _ _ _ (by have := HLX.out.2.1; omega)) (by simp [World.setRow])).mono (by have := HLX.out.1; omega) (by have := HLX.out.1; omega)
  · rw [HG.out]
    dsimp only
    rw [← HNG.out]
    have ho := HO11.out.keep (w' := Z5.setRow (w.heap.size + 1) (hdC G ad6 n cap6)) (fun g hg hl => (setRow_other _ _ _ _ (by omega)).trans (HBZ5.out.block g hl))
    exact ho.hin
end Go.Proofs.YtjiijjdmkeeilaaDoor
namespace Go.Proofs.YtjiijjdmkeeilaaDoor
open Go.RowKit
theorem side15_prog : CoSide Mag where
  step := fun w w' h hb => h.step hb
  valid := fun h ad n cap w hi hf _ => valid15_any h ad n cap w hi hf.2
  head := fun h ad n cap w hi hf _ => headblocks_any h ad n cap w hi hf.1 hf.2
  blocks := fun h ad n cap w hi hf _ => blocksh_any h ad n cap w hi hf.1 hf.2
  build := fun h ad n cap pd m pcap p w hi hf hn hl hm hpc hpm hpd hm2 hmg => build_any h ad n cap pd m pcap p w hi hf.2 (by omega) hl hm hpc hpm hpd (by omega) hmg
  parse := fun ad n cap l w hl hn hc hcm _ hs hd hm => parse15_any ad n cap l w hl hn hc hcm hs hd hm
  payload := fun ad n cap l w hl hn hc hcm _ hs hd hm => payload15_any ad n cap l w hl hn hc hcm hs hd hm
  need := fun h ad n cap j o l w hi hf _ => need_any h ad n cap j o l w hi hf.2 hf.1
  extract := fun h ad n cap j o l bd m bcap bl w hi hf hl hm _ _ _ hs hd _ => extract_any h ad n cap j o l bd m bcap bl w hi hf.2 hf.1 hl hm (by omega) (fun b hb => by have := hd b hb; omega)
end Go.Proofs.YtjiijjdmkeeilaaDoor
