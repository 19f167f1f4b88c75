/-
  The program's Parse.
  The program's haveSums.
  The program's layoutOf, pieces.
-/
import Derived.Test.YtjiijjdmkeeilaaDoorCBA
import Derived.Test.YtjiijjdmkeeilaaDoorCpDec
import Derived.Test.YtjiijjdmkeeilaaDoorCoPar2
import Derived.Test.YtjiijjdmkeeilaaDoorCBC
import Derived.Test.YtjiijjdmkeeilaaDoorCAI
import Derived.Test.YtjiijjdmkeeilaaDoorCAP
import Derived.IntWalk
import Derived.Test.YtjiijjdmkeeilaaDoorCAO
namespace Go.Proofs.YtjiijjdmkeeilaaDoor
open Go.RowKit
set_option linter.unusedVariables false
set_option linter.unusedSimpArgs false
attribute [local irreducible] decP bytB bodyAt parH cntB eqD divB
set_option maxRecDepth 100000 in
set_option maxHeartbeats 8000000 in
theorem parse15_any (ad : Option Addr) (n cap : Nat) (l : List Blk) (w : World) (hl : Ki w ad l) (hn : n = l.length) (hc : n ≤ cap) (hcm : cap ≤ maxLen) (hs : n ≤ 200) (hd : ∀ b ∈ l, b.d.length ≤ 100) (hmg : Mag w) :
    Calls Tryd.prog 23 #[.slice ad n cap] w (RetH3 w (parH l)) := by
  have HX0 := Lib.hid (HdRow.new w .zero none 0 0)
  have HB0 := Lib.hid (co_box1 w (boxH .zero none 0 0))
  have HL := Lib.hid hl
  have HN := Lib.hid hn
  have HC := Lib.hid hc
  have HM := Lib.hid hmg
  have HBL := Lib.hid (show (bytB l).length ≤ 20000 by have := bytB_le l n 100 (by omega) hd; omega)
  have HBY := Lib.hid (fun W (hW : Below w.heap.size w W) => bytes_any ad n cap l W (hl.below hW) hn hc hcm (by omega) (fun b hb => by have := hd b hb; omega))
  have HPN := Lib.hid (@parH_next l)
  have HPG := Lib.hid (fun e N => @parH_prog l e N)
  have HKB := Lib.hid (fun N => hl.pt (cap := cap) (by omega) 0 N)
  have HBD := Lib.hid (body_le (bytB l) 0)
  have HCE := Lib.hid (@chk_end (bytB l))
  clear hl hn hc hcm hd hmg
  generalize parH l = R at *
  go_enter Tryd.func23, Tryd.ntmps23
  go_wp2_with fail
  change Calls Tryd.prog 56 _ (w.alloc (boxH .zero none 0 0)) _
  generalize World.alloc w _ = X0 at *
  refine (HBY.out _ HB0.out).mono ?_
  clear HBY
  generalize bytB l = bs at *
  obtain ⟨bn, hbn⟩ : ∃ bn, bn = bs.length := ⟨_, rfl⟩
  have HBN := Lib.hid hbn
  rintro e X1 ⟨v1, rfl, ho1, hb1⟩
  obtain ⟨ad1, cap1, rfl, hl1, hc1, hm1, ha1⟩ := ho1.slice
  rw [← hbn] at hc1 ⊢
  have HL1 := Lib.hid hl1
  have HC1 := Lib.hid hc1
  have HM1 := Lib.hid hm1
  have HA1 := Lib.hid ha1
  have HX1 := Lib.hid (HX0.out.below hb1 HX0.out.lt)
  have HB1 := Lib.hid (HB0.out.trans (hb1.mono HB0.out.size))
  clear ho1 hb1 hl1 hc1 hm1 ha1 hbn HX0 HB0
  go_wp2_with fail
  refine (next_any ad1 bn cap1 bs 0 _ HL1.out HBN.out (by have := HBL.out; omega) HC1.out HM1.out HA1.out (HM.out.step HB1.out)).mono ?_
  rintro e X2 ⟨v2, rfl, ho2, hb2⟩
  have HX2 := Lib.hid (HX1.out.below hb2 HX1.out.lt)
  have HB2 := Lib.hid (HB1.out.trans (hb2.mono HB1.out.size))
  have HL2 := Lib.hid (HL1.out.below hb2 rfl)
  have HO2 := Lib.hid ho2
  clear ho2 hb2 HX1 HB1 HL1
  by_cases hce : (chk bs 0).2 = 0
  rotate_left
  · have HR := Lib.hid (HPN.out hce)
    generalize (chk bs 0).1 = cx at *
    generalize (chk bs 0).2 = ce at *
    have kce := ne_t hce
    clear hce HPN HPG HCE
    go_wp2_with (with_reducible refine st_hdr rfl (.tmp 2) (.tmp 22) rfl rfl .zero none 0 0 rfl HX2.out ?_)
    refine post_cell3 (cs := hdC .zero none 0 0) (x := .int .i64 0) (y := .int .i64 ce) rfl rfl (HX2.out.put .zero none 0 0).row Tryd.underlying25 rfl infoHd rfl rfl rfl ?_
    exact retH3 HR.out ⟨Of.nil _ _ _ _ _, rfl⟩ (below_set HB2.out (Nat.le_refl _) _)
  obtain ⟨e, he, hel⟩ := HCE.out hce
  have HPG1 := Lib.hid (HPG.out e (cntB e) he hel rfl)
  rw [he]
  dsimp only
  have HEL := Lib.hid hel
  have hee : e ≤ bn := by have := HBN.out; omega
  have HCL := Lib.hid (show cntB e ≤ 400 by have := HBL.out; unfold cntB; omega)
  have HTL := Lib.hid (show e = (bs.take e).length by rw [List.length_take]; omega)
  have HQ := Lib.hid (HL2.out.pt (cap := cap1) (by rw [← HBN.out]; exact HC1.out) 0 e)
  rw [List.drop_zero] at HQ
  have HQN := Lib.hid (ptA_nil HA1.out 0)
  have HDL := Lib.hid (show (divB (bs.take e)).length = cntB e by rw [divB_length, ← HTL.out])
  have kfr := fun W => run_front ad1 bn cap1 e W (Nat.le_trans hee HC1.out)
  clear hce he hel HPN HPG HCE
  generalize ptA ad1 cap1 0 = qd at *
  generalize bs.take e = xe at *
  generalize bodyAt bs 0 = body at *
  generalize cntB e = N at *
  go_wp2_with fail
  clear kfr
  refine (divide_any qd e cap1 xe _ HQ.out HTL.out (by have := HC1.out; omega) HM1.out (by have := HQN.out; simpa using this) (by have := HBL.out; have := HBN.out; omega)).mono ?_
  rintro e3 X3 ⟨v3, rfl, hk3, hb3⟩
  have HX3 := Lib.hid (HX2.out.below hb3 HX2.out.lt)
  have HB3 := Lib.hid (HB2.out.trans (hb3.mono HB2.out.size))
  have HO3 := Lib.hid (HO2.out.below hb3)
  obtain ⟨ad3, cap3, rfl, hx3, hc3, hm3, ha3, -⟩ := hk3.read
  have HK3 := Lib.hid hx3.ki
  clear hk3 hb3 hx3 hc3 hm3 ha3 HX2 HB2 HO2
  generalize divB xe = DV at *
  rw [HDL.out]
  have hc9 := HC.out
  by_cases hNn : n < N
  · have HR := Lib.hid (HPG1.out.trans (if_neg (by have := HN.out; omega)))
    clear HPG1
    go_wp2_with (with_reducible refine st_hdr rfl (.tmp 2) (.tmp 42) rfl rfl .zero none 0 0 rfl HX3.out ?_)
    refine post_cell3 (cs := hdC .zero none 0 0) (x := .int .i64 0) (y := .int .i64 1) rfl rfl (HX3.out.put .zero none 0 0).row Tryd.underlying25 rfl infoHd rfl rfl rfl ?_
    exact retH3 HR.out ⟨Of.nil _ _ _ _ _, rfl⟩ (below_set HB3.out (Nat.le_refl _) _)
  have HTN := Lib.hid (show N = (l.take N).length by rw [List.length_take]; have := HN.out; omega)
  have HKP := Lib.hid (HKB.out N)
  rw [List.drop_zero] at HKP
  have kfb := fun W => run_frontB ad n cap N W (by omega)
  generalize ptB ad cap 0 = zd at *
  have HEQ := Lib.hid (fun W (hW : Below w.heap.size w W) (h3 : Ki W ad3 DV) => eqfuncD_any zd ad3 N N cap cap3 (l.take N) DV W (HKP.out.below hW) h3 HTN.out HDL.out.symm (by omega))
  generalize hQ : eqD (l.take N) DV = Q at *
  have hNl : N ≤ l.length := by have := HN.out; omega
  clear hQ HTN HKP HKB
  go_wp2_with fail
  clear kfb
  refine (HEQ.out _ HB3.out HK3.out).mono ?_
  rintro e4 X4 ⟨rfl, hb4⟩
  have HX4 := Lib.hid (HX3.out.below hb4 HX3.out.lt)
  have HB4 := Lib.hid (HB3.out.trans (hb4.mono HB3.out.size))
  have HO4 := Lib.hid (HO3.out.below hb4)
  clear hb4 HX3 HB3 HO3 HEQ HK3
  cases Q
  · have HR := Lib.hid (HPG1.out.trans (if_neg (by rintro ⟨_, h⟩; cases h)))
    clear HPG1
    go_wp2_with (with_reducible refine st_hdr rfl (.tmp 2) (.tmp 42) rfl rfl .zero none 0 0 rfl HX4.out ?_)
    refine post_cell3 (cs := hdC .zero none 0 0) (x := .int .i64 0) (y := .int .i64 1) rfl rfl (HX4.out.put .zero none 0 0).row Tryd.underlying25 rfl infoHd rfl rfl rfl ?_
    exact retH3 HR.out ⟨Of.nil _ _ _ _ _, rfl⟩ (below_set HB4.out (Nat.le_refl _) _)
  replace HPG1 := Lib.hid (HPG1.out.trans (if_pos ⟨hNl, by trivial⟩))
  obtain ⟨m4, hm4⟩ : ∃ m4, m4 = body.length := ⟨_, rfl⟩
  have HM4 := Lib.hid hm4
  obtain ⟨ad4, cap4, rfl, hl4, hc4, hmx4, ha4⟩ := HO4.out.slice
  rw [← hm4] at hc4 ⊢
  have HL4 := Lib.hid hl4
  have HC4 := Lib.hid hc4
  have HA4 := Lib.hid ha4
  clear hl4 hc4 hmx4 ha4 hm4 hNl
  go_wp2_with fail
  refine (decode15_any ad4 m4 cap4 body _ HL4.out HM4.out HC4.out HA4.out (by have := HBD.out; have := HBL.out; omega)).mono ?_
  generalize decP body = D at *
  obtain ⟨H, ok⟩ := D
  rintro e5 X5 ⟨ad5, cap5, rfl, ho5, hb5⟩
  dsimp only at ho5 HPG1 ⊢
  have HX5 := Lib.hid ((HX4.out.below hb5 HX4.out.lt).below (co_box1 X5 (boxH H ad5 H.es.length cap5)) (Nat.lt_of_lt_of_le HX4.out.lt hb5.size))
  have HG5 := Lib.hid (HdRow.new X5 H ad5 H.es.length cap5)
  have HO5 := Lib.hid ((ho5.below (co_box1 X5 (boxH H ad5 H.es.length cap5))).mono (show w.heap.size + 1 ≤ X4.heap.size from HX4.out.lt))
  have HB5 := Lib.hid ((HB4.out.trans (hb5.mono HB4.out.size)).alloc (HB4.out.trans (hb5.mono HB4.out.size)).size (boxH H ad5 H.es.length cap5))
  clear ho5 hb5 HX4 HB4 HO4
  cases ok
  · have HR := Lib.hid (HPG1.out.trans (if_neg (by simp)))
    clear HPG1
    go_wp2_with (with_reducible refine st_hdr rfl (.tmp 2) (.tmp 50) rfl rfl .zero none 0 0 rfl HX5.out ?_)
    refine post_cell3 (cs := hdC .zero none 0 0) (x := .int .i64 0) (y := .int .i64 24) rfl rfl (HX5.out.put .zero none 0 0).row Tryd.underlying25 rfl infoHd rfl rfl rfl ?_
    exact retH3 HR.out ⟨Of.nil _ _ _ _ _, rfl⟩ (below_set HB5.out (Nat.le_refl _) _)
  have HR := Lib.hid (HPG1.out.trans (if_pos (by simp)))
  clear HPG1
  go_wp2_with (first | (with_reducible refine ld_hdr rfl (.tmp 10) rfl rfl HG5.out ?_) | (with_reducible refine st_hdr rfl (.tmp 2) (.tmp 51) rfl rfl H ad5 _ cap5 rfl HX5.out ?_))
  refine post_cell3 (cs := hdC H ad5 H.es.length cap5) (x := .int .i64 (N : Int)) (y := .int .i64 0) rfl rfl (HX5.out.put H ad5 _ cap5).row Tryd.underlying25 rfl infoHd rfl rfl rfl ?_
  exact retH3 HR.out ((HO5.out.row (k := w.heap.size) (by omega) _).mono (by omega)) (below_set HB5.out (Nat.le_refl _) _)
end Go.Proofs.YtjiijjdmkeeilaaDoor
namespace Go.Proofs.YtjiijjdmkeeilaaDoor
open Go.RowKit
set_option linter.unusedVariables false
set_option linter.unusedSimpArgs false
attribute [local irreducible] prtsB
theorem new2c (w : World) (o : Obj) (cs : Array Value) (t : TypeId) : ((w.alloc o).alloc (.cells cs t)).heap[w.heap.size + 1]? = some (.cells cs t (0, 0)) := by
  have := heap_alloc_new (w.alloc o) (.cells cs t)
  rwa [World.size_alloc] at this
set_option maxRecDepth 100000 in
set_option maxHeartbeats 4000000 in
theorem havesums_any (ad : Option Addr) (n cap : Nat) (l : List Ent) (pd : Option Addr) (m pcap : Nat) (p : List UInt8) (w : World) (hin : Lf enC w ad l) (hnl : n = l.length) (hn2 : n ≤ 1000000) (hv : ∀ e ∈ l, 0 ≤ e.n) (hs : sumE l ≤ m) (hl : Lie w pd p) (hm : m = p.length) (hpc : m ≤ pcap) (hpm : pcap ≤ maxLen) (hm2 : m ≤ 1000000) :
    Calls Tryd.prog 32 #[.slice ad n cap, .slice pd m pcap] w fun e w' => e = .returned (.bool (prtsB l p)) ∧ Below w.heap.size w w' := by
  have HI := Lib.hid hin
  have HN := Lib.hid hnl
  have HM := Lib.hid hm
  have HT := Lib.hid (sumE_take_le l hv)
  have HV := Lib.hid hv
  have HSM := Lib.hid hs
  have HPC := Lib.hid hpc
  have HL := Lib.hid hl
  have HCM := Lib.hid hpm
  unfold maxLen at hpm
  clear hin hl hv hs hm hpc hnl
  go_enter Tryd.func32, Tryd.ntmps32
  go_wp2_with fail
  go_loopg [1, 10] n (fun gk v1 v10 wx => ∃ (i A M C : Nat) (qd : Option Addr), v10 = .int .i64 i ∧ v1 = .slice qd M C ∧ i + gk = n ∧ A + M = m ∧ M ≤ C ∧ C ≤ pcap ∧ Hid ((A : Int) = sumE (l.take i)) ∧ Hid (prtsB l p = prtsB (l.drop i) (p.drop A)) ∧ Hid (Below w.heap.size w wx) ∧ Hid (Lie w qd (p.drop A)))
  case atStart => exact ⟨0, 0, m, pcap, pd, rfl, rfl, by omega, by omega, HPC.out, by omega, Lib.hid (by simp [sumE]), Lib.hid (by simp), Lib.hid (Below.refl _ _), by simpa using HL⟩
  case round =>
    obtain ⟨i, A, M, C, qd, rfl, rfl, hi, hAM, hMC, hCp, hA, hP, hB, hL⟩ := hrel
    cases gk with
    | zero =>
      obtain rfl : i = n := by omega
      have HR := Lib.hid (show prtsB l p = true by rw [hP.out, List.drop_eq_nil_of_le (by have := HN.out; omega), prtsB_nil])
      go_wp2
      go_ret
      exact ⟨by rw [HR.out]; rfl, hB.out⟩
    | succ gk0 =>
      have hin2 : i < n := by omega
      have hil : i < l.length := by have := HN.out; omega
      obtain ⟨b, off, rfl, hlt, hcell⟩ := (HI.out.below hB.out).get celE hil
      have e0 : wr.cell? ⟨b, off + i * 5, none⟩ = _ := hcell 0 _ (by decide) rfl
      have e1 := hcell 1 _ (by decide) rfl
      have e2 := hcell 2 _ (by decide) rfl
      have e3 := hcell 3 _ (by decide) rfl
      have e4 := hcell 4 _ (by decide) rfl
      have HSN := Lib.hid (show l.take (i + 1) = l.take i ++ [l[i]] by rw [List.take_succ_eq_append_getElem hil])
      have HDN := Lib.hid (drop_at l i hil)
      have hxn := HV.out _ (List.getElem_mem hil)
      have ht := (HT.out (i + 1)).2
      rw [HSN.out, sumE_snoc, ← hA.out] at ht
      have hsm := HSM.out
      clear hcell hlt
      generalize l[i] = x at *
      clear hil
      obtain ⟨K, hK⟩ := Int.eq_ofNat_of_zero_le hxn
      have hKM : K ≤ M := by omega
      have hKN : x.n.toNat = K := by omega
      have HPN := Lib.hid (show prtsB l p = (decide (crc ((p.drop A).take K) = x.s) && prtsB (l.drop (i + 1)) (p.drop (A + K))) by rw [hP.out, HDN.out, prtsB_cons, hKN, List.drop_drop])
      have HAN := Lib.hid (show ((A + K : Nat) : Int) = sumE (l.take (i + 1)) by rw [HSN.out, sumE_snoc, ← hA.out, hK]; omega)
      have HDL := Lib.hid (show (p.drop A).length = M by rw [List.length_drop]; have := HM.out; omega)
      have HPT := Lib.hid (show ((p.drop A).take K).length = K by rw [List.length_take, HDL.out]; omega)
      have HLP := Lib.hid (hL.out.pt (cap := C) (by rw [HDL.out]; exact hMC) 0 K)
      have HLR := Lib.hid (hL.out.pt (cap := C) (by rw [HDL.out]; exact hMC) K (M - K))
      rw [List.drop_zero] at HLP
      rw [List.drop_drop, List.take_of_length_le (by rw [List.length_drop]; have := HM.out; omega)] at HLR
      have kfr := fun W => run_front qd M C K W (by omega)
      have krs := fun W => run_rest qd M C K W hKM
      rw [hK] at e3
      generalize ptA qd C 0 = qd0 at *
      generalize ptA qd C K = qdK at *
      obtain ⟨X0, hX0⟩ : ∃ X, X = (wr.alloc (.cells #[.int .i64 x.f, .int .i64 x.v, .int .i64 x.o, .int .i64 (K : Int), .int .u32 (x.s : Int)] 54)).alloc (.cells #[.int .i64 x.f, .int .i64 x.v, .int .i64 x.o, .int .i64 (K : Int), .int .u32 (x.s : Int)] 54) := ⟨_, rfl⟩
      have HB0 := Lib.hid (show Below wr.heap.size wr X0 by rw [hX0]; exact co_box2 wr _ _)
      have HR6 := Lib.hid (show X0.heap[wr.heap.size]? = some (.cells #[.int .i64 x.f, .int .i64 x.v, .int .i64 x.o, .int .i64 (K : Int), .int .u32 (x.s : Int)] 54 (0, 0)) by
        rw [hX0]
        exact ((co_box1 _ _).block _ (by simp)).trans (heap_alloc_new wr _))
      have HR7 := Lib.hid (show X0.heap[wr.heap.size + 1]? = some (.cells #[.int .i64 x.f, .int .i64 x.v, .int .i64 x.o, .int .i64 (K : Int), .int .u32 (x.s : Int)] 54 (0, 0)) by
        rw [hX0]
        exact new2c wr _ _ _)
      clear hK hKN ht hsm hxn HI
      go_wp2_with fail
      rw [← hX0]
      clear e0 e1 e2 e3 e4 hX0
      refine (csum_any qd0 K C _ _ (HLP.out.below (hB.out.trans (HB0.out.mono hB.out.size)) rfl) HPT.out.symm (by rw [HPT.out]; omega)).mono ?_
      generalize crc ((p.drop A).take K) = c at *
      rintro e X1 ⟨rfl, hb1⟩
      have HR8 := Lib.hid ((hb1.block _ (Array.getElem?_eq_some_iff.1 HR6.out).1).trans HR6.out)
      have HR9 := Lib.hid ((hb1.block _ (Array.getElem?_eq_some_iff.1 HR7.out).1).trans HR7.out)
      have HB1 := Lib.hid (hB.out.trans ((HB0.out.trans (hb1.mono HB0.out.size)).mono hB.out.size))
      have hg := hB.out.size
      clear hb1 HR6 HR7 HB0 HLP
      have HB2 := Lib.hid (HB1.out.setCell (p := ⟨wr.heap.size + 1, 4, none⟩) (by show w.heap.size ≤ wr.heap.size + 1; omega) (.int .u32 (c : Int)))
      have HR10 := Lib.hid (hd_set X1 (wr.heap.size + 1) 4 (.int .u32 (c : Int)) _ _ _ HR9.out)
      have HR11 := Lib.hid ((Below.heap_setCell X1 ⟨wr.heap.size + 1, 4, none⟩ (.int .u32 (c : Int)) wr.heap.size (by show wr.heap.size ≠ wr.heap.size + 1; omega)).trans HR8.out)
      have f4 : X1.frozen? ⟨wr.heap.size + 1, 4, none⟩ = false := by have := HR9.out; simp [World.frozen?, this]
      have c4 : X1.cell? ⟨wr.heap.size + 1, 4, none⟩ = some (.int .u32 (x.s : Int)) := by rw [cell_of_row X1 _ 4 _ _ _ HR9.out]; rfl
      obtain ⟨X2, hX2⟩ : ∃ X2, X2 = X1.setCell ⟨wr.heap.size + 1, 4, none⟩ (.int .u32 (c : Int)) := ⟨_, rfl⟩
      rw [← hX2] at HR10 HR11 HB2
      have d0 : X2.cell? ⟨wr.heap.size, 0, none⟩ = some (.int .i64 x.f) := by rw [cell_of_row X2 _ 0 _ _ _ HR11.out]; rfl
      have d1 : X2.cell? ⟨wr.heap.size, 1, none⟩ = some (.int .i64 x.v) := by rw [cell_of_row X2 _ 1 _ _ _ HR11.out]; rfl
      have d2 : X2.cell? ⟨wr.heap.size, 2, none⟩ = some (.int .i64 x.o) := by rw [cell_of_row X2 _ 2 _ _ _ HR11.out]; rfl
      have d3 : X2.cell? ⟨wr.heap.size, 3, none⟩ = some (.int .i64 (K : Int)) := by rw [cell_of_row X2 _ 3 _ _ _ HR11.out]; rfl
      have d4 : X2.cell? ⟨wr.heap.size, 4, none⟩ = some (.int .u32 (x.s : Int)) := by rw [cell_of_row X2 _ 4 _ _ _ HR11.out]; rfl
      have e0 : X2.cell? ⟨wr.heap.size + 1, 0, none⟩ = some (.int .i64 x.f) := by rw [cell_of_row X2 _ 0 _ _ _ HR10.out]; rfl
      have e1 : X2.cell? ⟨wr.heap.size + 1, 1, none⟩ = some (.int .i64 x.v) := by rw [cell_of_row X2 _ 1 _ _ _ HR10.out]; rfl
      have e2 : X2.cell? ⟨wr.heap.size + 1, 2, none⟩ = some (.int .i64 x.o) := by rw [cell_of_row X2 _ 2 _ _ _ HR10.out]; rfl
      have e3 : X2.cell? ⟨wr.heap.size + 1, 3, none⟩ = some (.int .i64 (K : Int)) := by rw [cell_of_row X2 _ 3 _ _ _ HR10.out]; rfl
      have e4 : X2.cell? ⟨wr.heap.size + 1, 4, none⟩ = some (.int .u32 (c : Int)) := by rw [cell_of_row X2 _ 4 _ _ _ HR10.out]; rfl
      rw [hX2] at d0 d1 d2 d3 d4 e0 e1 e2 e3 e4 HB2
      clear hX2 HR8 HR9 HR10 HR11
      by_cases hc : c = x.s
      rotate_left
      · have HR := Lib.hid (show prtsB l p = false by rw [HPN.out, decide_eq_false hc]; rfl)
        have hne : ¬ (x.s : Int) = (c : Int) := by omega
        have hne2 : ((x.s : Int) == (c : Int)) = false := eq_f hne
        clear hc
        go_wp2_with fail
        go_ret
        exact ⟨by rw [HR.out]; rfl, HB2.out⟩
      · subst hc
        have HPX := Lib.hid (show prtsB l p = prtsB (l.drop (i + 1)) (p.drop (A + K)) by rw [HPN.out, decide_eq_true rfl]; rfl)
        go_wp2_with fail
        go_roundg gk0
        case rel => exact ⟨i + 1, A + K, M - K, C - K, qdK, by go_num, rfl, by omega, by omega, by omega, by omega, HAN, HPX, HB2, HLR⟩
        case measure => omega
end Go.Proofs.YtjiijjdmkeeilaaDoor
namespace Go.Proofs.YtjiijjdmkeeilaaDoor
open Go.RowKit
set_option linter.unusedVariables false
theorem infoLy : (Tryd.prog.info? 65).map (·.size) = some 2 := by kernel_rfl
set_option maxRecDepth 100000 in
theorem run_fieldLy (r : Int) (b : Bool) (X : World) : (Instr.field 65 (.agg #[.int .i64 r, .bool b]) 0).run Tryd.prog X = .ok (.int .i64 r) X := by with_unfolding_all rfl
set_option maxRecDepth 100000 in
set_option maxHeartbeats 1000000 in
theorem layout_any (h : Hdr) (ad : Option Addr) (n cap : Nat) (w : World) (hv : h.vr = 1 ∨ h.vr = 2) :
    Calls Tryd.prog 36 #[hdV h ad n cap] w fun e w' => e = .returned (.agg #[.int .i64 (prtU h.vr), .bool (decide (h.vr = 2))]) ∧ Below w.heap.size w w' := by
  obtain ⟨id, kd, vr, st, ix, da, pa, cm, es, sz, sm⟩ := h
  dsimp only at hv ⊢
  obtain ⟨o, ho⟩ : ∃ o : Obj, o = boxH ⟨id, kd, vr, st, ix, da, pa, cm, es, sz, sm⟩ ad n cap := ⟨_, rfl⟩
  have hn := fun (a : Int) (b : Bool) => new2c w o #[.int .i64 a, .bool b] 65
  have hb := fun (a : Int) (b : Bool) => co_box2 w o (.cells #[.int .i64 a, .bool b] 65)
  rw [ho] at hn hb
  have HNN := Lib.hid hn
  have HB := Lib.hid hb
  clear hn hb ho
  rcases hv with rfl | rfl
  · go_enter Tryd.func36, Tryd.ntmps36
    go_wp2
    refine post_cell1 (cs := #[.int .i64 64, .bool false]) rfl rfl (HNN.out _ _) Tryd.underlying65 rfl infoLy rfl ?_
    exact ⟨rfl, HB.out _ _⟩
  · go_enter Tryd.func36, Tryd.ntmps36
    go_wp2
    refine post_cell1 (cs := #[.int .i64 60, .bool true]) rfl rfl (HNN.out _ _) Tryd.underlying65 rfl infoLy rfl ?_
    exact ⟨rfl, HB.out _ _⟩
set_option maxRecDepth 100000 in
set_option maxHeartbeats 400000 in
theorem pieces_any (n : Int) (s : Int) (w : World) (h0 : 0 ≤ n ∧ n ≤ 1000000000) (hs : s = 60 ∨ s = 64) :
    Calls Tryd.prog 52 #[.int .i64 n, .int .i64 s] w fun e w' => e = .returned (.int .i64 ((n + s - 1) / s)) ∧ w = w' := by
  obtain ⟨R, hR⟩ : ∃ R, R = (n + s - 1) / s := ⟨_, rfl⟩
  rw [← hR]
  have HR := Lib.hid hR
  have k1 : IntKind.i64.wrap (n + s) = n + s := IntWalk.i64_in _ (by omega)
  have k2 : IntKind.i64.wrap (n + s - 1) = n + s - 1 := IntWalk.i64_in _ (by omega)
  obtain ⟨h1, h2⟩ := h0
  rcases hs with rfl | rfl
  all_goals
    go_enter Tryd.func52, Tryd.ntmps52
    go_wp2
    go_ret
    exact ⟨retI HR.out.symm, rfl⟩
end Go.Proofs.YtjiijjdmkeeilaaDoor
