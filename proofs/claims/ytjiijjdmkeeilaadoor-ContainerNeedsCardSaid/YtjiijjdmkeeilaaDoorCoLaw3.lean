/-
  The statement ContainerNeeds, over the contracts.
-/
import Derived.Test.YtjiijjdmkeeilaaDoorCAZ
namespace Go.Proofs.YtjiijjdmkeeilaaDoor
open Go.RowKit
set_option linter.unusedVariables false
set_option linter.unusedSimpArgs false
attribute [local irreducible] needU extU fewB smlH
set_option maxRecDepth 100000 in
set_option maxHeartbeats 8000000 in
theorem law_cneeds {I : World → Prop} (H : CoSide I) (h : Hdr) (hd : Option Addr) (hn hcap : Nat) (en of le : Int) (ad : Option Addr) (n cap : Nat) (l : List Blk) (w : World) (hin : HdIn w h hd hn hcap) (hfit : h.Fit)
    (hl : Ki w ad l) (hnl : n = l.length) (hc : n ≤ cap) (hcm : cap ≤ maxLen) (ha : ad = none → cap = 0) (hi : I w) :
    Calls Tryd.prog 5 #[hdV h hd hn hcap, .int .i64 en, .int .i64 of, .int .i64 le, .slice ad n cap] w fun e w' => e = .returned (.bool true) ∧ Below w.heap.size w w' := by
  have HS := Lib.hid H
  have HI := Lib.hid hi
  have HL := Lib.hid hl
  have HN := Lib.hid hnl
  have HX0 := Lib.hid (HdRow.new w h hd hn hcap)
  have HI0 := Lib.hid (hin.below (co_box1 w (boxH h hd hn hcap)))
  have HB0 := Lib.hid (co_box1 w (boxH h hd hn hcap))
  have HIN := Lib.hid hin.sml
  have HFT := Lib.hid (smlH_fit hfit)
  clear H hl hnl hc hcm ha hi hin hfit
  go_enter Tryd.func5, Tryd.ntmps5
  go_wp2_with (with_reducible refine ld_hdr rfl (.tmp 5) rfl rfl HX0.out ?_)
  change Calls Tryd.prog 9 _ (w.alloc (boxH h hd hn hcap)) _
  generalize World.alloc w _ = X0 at *
  refine (small_at h hd hn hcap X0 HI0.out).mono ?_
  rintro e X1 ⟨rfl, hb1⟩
  have HR1 := Lib.hid (HX0.out.below hb1 HX0.out.lt)
  generalize smlH h = S at *
  obtain ⟨M, hM⟩ : ∃ M, M = S.es.length := ⟨_, rfl⟩
  rw [← hM] at HIN ⊢
  have HX1 := Lib.hid (HR1.out.put S hd M hcap)
  have HB1 := Lib.hid (below_set (HB0.out.trans (hb1.mono HB0.out.size)) (Nat.le_refl w.heap.size) (hdC S hd M hcap))
  clear hM hb1 HX0 HI0 HB0
  go_wp2_with (with_reducible refine st_hdr rfl (.tmp 5) (.tmp 20) rfl rfl S hd M hcap rfl HR1.out ?_)
  generalize World.setRow X1 _ _ = X2 at *
  clear HR1
  refine (few_any ad n cap l X2 (HL.out.below HB1.out) HN.out).mono ?_
  rintro e X3 ⟨v3, rfl, hk3, hb3⟩
  obtain ⟨ad3, cap3, rfl, hx3, hc3, hm3, ha3, -⟩ := hk3.read
  have HK3 := Lib.hid hx3.ki
  have HX3 := Lib.hid (HX1.out.below hb3 HX1.out.lt)
  have HB3 := Lib.hid (HB1.out.trans (hb3.mono HB1.out.size))
  have HF := Lib.hid (fewB_ok l)
  generalize fewB l = L at *
  obtain ⟨N, hN⟩ : ∃ N, N = L.length := ⟨_, rfl⟩
  rw [← hN] at hc3 ⊢
  have HN3 := Lib.hid hN
  have HC3 := Lib.hid hc3
  have HM3 := Lib.hid hm3
  have HA3 := Lib.hid ha3
  have HN30 := Lib.hid (show N ≤ 30 by rw [hN]; exact HF.out.1)
  have HD := Lib.hid HF.out.2
  clear hk3 hx3 hb3 hN hc3 hm3 ha3 HL HN HF HX1 HB1
  go_wp2_with (with_reducible refine ld_hdr rfl (.tmp 5) rfl rfl HX3.out ?_)
  refine (HS.out.need S hd M hcap en of le X3 (HIN.out.below HB3.out) HFT.out (HS.out.step w X3 HI.out HB3.out)).mono ?_
  have HRN := Lib.hid (fun (X : World) (k : HdIn X S hd M hcap) => rneed_any S hd M hcap en of le X k HFT.out.2 HFT.out.1)
  generalize needU S en of le = P at *
  obtain ⟨F, K, q⟩ := P
  rintro e X4 ⟨rfl, hb4⟩
  have hY4 : (X4.alloc (.cells #[.int .i64 F, .int .i64 K] 46)).heap[X4.heap.size]? = some (.cells #[.int .i64 F, .int .i64 K] 46 (0, 0)) := heap_alloc_new X4 _
  have HY4 := Lib.hid hY4
  have HX4 := Lib.hid ((HX3.out.below hb4 HX3.out.lt).below (co_box1 X4 (.cells #[.int .i64 F, .int .i64 K] 46)) (Nat.lt_of_lt_of_le HX3.out.lt hb4.size))
  have HK4 := Lib.hid ((HK3.out.below hb4).below (co_box1 X4 (.cells #[.int .i64 F, .int .i64 K] 46)))
  have HB4 := Lib.hid ((HB3.out.trans (hb4.mono HB3.out.size)).alloc (Nat.le_trans HB3.out.size hb4.size) (.cells #[.int .i64 F, .int .i64 K] 46))
  have HZ4 := Lib.hid (show X4.heap.size < (X4.alloc (.cells #[.int .i64 F, .int .i64 K] 46)).heap.size by simp)
  clear hY4 hb4 HX3 HK3 HB3
  go_wp2_with (with_reducible refine ld_hdr rfl (.tmp 5) rfl rfl HX4.out ?_)
  change Calls Tryd.prog 28 _ (X4.alloc (.cells #[.int .i64 F, .int .i64 K] 46)) _
  generalize World.alloc X4 _ = X5 at *
  generalize X4.heap.size = g5 at *
  refine (HRN.out X5 (HIN.out.below HB4.out)).mono ?_
  rintro e X6 ⟨rfl, hb6⟩
  dsimp only
  have hU6 : (X6.alloc (.cells #[.int .i64 F, .int .i64 K] 46)).heap[X6.heap.size]? = some (.cells #[.int .i64 F, .int .i64 K] 46 (0, 0)) := heap_alloc_new X6 _
  have HU6 := Lib.hid hU6
  have hY6 : (X6.alloc (.cells #[.int .i64 F, .int .i64 K] 46)).heap[g5]? = some (.cells #[.int .i64 F, .int .i64 K] 46 (0, 0)) := ((co_box1 X6 _).block g5 (Nat.lt_of_lt_of_le HZ4.out hb6.size)).trans ((hb6.block g5 HZ4.out).trans HY4.out)
  have HY6 := Lib.hid hY6
  have HX6 := Lib.hid ((HX4.out.below hb6 HX4.out.lt).below (co_box1 X6 (.cells #[.int .i64 F, .int .i64 K] 46)) (Nat.lt_of_lt_of_le HX4.out.lt hb6.size))
  have HK6 := Lib.hid ((HK4.out.below hb6).below (co_box1 X6 (.cells #[.int .i64 F, .int .i64 K] 46)))
  have HB6 := Lib.hid ((HB4.out.trans (hb6.mono HB4.out.size)).alloc (Nat.le_trans HB4.out.size hb6.size) (.cells #[.int .i64 F, .int .i64 K] 46))
  have HZ6 := Lib.hid (show g5 < (X6.alloc (.cells #[.int .i64 F, .int .i64 K] 46)).heap.size ∧ X6.heap.size < (X6.alloc (.cells #[.int .i64 F, .int .i64 K] 46)).heap.size from ⟨by have := HZ4.out; have := hb6.size; simp; omega, by simp⟩)
  clear hU6 hY6 hb6 HX4 HK4 HB4 HRN HY4 HZ4
  go_wp2_with (with_reducible refine ld_hdr rfl (.tmp 5) rfl rfl HX6.out ?_)
  change Calls Tryd.prog 29 _ (X6.alloc (.cells #[.int .i64 F, .int .i64 K] 46)) _
  generalize World.alloc X6 _ = X7 at *
  generalize X6.heap.size = g7 at *
  refine (HS.out.extract S hd M hcap en of le ad3 N cap3 L X7 (HIN.out.below HB6.out) HFT.out HK6.out HN3.out HC3.out HM3.out HA3.out (by have := HN30.out; omega) (fun b hb => by have := HD.out b hb; omega) (HS.out.step w X7 HI.out HB6.out)).mono ?_
  have HRE := Lib.hid (fun (X : World) (k : HdIn X S hd M hcap) (k2 : Ki X ad3 L) => rextract_any S hd M hcap en of le ad3 N cap3 L X k HFT.out.2 HFT.out.1 k2 HN3.out (fun b hb => by have := HD.out b hb; omega))
  generalize extU S en of le L = P at *
  obtain ⟨B, x⟩ := P
  rintro e X8 ⟨bd8, bc8, rfl, hl8, -, -, -, hb8⟩
  dsimp only at hl8 ⊢
  have HL8 := Lib.hid hl8
  have HX8 := Lib.hid (HX6.out.below hb8 HX6.out.lt)
  have HK8 := Lib.hid (HK6.out.below hb8)
  have HB8 := Lib.hid (HB6.out.trans (hb8.mono HB6.out.size))
  have HY8 := Lib.hid ((hb8.block g5 HZ6.out.1).trans HY6.out)
  have HU8 := Lib.hid ((hb8.block g7 HZ6.out.2).trans HU6.out)
  have HZ8 := Lib.hid (show g5 < X8.heap.size ∧ g7 < X8.heap.size from ⟨Nat.lt_of_lt_of_le HZ6.out.1 hb8.size, Nat.lt_of_lt_of_le HZ6.out.2 hb8.size⟩)
  clear hl8 hb8 HX6 HK6 HB6 HY6 HU6 HZ6
  obtain ⟨Z, hZ⟩ : ∃ Z, Z = B.length := ⟨_, rfl⟩
  rw [← hZ]
  have HZZ := Lib.hid hZ
  clear hZ
  go_wp2_with (with_reducible refine ld_hdr rfl (.tmp 5) rfl rfl HX8.out ?_)
  refine (HRE.out X8 (HIN.out.below HB8.out) HK8.out).mono ?_
  rintro e X9 ⟨bd9, bc9, rfl, hl9, -, -, -, hb9⟩
  dsimp only at hl9 ⊢
  rw [← HZZ.out]
  have HB9 := Lib.hid (HB8.out.trans (hb9.mono HB8.out.size))
  have HY9 := Lib.hid ((hb9.block g5 HZ8.out.1).trans HY8.out)
  have HU9 := Lib.hid ((hb9.block g7 HZ8.out.2).trans HU8.out)
  have kc1 := conv_lie bc8 (HL8.out.below hb9 rfl)
  have kc2 := conv_lie bc9 hl9
  rw [← HZZ.out] at kc1 kc2
  generalize (⟨B.toArray⟩ : ByteArray) = T at *
  have kT : (T.toList == T.toList) = true := by simp
  have k2 : (q == q) = true := by simp
  have k3 : (x == x) = true := by simp
  have k4 : (F == F) = true := by simp
  have k5 : (K == K) = true := by simp
  clear hl9 hb9 HX8 HK8 HB8 HY8 HU8 HL8 HRE
  have c0 : X9.cell? ⟨g5, 0, none⟩ = some (.int .i64 F) := by simp [World.cell?, HY9.out]
  have c1 : X9.cell? ⟨g5, 1, none⟩ = some (.int .i64 K) := by simp [World.cell?, HY9.out]
  have c2 : X9.cell? ⟨g7, 0, none⟩ = some (.int .i64 F) := by simp [World.cell?, HU9.out]
  have c3 : X9.cell? ⟨g7, 1, none⟩ = some (.int .i64 K) := by simp [World.cell?, HU9.out]
  go_wp2_with fail
  refine (awake15_any HS.out X9 (HS.out.step w X9 HI.out HB9.out)).mono ?_
  rintro e XC ⟨rfl, hbC⟩
  have HBC := Lib.hid (HB9.out.trans (hbC.mono HB9.out.size))
  clear hbC
  go_wp2_with fail
  go_ret
  exact ⟨rfl, HBC.out⟩
end Go.Proofs.YtjiijjdmkeeilaaDoor
