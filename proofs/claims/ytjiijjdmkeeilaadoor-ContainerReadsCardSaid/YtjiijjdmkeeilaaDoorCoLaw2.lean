/-
  The statement ContainerReads, over the contracts.
-/
import Derived.Test.YtjiijjdmkeeilaaDoorCAZ
namespace Go.Proofs.YtjiijjdmkeeilaaDoor
open Go.RowKit
set_option linter.unusedVariables false
set_option linter.unusedSimpArgs false
attribute [local irreducible] parH payU fewB eqH bytB
set_option maxRecDepth 100000 in
set_option maxHeartbeats 8000000 in
theorem law_creads {I : World → Prop} (H : CoSide I) (ad : Option Addr) (n cap : Nat) (l : List Blk) (w : World) (hl : Ki w ad l) (hn : n = l.length) (hc : n ≤ cap) (hcm : cap ≤ maxLen) (ha : ad = none → cap = 0) (hi : I w) :
    Calls Tryd.prog 4 #[.slice ad n cap] w fun e w' => e = .returned (.bool true) ∧ Below w.heap.size w w' := by
  have HS := Lib.hid H
  have HI := Lib.hid hi
  have HL := Lib.hid hl
  have HN := Lib.hid hn
  clear H hl hn hc hcm ha hi
  go_enter Tryd.func4, Tryd.ntmps4
  go_wp2_with fail
  refine (few_any ad n cap l w HL.out HN.out).mono ?_
  rintro e X1 ⟨v1, rfl, hk1, hb1⟩
  obtain ⟨ad1, cap1, rfl, hx1, hc1, hm1, ha1, -⟩ := hk1.read
  have HK1 := Lib.hid hx1.ki
  have HB1 := Lib.hid hb1
  have HF := Lib.hid (fewB_ok l)
  generalize fewB l = L at *
  obtain ⟨N, hN⟩ : ∃ N, N = L.length := ⟨_, rfl⟩
  rw [← hN] at hc1 ⊢
  have HN1 := Lib.hid hN
  have HC1 := Lib.hid hc1
  have HM1 := Lib.hid hm1
  have HA1 := Lib.hid ha1
  have HN30 := Lib.hid (show N ≤ 30 by rw [hN]; exact HF.out.1)
  have HD := Lib.hid HF.out.2
  have HBY := Lib.hid (show (bytB L).length ≤ 1000000 by have := bytB_le L 30 70 HF.out.1 HF.out.2; omega)
  clear hk1 hx1 hb1 hN hc1 hm1 ha1 HL HN HF
  have HP64 := Lib.hid (parH_len L)
  have HQ64 := Lib.hid (payU_len L)
  go_wp2_with fail
  refine (HS.out.parse ad1 N cap1 L X1 HK1.out HN1.out HC1.out HM1.out HA1.out (by have := HN30.out; omega) (fun b hb => by have := HD.out b hb; omega) (HS.out.step w X1 HI.out HB1.out)).mono ?_
  have HR := Lib.hid (fun (X : World) (k : Ki X ad1 L) => rparseh_any ad1 N cap1 L X k HN1.out (by have := HN30.out; omega) (fun b hb => by have := HD.out b hb; omega) HBY.out)
  generalize parH L = P at *
  obtain ⟨G, q, f⟩ := P
  dsimp only at HP64
  rintro e X2 ⟨ad2, cap2, rfl, ho2, hb2⟩
  dsimp only at ho2 ⊢
  obtain ⟨M, hM⟩ : ∃ M, M = G.es.length := ⟨_, rfl⟩
  rw [← hM] at ho2 HP64 ⊢
  have HMG := Lib.hid hM
  have HG2 := Lib.hid (HdRow.new X2 G ad2 M cap2)
  have HI2 := Lib.hid (ho2.hin.below (co_box1 X2 (boxH G ad2 M cap2)))
  have HK2 := Lib.hid ((HK1.out.below hb2).below (co_box1 X2 (boxH G ad2 M cap2)))
  have HB2 := Lib.hid ((HB1.out.trans (hb2.mono HB1.out.size)).alloc (Nat.le_trans HB1.out.size hb2.size) (boxH G ad2 M cap2))
  clear hM ho2 hb2 HK1 HB1
  go_wp2_with fail
  change Calls Tryd.prog 24 _ (X2.alloc (boxH G ad2 M cap2)) _
  generalize World.alloc X2 _ = X3 at *
  generalize X2.heap.size = g3 at *
  refine (HR.out X3 HK2.out).mono ?_
  rintro e X4 ⟨ad4, cap4, rfl, ho4, hb4⟩
  dsimp only at ho4 ⊢
  rw [← HMG.out] at ho4 ⊢
  have HG4 := Lib.hid ((HG2.out.below hb4 HG2.out.lt).below (co_box1 X4 (boxH G ad4 M cap4)) (Nat.lt_of_lt_of_le HG2.out.lt hb4.size))
  have HI4 := Lib.hid ((HI2.out.below hb4).below (co_box1 X4 (boxH G ad4 M cap4)))
  have HK4 := Lib.hid ((HK2.out.below hb4).below (co_box1 X4 (boxH G ad4 M cap4)))
  have HB4 := Lib.hid ((HB2.out.trans (hb4.mono HB2.out.size)).alloc (Nat.le_trans HB2.out.size hb4.size) (boxH G ad4 M cap4))
  have HH4 := Lib.hid (HdRow.new X4 G ad4 M cap4)
  have HJ4 := Lib.hid (ho4.hin.below (co_box1 X4 (boxH G ad4 M cap4)))
  clear ho4 hb4 HG2 HI2 HK2 HB2 HR HBY
  have HRP := Lib.hid (fun (X : World) (k : Ki X ad1 L) => rpayload_any ad1 N cap1 L X k HN1.out (by have := HN30.out; omega) (fun b hb => by have := HD.out b hb; omega) (by have := bytB_le L 30 70 (by have := HN1.out; have := HN30.out; omega) HD.out; omega))
  go_wp2_with fail
  change Calls Tryd.prog 25 _ (X4.alloc (boxH G ad4 M cap4)) _
  generalize World.alloc X4 _ = X5 at *
  generalize X4.heap.size = g5 at *
  refine (HS.out.payload ad1 N cap1 L X5 HK4.out HN1.out HC1.out HM1.out HA1.out (by have := HN30.out; omega) (fun b hb => by have := HD.out b hb; omega) (HS.out.step w X5 HI.out HB4.out)).mono ?_
  generalize payU L = P at *
  obtain ⟨Y, B, j⟩ := P
  dsimp only at HQ64
  rintro e X6 ⟨ad6, cap6, v6, rfl, ho6, hw6, hb6⟩
  dsimp only at ho6 hw6 ⊢
  obtain ⟨K, hK⟩ : ∃ K, K = Y.es.length := ⟨_, rfl⟩
  rw [← hK] at ho6 HQ64 ⊢
  have HKY := Lib.hid hK
  obtain ⟨bd6, bc6, rfl, hl6, -⟩ := hw6.slice
  have HG6 := Lib.hid ((HG4.out.below hb6 HG4.out.lt).below (co_box1 X6 (boxH Y ad6 K cap6)) (Nat.lt_of_lt_of_le HG4.out.lt hb6.size))
  have HI6 := Lib.hid ((HI4.out.below hb6).below (co_box1 X6 (boxH Y ad6 K cap6)))
  have HK6 := Lib.hid ((HK4.out.below hb6).below (co_box1 X6 (boxH Y ad6 K cap6)))
  have HB6 := Lib.hid ((HB4.out.trans (hb6.mono HB4.out.size)).alloc (Nat.le_trans HB4.out.size hb6.size) (boxH Y ad6 K cap6))
  have HH6 := Lib.hid ((HH4.out.below hb6 HH4.out.lt).below (co_box1 X6 (boxH Y ad6 K cap6)) (Nat.lt_of_lt_of_le HH4.out.lt hb6.size))
  have HJ6 := Lib.hid ((HJ4.out.below hb6).below (co_box1 X6 (boxH Y ad6 K cap6)))
  have HY6 := Lib.hid (HdRow.new X6 Y ad6 K cap6)
  have HZ6 := Lib.hid (ho6.hin.below (co_box1 X6 (boxH Y ad6 K cap6)))
  have HL6 := Lib.hid (hl6.below (co_box1 X6 (boxH Y ad6 K cap6)) rfl)
  clear hK ho6 hw6 hl6 hb6 HG4 HI4 HK4 HB4 HH4 HJ4
  go_wp2_with fail
  change Calls Tryd.prog 26 _ (X6.alloc (boxH Y ad6 K cap6)) _
  generalize World.alloc X6 _ = X7 at *
  generalize X6.heap.size = g7 at *
  refine (HRP.out X7 HK6.out).mono ?_
  rintro e X8 ⟨ad8, cap8, v8, rfl, ho8, hw8, hb8⟩
  dsimp only at ho8 hw8 ⊢
  rw [← HKY.out] at ho8 ⊢
  obtain ⟨bd8, bc8, rfl, hl8, -⟩ := hw8.slice
  have HG8 := Lib.hid ((HG6.out.below hb8 HG6.out.lt).below (co_box1 X8 (boxH Y ad8 K cap8)) (Nat.lt_of_lt_of_le HG6.out.lt hb8.size))
  have HI8 := Lib.hid ((HI6.out.below hb8).below (co_box1 X8 (boxH Y ad8 K cap8)))
  have HB8 := Lib.hid ((HB6.out.trans (hb8.mono HB6.out.size)).alloc (Nat.le_trans HB6.out.size hb8.size) (boxH Y ad8 K cap8))
  have HH8 := Lib.hid ((HH6.out.below hb8 HH6.out.lt).below (co_box1 X8 (boxH Y ad8 K cap8)) (Nat.lt_of_lt_of_le HH6.out.lt hb8.size))
  have HJ8 := Lib.hid ((HJ6.out.below hb8).below (co_box1 X8 (boxH Y ad8 K cap8)))
  have HY8 := Lib.hid ((HY6.out.below hb8 HY6.out.lt).below (co_box1 X8 (boxH Y ad8 K cap8)) (Nat.lt_of_lt_of_le HY6.out.lt hb8.size))
  have HZ8 := Lib.hid ((HZ6.out.below hb8).below (co_box1 X8 (boxH Y ad8 K cap8)))
  have HL8 := Lib.hid ((HL6.out.below hb8 rfl).below (co_box1 X8 (boxH Y ad8 K cap8)) rfl)
  have HV8 := Lib.hid (HdRow.new X8 Y ad8 K cap8)
  have HU8 := Lib.hid (ho8.hin.below (co_box1 X8 (boxH Y ad8 K cap8)))
  have HT8 := Lib.hid (hl8.below (co_box1 X8 (boxH Y ad8 K cap8)) rfl)
  clear ho8 hw8 hl8 hb8 HG6 HI6 HK6 HB6 HH6 HJ6 HY6 HZ6 HL6 HRP
  have k1 : (q == q) = true := by simp
  have k2 : (f == f) = true := by simp
  have k3 : (j == j) = true := by simp
  go_wp2_with (first | (with_reducible refine ld_hdr rfl (.tmp 3) rfl rfl HG8.out ?_) | (with_reducible refine ld_hdr rfl (.tmp 6) rfl rfl HH8.out ?_))
  change Calls Tryd.prog 14 _ (X8.alloc (boxH Y ad8 K cap8)) _
  generalize World.alloc X8 _ = X9 at *
  generalize X8.heap.size = g9 at *
  refine (rsameh_any G G ad2 M cap2 ad4 M cap4 X9 HI8.out HJ8.out (by have := HP64.out; omega)).mono ?_
  rw [eqH_refl]
  rintro e XA ⟨rfl, hbA⟩
  have HYA := Lib.hid (HY8.out.below hbA HY8.out.lt)
  have HZA := Lib.hid (HZ8.out.below hbA)
  have HVA := Lib.hid (HV8.out.below hbA HV8.out.lt)
  have HUA := Lib.hid (HU8.out.below hbA)
  have HLA := Lib.hid (HL8.out.below hbA rfl)
  have HTA := Lib.hid (HT8.out.below hbA rfl)
  have HBA := Lib.hid (HB8.out.trans (hbA.mono HB8.out.size))
  clear hbA HG8 HI8 HB8 HH8 HJ8 HY8 HZ8 HL8 HV8 HU8 HT8
  go_wp2_with (first | (with_reducible refine wpList_unguard rfl (ld_hdr rfl (.tmp 9) rfl rfl HYA.out ?_)) | (with_reducible refine wpList_unguard rfl (ld_hdr rfl (.tmp 12) rfl rfl HVA.out ?_)))
  refine (rsameh_any Y Y ad6 K cap6 ad8 K cap8 XA HZA.out HUA.out (by have := HQ64.out; omega)).mono ?_
  rw [eqH_refl]
  rintro e XB ⟨rfl, hbB⟩
  have HBB := Lib.hid (HBA.out.trans (hbB.mono HBA.out.size))
  have kc1 := conv_lie bc6 (HLA.out.below hbB rfl)
  have kc2 := conv_lie bc8 (HTA.out.below hbB rfl)
  generalize (⟨B.toArray⟩ : ByteArray) = T at *
  have kT : (T.toList == T.toList) = true := by simp
  clear hbB HYA HZA HVA HUA HLA HTA HBA
  go_wp2_with fail
  refine (awake15_any HS.out XB (HS.out.step w XB HI.out HBB.out)).mono ?_
  rintro e XC ⟨rfl, hbC⟩
  have HBC := Lib.hid (HBB.out.trans (hbC.mono HBB.out.size))
  clear hbC
  go_wp2_with fail
  go_ret
  exact ⟨rfl, HBC.out⟩
end Go.Proofs.YtjiijjdmkeeilaaDoor
