/-
  The statement LabelDivides, over the contracts of the package.
-/
import Derived.Test.YtjmlidejbddoeaaDoorLP
import Derived.Deep.QuietTactic
import Derived.BigQuiet
import Derived.IntWalk
namespace Go.Proofs.YtjmlidejbddoeaaDoor
open Go.RowKit
set_option linter.unusedVariables false
set_option linter.unusedSimpArgs false
theorem div_bytes (xs : List UInt8) (rest : List Blk) : bytB ((divB xs ++ [markB]) ++ rest) = xs ++ List.replicate (64 * cntB xs.length - xs.length) 0 := by
  rw [List.append_assoc]
  exact bytB_div xs rest
theorem div_get (xs : List UInt8) (i : Nat) (h : i < (divB xs).length) : (divB xs)[i].m = false ∧ (divB xs)[i].bad = false ∧ (divB xs)[i].d.length = 64 := by
  rw [divB_get]
  exact ⟨rfl, rfl, pad_length _⟩
theorem Lie.left {w : World} {ad : Option Addr} {xs ys : List UInt8} (h : Lie w ad (xs ++ ys)) : Lie w ad xs := by
  rcases h.at_ with h0 | ⟨b, off, e, hlt, hcell⟩
  · exact ⟨.inl (List.append_eq_nil_iff.1 h0).1⟩
  · exact ⟨.inr ⟨b, off, e, hlt, fun j hj => by rw [hcell j (by rw [List.length_append]; omega), List.getElem_append_left hj]⟩⟩
attribute [local irreducible] blkT parT blkR divB bytB fldT vldT nam bar feB
set_option maxRecDepth 100000 in
set_option maxHeartbeats 4000000 in
theorem law_ldivides (H : LbSide) (bd : Option Addr) (m bcap : Nat) (xs : List UInt8) (ad : Option Addr) (n cap : Nat) (l : List Blk) (w : World) (hb0 : Lie w bd xs) (hm0 : m = xs.length) (hbc : m ≤ bcap) (hbcm : bcap ≤ maxLen) (hba : bd = none → bcap = 0)
    (hl : Ki w ad l) (hn : n = l.length) (hc : n ≤ cap) (hcm : cap ≤ maxLen) (ha : ad = none → cap = 0) (hm : Lmg w) :
    Calls Tryd.prog 7 #[.slice bd m bcap, .slice ad n cap] w fun e w' => e = .returned (.bool true) ∧ Below w.heap.size w w' := by
  have HS := Lib.hid H
  have HM0 := Lib.hid hm
  have HN := Lib.hid hn
  have HC := Lib.hid hc
  have HCM := Lib.hid hcm
  have HA := Lib.hid ha
  have HL := Lib.hid hl
  have HX := Lib.hid hb0
  have HXN := Lib.hid hm0
  have HXC := Lib.hid hbc
  have HXM := Lib.hid hbcm
  have HXA := Lib.hid hba
  have HFE := Lib.hid (@feB_iff l)
  have hmm : m ≤ 9223372036854775807 := Nat.le_trans hbc hbcm
  clear H hl hn hc hcm ha hm hb0 hm0 hbc hbcm hba
  go_enter Tryd.func7, Tryd.ntmps7
  go_wp2_with fail
  refine (livesl_any HS.out _ HM0.out).mono ?_
  rintro e X1 ⟨rfl, hb1⟩
  have HB1 := Lib.hid hb1
  have HL1 := Lib.hid (HL.out.below hb1)
  have HX1 := Lib.hid (HX.out.below hb1 rfl)
  clear hb1 HM0 HL HX
  by_cases g1 : 4096 < m
  · go_wp2
    go_ret
    exact ⟨rfl, HB1.out⟩
  go_wp2_with fail
  refine (fewl_any ad n cap l _ HL1.out HN.out).mono ?_
  rintro e X2 ⟨rfl, hb2⟩
  have HB2 := Lib.hid (HB1.out.trans (hb2.mono HB1.out.size))
  have HL2 := Lib.hid (HL1.out.below hb2)
  have HX2 := Lib.hid (HX1.out.below hb2 rfl)
  clear hb2 HB1 HL1 HX1
  generalize feB l = F at *
  cases F
  · go_wp2
    go_ret
    exact ⟨rfl, HB2.out⟩
  have HLN := Lib.hid (HFE.out.1 rfl).1
  have HLD := Lib.hid (HFE.out.1 rfl).2
  clear HFE
  go_wp2_with fail
  refine (HS.out.divide bd m bcap xs _ HX2.out HXN.out HXC.out HXM.out HXA.out (by omega)).mono ?_
  rintro e X3 ⟨v3, rfl, hk3, hb3⟩
  obtain ⟨ad3, cap3, rfl, hx3, -⟩ := hk3.read
  have HK3 := Lib.hid hx3.ki
  have HB3 := Lib.hid (HB2.out.trans (hb3.mono HB2.out.size))
  have HL3 := Lib.hid (HL2.out.below hb3)
  have HX3 := Lib.hid (HX2.out.below hb3 rfl)
  have HDB := Lib.hid (div_bytes xs l)
  have HDG := Lib.hid (div_get xs)
  have HDL := Lib.hid (show (divB xs).length = (m + 63) / 64 by rw [divB_length, ← HXN.out]; rfl)
  have HDC := Lib.hid (show cntB xs.length = (m + 63) / 64 by rw [← HXN.out]; rfl)
  clear hk3 hx3 hb3 HB2 HL2 HX2
  generalize divB xs = D at *
  obtain ⟨c, hc⟩ : ∃ c, D.length = c := ⟨_, rfl⟩
  rw [hc] at HDL ⊢
  have HDN := Lib.hid hc
  clear hc
  have hce : (c : Int) = ((m : Int) + 63) / 64 := by have := HDL.out; omega
  have HCE := Lib.hid hce
  have k0 : (((c : Int)) == ((m : Int) + 64 - 1) / 64) = true := by rw [beq_iff_eq]; omega
  have hcb : c ≤ 64 := by have := HDL.out; omega
  clear hce
  go_wp2_with fail
  go_loopg [6] c (fun gk vk wx => ∃ k : Nat, vk = .int .i64 k ∧ k + gk = c ∧ wx = X3)
  case atStart => exact ⟨0, rfl, by omega, rfl⟩
  case round =>
    obtain ⟨k, rfl, hk, rfl⟩ := hrel
    cases gk with
    | succ gk0 =>
      have hkc : k < c := by omega
      have hkD : k < D.length := by have := HDN.out; omega
      obtain ⟨b, off, ad', cap', rfl, hlt, q0, q1, q2, -⟩ := HK3.out.get hkD
      obtain ⟨d0, d1, d2⟩ := HDG.out k hkD
      rw [d0] at q0
      rw [d1] at q1
      rw [d2] at q2
      clear d0 d1 d2 hlt hkD
      go_wp2
      go_roundg gk0
      case rel => exact ⟨k + 1, by go_num, by omega, rfl⟩
      case measure => omega
    | zero =>
      obtain rfl : k = c := by omega
      clear hk
      go_wp2_with fail
      refine (rcopiedl_any _ k cap3 D _ HK3.out HDN.out.symm (by omega) (fun b hb => by
        obtain ⟨j, hj, rfl⟩ := List.getElem_of_mem hb
        have := (HDG.out j hj).2.2
        omega)).mono ?_
      rintro e X4 ⟨v4, rfl, hk4, hb4⟩
      have HB4 := Lib.hid (HB3.out.trans (hb4.mono HB3.out.size))
      have HK4 := Lib.hid (hk4.below (vl_box1 X4 (.cells #[.bool true, .bool false, .slice none 0 0] 39)))
      have HL4 := Lib.hid ((HL3.out.below hb4).below (vl_box1 X4 (.cells #[.bool true, .bool false, .slice none 0 0] 39)))
      have HX4 := Lib.hid ((HX3.out.below hb4 rfl).below (vl_box1 X4 (.cells #[.bool true, .bool false, .slice none 0 0] 39)) rfl)
      have HS4 := Lib.hid (show wr.heap.size ≤ (X4.alloc (.cells #[.bool true, .bool false, .slice none 0 0] 39)).heap.size by have := hb4.size; simp; omega)
      have HB34 := Lib.hid (hb4.alloc hb4.size (.cells #[.bool true, .bool false, .slice none 0 0] 39))
      have hlen1 : D.length + 1 ≤ 100000 := by have := HDN.out; omega
      have hlen2 : (D ++ [markB]).length + n ≤ 100000 := by have := HDN.out; have := HN.out; have := HLN.out; simp; omega
      clear hk4 hb4 HK3 HL4 HX4
      go_wp2_with (first
        | (at_builtin; refine wpList_append_k rfl (.tmp 57) (.tmp 59) rfl wr.heap.size wr.heap.size 0 0 v4 D rfl HK4.out _ 1 1 [markB] (fun h => by cases h) (Kx.mark X4 _ _ _ rfl) rfl rfl hlen1 HS4.out (Nat.zero_le _) (Nat.le_refl _) ?_; intro v5 w5 ho5 hg5 _; have HK5 := Lib.hid ho5; have HB5 := Lib.hid (HB34.out.grown hg5 HS4.out (fun k hk => (HK4.out.lt k hk).1)); clear ho5 hg5)
        | (at_builtin; refine wpList_append_k rfl (.tmp 60) (.tmp 61) rfl wr.heap.size 0 0 0 v5 (D ++ [markB]) rfl HK5.out ad n cap l HA.out (HL3.out.kx HB5.out (fun g hg => (HK5.out.lt g hg).1)) HN.out rfl hlen2 HB5.out.size (Nat.le_refl _) (Nat.le_refl _) ?_; intro v6 w6 ho6 hg6 _; have HK6 := Lib.hid ho6; have HB6 := Lib.hid (HB5.out.grown hg6 HB5.out.size (fun k hk => (HK5.out.lt k hk).1)); clear ho6 hg6))
      obtain ⟨ad6, cap6, rfl, hx6, hc6, hm6, ha6, -⟩ := HK6.out.read
      have HL6 := Lib.hid hx6.ki
      have HX6 := Lib.hid (HX3.out.below HB6.out rfl)
      have HB7 := Lib.hid (HB3.out.trans (HB6.out.mono HB3.out.size))
      have hTL : ((D ++ [markB]) ++ l).length ≤ 200 := by have := HDN.out; have := HLN.out; simp; omega
      clear hx6 HK6 HB6 HB5 HK5 HB34 HS4 HK4 HB4 HL3 HX3 hlen1 hlen2
      refine (HS.out.bytes ad6 _ cap6 ((D ++ [markB]) ++ l) _ HL6.out rfl hc6 hm6 ha6 (by omega) (fun b hb => by
        rcases List.mem_append.1 hb with h | h
        · rcases List.mem_append.1 h with h | h
          · obtain ⟨j, hj, rfl⟩ := List.getElem_of_mem h
            have := (HDG.out j hj).2.2
            omega
          · obtain rfl : b = markB := by simpa using h
            decide
        · have := HLD.out b h; omega)).mono ?_
      rintro e X8 ⟨v8, rfl, ho8, hb8⟩
      rw [HDB.out] at ho8
      obtain ⟨ad8, cap8, rfl, hl8, hc8, hm8, ha8⟩ := ho8.slice
      have HB8 := Lib.hid (HB7.out.trans (hb8.mono HB7.out.size))
      have HX8 := Lib.hid (HX6.out.below hb8 rfl)
      have HL8 := Lib.hid hl8
      have hQ : (xs ++ List.replicate (64 * cntB xs.length - xs.length) 0).length = k * 64 := by
        have := HDC.out
        have := HXN.out
        have := HCE.out
        rw [List.length_append, List.length_replicate, HDC.out, ← HXN.out]
        omega
      generalize hz : 64 * cntB xs.length - xs.length = zn at *
      obtain ⟨Q, hQ2⟩ : ∃ Q, Q = k * 64 := ⟨_, rfl⟩
      rw [hQ, ← hQ2] at hc8 ⊢
      have HQ := Lib.hid hQ
      have HQ2 := Lib.hid hQ2
      have hmQ : m ≤ Q := by have := HCE.out; omega
      have hQb : Q ≤ 4096 := by omega
      have hw : IntKind.i64.wrap ((k : Int) * 64) = (Q : Int) := by rw [hQ2, IntWalk.i64_in _ (by omega)]; omega
      have kQ : ((Q : Int) == (Q : Int)) = true := by simp
      have hcv1 : ∀ z, (convert 36 9 (.slice ad8 m cap8)).run Tryd.prog (X8.drewN z) = .ok (.string ⟨xs.toArray⟩) (X8.drewN z) := fun z => by
        have := conv_lie (w := X8.drewN z) cap8 (Lie.left (HL8.out.drewN z))
        rwa [← HXN.out] at this
      have hcv2 : ∀ z, (convert 36 9 (.slice bd m bcap)).run Tryd.prog (X8.drewN z) = .ok (.string ⟨xs.toArray⟩) (X8.drewN z) := fun z => by
        have := conv_lie (w := X8.drewN z) bcap (HX8.out.drewN z)
        rwa [← HXN.out] at this
      generalize (⟨xs.toArray⟩ : ByteArray) = T at *
      have kT : (T.toList == T.toList) = true := by simp
      clear ho8 hb8 hl8 hm8 hQ hQ2 hz hTL HX6 HL6 HB7 k0 hc6 hm6 ha6
      go_wp2_with fail
      go_quiet (fail)
      go_wp2_with fail
      have HZC : Hid (∀ j (h : j < (xs ++ List.replicate zn 0).length), m ≤ j → (xs ++ List.replicate zn 0)[j].toNat = 0) := Lib.hid fun j h hj => by
        rw [List.getElem_append_right (by have := HXN.out; omega), List.getElem_replicate]
        rfl
      clear hcv1 hcv2 kT kQ hw
      go_loopg [8] (Q - m) (fun gk vk wx => ∃ i : Nat, vk = .int .i64 i ∧ i + gk = Q ∧ m ≤ i ∧ ∃ z, wx = X8.drewN z)
      case atStart => exact ⟨m, rfl, by omega, Nat.le_refl _, _, rfl⟩
      case round =>
        obtain ⟨i, rfl, hi, hmi, z, rfl⟩ := hrel
        cases gk with
        | zero =>
          obtain rfl : i = Q := by omega
          go_wp2
          go_ret
          exact ⟨rfl, below_drewN HB8.out _⟩
        | succ gk1 =>
          have hiQ : i < Q := by omega
          have hil : i < (xs ++ List.replicate zn 0).length := by rw [HQ.out, ← HQ2.out]; exact hiQ
          have hzc := HZC.out i hil hmi
          rcases (HL8.out.drewN z).at_ with h0 | ⟨b, off, rfl, hlt, hcell⟩
          · rw [h0] at hil; simp at hil
          have q0 := hcell i hil
          rw [hzc] at q0
          clear hcell hil hzc hlt
          go_wp2
          go_roundg gk1
          case rel => exact ⟨i + 1, by go_num, by omega, by omega, _, rfl⟩
          case measure => omega
end Go.Proofs.YtjmlidejbddoeaaDoor
