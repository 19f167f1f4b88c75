/-
  PackerCovers.
-/
import Derived.Test.YtgmcniflandmmaaPkLaw1
import Derived.Test.YtgmcniflandmmaaPkCovM
namespace Go.Proofs.Ytgmcniflandmmaa
open Go.RowKit
set_option linter.unusedVariables false
set_option linter.unusedSimpArgs false
theorem fillU_err {l : List Int} {c : Int} (h : (fillU l c).2 = 0) : valU l c = 0 := by
  unfold fillU at h
  split at h
  · assumption
  · exact h
attribute [local irreducible] fillU
set_option maxRecDepth 100000 in
set_option maxHeartbeats 8000000 in
theorem law_covers (ad : Option Addr) (n cap : Nat) (l : List Int) (c : Int) (w : World) (hl : Lf inC w ad l) (hn : n = l.length) (hs : n ≤ 9223372036854775807) :
    Calls Try.prog 4 #[.slice ad n cap, .int .i64 c] w fun e w' => e = .returned (.bool true) ∧ Below w.heap.size w w' := by
  have HL := Lib.hid hl
  have HN := Lib.hid hn
  have HSS := Lib.hid hs
  have HG := Lib.hid (fillU_good l c)
  have HLN := Lib.hid (fillU_len l c)
  have HER := Lib.hid (@fillU_err l c)
  have HCV := Lib.hid (@fill_cov l c)
  clear hl hn hs
  go_enter Try.func4, Try.ntmps4
  go_wp2_with fail
  refine (light_any ad n cap l c w HL.out HN.out HSS.out).mono ?_
  rintro e w' ⟨⟨b, rfl, -⟩, rfl⟩
  cases b
  · go_wp2_with fail
    refine (awake16_any w).mono ?_
    rintro e w' ⟨rfl, hb⟩
    have HB := Lib.hid hb
    clear hb
    go_wp2_with fail
    go_ret
    exact ⟨rfl, HB.out⟩
  go_wp2_with fail
  refine (fill_any ad n cap l c w HL.out HN.out HSS.out).mono ?_
  rintro e X1 ⟨v1, rfl, hv1, hb1⟩
  have HV1 := Lib.hid hv1
  have HB1 := Lib.hid hb1
  clear hv1 hb1
  generalize hE : (fillU l c).2 = E at *
  by_cases hE0 : E = 0
  rotate_left
  · have he := ne_t hE0
    clear hE0 hE
    go_wp2_with fail
    refine (awake16_any X1).mono ?_
    rintro e w' ⟨rfl, hb⟩
    have HB := Lib.hid (HB1.out.trans (hb.mono HB1.out.size))
    clear hb
    go_wp2_with fail
    go_ret
    exact ⟨rfl, HB.out⟩
  have hval := HER.out hE0
  have HP := Lib.hid (HCV.out hval)
  obtain ⟨h512, hok⟩ := valU_ok hval
  have HOK := Lib.hid hok
  have hn512 : n ≤ 512 := by rw [HN.out]; exact h512
  obtain ⟨hc0, hc1⟩ := hok.1
  subst hE0
  clear hE hval HER HCV hok h512
  obtain ⟨ad1, cap1, rfl, -⟩ := HV1.out.read
  generalize hfu : (fillU l c).1 = ll at *
  clear hfu
  obtain ⟨M, hM⟩ : ∃ M, M = ll.length := ⟨_, rfl⟩
  rw [← hM] at HV1 HLN ⊢
  have HM := Lib.hid hM
  have hM9 : M ≤ 10000000 := by have := HLN.out; omega
  clear hM
  go_wp2_with fail
  go_loopg [7, 8, 9] M (fun gk v7 v8 v9 wx => ∃ (i : Nat) (F O : Int), v7 = .int .i64 F ∧ v8 = .int .i64 O ∧ v9 = .int .i64 i ∧ i + gk = M ∧ Hid ((F, O) = endR 0 0 (ll.take i).flatten) ∧ Hid (Below X1.heap.size X1 wx))
  case atStart => exact ⟨0, 0, 0, rfl, rfl, rfl, by omega, Lib.hid rfl, Lib.hid (Below.refl _ _)⟩
  case round =>
    obtain ⟨i, F, O, rfl, rfl, rfl, hi, hFO, hB⟩ := hrel
    cases gk with
    | zero =>
      obtain rfl : i = M := by omega
      have HBX := Lib.hid (HB1.out.trans (hB.out.mono HB1.out.size))
      have HFO : Hid ((F, O) = endR 0 0 ll.flatten) := Lib.hid (by rw [hFO.out, List.take_of_length_le (by rw [HM.out]; exact Nat.le_refl _)])
      have hcase : (n = 0 ∧ i = 0) ∨ (0 < n ∧ 0 < i ∧ F = (n : Int) - 1 ∧ O = szL l (n - 1)) := by
        rcases HP.out.2 with ⟨h1, h2⟩ | ⟨h1, h2, h3⟩
        · exact .inl ⟨by rw [HN.out]; exact h1, by rw [HM.out, h2]; rfl⟩
        · refine .inr ⟨by rw [HN.out]; exact h1, by rw [HM.out]; exact List.length_pos_iff.2 h2, ?_⟩
          have := HFO.out.trans h3
          cases this
          exact ⟨by rw [HN.out], by rw [HN.out]⟩
      rcases hcase with ⟨rfl, rfl⟩ | ⟨h1, h2, rfl, hO⟩
      · go_wp2_with fail
        refine (awake16_any wr).mono ?_
        rintro e w' ⟨rfl, hb⟩
        have HB := Lib.hid (HBX.out.trans (hb.mono HBX.out.size))
        clear hb
        go_wp2_with fail
        go_ret
        exact ⟨rfl, HB.out⟩
      · obtain ⟨k, rfl⟩ : ∃ k, n = k + 1 := ⟨n - 1, by omega⟩
        have hkl : k < l.length := by have := HN.out; omega
        obtain ⟨bq, off, rfl, -, q⟩ := (HL.out.below HBX.out).get celI hkl
        have q0 : wr.cell? ⟨bq, off + k, none⟩ = some (.int .i64 (szL l k)) := by rw [szL_get hkl]; simpa using q 0 _ (by decide) rfl
        have e1 : ((k + 1 : Nat) : Int) - 1 = (k : Int) := by omega
        rw [e1]
        have hn0 : (((k + 1 : Nat) : Int) == 0) = false := eq_f (by omega)
        have hO2 : O = szL l k := by rw [hO]; rfl
        clear hO e1 q
        generalize szL l k = s at *
        have hos := eq_t hO2
        have hkk := eq_t (show (k : Int) = (k : Int) from rfl)
        clear hO2
        go_wp2_with fail
        refine (awake16_any wr).mono ?_
        rintro e w' ⟨rfl, hb⟩
        have HB := Lib.hid (HBX.out.trans (hb.mono HBX.out.size))
        clear hb
        go_wp2_with fail
        go_ret
        exact ⟨rfl, HB.out⟩
    | succ gk0 =>
      have hin : i < M := by omega
      have hil : i < ll.length := by have := HM.out; omega
      have hv3 := HV1.out.below hB.out
      have hlen := (HG.out.len _ (List.getElem_mem hil))
      have hpos := HG.out.pos _ (List.getElem_mem hil)
      have huse := HG.out.use _ (List.getElem_mem hil)
      have hfull := fun (h : i + 1 < ll.length) => HG.out.full i hil h
      have HCA := Lib.hid (fun k (hk : k < (ll[i]).length) => cov_at HP.out.1 hil hk)
      have HNX' := Lib.hid (fun k (hk : k < (ll[i]).length) => end_next hil hk)
      have HRW := Lib.hid (end_row hil)
      obtain ⟨g, c1, a1, n1, e1, -, -, -, q0, o1⟩ := HV1.out.get i hil
      rw [← HM.out] at e1
      cases e1
      obtain ⟨_, _, e1, l1, -⟩ := o1.read
      cases e1
      have HQ0 := Lib.hid q0
      have HGL := Lib.hid (World.block_lt_of_cell? X1 _ q0)
      have HL1 := Lib.hid l1
      obtain ⟨R, hR⟩ : ∃ R, R = ll[i] := ⟨_, rfl⟩
      rw [← hR] at hlen hpos huse HCA HNX' HRW HQ0 HL1
      have hful2 : i + 1 < M → usedP R = c ∨ R.length = 64 := fun h => by rw [hR]; exact hfull (by rw [← HM.out]; exact h)
      have HFUL := Lib.hid hful2
      obtain ⟨L, hL⟩ : ∃ L, L = R.length := ⟨_, rfl⟩
      rw [← hL] at HQ0 hlen
      have HLN2 := Lib.hid hL
      have HPOS := Lib.hid hpos
      have HUSE := Lib.hid huse
      obtain ⟨hL64, hL0⟩ := hlen
      clear hR hL hv3 o1 l1 q0 hpos huse hfull hful2 hil
      have q0 := (hB.out.cell (p := ⟨g, i, none⟩) HGL.out).trans HQ0.out
      go_wp2_with fail
      clear q0
      go_loopg [7, 8, 10, 11] L (fun g2 v7 v8 v10 v11 wx => ∃ (k : Nat) (F O T : Int), v7 = .int .i64 F ∧ v8 = .int .i64 O ∧ v10 = .int .i64 T ∧ v11 = .int .i64 k ∧ k + g2 = L ∧ Hid ((F, O) = endR 0 0 ((ll.take i).flatten ++ (R.take k))) ∧ Hid (T = usedP (R.take k)) ∧ Hid (Below X1.heap.size X1 wx))
      case atStart => exact ⟨0, F, O, 0, rfl, rfl, rfl, rfl, by omega, Lib.hid (by rw [hFO.out]; simp), Lib.hid (by simp [usedP]), hB⟩
      case round =>
        obtain ⟨k, F, O, T, rfl, rfl, rfl, rfl, hk, hFO2, hT, hB2⟩ := hrel
        have q0 := (hB2.out.cell (p := ⟨g, i, none⟩) HGL.out).trans HQ0.out
        cases gk with
        | zero =>
          obtain rfl : k = L := by omega
          have hTU : T = usedP R := by rw [hT.out, List.take_of_length_le (by rw [HLN2.out]; exact Nat.le_refl _)]
          have huse := HUSE.out
          have hfull := HFUL.out
          have HFO3 : Hid ((F, O) = endR 0 0 (ll.take (i + 1)).flatten) := Lib.hid (by rw [hFO2.out, ← HRW.out, HLN2.out])
          rw [← hTU] at huse hfull
          rw [← HLN2.out] at hfull
          clear hTU
          have hTc : ¬ c < T := by omega
          have hL1 : ((k : Int) == 0) = false := eq_f (by omega)
          have hL2 : ¬ (64 : Int) < (k : Int) := by omega
          have hw : IntKind.i64.wrap ((M : Int) - 1) = (M : Int) - 1 := IntWalk.i64_in _ (by omega)
          by_cases hlast : (i : Int) < (M : Int) - 1
          · have h1 := hfull (by omega)
            by_cases hT2 : T < c
            · have hk64 : k = 64 := by omega
              subst hk64
              clear h1 hfull
              go_wp2_with fail
              go_roundg gk0
              case rel => exact ⟨i + 1, F, O, rfl, rfl, by go_num, by omega, HFO3, hB2⟩
              case measure => omega
            · clear h1 hfull
              go_wp2_with fail
              go_roundg gk0
              case rel => exact ⟨i + 1, F, O, rfl, rfl, by go_num, by omega, HFO3, hB2⟩
              case measure => omega
          · clear hfull
            go_wp2_with fail
            go_roundg gk0
            case rel => exact ⟨i + 1, F, O, rfl, rfl, by go_num, by omega, HFO3, hB2⟩
            case measure => omega
        | succ gk1 =>
          have hkL : k < L := by omega
          have hkl : k < R.length := by have := HLN2.out; omega
          obtain ⟨bq, oq, rfl, -, q⟩ := (HL1.out.below hB2.out).get celP hkl
          have q1 : wr.cell? ⟨bq, oq + k * 3, none⟩ = some (.int .i64 R[k].f) := q 0 _ (by decide) rfl
          have q2 : wr.cell? ⟨bq, oq + k * 3 + 1, none⟩ = some (.int .i64 R[k].o) := q 1 _ (by decide) rfl
          have q3 : wr.cell? ⟨bq, oq + k * 3 + 2, none⟩ = some (.int .i64 R[k].n) := q 2 _ (by decide) rfl
          have hok := HCA.out k hkl
          rw [← hFO2.out] at hok
          have HNX := Lib.hid (HNX'.out k hkl)
          have HTS := Lib.hid (show usedP (R.take (k + 1)) = T + R[k].n by rw [List.take_succ_eq_append_getElem hkl, usedP_snoc, ← hT.out])
          have hTb := usedP_take_le HPOS.out k
          rw [← hT.out] at hTb
          have hTc2 := HUSE.out
          have hT0 := hTb.1
          have hT1 : T ≤ c := by omega
          obtain ⟨p, hp⟩ : ∃ p, p = R[k] := ⟨_, rfl⟩
          rw [← hp] at q1 q2 q3 hok HNX HTS
          clear q hp hkl hTb hTc2 hT hFO2
          obtain ⟨pf, po, m⟩ := p
          obtain ⟨halt, ⟨hf0, hf1⟩, ho0, hm0', hm1', hz⟩ := hok
          dsimp only at halt hf0 hf1 ho0 hm0' hm1' hz q1 q2 q3 HNX HTS
          obtain ⟨G, rfl⟩ := Int.eq_ofNat_of_zero_le hf0
          have hGl : G < l.length := by omega
          have hGn : G < n := by have := HN.out; omega
          rw [Int.toNat_natCast] at hm1' hz
          have hHB := HB1.out.trans (hB2.out.mono HB1.out.size)
          obtain ⟨bs, os, rfl, hslt, qs⟩ := HL.out.get celI hGl
          have HSZ := Lib.hid (show ∀ j, j < l.length → wr.cell? ⟨bs, os + j, none⟩ = some (.int .i64 (szL l j)) from fun j hj => by
            obtain ⟨b', o', e, hlt, q⟩ := (HL.out.below hHB).get celI hj
            cases e
            rw [szL_get hj]; simpa using q 0 _ (by decide) rfl)
          have hSb := szL_nn HOK.out.2 G
          have HBP := Lib.hid (co_box1 wr (.cells #[.int .i64 (G : Int), .int .i64 po, .int .i64 m] 36))
          have HBSW := Lib.hid (Nat.lt_of_lt_of_le hslt hHB.size)
          have hnewp := heap_alloc_new wr (.cells #[.int .i64 (G : Int), .int .i64 po, .int .i64 m] 36)
          have p0 : (wr.alloc (.cells #[.int .i64 (G : Int), .int .i64 po, .int .i64 m] 36)).cell? ⟨wr.heap.size, 0, none⟩ = some (.int .i64 (G : Int)) := by rw [cell_of_row _ _ 0 _ _ _ hnewp]; rfl
          have p1 : (wr.alloc (.cells #[.int .i64 (G : Int), .int .i64 po, .int .i64 m] 36)).cell? ⟨wr.heap.size, 1, none⟩ = some (.int .i64 po) := by rw [cell_of_row _ _ 1 _ _ _ hnewp]; rfl
          have p2 : (wr.alloc (.cells #[.int .i64 (G : Int), .int .i64 po, .int .i64 m] 36)).cell? ⟨wr.heap.size, 2, none⟩ = some (.int .i64 m) := by rw [cell_of_row _ _ 2 _ _ _ hnewp]; rfl
          have HSY := Lib.hid (show ∀ j, j < l.length → (wr.alloc (.cells #[.int .i64 (G : Int), .int .i64 po, .int .i64 m] 36)).cell? ⟨bs, os + j, none⟩ = some (.int .i64 (szL l j)) from fun j hj => (HBP.out.cell (p := ⟨bs, os + j, none⟩) HBSW.out).trans (HSZ.out j hj))
          have HBY := Lib.hid (hB2.out.trans (HBP.out.mono hB2.out.size))
          clear hnewp hslt qs hHB
          go_upto_region 15 with fail
          obtain ⟨bp, hbp⟩ : ∃ bp, bp = wr.heap.size := ⟨_, rfl⟩
          rw [← hbp] at p0 p1 p2 ⊢
          clear hbp q0 q1 q2 q3 HBP
          generalize World.alloc wr _ = Y at *
          have yG := HSY.out G hGl
          obtain ⟨S, hS⟩ : ∃ S, S = szL l G := ⟨_, rfl⟩
          rw [← hS] at yG hm1' hz hSb
          obtain ⟨hSb0, hSb1⟩ := hSb
          have HSH := Lib.hid hS
          have hpO : po ≤ S := by omega
          clear hS
          go_cut [73] (fun s73 wx => ∃ b : Bool, s73 = .bool b ∧ Y = wx ∧ Hid ((b = false ∧ F = (G : Int) ∧ O = po) ∨ (b = true ∧ F + 1 = (G : Int) ∧ po = 0)))
          case first =>
            rcases halt with ⟨h1, h2⟩ | ⟨hF, hF0, hF1, hO, h2⟩
            · have hA : Hid (F = (G : Int) ∧ O = po) := Lib.hid ⟨h1.symm, h2.symm⟩
              have d0 : ((G : Int) != F) = false := ne_f h1
              clear h1 h2
              go_wp2_with fail
              go_meet
              case rel => exact ⟨false, rfl, rfl, Lib.hid (.inl ⟨rfl, hA.out.1, hA.out.2⟩)⟩
            · obtain ⟨Q, rfl⟩ := Int.eq_ofNat_of_zero_le hF0
              have hGQ : (Q : Int) + 1 = (G : Int) := hF.symm
              have hQl : Q < l.length := by omega
              have hQn : Q < n := by omega
              have yQ := HSY.out Q hQl
              rw [Int.toNat_natCast] at hO
              rw [← hO] at yQ
              have d0 : ((G : Int) != (Q : Int)) = true := ne_t (by omega)
              have d1 : ((G : Int) == (Q : Int) + 1) = true := eq_t (by omega)
              have d2 := eq_t (show O = O from rfl)
              have HB2 : Hid ((Q : Int) + 1 = (G : Int) ∧ po = 0) := Lib.hid ⟨hGQ, h2⟩
              clear hF hF0 hF1 hO hQl hGQ h2
              go_wp2_with fail
              go_meet
              case rel => exact ⟨true, rfl, rfl, Lib.hid (.inr ⟨rfl, HB2.out.1, HB2.out.2⟩)⟩
          case rest =>
          obtain ⟨b73, rfl, rfl, hb73⟩ := hcut
          clear halt
          go_upto_if 73 with fail
          go_cut [7, 8] (fun s7 s8 wx => s7 = .int .i64 (G : Int) ∧ s8 = .int .i64 po ∧ Y = wx)
          case first =>
            cases b73
            · go_wp2_with fail
              go_meet
              case rel =>
                rcases hb73.out with ⟨-, h1, h2⟩ | ⟨h, -⟩
                · exact ⟨by rw [h1], by rw [h2], rfl⟩
                · cases h
            · have HFG : Hid (F + 1 = (G : Int) ∧ po = 0) := Lib.hid (by
                rcases hb73.out with ⟨h, -⟩ | ⟨-, h1, h2⟩
                · cases h
                · exact ⟨h1, h2⟩)
              have hwF : IntKind.i64.wrap (F + 1) = F + 1 := IntWalk.i64_in _ (by have := HFG.out.1; omega)
              go_wp2_with fail
              go_meet
              case rel => exact ⟨by rw [← HFG.out.1], by rw [HFG.out.2], rfl⟩
          case rest =>
          obtain ⟨rfl, rfl, rfl⟩ := hcut
          clear hb73 HSY HSZ hGl hf0 hf1
          have e0 := ne_f (show ((G : Int) : Int) = (G : Int) from rfl)
          have e1 := ne_f (show (po : Int) = po from rfl)
          have hge : decide ((n : Int) ≤ (G : Int)) = false := decide_eq_false (by omega)
          have hlt0 : decide (m < 0) = false := decide_eq_false (by omega)
          have hws : IntKind.i64.wrap (S - po) = S - po := IntWalk.i64_in _ (by omega)
          have hgt : decide (S - po < m) = false := decide_eq_false (by omega)
          have hw1 : IntKind.i64.wrap (po + m) = po + m := IntWalk.i64_in _ (by omega)
          have hw2 : IntKind.i64.wrap (T + m) = T + m := IntWalk.i64_in _ (by omega)
          by_cases hm0 : m = 0
          · have hm1 := eq_t hm0
            have hS0 := hz hm0
            have hs0 : decide (0 < S) = false := decide_eq_false (by omega)
            clear hm0 hz hS0
            go_wp2_with fail
            go_quiet (fail)
            have HBY2 := Lib.hid (HBY.out.trans ((drew_below Y nq).mono HBY.out.size))
            replace p2 : (Y.drewN nq).cell? ⟨bp, 2, none⟩ = some (.int .i64 m) := p2
            generalize World.drewN Y nq = Y2 at *
            clear HBY
            go_wp2_with fail
            go_roundg gk1
            case rel => exact ⟨k + 1, (G : Int), po + m, T + m, rfl, by go_num, rfl, by go_num, by omega, Lib.hid (by rw [HNX.out]), Lib.hid (by rw [HTS.out]), HBY2⟩
            case measure => omega
          · have hm1 := eq_f hm0
            clear hm0 hz
            go_wp2_with fail
            go_quiet (fail)
            have HBY2 := Lib.hid (HBY.out.trans ((drew_below Y nq).mono HBY.out.size))
            replace p2 : (Y.drewN nq).cell? ⟨bp, 2, none⟩ = some (.int .i64 m) := p2
            generalize World.drewN Y nq = Y2 at *
            clear HBY
            go_wp2_with fail
            go_roundg gk1
            case rel => exact ⟨k + 1, (G : Int), po + m, T + m, rfl, by go_num, rfl, by go_num, by omega, Lib.hid (by rw [HNX.out]), Lib.hid (by rw [HTS.out]), HBY2⟩
            case measure => omega
end Go.Proofs.Ytgmcniflandmmaa
