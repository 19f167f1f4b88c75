/-
  PackerHalves.
-/
import Derived.Test.YtgmcniflandmmaaPkLaw1
import Derived.Test.YtgmcniflandmmaaPkBndM
namespace Go.Proofs.Ytgmcniflandmmaa
open Go.RowKit
set_option linter.unusedVariables false
set_option linter.unusedSimpArgs false
theorem ffU_halves {l : List Int} {c : Int} (h : (ffU l c (List.range l.length)).2 = 0) (h64 : l.length ≤ 64) : HvF l c (ffU l c (List.range l.length)).1 := by
  obtain ⟨hv, he, -⟩ := ffU_ok h
  rw [he]
  exact hv_fit (valU_ok hv).2.2 _ _ (by simpa using h64) (fun i k hi => by simp at hi)
attribute [local irreducible] ffU
set_option maxRecDepth 100000 in
set_option maxHeartbeats 8000000 in
theorem law_halves (ad : Option Addr) (n cap : Nat) (l : List Int) (c : Int) (w : World) (hl : Lf inC w ad l) (hn : n = l.length) (hs : n ≤ 9223372036854775807) :
    Calls Try.prog 7 #[.slice ad n cap, .int .i64 c] w fun e w' => e = .returned (.bool true) ∧ Below w.heap.size w w' := by
  have HL := Lib.hid hl
  have HN := Lib.hid hn
  have HSS := Lib.hid hs
  have HG := Lib.hid (ffU_good l c (List.range l.length) (fun i hi => List.mem_range.1 hi))
  have HLN := Lib.hid (show (ffU l c (List.range l.length)).1.length ≤ n by have := ffU_len l c (List.range l.length); rw [List.length_range] at this; omega)
  have HK := Lib.hid (@ffU_ok l c (List.range l.length))
  have HH := Lib.hid (@ffU_halves l c)
  clear hl hn hs
  go_enter Try.func7, Try.ntmps7
  by_cases h6 : 64 < n
  · go_wp2_with fail
    refine (awake16_any w).mono ?_
    rintro e w' ⟨rfl, hb⟩
    have HB := Lib.hid hb
    clear hb
    go_wp2_with fail
    go_ret
    exact ⟨rfl, HB.out⟩
  have hn64 : n ≤ 64 := by omega
  go_wp2_with fail
  refine (firstfit_any ad n cap l c w HL.out HN.out HSS.out).mono ?_
  rintro e X1 ⟨v1, rfl, hv1, hb1⟩
  have HV1 := Lib.hid hv1
  have HB1 := Lib.hid hb1
  clear hv1 hb1
  generalize hE : (ffU l c (List.range l.length)).2 = E at *
  by_cases hE0 : E = 0
  rotate_left
  · have he := ne_t hE0
    clear hE0 hE
    go_wp2_with fail
    refine (awake16_any X1).mono ?_
    rintro e w' ⟨rfl, hb⟩
    have HB := Lib.hid (HB1.out.trans (hb.mono HB1.out.size))
    clear hb
    go_wp2_with fail
    go_ret
    exact ⟨rfl, HB.out⟩
  obtain ⟨hval, -, -⟩ := HK.out hE0
  have HHV := Lib.hid (HH.out hE0 (by have := HN.out; omega))
  have HOK := Lib.hid (valU_ok hval).2
  subst hE0
  clear hE HK HH hval
  obtain ⟨hc0, hc1⟩ := HOK.out.1
  obtain ⟨ad1, cap1, rfl, -⟩ := HV1.out.read
  generalize (ffU l c (List.range l.length)).1 = ll at *
  obtain ⟨M, hM⟩ : ∃ M, M = ll.length := ⟨_, rfl⟩
  rw [← hM] at HV1 ⊢
  have HM := Lib.hid hM
  have hM64 : M ≤ 64 := by have := HLN.out; omega
  clear hM
  have HLX := Lib.hid (HL.out.below HB1.out)
  go_wp2_with fail
  go_loopg [7] M (fun gk v7 wx => ∃ i : Nat, v7 = .int .i64 i ∧ i + gk = M ∧ X1 = wx)
  case atStart => exact ⟨0, rfl, by omega, rfl⟩
  case round =>
    obtain ⟨i, rfl, hi, rfl⟩ := hrel
    cases gk with
    | zero =>
      obtain rfl : i = M := by omega
      go_wp2_with fail
      refine (awake16_any X1).mono ?_
      rintro e w' ⟨rfl, hb⟩
      have HB := Lib.hid (HB1.out.trans (hb.mono HB1.out.size))
      clear hb
      go_wp2_with fail
      go_ret
      exact ⟨rfl, HB.out⟩
    | succ gk0 =>
      have hin : i < M := by omega
      go_wp2_with fail
      go_loopg [8] i (fun g2 v8 wx => ∃ k : Nat, v8 = .int .i64 k ∧ k + g2 = i ∧ X1 = wx)
      case atStart => exact ⟨0, rfl, by omega, rfl⟩
      case round =>
        obtain ⟨k, rfl, hk, rfl⟩ := hrel
        cases gk with
        | zero =>
          obtain rfl : k = i := by omega
          go_wp2_with fail
          go_roundg gk0
          case rel => exact ⟨k + 1, by go_num, by omega, rfl⟩
          case measure => omega
        | succ gk1 =>
          have hki : k < i := by omega
          have hil : i < ll.length := by have := HM.out; omega
          have hkl : k < ll.length := by omega
          have hhv := HHV.out i k hil hki
          have hleni := HG.out.len _ (List.getElem_mem hil)
          have hlenk := HG.out.len _ (List.getElem_mem hkl)
          have HNI := Lib.hid (HG.out.num _ (List.getElem_mem hil))
          have HNK := Lib.hid (HG.out.num _ (List.getElem_mem hkl))
          have HUI := Lib.hid (HG.out.use _ (List.getElem_mem hil))
          have HUK := Lib.hid (HG.out.use _ (List.getElem_mem hkl))
          obtain ⟨g, c1, a1, n1, e1, -, -, -, qi, o1⟩ := HV1.out.get i hil
          rw [← HM.out] at e1
          cases e1
          obtain ⟨_, _, e1, l1, -⟩ := o1.read
          cases e1
          obtain ⟨g', c2, a2, n2, e2, -, -, -, qk, o2⟩ := HV1.out.get k hkl
          rw [← HM.out] at e2
          cases e2
          obtain ⟨_, _, e2, l2, -⟩ := o2.read
          cases e2
          have HLI := Lib.hid l1
          have HLK := Lib.hid l2
          obtain ⟨R, hR⟩ : ∃ R, R = ll[i] := ⟨_, rfl⟩
          obtain ⟨Z, hZ⟩ : ∃ Z, Z = ll[k] := ⟨_, rfl⟩
          rw [← hR] at hhv hleni HNI HUI qi HLI
          rw [← hZ] at hhv hlenk HNK HUK qk HLK
          obtain ⟨LR, hLR⟩ : ∃ LR, LR = R.length := ⟨_, rfl⟩
          obtain ⟨LZ, hLZ⟩ : ∃ LZ, LZ = Z.length := ⟨_, rfl⟩
          rw [← hLR] at hleni qi
          rw [← hLZ] at hlenk qk
          have HLR := Lib.hid hLR
          have HLZ := Lib.hid hLZ
          have HHV2 := Lib.hid hhv
          obtain ⟨hr64, -⟩ := hleni
          obtain ⟨hz64, -⟩ := hlenk
          clear hR hZ hLR hLZ o1 o2 l1 l2 hhv hil hkl
          go_wp2_with fail
          go_loopg [9, 10] LR (fun g3 v9 v10 wx => ∃ (j : Nat) (T : Int), v9 = .int .i64 T ∧ v10 = .int .i64 j ∧ j + g3 = LR ∧ X1 = wx ∧ Hid (T = sumZ l (R.take j)))
          case atStart => exact ⟨0, 0, rfl, rfl, by omega, rfl, Lib.hid (by simp [sumZ])⟩
          case round =>
            obtain ⟨j, T, rfl, rfl, hj, rfl, hT⟩ := hrel
            cases gk with
            | succ gk2 =>
              have hjL : j < LR := by omega
              have hjl : j < R.length := by have := HLR.out; omega
              obtain ⟨bq, oq, rfl, -, q⟩ := HLI.out.get celN hjl
              have q1 : X1.cell? ⟨bq, oq + j, none⟩ = some (.int .i64 ((R[j] : Nat) : Int)) := by simpa using q 0 _ (by decide) rfl
              have hx := HNI.out _ (List.getElem_mem hjl)
              have HTS := Lib.hid (show sumZ l (R.take (j + 1)) = T + szL l R[j] by rw [List.take_succ_eq_append_getElem hjl, sumZ_snoc, ← hT.out])
              have htb := sumZ_take HOK.out.2 R j
              rw [← hT.out] at htb
              have huse := HUI.out
              generalize R[j] = x at *
              have hxn : x < n := by have := HN.out; omega
              obtain ⟨bs, os, rfl, -, qs⟩ := HLX.out.get celI hx
              have qx : X1.cell? ⟨bs, os + x, none⟩ = some (.int .i64 (szL l x)) := by rw [szL_get hx]; simpa using qs 0 _ (by decide) rfl
              have hsx := szL_nn HOK.out.2 x
              generalize szL l x = S at *
              have hw1 : IntKind.i64.wrap (T + S) = T + S := IntWalk.i64_in _ (by omega)
              clear q qs hx hjl
              go_wp2_with fail
              go_roundg gk2
              case rel => exact ⟨j + 1, T + S, rfl, by go_num, by omega, rfl, Lib.hid HTS.out.symm⟩
              case measure => omega
            | zero =>
              have hTU : T = sumZ l R := by rw [hT.out, List.take_of_length_le (by have := HLR.out; omega)]
              have huse := HUI.out
              have hT0 := (sumZ_nn HOK.out.2 R).1
              rw [← hTU] at huse hT0
              have HTR := Lib.hid hTU
              obtain rfl : j = LR := by omega
              clear hTU hj
              have hjj : ¬ ((j : Int) < (j : Int)) := by omega
              go_wp2_with fail
              go_loopg [9, 11] LZ (fun g3 v9 v11 wx => ∃ (m : Nat) (Y : Int), v9 = .int .i64 (T + Y) ∧ v11 = .int .i64 m ∧ m + g3 = LZ ∧ X1 = wx ∧ Hid (Y = sumZ l (Z.take m)))
              case atStart => exact ⟨0, 0, by rw [Int.add_zero], rfl, by omega, rfl, Lib.hid (by simp [sumZ])⟩
              case round =>
                obtain ⟨m, Y, rfl, rfl, hm, rfl, hY⟩ := hrel
                cases gk with
                | succ gk2 =>
                  have hmL : m < LZ := by omega
                  have hml : m < Z.length := by have := HLZ.out; omega
                  obtain ⟨bq, oq, rfl, -, q⟩ := HLK.out.get celN hml
                  have q1 : X1.cell? ⟨bq, oq + m, none⟩ = some (.int .i64 ((Z[m] : Nat) : Int)) := by simpa using q 0 _ (by decide) rfl
                  have hx := HNK.out _ (List.getElem_mem hml)
                  have HTS := Lib.hid (show sumZ l (Z.take (m + 1)) = Y + szL l Z[m] by rw [List.take_succ_eq_append_getElem hml, sumZ_snoc, ← hY.out])
                  have htb := sumZ_take HOK.out.2 Z m
                  rw [← hY.out] at htb
                  have huse2 := HUK.out
                  generalize Z[m] = x at *
                  have hxn : x < n := by have := HN.out; omega
                  obtain ⟨bs, os, rfl, -, qs⟩ := HLX.out.get celI hx
                  have qx : X1.cell? ⟨bs, os + x, none⟩ = some (.int .i64 (szL l x)) := by rw [szL_get hx]; simpa using qs 0 _ (by decide) rfl
                  have hsx := szL_nn HOK.out.2 x
                  generalize szL l x = S at *
                  have hw1 : IntKind.i64.wrap (T + Y + S) = T + Y + S := IntWalk.i64_in _ (by omega)
                  clear q qs hx hml
                  go_wp2_with fail
                  go_roundg gk2
                  case rel => exact ⟨m + 1, Y + S, by rw [Int.add_assoc], by go_num, by omega, rfl, Lib.hid HTS.out.symm⟩
                  case measure => omega
                | zero =>
                  have hYU : Y = sumZ l Z := by rw [hY.out, List.take_of_length_le (by have := HLZ.out; omega)]
                  have hfin : ¬ T + Y ≤ c := by have := HHV2.out; rw [← HTR.out, ← hYU] at this; omega
                  obtain rfl : m = LZ := by omega
                  clear hYU hm hY
                  have hmm : ¬ ((m : Int) < (m : Int)) := by omega
                  go_wp2_with fail
                  go_roundg gk1
                  case rel => exact ⟨k + 1, by go_num, by omega, rfl⟩
                  case measure => omega
end Go.Proofs.Ytgmcniflandmmaa
