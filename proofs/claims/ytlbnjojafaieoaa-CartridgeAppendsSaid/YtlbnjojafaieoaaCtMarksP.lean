/-
  The program's Marks.
-/
import Derived.Test.YtlbnjojafaieoaaCtMarks
import Derived.Test.YtlbnjojafaieoaaCtValP
namespace Go.Proofs.Ytlbnjojafaieoaa
open Go.RowKit
set_option linter.unusedVariables false
theorem mrk_no : ∀ (L : List Blk) (a n : Nat), (∀ j (h : j < L.length), pMark L[j].m L[j].bad L[j].d.length = false) → mrk L a (n + 1) = none
  | [], a, n, _ => mrk_nil a n
  | b :: L, a, n, h => by
    have h0 : (b.m && !b.bad) = false := h 0 (by simp)
    have ih := mrk_no L (a + 1) n (fun j hj => h (j + 1) (by simpa using hj))
    rw [mrk, if_neg (by rw [h0]; simp), ih]
theorem mrk_at : ∀ (L : List Blk) (a n q : Nat) (hq : q < L.length), pMark L[q].m L[q].bad L[q].d.length = true → (∀ j (h : j < L.length), j < q → pMark L[j].m L[j].bad L[j].d.length = false) → mrk L a (n + 1) = mrk (L.drop (q + 1)) (a + q + 1) n
  | [], a, n, q, hq, _, _ => by simp at hq
  | b :: L, a, n, 0, hq, hm, _ => by
    have h0 : (b.m && !b.bad) = true := hm
    rw [mrk, if_pos h0]
    rfl
  | b :: L, a, n, q + 1, hq, hm, hall => by
    have h0 : (b.m && !b.bad) = false := hall 0 (by simp) (by omega)
    have ih := mrk_at L (a + 1) n q (by simpa using hq) hm (fun j hj hjq => hall (j + 1) (by simpa using hj) (by omega))
    rw [mrk, if_neg (by rw [h0]; simp), ih, List.drop_succ_cons, show a + 1 + q + 1 = a + (q + 1) + 1 by omega]
attribute [local irreducible] tim vld bar cnt okB capU allB vldC eqK marksC mrk fixI
set_option maxRecDepth 100000 in
set_option maxHeartbeats 4000000 in
theorem marks_any (c : Crt) (ad : Option Addr) (cap : Nat) (a n : Int) (w : World) (hin : CrIn w c ad cap) (hs : c.l.length ≤ 100000) (nb : n ≤ 9223372036854775807) :
    Calls Try.prog 26 #[crV c ad cap, .int .i64 a, .int .i64 n] w fun e w' => e = .returned (.tuple #[.int .i64 (marksC (vldC c) c.l a n).1, .int .i64 (marksC (vldC c) c.l a n).2]) ∧ Below w.heap.size w w' := by
  have HVX := Lib.hid (fun X (h : Below w.heap.size w X) => valc_any c ad cap X (hin.below h))
  have HKI := Lib.hid hin.ki
  have HNN := Lib.hid hin.nn
  have hle := hin.le
  have hmx : cap ≤ 9223372036854775807 := hin.mx
  clear hin
  obtain ⟨bc, W, L, S, T, J, R, wo, lk, l, ep, lo, pa⟩ := c
  simp only at HKI hs hle ⊢
  generalize vldC ⟨bc, W, L, S, T, J, R, wo, lk, l, ep, lo, pa⟩ = vv at *
  obtain ⟨M, hM⟩ : ∃ M, M = l.length := ⟨_, rfl⟩
  show Calls Try.prog 26 #[crW bc W L S T J R wo lk ad l.length cap ep lo pa, .int .i64 a, .int .i64 n] w _
  have HX2 : Hid (∀ X, Below w.heap.size w X → Calls Try.prog 14 #[crW bc W L S T J R wo lk ad M cap ep lo pa] X fun e w' => e = .returned (.bool vv) ∧ Below X.heap.size X w') := Lib.hid (by rw [hM]; exact HVX.out)
  clear HVX
  have HM := Lib.hid hM
  rw [← hM] at hs hle ⊢
  clear hM
  have HB0 := Lib.hid (below_box1 w (boxK bc W L S T J R wo lk ad M cap ep lo pa))
  have HC := Lib.hid (CrAt.new w bc W L S T J R wo lk ad M cap ep lo pa 26)
  cases vv
  · have HR := Lib.hid (show marksC false l a n = (0, 8) by unfold marksC; rfl)
    go_enter Try.func26, Try.ntmps26
    go_wp2_with fail
    generalize World.alloc _ _ = X0 at *
    refine (HX2.out X0 HB0.out).mono ?_
    rintro e w1 ⟨rfl, hb⟩
    have HB1 := Lib.hid (HB0.out.trans (hb.mono HB0.out.size))
    clear hb
    go_wp2
    go_ret2
    exact ⟨by rw [HR.out]; rfl, HB1.out⟩
  by_cases hin : a < 0 ∨ (M : Int) < a ∨ n < 0
  · have HR := Lib.hid (show marksC true l a n = (0, 7) by unfold marksC; rw [if_pos rfl, if_pos (by rw [← HM.out]; exact hin)])
    have part : a < 0 ∨ (0 ≤ a ∧ (M : Int) < a) ∨ (0 ≤ a ∧ a ≤ (M : Int) ∧ n < 0) := by omega
    clear hin
    rcases part with h1 | ⟨h1, h2⟩ | ⟨h1, h2, h3⟩
    all_goals
      go_enter Try.func26, Try.ntmps26
      go_wp2_with fail
      generalize World.alloc _ _ = X0 at *
      refine (HX2.out X0 HB0.out).mono ?_
      rintro e w1 ⟨rfl, hb⟩
      have HB1 := Lib.hid (HB0.out.trans (hb.mono HB0.out.size))
      obtain ⟨_, k0, k1, k2, k3, k4, k5, k6, k7, k8, k9, k10, k11, k12⟩ := HC.out.below hb HC.out.lt
      clear hb
      go_wp2
      go_ret2
      exact ⟨by rw [HR.out]; rfl, HB1.out⟩
  obtain ⟨A0, rfl⟩ : ∃ A0 : Nat, a = A0 := ⟨a.toNat, by omega⟩
  obtain ⟨N0, rfl⟩ : ∃ N0 : Nat, n = N0 := ⟨n.toNat, by omega⟩
  have hA0 : A0 ≤ M := by omega
  have hN0 : N0 ≤ 9223372036854775807 := by omega
  have HR := Lib.hid (marks_in (l := l) (a := A0) (n := N0) (by rw [← HM.out]; exact hA0))
  have HZR := Lib.hid (fun a => mrk_zero (l.drop a) a)
  clear hin
  go_enter Try.func26, Try.ntmps26
  go_wp2_with fail
  generalize World.alloc _ _ = X0 at *
  refine (HX2.out X0 HB0.out).mono ?_
  rintro e w1 ⟨rfl, hb⟩
  have HB1 := Lib.hid (HB0.out.trans (hb.mono HB0.out.size))
  have HC1 := Lib.hid (HC.out.below hb HC.out.lt)
  obtain ⟨_, k0, k1, k2, k3, k4, k5, k6, k7, k8, k9, k10, k11, k12⟩ := HC1.out
  clear hb HX2 HC HB0
  have d1 : decide (M < A0) = false := decide_eq_false (by omega)
  have d2 : decide ((A0 : Int) < 0) = false := decide_eq_false (by omega)
  have d3 : decide ((N0 : Int) < 0) = false := decide_eq_false (by omega)
  have d4 : decide ((M : Int) < (A0 : Int)) = false := decide_eq_false (by omega)
  go_wp2
  clear k0 k1 k2 k3 k4 k5 k6 k7 k8 k9 k10 k11 k12
  go_loopg [1, 26] N0 (fun gk v1 v26 wx => ∃ a i : Nat, a ≤ M ∧ i + gk = N0 ∧ v1 = .int .i64 a ∧ v26 = .int .i64 i ∧ Hid (Below w.heap.size w wx) ∧ Hid (CrAt wx w.heap.size bc W L S T J R wo lk ad M cap ep lo pa) ∧ Hid (mrk (l.drop A0) A0 N0 = mrk (l.drop a) a gk))
  case atStart => exact ⟨A0, 0, hA0, by omega, rfl, rfl, HB1, HC1, Lib.hid rfl⟩
  case round =>
    obtain ⟨a, i, ha, hi, rfl, rfl, hB, hC, hE⟩ := hrel
    obtain ⟨_, k0, k1, k2, k3, k4, k5, k6, k7, k8, k9, k10, k11, k12⟩ := hC.out
    have HK := Lib.hid (HKI.out.below hB.out)
    cases gk with
    | zero =>
      obtain rfl : i = N0 := by omega
      have HF := Lib.hid (show marksC true l (A0 : Int) (i : Int) = ((a : Int), 0) by rw [HR.out, hE.out, HZR.out])
      go_wp2
      go_ret2
      exact ⟨by rw [HF.out]; rfl, hB.out⟩
    | succ gk =>
      have hiN : i < N0 := by omega
      by_cases haM : a = M
      · have HE0 := Lib.hid (show l.drop a = [] by rw [List.drop_of_length_le (by rw [← HM.out]; omega)])
        have HF := Lib.hid (show marksC true l (A0 : Int) (N0 : Int) = (0, 11) by rw [HR.out, hE.out, HE0.out, mrk_nil])
        have HI0 := Lib.hid (show fixI pMark ([] : List Blk) = -1 from fix_no (fun j h => by simp at h))
        subst haM
        by_cases hcm : cap = a
        · subst hcm
          go_wp2_with fail
          refine (index_any _ pMark says_mark _ 0 _ [] wr (Ki.nil _ _) rfl (by omega)).mono ?_
          rw [HI0.out]
          rintro e w2 ⟨rfl, hb⟩
          have HB2 := Lib.hid (hB.out.trans (hb.mono hB.out.size))
          clear hb
          go_wp2
          go_ret2
          exact ⟨by rw [HF.out]; rfl, HB2.out⟩
        · obtain ⟨ad0, rfl⟩ : ∃ x, ad = some x := by
            cases ad with
            | none => have := HNN.out rfl; omega
            | some x => exact ⟨x, rfl⟩
          have hcne : cap - a ≠ 0 := by omega
          have hac : a < cap := by omega
          go_wp2_with fail
          refine (index_any _ pMark says_mark _ 0 _ [] wr (Ki.nil _ _) rfl (by omega)).mono ?_
          rw [HI0.out]
          rintro e w2 ⟨rfl, hb⟩
          have HB2 := Lib.hid (hB.out.trans (hb.mono hB.out.size))
          clear hb
          go_wp2
          go_ret2
          exact ⟨by rw [HF.out]; rfl, HB2.out⟩
      · obtain ⟨b, off, ad', cap', rfl, -⟩ := HK.out.get (i := a) (by rw [← HM.out]; omega)
        have haM2 : a < M := by omega
        have hcne : cap - a ≠ 0 := by omega
        have hac : a < cap := by omega
        have HKE := Lib.hid (show Ki wr (some ⟨b, off + a * 3, none⟩) (l.drop a) by
          have := HK.out.part a (M - a)
          rwa [List.take_of_length_le (by rw [List.length_drop, ← HM.out]; exact Nat.le_refl _)] at this)
        have HEL := Lib.hid (show M - a = (l.drop a).length by rw [List.length_drop, ← HM.out])
        go_wp2_with fail
        refine (index_any _ pMark says_mark _ (M - a) _ (l.drop a) wr HKE.out HEL.out (by omega)).mono ?_
        rcases fix_cases pMark (l.drop a) with ⟨hi1, hnone⟩ | ⟨q, hi1, hq, hqb, hqall⟩
        · rw [hi1]
          have HF := Lib.hid (show marksC true l (A0 : Int) (N0 : Int) = (0, 11) by rw [HR.out, hE.out, mrk_no _ _ _ hnone])
          rintro e w2 ⟨rfl, hb⟩
          have HB2 := Lib.hid (hB.out.trans (hb.mono hB.out.size))
          clear hb hnone hi1
          go_wp2
          go_ret2
          exact ⟨by rw [HF.out]; rfl, HB2.out⟩
        · rw [hi1]
          have HN := Lib.hid (show mrk (l.drop A0) A0 N0 = mrk (l.drop (a + q + 1)) (a + q + 1) gk by rw [hE.out, mrk_at _ _ _ q hq hqb hqall, List.drop_drop, show a + (q + 1) = a + q + 1 by omega])
          have hqD : q < M - a := by rw [HEL.out]; exact hq
          rintro e w2 ⟨rfl, hb⟩
          have HB2 := Lib.hid (hB.out.trans (hb.mono hB.out.size))
          have HC2 := Lib.hid (hC.out.below hb hC.out.lt)
          clear hb hqall hqb hi1 hq
          go_wp2
          go_roundg gk
          case rel => exact ⟨a + q + 1, i + 1, by omega, by omega, by go_num, by go_num, HB2, HC2, HN⟩
          case measure => omega
end Go.Proofs.Ytlbnjojafaieoaa
