/-
  The specification's Marks.
-/
import Derived.Test.YtlbnjojafaieoaaCtErase
namespace Go.Proofs.Ytlbnjojafaieoaa
open Go.RowKit
set_option linter.unusedVariables false
/-- the number of the block behind the n-th mark of the rest, which begins at a -/
def mrk : List Blk → Nat → Nat → Option Nat
  | _, a, 0 => some a
  | [], _, _ + 1 => none
  | b :: l, a, n + 1 => if (b.m && !b.bad) = true then mrk l (a + 1) n else mrk l (a + 1) (n + 1)
theorem mrk_zero (l : List Blk) (a : Nat) : mrk l a 0 = some a := by cases l <;> rfl
theorem mrk_nil (a n : Nat) : mrk [] a (n + 1) = none := rfl
theorem mrk_step (l : List Blk) (a n : Nat) (h : a < l.length) : mrk (l.drop a) a (n + 1) = if (l[a].m && !l[a].bad) = true then mrk (l.drop (a + 1)) (a + 1) n else mrk (l.drop (a + 1)) (a + 1) (n + 1) := by
  rw [List.drop_eq_getElem_cons h]
  rfl
def marksC (v : Bool) (l : List Blk) (a n : Int) : Int × Int :=
  if v = true then (if a < 0 ∨ (l.length : Int) < a ∨ n < 0 then (0, 7) else (match mrk (l.drop a.toNat) a.toNat n.toNat with | some k => ((k : Int), 0) | none => (0, 11))) else (0, 8)
theorem marks_in {l : List Blk} {a n : Nat} (h : a ≤ l.length) : marksC true l a n = match mrk (l.drop a) a n with | some k => ((k : Int), 0) | none => (0, 11) := by
  unfold marksC
  rw [if_pos rfl, if_neg (by omega)]
  rfl
attribute [local irreducible] tim vld bar cnt okB capU allB vldC eqK marksC mrk
set_option maxRecDepth 100000 in
set_option maxHeartbeats 4000000 in
theorem rmarks_any (c : Crt) (ad : Option Addr) (cap : Nat) (a n : Int) (w : World) (hin : CrIn w c ad cap) (hs : c.l.length ≤ 100000) (nb : n ≤ 9223372036854775807) :
    Calls Try.prog 27 #[crV c ad cap, .int .i64 a, .int .i64 n] w fun e w' => e = .returned (.tuple #[.int .i64 (marksC (vldC c) c.l a n).1, .int .i64 (marksC (vldC c) c.l a n).2]) ∧ Below w.heap.size w w' := by
  have HVX := Lib.hid (fun X (h : Below w.heap.size w X) => rvalc_any c ad cap X (hin.below h))
  have HKI := Lib.hid hin.ki
  clear hin
  obtain ⟨bc, W, L, S, T, J, R, wo, lk, l, ep, lo, pa⟩ := c
  simp only at HKI hs ⊢
  generalize vldC ⟨bc, W, L, S, T, J, R, wo, lk, l, ep, lo, pa⟩ = vv at *
  obtain ⟨M, hM⟩ : ∃ M, M = l.length := ⟨_, rfl⟩
  show Calls Try.prog 27 #[crW bc W L S T J R wo lk ad l.length cap ep lo pa, .int .i64 a, .int .i64 n] w _
  have HX2 : Hid (∀ X, Below w.heap.size w X → Calls Try.prog 15 #[crW bc W L S T J R wo lk ad M cap ep lo pa] X fun e w' => e = .returned (.bool vv) ∧ Below X.heap.size X w') := Lib.hid (by rw [hM]; exact HVX.out)
  clear HVX
  have HM := Lib.hid hM
  rw [← hM] at hs ⊢
  clear hM
  have HB0 := Lib.hid (below_box1 w (boxK bc W L S T J R wo lk ad M cap ep lo pa))
  have HC := Lib.hid (CrAt.new w bc W L S T J R wo lk ad M cap ep lo pa 26)
  cases vv
  · have HR := Lib.hid (show marksC false l a n = (0, 8) by unfold marksC; rfl)
    go_enter Try.func27, Try.ntmps27
    go_wp2_with fail
    generalize World.alloc _ _ = X0 at *
    refine (HX2.out X0 HB0.out).mono ?_
    rintro e w1 ⟨rfl, hb⟩
    have HB1 := Lib.hid (HB0.out.trans (hb.mono HB0.out.size))
    clear hb
    go_wp2
    go_ret2
    exact ⟨by rw [HR.out]; rfl, HB1.out⟩
  by_cases hin : a < 0 ∨ (M : Int) < a ∨ n < 0
  · have HR := Lib.hid (show marksC true l a n = (0, 7) by unfold marksC; rw [if_pos rfl, if_pos (by rw [← HM.out]; exact hin)])
    have part : a < 0 ∨ (0 ≤ a ∧ (M : Int) < a) ∨ (0 ≤ a ∧ a ≤ (M : Int) ∧ n < 0) := by omega
    clear hin
    rcases part with h1 | ⟨h1, h2⟩ | ⟨h1, h2, h3⟩
    all_goals
      go_enter Try.func27, Try.ntmps27
      go_wp2_with fail
      generalize World.alloc _ _ = X0 at *
      refine (HX2.out X0 HB0.out).mono ?_
      rintro e w1 ⟨rfl, hb⟩
      have HB1 := Lib.hid (HB0.out.trans (hb.mono HB0.out.size))
      obtain ⟨_, k0, k1, k2, k3, k4, k5, k6, k7, k8, k9, k10, k11, k12⟩ := HC.out.below hb HC.out.lt
      clear hb
      go_wp2
      go_ret2
      exact ⟨by rw [HR.out]; rfl, HB1.out⟩
  obtain ⟨A0, rfl⟩ : ∃ A0 : Nat, a = A0 := ⟨a.toNat, by omega⟩
  obtain ⟨N0, rfl⟩ : ∃ N0 : Nat, n = N0 := ⟨n.toNat, by omega⟩
  have hA0 : A0 ≤ M := by omega
  have hN0 : N0 ≤ 9223372036854775807 := by omega
  have HR := Lib.hid (marks_in (l := l) (a := A0) (n := N0) (by rw [← HM.out]; exact hA0))
  have HST := Lib.hid (mrk_step l)
  have HZR := Lib.hid (fun a => mrk_zero (l.drop a) a)
  have HNL := Lib.hid (fun n => show mrk (l.drop M) M (n + 1) = none by rw [List.drop_of_length_le (by rw [HM.out]; omega), mrk_nil])
  clear hin
  go_enter Try.func27, Try.ntmps27
  go_wp2_with fail
  generalize World.alloc _ _ = X0 at *
  refine (HX2.out X0 HB0.out).mono ?_
  rintro e w1 ⟨rfl, hb⟩
  have HB1 := Lib.hid (HB0.out.trans (hb.mono HB0.out.size))
  have HK1 := Lib.hid (HKI.out.below HB1.out)
  obtain ⟨_, k0, k1, k2, k3, k4, k5, k6, k7, k8, k9, k10, k11, k12⟩ := HC.out.below hb HC.out.lt
  clear hb
  go_wp2
  go_loopg [1, 2] (M - A0) (fun gk v1 v2 wx => ∃ a n : Nat, a + gk = M ∧ n ≤ 9223372036854775807 ∧ v1 = .int .i64 a ∧ v2 = .int .i64 n ∧ wx = w1 ∧ Hid (mrk (l.drop A0) A0 N0 = mrk (l.drop a) a n))
  case atStart => exact ⟨A0, N0, by omega, hN0, rfl, rfl, rfl, Lib.hid rfl⟩
  case round =>
    obtain ⟨a, n, ha, hn, rfl, rfl, rfl, hE⟩ := hrel
    cases n with
    | zero =>
      have HF := Lib.hid (show marksC true l (A0 : Int) (N0 : Int) = ((a : Int), 0) by rw [HR.out, hE.out, HZR.out])
      go_wp2
      go_ret2
      exact ⟨by rw [HF.out]; rfl, HB1.out⟩
    | succ n =>
      have hnp : 0 < ((n + 1 : Nat) : Int) := by omega
      cases gk with
      | zero =>
        obtain rfl : a = M := by omega
        have HF := Lib.hid (show marksC true l (A0 : Int) (N0 : Int) = (0, 11) by rw [HR.out, hE.out, HNL.out])
        go_wp2
        go_ret2
        exact ⟨by rw [HF.out]; rfl, HB1.out⟩
      | succ gk0 =>
        have haM : a < M := by omega
        have hal : a < l.length := by rw [← HM.out]; exact haM
        have hne : ((a : Int) == (M : Int)) = false := by rw [beq_eq_false_iff_ne]; omega
        have haM2 : (a : Int) < (M : Int) := by omega
        have HS := Lib.hid (hE.out.trans (HST.out a n hal))
        obtain ⟨b, off, ad', cap', hadr, hlt, q0, q1, q2, qr⟩ := HK1.out.get hal
        clear qr q2
        subst hadr
        generalize l[a].m = xm at *
        generalize l[a].bad = xb at *
        have hsub : IntKind.i64.wrap (((n + 1 : Nat) : Int) - 1) = (n : Int) := by rw [IntKind.wrap_i64]; omega
        clear hal
        cases xm
        · go_wp2
          go_roundg gk0
          case rel => exact ⟨a + 1, n + 1, by omega, hn, by go_num, rfl, rfl, HS⟩
          case measure => omega
        · cases xb
          · go_wp2
            go_roundg gk0
            case rel => exact ⟨a + 1, n, by omega, by omega, by go_num, by go_num, rfl, HS⟩
            case measure => omega
          · go_wp2
            go_roundg gk0
            case rel => exact ⟨a + 1, n + 1, by omega, hn, by go_num, rfl, rfl, HS⟩
            case measure => omega
end Go.Proofs.Ytlbnjojafaieoaa
