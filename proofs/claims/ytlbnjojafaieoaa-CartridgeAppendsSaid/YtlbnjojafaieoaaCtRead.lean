/-
  The specification's Read.
-/
import Derived.Test.YtlbnjojafaieoaaCtDamage
namespace Go.Proofs.Ytlbnjojafaieoaa
open Go.RowKit
set_option linter.unusedVariables false
/-- the first n blocks of the rest, up to a bad one, or the end; the error -/
def rdk : List Blk → Nat → List Blk × Int
  | _, 0 => ([], 0)
  | [], _ + 1 => ([], 7)
  | b :: l, n + 1 => if b.bad = true then ([], 15) else (b :: (rdk l n).1, (rdk l n).2)
theorem rdk_zero (l : List Blk) : rdk l 0 = ([], 0) := by cases l <;> rfl
theorem rdk_nil (n : Nat) : rdk [] (n + 1) = ([], 7) := rfl
theorem rdk_step (l : List Blk) (a n : Nat) (h : a < l.length) : rdk (l.drop a) (n + 1) = if l[a].bad = true then ([], 15) else (l[a] :: (rdk (l.drop (a + 1)) n).1, (rdk (l.drop (a + 1)) n).2) := by
  rw [List.drop_eq_getElem_cons h]
  rfl
theorem rdk_len (l : List Blk) (n : Nat) : (rdk l n).1.length ≤ l.length := by
  induction l generalizing n with
  | nil => cases n <;> simp [rdk]
  | cons b l ih =>
    cases n with
    | zero => simp [rdk]
    | succ n =>
      rw [rdk]
      split
      · simp
      · simp only [List.length_cons]
        have := ih n
        omega
theorem rdk_mem (l : List Blk) (n : Nat) : ∀ b ∈ (rdk l n).1, b ∈ l := by
  induction l generalizing n with
  | nil => cases n <;> simp [rdk]
  | cons x l ih =>
    cases n with
    | zero => simp [rdk]
    | succ n =>
      rw [rdk]
      split
      · simp
      · intro b hb
        simp only [List.mem_cons] at hb ⊢
        rcases hb with h | h
        · exact .inl h
        · exact .inr (ih n b h)
def readC (v : Bool) (l : List Blk) (f n : Int) : List Blk × Int :=
  if v = true then (if f < 0 ∨ n < 0 then ([], 7) else rdk (l.drop f.toNat) n.toNat) else ([], 8)
theorem read_in {l : List Blk} {f n : Nat} : readC true l f n = rdk (l.drop f) n := by
  unfold readC
  rw [if_pos rfl, if_neg (by omega)]
  rfl
/-- a call hands back a list of blocks and an error -/
def RetK (w : World) (r : List Blk × Int) (e : Ending) (w' : World) : Prop := ∃ v, e = .returned (.tuple #[v, .int .i64 r.2]) ∧ Kq w' w.heap.size w.heap.size v r.1 ∧ Below w.heap.size w w'
attribute [local irreducible] tim vld bar cnt okB capU allB vldC eqK readC rdk
set_option maxRecDepth 100000 in
set_option maxHeartbeats 4000000 in
theorem rread_k (c : Crt) (ad : Option Addr) (cap : Nat) (f n : Int) (w : World) (hin : CrIn w c ad cap) (f1 : f ≤ 9223372036854775807) (n1 : n ≤ 9223372036854775807) :
    Calls Try.prog 25 #[crV c ad cap, .agg #[.int .i64 f, .int .i64 n]] w fun e w' => RetK w (readC (vldC c) c.l f n) e w' := by
  have HVX := Lib.hid (fun X (h : Below w.heap.size w X) => rvalc_any c ad cap X (hin.below h))
  have HKI := Lib.hid hin.ki
  have HPT := Lib.hid (fun h => vldC_parts (c := c) h)
  clear hin
  obtain ⟨bc, W, L, S, T, J, R, wo, lk, l, ep, lo, pa⟩ := c
  simp only at HKI HPT ⊢
  generalize vldC ⟨bc, W, L, S, T, J, R, wo, lk, l, ep, lo, pa⟩ = vv at *
  obtain ⟨M, hM⟩ : ∃ M, M = l.length := ⟨_, rfl⟩
  show Calls Try.prog 25 #[crW bc W L S T J R wo lk ad l.length cap ep lo pa, .agg #[.int .i64 f, .int .i64 n]] w _
  have HX2 : Hid (∀ X, Below w.heap.size w X → Calls Try.prog 15 #[crW bc W L S T J R wo lk ad M cap ep lo pa] X fun e w' => e = .returned (.bool vv) ∧ Below X.heap.size X w') := Lib.hid (by rw [hM]; exact HVX.out)
  clear HVX
  have HM := Lib.hid hM
  rw [← hM]
  clear hM
  have HB0 := Lib.hid (below_box2 w (boxK bc W L S T J R wo lk ad M cap ep lo pa) (.cells #[.int .i64 f, .int .i64 n] 40))
  have HC := Lib.hid ((CrAt.new w bc W L S T J R wo lk ad M cap ep lo pa 26).alloc (.cells #[.int .i64 f, .int .i64 n] 40))
  have HP := Lib.hid (SpAt.new (w.alloc (boxK bc W L S T J R wo lk ad M cap ep lo pa)) f n 40)
  simp only [World.size_alloc] at HP
  cases vv
  · have HR := Lib.hid (show readC false l f n = ([], 8) by unfold readC; rfl)
    go_enter Try.func25, Try.ntmps25
    go_wp2_with fail
    generalize World.alloc _ _ = X0 at *
    refine (HX2.out X0 HB0.out).mono ?_
    rintro e w1 ⟨rfl, hb⟩
    have HB1 := Lib.hid (HB0.out.trans (hb.mono HB0.out.size))
    clear hb
    go_wp2
    go_ret2
    exact ⟨.slice none 0 0, by rw [HR.out]; rfl, by rw [HR.out]; exact Kq.nil _ _ _, HB1.out⟩
  obtain ⟨hv, hlen, hall, _⟩ := HPT.out rfl
  have hM2 : M ≤ 4096 := by have := HM.out; have := hv.c1; omega
  have HSM := Lib.hid (allB_small hall)
  clear hv hlen hall HPT
  by_cases hin : f < 0 ∨ n < 0
  · have HR := Lib.hid (show readC true l f n = ([], 7) by unfold readC; rw [if_pos rfl, if_pos hin])
    have part : f < 0 ∨ (0 ≤ f ∧ n < 0) := by omega
    clear hin
    rcases part with h1 | ⟨h1, h2⟩
    all_goals
      go_enter Try.func25, Try.ntmps25
      go_wp2_with fail
      generalize World.alloc _ _ = X0 at *
      refine (HX2.out X0 HB0.out).mono ?_
      rintro e w1 ⟨rfl, hb⟩
      have HB1 := Lib.hid (HB0.out.trans (hb.mono HB0.out.size))
      obtain ⟨_, p0, p1⟩ := HP.out.below hb HP.out.lt
      clear hb
      go_wp2
      go_ret2
      exact ⟨.slice none 0 0, by rw [HR.out]; rfl, by rw [HR.out]; exact Kq.nil _ _ _, HB1.out⟩
  obtain ⟨F, rfl⟩ : ∃ F : Nat, f = F := ⟨f.toNat, by omega⟩
  obtain ⟨N, rfl⟩ : ∃ N : Nat, n = N := ⟨n.toNat, by omega⟩
  have HR := Lib.hid (read_in (l := l) (f := F) (n := N))
  have HST := Lib.hid (rdk_step l)
  have HZR := Lib.hid (fun a => rdk_zero (l.drop a))
  have HNL := Lib.hid (fun a n (h : M ≤ a) => show rdk (l.drop a) (n + 1) = ([], 7) by rw [List.drop_of_length_le (by rw [← HM.out]; exact h), rdk_nil])
  clear hin
  go_enter Try.func25, Try.ntmps25
  go_wp2_with fail
  generalize World.alloc _ _ = X0 at *
  refine (HX2.out X0 HB0.out).mono ?_
  rintro e w1 ⟨rfl, hb⟩
  have HB1 := Lib.hid (HB0.out.trans (hb.mono HB0.out.size))
  have HK1 := Lib.hid (HKI.out.below HB1.out)
  have HC1 := Lib.hid (HC.out.below hb HC.out.lt)
  have HP1 := Lib.hid (HP.out.below hb HP.out.lt)
  obtain ⟨_, p0, p1⟩ := HP1.out
  clear hb
  go_wp2
  clear p0 p1
  go_loopg [6, 7] (M + 1) (fun gk v6 vi wx => ∃ i : Nat, i + gk = M + 1 ∧ i ≤ N ∧ i ≤ M ∧ vi = .int .i64 i ∧ (∃ o : List Blk, Hid (Kq wx w1.heap.size 0 v6 o ∧ o.length = i ∧ (∀ b ∈ o, b.d.length ≤ 10000) ∧ readC true l F N = (o ++ (rdk (l.drop (F + i)) (N - i)).1, (rdk (l.drop (F + i)) (N - i)).2))) ∧ Hid (Below w1.heap.size w1 wx))
  case atStart => exact ⟨0, by omega, by omega, by omega, rfl, ⟨[], Lib.hid ⟨Kq.nil _ _ _, rfl, (fun b h => by simp at h), by rw [HR.out]; simp⟩⟩, Lib.hid (Below.refl _ _)⟩
  case round =>
    obtain ⟨i, hi, hiN, hiM, rfl, ⟨o, ho⟩, hB⟩ := hrel
    obtain ⟨_, k0, k1, k2, k3, k4, k5, k6, k7, k8, k9, k10, k11, k12⟩ := HC1.out.below hB.out HC1.out.lt
    obtain ⟨_, p0, p1⟩ := HP1.out.below hB.out HP1.out.lt
    obtain ⟨hko, ho1, ho2, ho3⟩ := ho.out
    obtain ⟨ad6, cap6, hv6, hx6', h61, h62, h63, -⟩ := hko.read
    have hx6 := hx6'.ki
    have HLT := Lib.hid hko.lt
    have HKO := Lib.hid hko
    subst hv6
    have HX6 := Lib.hid hx6
    have HO2 := Lib.hid ho2
    have HO3 := Lib.hid ho3
    have HO1 := Lib.hid ho1
    clear ho hko hx6' hx6 ho2 ho3 ho1
    by_cases hlt : i < N
    rotate_left
    · obtain rfl : i = N := by omega
      have HF := Lib.hid (show readC true l (F : Int) (i : Int) = (o, 0) by rw [HO3.out, Nat.sub_self, HZR.out, List.append_nil])
      have hol : o.length ≤ 4096 := by rw [HO1.out]; omega
      go_wp2_with fail
      refine (rcopied_any ad6 o.length cap6 o _ HX6.out rfl hol HO2.out).mono ?_
      rintro e w5 ⟨v5, rfl, hk5, hb5⟩
      have HK5 := Lib.hid (hk5.mono (Nat.le_trans HB1.out.size hB.out.size) (Nat.le_trans HB1.out.size hB.out.size))
      have HB5 := Lib.hid (HB1.out.trans ((hB.out.trans (hb5.mono hB.out.size)).mono HB1.out.size))
      clear hk5 hb5
      go_wp2
      go_ret2
      exact ⟨v5, by rw [HF.out]; rfl, by rw [HF.out]; exact HK5.out, HB5.out⟩
    obtain ⟨q, hq⟩ : ∃ q, N - i = q + 1 := ⟨N - i - 1, by omega⟩
    have HQ := Lib.hid hq
    have hol : o.length ≤ 4096 := by rw [HO1.out]; omega
    have hlt2 : (i : Int) < (N : Int) := by omega
    by_cases hend : M ≤ F + i
    · have HF := Lib.hid (show readC true l (F : Int) (N : Int) = (o, 7) by rw [HO3.out, HQ.out, HNL.out _ _ hend, List.append_nil])
      have he2 : (M : Int) - (i : Int) ≤ (F : Int) := by omega
      clear hq hend
      go_wp2_with fail
      refine (rcopied_any ad6 o.length cap6 o _ HX6.out rfl hol HO2.out).mono ?_
      rintro e w5 ⟨v5, rfl, hk5, hb5⟩
      have HK5 := Lib.hid (hk5.mono (Nat.le_trans HB1.out.size hB.out.size) (Nat.le_trans HB1.out.size hB.out.size))
      have HB5 := Lib.hid (HB1.out.trans ((hB.out.trans (hb5.mono hB.out.size)).mono HB1.out.size))
      clear hk5 hb5
      go_wp2
      go_ret2
      exact ⟨v5, by rw [HF.out]; rfl, by rw [HF.out]; exact HK5.out, HB5.out⟩
    have hal : F + i < l.length := by rw [← HM.out]; omega
    have he2 : (F : Int) < (M : Int) - (i : Int) := by omega
    obtain ⟨A, hA⟩ : ∃ A : Nat, A = F + i := ⟨_, rfl⟩
    have hA2 : (F : Int) + (i : Int) = (A : Int) := by omega
    have haM : (A : Int) < (M : Int) := by omega
    have HAI := Lib.hid hA
    have hST := HST.out (F + i) q hal
    obtain ⟨b, off, ad', cap', hadr, hblt, q0, q1, q2, hqx, hq2, hq3, hq4⟩ := (HK1.out.kx (y := (Value.slice ad6 o.length cap6).ownBlock) hB.out (fun g hg => (HLT.out g hg).1)).get hal
    have hdl : l[F + i].d.length ≤ 10000 := HSM.out _ (List.getElem_mem hal)
    subst hadr
    obtain ⟨x, hx⟩ : ∃ x, x = l[F + i] := ⟨_, rfl⟩
    rw [← hx] at q0 q1 q2 hqx hq2 hST hdl
    rw [← hA] at q0 q1 q2
    cases hbad : x.bad
    rotate_left
    · have HF := Lib.hid (show readC true l (F : Int) (N : Int) = (o, 15) by rw [HO3.out, HQ.out, hST, if_pos hbad, List.append_nil])
      rw [hbad] at q1
      clear hq hend hal hA hST hqx hq2 hq3 hq4 hdl hx hbad q0 q2
      go_wp2_with fail
      refine (rcopied_any ad6 o.length cap6 o _ HX6.out rfl hol HO2.out).mono ?_
      rintro e w5 ⟨v5, rfl, hk5, hb5⟩
      have HK5 := Lib.hid (hk5.mono (Nat.le_trans HB1.out.size hB.out.size) (Nat.le_trans HB1.out.size hB.out.size))
      have HB5 := Lib.hid (HB1.out.trans ((hB.out.trans (hb5.mono hB.out.size)).mono HB1.out.size))
      clear hk5 hb5
      go_wp2
      go_ret2
      exact ⟨v5, by rw [HF.out]; rfl, by rw [HF.out]; exact HK5.out, HB5.out⟩
    · have HNX := Lib.hid (show readC true l (F : Int) (N : Int) = ((o ++ [x]) ++ (rdk (l.drop (F + (i + 1))) (N - (i + 1))).1, (rdk (l.drop (F + (i + 1))) (N - (i + 1))).2) by
        rw [HO3.out, HQ.out, hST, if_neg (by rw [hbad]; simp), show N - (i + 1) = q by omega, List.append_assoc, show F + (i + 1) = F + i + 1 by omega]
        rfl)
      obtain ⟨xm, xb, xd⟩ := x
      simp only at hbad q0 q1 q2 hqx hq2 hdl
      subst hbad
      have HZ4 := Lib.hid (Kx.one (w := wr) xm false ad' xd cap' hqx hq2 hq3 hq4 wr.heap.size rfl)
      have HK4 := Lib.hid (HKO.out.below (below_box1 wr (.cells #[.bool xm, .bool false, .slice ad' xd.length cap'] 56)))
      have HB4 := Lib.hid (hB.out.alloc hB.out.size (.cells #[.bool xm, .bool false, .slice ad' xd.length cap'] 56))
      have HO4 : Hid (∀ b ∈ o ++ [⟨xm, false, xd⟩], b.d.length ≤ 10000) := Lib.hid (fun b hb => by
        rcases List.mem_append.1 hb with h | h
        · exact HO2.out b h
        · obtain rfl : b = ⟨xm, false, xd⟩ := by simpa using h
          exact hdl)
      have hlen4 : o.length + 1 ≤ 100000 := by omega
      have hi1 : i + 1 ≤ N := by omega
      have hi2 : i + 1 ≤ M := by omega
      clear hq hend hal hA hST hqx hq2 hq3 hq4 hdl hx
      cases gk with
      | zero => omega
      | succ gk0 =>
        go_wp2_with (at_builtin; refine wpList_append_k rfl (.tmp 46) (.tmp 55) rfl w1.heap.size 0 0 0 _ o rfl HK4.out _ 1 1 [⟨xm, false, xd⟩] (fun h => by cases h) HZ4.out rfl rfl hlen4 HB4.out.size (Nat.le_refl _) (Nat.le_refl _) ?_; intro v5 w5 ho5 hg5 _; have HK5 := Lib.hid ho5; have HB5 := Lib.hid (HK4.out.grow HB4.out (Nat.le_refl _) hg5); clear ho5 hg5)
        go_roundg gk0
        case rel => exact ⟨i + 1, by omega, hi1, hi2, by go_num, ⟨o ++ [⟨xm, false, xd⟩], Lib.hid ⟨HK5.out, by rw [List.length_append, HO1.out]; rfl, HO4.out, HNX.out⟩⟩, HB5⟩
        case measure => omega
end Go.Proofs.Ytlbnjojafaieoaa
