/-
  The specification's Read.
  The program's Read.
  Appends that come up alone in a drawn region: bytes, blocks.
-/
import Derived.Test.YtepmmlnopdjjdaaQBox
import Derived.Test.YtepmmlnopdjjdaaQWrt
import Derived.Test.YtepmmlnopdjjdaaQVld
namespace Go.Proofs.Ytepmmlnopdjjdaa
open Go.RowKit
set_option linter.unusedVariables false
/-- the first n blocks of the rest, up to a bad one, or the end; the error -/
def rdk : List Blk → Nat → List Blk × Int
  | _, 0 => ([], 0)
  | [], _ + 1 => ([], 7)
  | b :: l, n + 1 => if b.bad = true then ([], 15) else (b :: (rdk l n).1, (rdk l n).2)
theorem rdk_zero (l : List Blk) : rdk l 0 = ([], 0) := by cases l <;> rfl
theorem rdk_nil (n : Nat) : rdk [] (n + 1) = ([], 7) := rfl
theorem rdk_step (l : List Blk) (a n : Nat) (h : a < l.length) : rdk (l.drop a) (n + 1) = if l[a].bad = true then ([], 15) else (l[a] :: (rdk (l.drop (a + 1)) n).1, (rdk (l.drop (a + 1)) n).2) := by
  rw [List.drop_eq_getElem_cons h]
  rfl
theorem rdk_len (l : List Blk) (n : Nat) : (rdk l n).1.length ≤ l.length := by
  induction l generalizing n with
  | nil => cases n <;> simp [rdk]
  | cons b l ih =>
    cases n with
    | zero => simp [rdk]
    | succ n =>
      rw [rdk]
      split
      · simp
      · simp only [List.length_cons]
        have := ih n
        omega
theorem rdk_mem (l : List Blk) (n : Nat) : ∀ b ∈ (rdk l n).1, b ∈ l := by
  induction l generalizing n with
  | nil => cases n <;> simp [rdk]
  | cons x l ih =>
    cases n with
    | zero => simp [rdk]
    | succ n =>
      rw [rdk]
      split
      · simp
      · intro b hb
        simp only [List.mem_cons] at hb ⊢
        rcases hb with h | h
        · exact .inl h
        · exact .inr (ih n b h)
def readC (v : Bool) (l : List Blk) (f n : Int) : List Blk × Int :=
  if v = true then (if f < 0 ∨ n < 0 then ([], 7) else rdk (l.drop f.toNat) n.toNat) else ([], 8)
theorem read_in {l : List Blk} {f n : Nat} : readC true l f n = rdk (l.drop f) n := by
  unfold readC
  rw [if_pos rfl, if_neg (by omega)]
  rfl
/-- a call hands back a list of blocks and an error -/
def RetK (w : World) (r : List Blk × Int) (e : Ending) (w' : World) : Prop := ∃ v, e = .returned (.tuple #[v, .int .i64 r.2]) ∧ Kq w' w.heap.size w.heap.size v r.1 ∧ Below w.heap.size w w'
attribute [local irreducible] tim vld bar cnt okB capU allB vldC eqK readC rdk
end Go.Proofs.Ytepmmlnopdjjdaa
namespace Go.Proofs.Ytepmmlnopdjjdaa
open Go.RowKit
set_option linter.unusedVariables false
set_option maxRecDepth 100000
/-- a read in one step: the blocks of the span that exist, up to a bad one -/
theorem rdk_bad : ∀ (l : List Blk) (n k : Nat) (h : k < (l.take n).length), (l.take n)[k].bad = true → (∀ j (hj : j < (l.take n).length), j < k → (l.take n)[j].bad = false) → rdk l n = (l.take k, 15)
  | [], n, k, h, _, _ => by simp at h
  | b :: l, 0, k, h, _, _ => by simp at h
  | b :: l, n + 1, 0, h, hb, _ => by
    have : b.bad = true := by simpa using hb
    rw [rdk, if_pos this]
    rfl
  | b :: l, n + 1, k + 1, h, hb, hall => by
    have h0 : b.bad = false := by simpa using hall 0 (by simp) (by omega)
    have ih := rdk_bad l n k (by simpa using h) (by simpa using hb) (fun j hj hjk => by simpa using hall (j + 1) (by simpa using hj) (by omega))
    rw [rdk, if_neg (by rw [h0]; simp), ih]
    rfl
theorem rdk_good : ∀ (l : List Blk) (n : Nat), (∀ j (hj : j < (l.take n).length), (l.take n)[j].bad = false) → rdk l n = (l.take n, if l.length < n then 7 else 0)
  | l, 0, _ => by rw [rdk_zero]; simp
  | [], n + 1, _ => by rw [rdk_nil]; simp
  | b :: l, n + 1, hall => by
    have h0 : b.bad = false := by simpa using hall 0 (by simp)
    have ih := rdk_good l n (fun j hj => by simpa using hall (j + 1) (by simpa using hj))
    rw [rdk, if_neg (by rw [h0]; simp), ih]
    simp only [List.take_succ_cons, List.length_cons, Prod.mk.injEq, true_and]
    by_cases hn : l.length < n
    · rw [if_pos hn, if_pos (by omega)]
    · rw [if_neg hn, if_neg (by omega)]
attribute [local irreducible] tim vld bar cnt okB capU allB vldC eqK readC rdk fixI
set_option maxRecDepth 100000 in
set_option maxHeartbeats 8000000 in
theorem ctread_any (c : Crt) (ad : Option Addr) (cap : Nat) (f n : Int) (w : World) (hin : CrIn w c ad cap) (f1 : f ≤ 9223372036854775807) (n1 : n ≤ 9223372036854775807) :
    Calls Try.prog 49 #[crV c ad cap, .agg #[.int .i64 f, .int .i64 n]] w fun e w' => RetK w (readC (vldC c) c.l f n) e w' := by
  have HVX := Lib.hid (fun X (h : Below w.heap.size w X) => valc_any c ad cap X (hin.below h))
  have HKI := Lib.hid hin.ki
  have hle := hin.le
  have hmx : cap ≤ 9223372036854775807 := hin.mx
  have HNN := Lib.hid hin.nn
  have HPT := Lib.hid (fun h => vldC_parts (c := c) h)
  clear hin
  obtain ⟨bc, W, L, S, T, J, R, wo, lk, l, ep, lo, pa⟩ := c
  simp only at HKI HPT hle ⊢
  generalize vldC ⟨bc, W, L, S, T, J, R, wo, lk, l, ep, lo, pa⟩ = vv at *
  obtain ⟨M, hM⟩ : ∃ M, M = l.length := ⟨_, rfl⟩
  show Calls Try.prog 49 #[crW bc W L S T J R wo lk ad l.length cap ep lo pa, .agg #[.int .i64 f, .int .i64 n]] w _
  have HX2 : Hid (∀ X, Below w.heap.size w X → Calls Try.prog 38 #[crW bc W L S T J R wo lk ad M cap ep lo pa] X fun e w' => e = .returned (.bool vv) ∧ Below X.heap.size X w') := Lib.hid (by rw [hM]; exact HVX.out)
  clear HVX
  have HM := Lib.hid hM
  rw [← hM] at hle ⊢
  clear hM
  have HB0 := Lib.hid (below_box2 w (boxK bc W L S T J R wo lk ad M cap ep lo pa) (.cells #[.int .i64 f, .int .i64 n] 66))
  have HC := Lib.hid ((CrAt.new w bc W L S T J R wo lk ad M cap ep lo pa 30).alloc (.cells #[.int .i64 f, .int .i64 n] 66))
  have HP := Lib.hid (SpAt.new (w.alloc (boxK bc W L S T J R wo lk ad M cap ep lo pa)) f n 66)
  simp only [World.size_alloc] at HP
  cases vv
  · have HR := Lib.hid (show readC false l f n = ([], 8) by unfold readC; rfl)
    go_enter Try.func49, Try.ntmps49
    go_wp2_with fail
    generalize World.alloc _ _ = X0 at *
    refine (HX2.out X0 HB0.out).mono ?_
    rintro e w1 ⟨rfl, hb⟩
    have HB1 := Lib.hid (HB0.out.trans (hb.mono HB0.out.size))
    clear hb
    go_wp2
    go_ret2
    exact ⟨.slice none 0 0, by rw [HR.out]; rfl, by rw [HR.out]; exact Kq.nil _ _ _, HB1.out⟩
  obtain ⟨hv, hlen, hall, _⟩ := HPT.out rfl
  have hM2 : M ≤ 4096 := by have := HM.out; have := hv.c1; omega
  have HSM := Lib.hid (allB_small hall)
  clear hv hlen hall HPT
  by_cases hin : f < 0 ∨ n < 0
  · have HR := Lib.hid (show readC true l f n = ([], 7) by unfold readC; rw [if_pos rfl, if_pos hin])
    have part : f < 0 ∨ (0 ≤ f ∧ n < 0) := by omega
    clear hin
    rcases part with h1 | ⟨h1, h2⟩
    all_goals
      go_enter Try.func49, Try.ntmps49
      go_wp2_with fail
      generalize World.alloc _ _ = X0 at *
      refine (HX2.out X0 HB0.out).mono ?_
      rintro e w1 ⟨rfl, hb⟩
      have HB1 := Lib.hid (HB0.out.trans (hb.mono HB0.out.size))
      obtain ⟨_, p0, p1⟩ := HP.out.below hb HP.out.lt
      clear hb
      go_wp2
      go_ret2
      exact ⟨.slice none 0 0, by rw [HR.out]; rfl, by rw [HR.out]; exact Kq.nil _ _ _, HB1.out⟩
  obtain ⟨F, rfl⟩ : ∃ F : Nat, f = F := ⟨f.toNat, by omega⟩
  obtain ⟨N, rfl⟩ : ∃ N : Nat, n = N := ⟨n.toNat, by omega⟩
  have HR := Lib.hid (read_in (l := l) (f := F) (n := N))
  clear hin
  go_enter Try.func49, Try.ntmps49
  go_wp2_with fail
  generalize World.alloc _ _ = X0 at *
  refine (HX2.out X0 HB0.out).mono ?_
  rintro e w1 ⟨rfl, hb⟩
  have HB1 := Lib.hid (HB0.out.trans (hb.mono HB0.out.size))
  replace HKI := Lib.hid (HKI.out.below HB1.out)
  have HC1 := Lib.hid (HC.out.below hb HC.out.lt)
  have HP1 := Lib.hid (HP.out.below hb HP.out.lt)
  obtain ⟨_, p0, p1⟩ := HP1.out
  obtain ⟨_, k0, k1, k2, k3, k4, k5, k6, k7, k8, k9, k10, k11, k12⟩ := HC1.out
  clear hb HB0 HC HP
  have HSE := Lib.hid (show ∀ b ∈ (l.drop F).take N, b.d.length ≤ 10000 from fun b hb => HSM.out b (List.mem_of_mem_drop (List.mem_of_mem_take hb)))
  by_cases hFM : M ≤ F
  · have HE0 := Lib.hid (show (l.drop F).take N = [] by rw [List.drop_of_length_le (by rw [← HM.out]; exact hFM)]; simp)
    have HEL := Lib.hid (show 0 = ((l.drop F).take N).length by rw [HE0.out]; rfl)
    have hMF : F = M ∨ M < F := by omega
    clear hFM
    by_cases hcm : cap = M
    · subst hcm
      by_cases hN : N = 0
      · subst hN
        rcases hMF with rfl | hMF
        · have HEB : Hid (0 ≤ 4096) := Lib.hid (by omega)
          go_wp2_with fail
          refine (index_any _ pBad says_bad _ 0 _ ((l.drop F).take 0) w1 (show Ki w1 _ _ by rw [HE0.out]; exact Ki.nil _ _) HEL.out (by have := HEB.out; omega)).mono ?_
          rcases fix_cases pBad ((l.drop F).take 0) with ⟨hi, hnone⟩ | ⟨q, hi, hq, hqb, hqall⟩
          · rw [hi]
            rintro e w2 ⟨rfl, hb⟩
            have HF := Lib.hid (show readC true l (F : Int) ((0 : Nat) : Int) = ((l.drop F).take 0, 0) by rw [HR.out, rdk_good _ _ hnone, if_neg (by rw [List.length_drop, ← HM.out]; omega)])
            have HB2 := Lib.hid (HB1.out.trans (hb.mono HB1.out.size))
            have HBS := Lib.hid hb
            obtain ⟨_, p0, p1⟩ := HP1.out.below hb HP1.out.lt
            clear hb hi hnone
            go_wp2_with fail
            refine (copied_any _ 0 _ ((l.drop F).take 0) w2 ((show Ki w1 _ _ by rw [HE0.out]; exact Ki.nil _ _).below HBS.out) HEL.out HEB.out HSE.out (fun _ => rfl)).mono ?_
            rintro e w5 ⟨v5, rfl, hk5, hb5⟩
            have HK5 := Lib.hid (hk5.mono HB2.out.size HB2.out.size)
            have HB5 := Lib.hid (HB2.out.trans (hb5.mono HB2.out.size))
            clear hk5 hb5
            go_wp2
            go_ret2
            exact ⟨v5, by rw [HF.out]; rfl, by rw [HF.out]; exact HK5.out, HB5.out⟩
          · exact absurd hq (by rw [← HEL.out]; omega)
        · have HEB : Hid (0 ≤ 4096) := Lib.hid (by omega)
          go_wp2_with fail
          refine (index_any _ pBad says_bad _ 0 _ ((l.drop F).take 0) w1 (show Ki w1 _ _ by rw [HE0.out]; exact Ki.nil _ _) HEL.out (by have := HEB.out; omega)).mono ?_
          rcases fix_cases pBad ((l.drop F).take 0) with ⟨hi, hnone⟩ | ⟨q, hi, hq, hqb, hqall⟩
          · rw [hi]
            rintro e w2 ⟨rfl, hb⟩
            have HF := Lib.hid (show readC true l (F : Int) ((0 : Nat) : Int) = ((l.drop F).take 0, 0) by rw [HR.out, rdk_good _ _ hnone, if_neg (by rw [List.length_drop, ← HM.out]; omega)])
            have HB2 := Lib.hid (HB1.out.trans (hb.mono HB1.out.size))
            have HBS := Lib.hid hb
            obtain ⟨_, p0, p1⟩ := HP1.out.below hb HP1.out.lt
            clear hb hi hnone
            go_wp2_with fail
            refine (copied_any _ 0 _ ((l.drop F).take 0) w2 ((show Ki w1 _ _ by rw [HE0.out]; exact Ki.nil _ _).below HBS.out) HEL.out HEB.out HSE.out (fun _ => rfl)).mono ?_
            rintro e w5 ⟨v5, rfl, hk5, hb5⟩
            have HK5 := Lib.hid (hk5.mono HB2.out.size HB2.out.size)
            have HB5 := Lib.hid (HB2.out.trans (hb5.mono HB2.out.size))
            clear hk5 hb5
            go_wp2
            go_ret2
            exact ⟨v5, by rw [HF.out]; rfl, by rw [HF.out]; exact HK5.out, HB5.out⟩
          · exact absurd hq (by rw [← HEL.out]; omega)
      · have hN2 : 0 < N := by omega
        clear hN
        rcases hMF with rfl | hMF
        · have HEB : Hid (0 ≤ 4096) := Lib.hid (by omega)
          go_wp2_with fail
          refine (index_any _ pBad says_bad _ 0 _ ((l.drop F).take N) w1 (show Ki w1 _ _ by rw [HE0.out]; exact Ki.nil _ _) HEL.out (by have := HEB.out; omega)).mono ?_
          rcases fix_cases pBad ((l.drop F).take N) with ⟨hi, hnone⟩ | ⟨q, hi, hq, hqb, hqall⟩
          · rw [hi]
            rintro e w2 ⟨rfl, hb⟩
            have HF := Lib.hid (show readC true l (F : Int) ((N : Nat) : Int) = ((l.drop F).take N, 7) by rw [HR.out, rdk_good _ _ hnone, if_pos (by rw [List.length_drop, ← HM.out]; omega)])
            have HB2 := Lib.hid (HB1.out.trans (hb.mono HB1.out.size))
            have HBS := Lib.hid hb
            obtain ⟨_, p0, p1⟩ := HP1.out.below hb HP1.out.lt
            clear hb hi hnone
            go_wp2_with fail
            refine (copied_any _ 0 _ ((l.drop F).take N) w2 ((show Ki w1 _ _ by rw [HE0.out]; exact Ki.nil _ _).below HBS.out) HEL.out HEB.out HSE.out (fun _ => rfl)).mono ?_
            rintro e w5 ⟨v5, rfl, hk5, hb5⟩
            have HK5 := Lib.hid (hk5.mono HB2.out.size HB2.out.size)
            have HB5 := Lib.hid (HB2.out.trans (hb5.mono HB2.out.size))
            clear hk5 hb5
            go_wp2
            go_ret2
            exact ⟨v5, by rw [HF.out]; rfl, by rw [HF.out]; exact HK5.out, HB5.out⟩
          · exact absurd hq (by rw [← HEL.out]; omega)
        · have HEB : Hid (0 ≤ 4096) := Lib.hid (by omega)
          go_wp2_with fail
          refine (index_any _ pBad says_bad _ 0 _ ((l.drop F).take N) w1 (show Ki w1 _ _ by rw [HE0.out]; exact Ki.nil _ _) HEL.out (by have := HEB.out; omega)).mono ?_
          rcases fix_cases pBad ((l.drop F).take N) with ⟨hi, hnone⟩ | ⟨q, hi, hq, hqb, hqall⟩
          · rw [hi]
            rintro e w2 ⟨rfl, hb⟩
            have HF := Lib.hid (show readC true l (F : Int) ((N : Nat) : Int) = ((l.drop F).take N, 7) by rw [HR.out, rdk_good _ _ hnone, if_pos (by rw [List.length_drop, ← HM.out]; omega)])
            have HB2 := Lib.hid (HB1.out.trans (hb.mono HB1.out.size))
            have HBS := Lib.hid hb
            obtain ⟨_, p0, p1⟩ := HP1.out.below hb HP1.out.lt
            clear hb hi hnone
            go_wp2_with fail
            refine (copied_any _ 0 _ ((l.drop F).take N) w2 ((show Ki w1 _ _ by rw [HE0.out]; exact Ki.nil _ _).below HBS.out) HEL.out HEB.out HSE.out (fun _ => rfl)).mono ?_
            rintro e w5 ⟨v5, rfl, hk5, hb5⟩
            have HK5 := Lib.hid (hk5.mono HB2.out.size HB2.out.size)
            have HB5 := Lib.hid (HB2.out.trans (hb5.mono HB2.out.size))
            clear hk5 hb5
            go_wp2
            go_ret2
            exact ⟨v5, by rw [HF.out]; rfl, by rw [HF.out]; exact HK5.out, HB5.out⟩
          · exact absurd hq (by rw [← HEL.out]; omega)
    · have hcm2 : M < cap := by omega
      have hcne : cap - M ≠ 0 := by omega
      obtain ⟨ad0, rfl⟩ : ∃ x, ad = some x := by
        cases ad with
        | none => have := HNN.out rfl; omega
        | some x => exact ⟨x, rfl⟩
      clear hcm
      by_cases hN : N = 0
      · subst hN
        rcases hMF with rfl | hMF
        · have HEB : Hid (0 ≤ 4096) := Lib.hid (by omega)
          go_wp2_with fail
          refine (index_any _ pBad says_bad _ 0 _ ((l.drop F).take 0) w1 (show Ki w1 _ _ by rw [HE0.out]; exact Ki.nil _ _) HEL.out (by have := HEB.out; omega)).mono ?_
          rcases fix_cases pBad ((l.drop F).take 0) with ⟨hi, hnone⟩ | ⟨q, hi, hq, hqb, hqall⟩
          · rw [hi]
            rintro e w2 ⟨rfl, hb⟩
            have HF := Lib.hid (show readC true l (F : Int) ((0 : Nat) : Int) = ((l.drop F).take 0, 0) by rw [HR.out, rdk_good _ _ hnone, if_neg (by rw [List.length_drop, ← HM.out]; omega)])
            have HB2 := Lib.hid (HB1.out.trans (hb.mono HB1.out.size))
            have HBS := Lib.hid hb
            obtain ⟨_, p0, p1⟩ := HP1.out.below hb HP1.out.lt
            clear hb hi hnone
            go_wp2_with fail
            refine (copied_any _ 0 _ ((l.drop F).take 0) w2 ((show Ki w1 _ _ by rw [HE0.out]; exact Ki.nil _ _).below HBS.out) HEL.out HEB.out HSE.out (fun h => by cases h)).mono ?_
            rintro e w5 ⟨v5, rfl, hk5, hb5⟩
            have HK5 := Lib.hid (hk5.mono HB2.out.size HB2.out.size)
            have HB5 := Lib.hid (HB2.out.trans (hb5.mono HB2.out.size))
            clear hk5 hb5
            go_wp2
            go_ret2
            exact ⟨v5, by rw [HF.out]; rfl, by rw [HF.out]; exact HK5.out, HB5.out⟩
          · exact absurd hq (by rw [← HEL.out]; omega)
        · have HEB : Hid (0 ≤ 4096) := Lib.hid (by omega)
          go_wp2_with fail
          refine (index_any _ pBad says_bad _ 0 _ ((l.drop F).take 0) w1 (show Ki w1 _ _ by rw [HE0.out]; exact Ki.nil _ _) HEL.out (by have := HEB.out; omega)).mono ?_
          rcases fix_cases pBad ((l.drop F).take 0) with ⟨hi, hnone⟩ | ⟨q, hi, hq, hqb, hqall⟩
          · rw [hi]
            rintro e w2 ⟨rfl, hb⟩
            have HF := Lib.hid (show readC true l (F : Int) ((0 : Nat) : Int) = ((l.drop F).take 0, 0) by rw [HR.out, rdk_good _ _ hnone, if_neg (by rw [List.length_drop, ← HM.out]; omega)])
            have HB2 := Lib.hid (HB1.out.trans (hb.mono HB1.out.size))
            have HBS := Lib.hid hb
            obtain ⟨_, p0, p1⟩ := HP1.out.below hb HP1.out.lt
            clear hb hi hnone
            go_wp2_with fail
            refine (copied_any _ 0 _ ((l.drop F).take 0) w2 ((show Ki w1 _ _ by rw [HE0.out]; exact Ki.nil _ _).below HBS.out) HEL.out HEB.out HSE.out (fun h => by cases h)).mono ?_
            rintro e w5 ⟨v5, rfl, hk5, hb5⟩
            have HK5 := Lib.hid (hk5.mono HB2.out.size HB2.out.size)
            have HB5 := Lib.hid (HB2.out.trans (hb5.mono HB2.out.size))
            clear hk5 hb5
            go_wp2
            go_ret2
            exact ⟨v5, by rw [HF.out]; rfl, by rw [HF.out]; exact HK5.out, HB5.out⟩
          · exact absurd hq (by rw [← HEL.out]; omega)
      · have hN2 : 0 < N := by omega
        clear hN
        rcases hMF with rfl | hMF
        · have HEB : Hid (0 ≤ 4096) := Lib.hid (by omega)
          go_wp2_with fail
          refine (index_any _ pBad says_bad _ 0 _ ((l.drop F).take N) w1 (show Ki w1 _ _ by rw [HE0.out]; exact Ki.nil _ _) HEL.out (by have := HEB.out; omega)).mono ?_
          rcases fix_cases pBad ((l.drop F).take N) with ⟨hi, hnone⟩ | ⟨q, hi, hq, hqb, hqall⟩
          · rw [hi]
            rintro e w2 ⟨rfl, hb⟩
            have HF := Lib.hid (show readC true l (F : Int) ((N : Nat) : Int) = ((l.drop F).take N, 7) by rw [HR.out, rdk_good _ _ hnone, if_pos (by rw [List.length_drop, ← HM.out]; omega)])
            have HB2 := Lib.hid (HB1.out.trans (hb.mono HB1.out.size))
            have HBS := Lib.hid hb
            obtain ⟨_, p0, p1⟩ := HP1.out.below hb HP1.out.lt
            clear hb hi hnone
            go_wp2_with fail
            refine (copied_any _ 0 _ ((l.drop F).take N) w2 ((show Ki w1 _ _ by rw [HE0.out]; exact Ki.nil _ _).below HBS.out) HEL.out HEB.out HSE.out (fun h => by cases h)).mono ?_
            rintro e w5 ⟨v5, rfl, hk5, hb5⟩
            have HK5 := Lib.hid (hk5.mono HB2.out.size HB2.out.size)
            have HB5 := Lib.hid (HB2.out.trans (hb5.mono HB2.out.size))
            clear hk5 hb5
            go_wp2
            go_ret2
            exact ⟨v5, by rw [HF.out]; rfl, by rw [HF.out]; exact HK5.out, HB5.out⟩
          · exact absurd hq (by rw [← HEL.out]; omega)
        · have HEB : Hid (0 ≤ 4096) := Lib.hid (by omega)
          go_wp2_with fail
          refine (index_any _ pBad says_bad _ 0 _ ((l.drop F).take N) w1 (show Ki w1 _ _ by rw [HE0.out]; exact Ki.nil _ _) HEL.out (by have := HEB.out; omega)).mono ?_
          rcases fix_cases pBad ((l.drop F).take N) with ⟨hi, hnone⟩ | ⟨q, hi, hq, hqb, hqall⟩
          · rw [hi]
            rintro e w2 ⟨rfl, hb⟩
            have HF := Lib.hid (show readC true l (F : Int) ((N : Nat) : Int) = ((l.drop F).take N, 7) by rw [HR.out, rdk_good _ _ hnone, if_pos (by rw [List.length_drop, ← HM.out]; omega)])
            have HB2 := Lib.hid (HB1.out.trans (hb.mono HB1.out.size))
            have HBS := Lib.hid hb
            obtain ⟨_, p0, p1⟩ := HP1.out.below hb HP1.out.lt
            clear hb hi hnone
            go_wp2_with fail
            refine (copied_any _ 0 _ ((l.drop F).take N) w2 ((show Ki w1 _ _ by rw [HE0.out]; exact Ki.nil _ _).below HBS.out) HEL.out HEB.out HSE.out (fun h => by cases h)).mono ?_
            rintro e w5 ⟨v5, rfl, hk5, hb5⟩
            have HK5 := Lib.hid (hk5.mono HB2.out.size HB2.out.size)
            have HB5 := Lib.hid (HB2.out.trans (hb5.mono HB2.out.size))
            clear hk5 hb5
            go_wp2
            go_ret2
            exact ⟨v5, by rw [HF.out]; rfl, by rw [HF.out]; exact HK5.out, HB5.out⟩
          · exact absurd hq (by rw [← HEL.out]; omega)
  obtain ⟨D, hD⟩ : ∃ D, M = F + D := ⟨M - F, by omega⟩
  subst hD
  have hDp : 0 < D := by omega
  have hcne : cap - F ≠ 0 := by omega
  obtain ⟨b, off, ad', cap', rfl, -⟩ := HKI.out.get (i := 0) (by rw [← HM.out]; omega)
  have HKE := Lib.hid (HKI.out.part F N)
  have hFle : F ≤ F + D := by omega
  by_cases hN : N ≤ D
  · have HEL := Lib.hid (show N = ((l.drop F).take N).length by rw [List.length_take, List.length_drop, ← HM.out]; omega)
    have hNc : N ≤ cap - F := by omega
    have HEB : Hid (N ≤ 4096) := Lib.hid (by omega)
    go_wp2_with fail
    refine (index_any _ pBad says_bad _ N _ ((l.drop F).take N) w1 (HKE.out) HEL.out (by have := HEB.out; omega)).mono ?_
    rcases fix_cases pBad ((l.drop F).take N) with ⟨hi, hnone⟩ | ⟨q, hi, hq, hqb, hqall⟩
    · rw [hi]
      rintro e w2 ⟨rfl, hb⟩
      have HF := Lib.hid (show readC true l (F : Int) ((N : Nat) : Int) = ((l.drop F).take N, 0) by rw [HR.out, rdk_good _ _ hnone, if_neg (by rw [List.length_drop, ← HM.out]; omega)])
      have HB2 := Lib.hid (HB1.out.trans (hb.mono HB1.out.size))
      have HBS := Lib.hid hb
      obtain ⟨_, p0, p1⟩ := HP1.out.below hb HP1.out.lt
      clear hb hi hnone
      go_wp2_with fail
      refine (copied_any _ N _ ((l.drop F).take N) w2 ((HKE.out).below HBS.out) HEL.out HEB.out HSE.out (fun h => by cases h)).mono ?_
      rintro e w5 ⟨v5, rfl, hk5, hb5⟩
      have HK5 := Lib.hid (hk5.mono HB2.out.size HB2.out.size)
      have HB5 := Lib.hid (HB2.out.trans (hb5.mono HB2.out.size))
      clear hk5 hb5
      go_wp2
      go_ret2
      exact ⟨v5, by rw [HF.out]; rfl, by rw [HF.out]; exact HK5.out, HB5.out⟩
    · rw [hi]
      have hq2 : q < N := by rw [HEL.out]; exact hq
      have hqN : q ≤ N := by rw [List.length_take] at hq; omega
      have HF := Lib.hid (show readC true l (F : Int) ((N : Nat) : Int) = (((l.drop F).take N).take q, 15) by rw [HR.out, rdk_bad _ _ q hq hqb hqall, List.take_take, Nat.min_eq_left hqN])
      have HQL := Lib.hid (show q = (((l.drop F).take N).take q).length by rw [List.length_take, ← HEL.out]; omega)
      rintro e w2 ⟨rfl, hb⟩
      have HB2 := Lib.hid (HB1.out.trans (hb.mono HB1.out.size))
      have HBS := Lib.hid hb
      clear hb hi hq hqb hqall
      have hqi : ((q : Nat) : Int) ≤ (cap - F : Nat) := by omega
      go_wp2_with fail
      refine (copied_any _ q _ (((l.drop F).take N).take q) w2 (((HKE.out).below HBS.out).take q) HQL.out (by have := HEB.out; omega) (fun b hb => HSE.out b (List.mem_of_mem_take hb)) (fun h => by cases h)).mono ?_
      rintro e w5 ⟨v5, rfl, hk5, hb5⟩
      have HK5 := Lib.hid (hk5.mono HB2.out.size HB2.out.size)
      have HB5 := Lib.hid (HB2.out.trans (hb5.mono HB2.out.size))
      clear hk5 hb5
      go_wp2
      go_ret2
      exact ⟨v5, by rw [HF.out]; rfl, by rw [HF.out]; exact HK5.out, HB5.out⟩
  · have HEL := Lib.hid (show D = ((l.drop F).take N).length by rw [List.length_take, List.length_drop, ← HM.out]; omega)
    have hDN : D < N := by omega
    have hNc : D ≤ cap - F := by omega
    clear hN
    have HEB : Hid (D ≤ 4096) := Lib.hid (by omega)
    go_wp2_with fail
    refine (index_any _ pBad says_bad _ D _ ((l.drop F).take N) w1 (HKE.out) HEL.out (by have := HEB.out; omega)).mono ?_
    rcases fix_cases pBad ((l.drop F).take N) with ⟨hi, hnone⟩ | ⟨q, hi, hq, hqb, hqall⟩
    · rw [hi]
      rintro e w2 ⟨rfl, hb⟩
      have HF := Lib.hid (show readC true l (F : Int) ((N : Nat) : Int) = ((l.drop F).take N, 7) by rw [HR.out, rdk_good _ _ hnone, if_pos (by rw [List.length_drop, ← HM.out]; omega)])
      have HB2 := Lib.hid (HB1.out.trans (hb.mono HB1.out.size))
      have HBS := Lib.hid hb
      obtain ⟨_, p0, p1⟩ := HP1.out.below hb HP1.out.lt
      clear hb hi hnone
      go_wp2_with fail
      refine (copied_any _ D _ ((l.drop F).take N) w2 ((HKE.out).below HBS.out) HEL.out HEB.out HSE.out (fun h => by cases h)).mono ?_
      rintro e w5 ⟨v5, rfl, hk5, hb5⟩
      have HK5 := Lib.hid (hk5.mono HB2.out.size HB2.out.size)
      have HB5 := Lib.hid (HB2.out.trans (hb5.mono HB2.out.size))
      clear hk5 hb5
      go_wp2
      go_ret2
      exact ⟨v5, by rw [HF.out]; rfl, by rw [HF.out]; exact HK5.out, HB5.out⟩
    · rw [hi]
      have hq2 : q < D := by rw [HEL.out]; exact hq
      have hqN : q ≤ N := by rw [List.length_take] at hq; omega
      have HF := Lib.hid (show readC true l (F : Int) ((N : Nat) : Int) = (((l.drop F).take N).take q, 15) by rw [HR.out, rdk_bad _ _ q hq hqb hqall, List.take_take, Nat.min_eq_left hqN])
      have HQL := Lib.hid (show q = (((l.drop F).take N).take q).length by rw [List.length_take, ← HEL.out]; omega)
      rintro e w2 ⟨rfl, hb⟩
      have HB2 := Lib.hid (HB1.out.trans (hb.mono HB1.out.size))
      have HBS := Lib.hid hb
      clear hb hi hq hqb hqall
      have hqi : ((q : Nat) : Int) ≤ (cap - F : Nat) := by omega
      go_wp2_with fail
      refine (copied_any _ q _ (((l.drop F).take N).take q) w2 (((HKE.out).below HBS.out).take q) HQL.out (by have := HEB.out; omega) (fun b hb => HSE.out b (List.mem_of_mem_take hb)) (fun h => by cases h)).mono ?_
      rintro e w5 ⟨v5, rfl, hk5, hb5⟩
      have HK5 := Lib.hid (hk5.mono HB2.out.size HB2.out.size)
      have HB5 := Lib.hid (HB2.out.trans (hb5.mono HB2.out.size))
      clear hk5 hb5
      go_wp2
      go_ret2
      exact ⟨v5, by rw [HF.out]; rfl, by rw [HF.out]; exact HK5.out, HB5.out⟩
end Go.Proofs.Ytepmmlnopdjjdaa
namespace Go.Proofs.Ytepmmlnopdjjdaa
open Go.RowKit
set_option linter.unusedVariables false
theorem wp_append_bu {w : World} {o : Oper} {a : Act} {K : Act → World → Prop} {Q : Exit → Act → World → Prop} (s x : Operand)
    (ho : o.op = .call { callee := .builtin .append, args := #[s, x], argTypes := #[59, 59] })
    (B : Nat) (v : Value) (ys : List UInt8) (hs : a.eval s = v) (hown : Own w B v ys) (ad : Option Addr) (n cap : Nat) (xs : List UInt8) (hcap : ad = none → cap = 0) (hl : Lie w ad xs) (hn : n = xs.length) (hx : a.eval x = .slice ad n cap) (hlen : ys.length + n ≤ 10000000) (hbase : B ≤ w.heap.size)
    (h : ∀ v' w', Own w' B v' (ys ++ xs) → w.grownBy w' v.ownBlock → K (a.put o.dst v') w') : Oper.wp Try.prog o a w K Q := by
  subst hn
  obtain ⟨i, hi, hz0, hz1, hz2⟩ := info_u
  cases ad with
  | none =>
    obtain rfl := hcap rfl
    have hxs : xs = [] := by
      rcases hl.at_ with h0 | ⟨b', off', h0, _, _⟩
      · exact h0
      · cases h0
    subst hxs
    have hrun := run_append_owned_none (P := Try.prog) (w := w) B 59 o.type 5 i 1 Try.underlying59 hi v ys.length (cellsU ys) hown.row
    unfold Oper.wp execOp
    simp only [List.length_nil] at hx
    simp only [ho, resolve, invoke, builtin, Sem.run_bind, Sem.run_pure, Result.andThen_ok, List.map_toArray, List.map_cons, List.map_nil, hs, hx, hrun]
    exact h v w (by rw [List.append_nil]; exact hown) ⟨rfl, rfl, rfl, Nat.le_refl _, fun _ _ _ => rfl⟩
  | some a0 =>
    have hnews : ∀ j u, (cellsU xs)[j]? = some u → w.cell? (a0.add j) = some u := by
      intro j u hu
      have hj : j < xs.length := by
        have := (List.getElem?_eq_some_iff.1 hu).1
        rwa [cellsU_length] at this
      rcases hl.at_ with h0 | ⟨b', off', h0, _, hc⟩
      · subst h0; simp at hj
      · cases h0
        rw [Go.WideShapes.add_plain, hc j hj]
        rw [cellsU_get xs j hj] at hu
        exact hu
    obtain ⟨v', w', hr, h2, h3, h4, h5⟩ := run_append_own_at (P := Try.prog) w B 59 o.type 5 i (.int .u8 0) 1 1 Try.underlying59 hi hz0 hz1 hz2 rfl (by decide) v ys.length (cellsU ys) hown.row a0 xs.length cap (cellsU xs) (by rw [cellsU_length, Nat.mul_one]) hnews (cellsU_one _) (by unfold maxLen; omega) (by omega) hbase
    unfold Oper.wp execOp
    simp only [ho, resolve, invoke, builtin, Sem.run_bind, Sem.run_pure, Result.andThen_ok, List.map_toArray, List.map_cons, List.map_nil, hs, hx, hr]
    refine h v' w' ?_ h3
    unfold Own
    rw [cellsU_append] at h2
    rw [List.length_append]
    exact h2
theorem wp_append_bk {w : World} {o : Oper} {a : Act} {K : Act → World → Prop} {Q : Exit → Act → World → Prop} (s x : Operand)
    (ho : o.op = .call { callee := .builtin .append, args := #[s, x], argTypes := #[28, 28] })
    (B C C2 C' : Nat) (v : Value) (l : List Blk) (hs : a.eval s = v) (hown : Kq w B C v l) (ad : Addr) (n cap : Nat) (z : List Blk) (hz : Kx w C2 v.ownBlock (some ad) z) (hn : n = z.length) (hx : a.eval x = .slice (some ad) n cap) (hlen : l.length + n ≤ 100000) (hbase : B ≤ w.heap.size) (hC : C' ≤ C) (hC2 : C' ≤ C2)
    (h : ∀ v' w', Kq w' B C' v' (l ++ z) → w.grownBy w' v.ownBlock → (v'.ownBlock = v.ownBlock ∨ v'.ownBlock = some w.heap.size) → K (a.put o.dst v') w') : Oper.wp Try.prog o a w K Q := by
  subst hn
  obtain ⟨i, hi, hz0, hz1, hz2⟩ := info_b
  obtain ⟨E, rfl, h1, h2⟩ := hown
  obtain ⟨F, rfl, h3, h4⟩ := hz
  have hnews : ∀ j u, (cellsB F)[j]? = some u → w.cell? (ad.add j) = some u := by
    rcases h3 with h0 | ⟨b, off, e, _, hc⟩
    · rw [h0]; intro j u hu; simp at hu
    · cases e
      intro j u hu
      rw [Go.WideShapes.add_plain]
      exact hc j u hu
  simp only [List.length_map] at hlen hx
  obtain ⟨v', w', hr, h5, h6, _, hat⟩ := run_append_own_at (P := Try.prog) w B 28 o.type 61 i (.agg #[.bool false, .bool false, .slice none 0 0]) 3 32 Try.underlying28 hi hz0 hz1 hz2 rfl (by decide) v _ (cellsB E) h1 ad F.length cap (cellsB F) (cellsB_length F) hnews (cellsB_one F) (by simp only [List.length_map]; unfold maxLen; omega) (by simp only [List.length_map]; omega) hbase
  unfold Oper.wp execOp
  simp only [ho, resolve, invoke, builtin, Sem.run_bind, Sem.run_pure, Result.andThen_ok, List.map_toArray, List.map_cons, List.map_nil, hs, hx, hr]
  refine h v' w' ⟨E ++ F, by rw [List.map_append], ?_, fun k hk => ?_⟩ h6 hat
  · rw [List.length_append, List.length_map, List.length_map, cellsB_append]
    rw [List.length_map] at h5
    exact h5
  · rcases List.mem_append.1 hk with hk | hk
    · exact ((h2 k hk).grown h6 hat).mono hC
    · exact ((h4 k hk).grown h6 hat).mono hC2
end Go.Proofs.Ytepmmlnopdjjdaa
