/-
  The program's checkWrite: the error of Write.
-/
import Derived.Test.YtlbnjojafaieoaaCtWrite
import Derived.Test.YtlbnjojafaieoaaCtValP
namespace Go.Proofs.Ytlbnjojafaieoaa
open Go.RowKit
set_option linter.unusedVariables false
theorem unfit_math (z : List Blk) : z.all okW = !anyI pUnfit z := by
  rw [anyI_eq, List.not_any_eq_all_not]
  congr 1
  funext b
  unfold okW pUnfit
  cases okB b.m b.d.length <;> cases b.bad <;> rfl
attribute [local irreducible] tim vld bar cnt okB capU allB vldC eqK okW anyI fixI
set_option maxRecDepth 100000 in
set_option maxHeartbeats 8000000 in
theorem checkw_any (c : Crt) (ad : Option Addr) (cap : Nat) (a : Int) (zd : Option Addr) (zn zc : Nat) (z : List Blk) (w : World) (hin : CrIn w c ad cap) (hz : Ki w zd z) (hzn : zn = z.length) (hzs : zn ≤ 100000) (a0 : -9223372036854775808 ≤ a) (a1 : a ≤ 9223372036854775807) :
    Calls Try.prog 43 #[crV c ad cap, .int .i64 a, .slice zd zn zc] w fun e w' => e = .returned (.int .i64 (wriC (vldC c) c a z).2) ∧ Below w.heap.size w w' := by
  have HVX := Lib.hid (fun X (h : Below w.heap.size w X) => valc_any c ad cap X (hin.below h))
  have HCO := Lib.hid (fun X (h : Below w.heap.size w X) => contains_any _ pUnfit says_unfit zd zn zc z X (hz.below h) hzn (by omega))
  have HU := Lib.hid (unfit_math z)
  have HZN := Lib.hid hzn
  have hlm : c.l.length ≤ 9223372036854775807 := Nat.le_trans hin.le hin.mx
  clear hin hz hzn
  have HW1 := Lib.hid (show (wriC false c a z).2 = 8 from rfl)
  have HW2 : Hid (z.all okW = false → (wriC true c a z).2 = 8) := Lib.hid fun h => by unfold wriC; rw [if_pos rfl, if_neg (by rw [h]; simp)]
  have HW3 : Hid (z.all okW = true → c.lk = true → (wriC true c a z).2 = 17) := Lib.hid fun h h2 => by unfold wriC; rw [if_pos rfl, if_pos h, if_pos h2]
  have HW4 : Hid (z.all okW = true → c.lk = false → (a < 0 ∨ (c.l.length : Int) < a) → (wriC true c a z).2 = 7) := Lib.hid fun h h2 h3 => by unfold wriC; rw [if_pos rfl, if_pos h, if_neg (by rw [h2]; simp), if_pos h3]
  have HW5 : Hid (z.all okW = true → c.lk = false → ¬ (a < 0 ∨ (c.l.length : Int) < a) → c.wo = true → a < (c.l.length : Int) → (wriC true c a z).2 = 17) := Lib.hid fun h h2 h3 h4 h5 => by unfold wriC; rw [if_pos rfl, if_pos h, if_neg (by rw [h2]; simp), if_neg h3, if_pos ⟨h4, h5⟩]
  have HW6 : Hid (z.all okW = true → c.lk = false → ¬ (a < 0 ∨ (c.l.length : Int) < a) → ¬ (c.wo = true ∧ a < (c.l.length : Int)) → capU c.W c.L c.S c.T c.J c.R - a < (z.length : Int) → (wriC true c a z).2 = 12) := Lib.hid fun h h2 h3 h4 h5 => by unfold wriC; rw [if_pos rfl, if_pos h, if_neg (by rw [h2]; simp), if_neg h3, if_neg h4, if_pos h5]
  have HW7 : Hid (z.all okW = true → c.lk = false → ¬ (a < 0 ∨ (c.l.length : Int) < a) → ¬ (c.wo = true ∧ a < (c.l.length : Int)) → ¬ capU c.W c.L c.S c.T c.J c.R - a < (z.length : Int) → (wriC true c a z).2 = 0) := Lib.hid fun h h2 h3 h4 h5 => by unfold wriC; rw [if_pos rfl, if_pos h, if_neg (by rw [h2]; simp), if_neg h3, if_neg h4, if_neg h5]
  obtain ⟨bc, W, L, S, T, J, R, wo, lk, l, ep, lo, pa⟩ := c
  simp only at HW3 HW4 HW5 HW6 HW7 hlm
  generalize vldC ⟨bc, W, L, S, T, J, R, wo, lk, l, ep, lo, pa⟩ = vv at *
  obtain ⟨M, hM⟩ : ∃ M, M = l.length := ⟨_, rfl⟩
  show Calls Try.prog 43 #[crW bc W L S T J R wo lk ad l.length cap ep lo pa, .int .i64 a, .slice zd zn zc] w _
  have HX2 : Hid (∀ X, Below w.heap.size w X → Calls Try.prog 14 #[crW bc W L S T J R wo lk ad M cap ep lo pa] X fun e w' => e = .returned (.bool vv) ∧ Below X.heap.size X w') := Lib.hid (by rw [hM]; exact HVX.out)
  clear HVX
  rw [← hM] at hlm HW4 HW5 HW6 HW7 ⊢
  rw [← HZN.out] at HW6 HW7
  rw [HU.out] at HW2 HW3 HW4 HW5 HW6 HW7
  generalize anyI pUnfit z = uf at *
  clear hM HU HZN
  obtain ⟨c0, c1⟩ := capU_bd W L S T J R
  have HB0 := Lib.hid (below_box1 w (boxK bc W L S T J R wo lk ad M cap ep lo pa))
  have HC := Lib.hid (CrAt.new w bc W L S T J R wo lk ad M cap ep lo pa 26)
  go_enter Try.func43, Try.ntmps43
  go_wp2_with fail
  generalize World.alloc _ _ = X0 at *
  obtain ⟨_, k0, k1, k2, k3, k4, k5, k6, k7, k8, k9, k10, k11, k12⟩ := HC.out
  go_wp2_with fail
  clear k0 k1 k2 k3 k4 k5 k6 k7 k8 k9 k10 k11 k12
  refine (HX2.out X0 HB0.out).mono ?_
  rintro e w1 ⟨rfl, hb⟩
  have HB1 := Lib.hid (HB0.out.trans (hb.mono HB0.out.size))
  replace HC := Lib.hid (HC.out.below hb HC.out.lt)
  clear hb
  cases vv
  · go_wp2
    go_ret
    exact ⟨by rw [HW1.out]; rfl, HB1.out⟩
  go_wp2_with fail
  refine (HCO.out w1 HB1.out).mono ?_
  rintro e w2 ⟨rfl, hb⟩
  replace HB1 := Lib.hid (HB1.out.trans (hb.mono HB1.out.size))
  replace HC := Lib.hid (HC.out.below hb HC.out.lt)
  clear hb
  obtain ⟨_, k0, k1, k2, k3, k4, k5, k6, k7, k8, k9, k10, k11, k12⟩ := HC.out
  cases uf
  rotate_left
  · go_wp2
    go_ret
    exact ⟨by rw [HW2.out rfl]; rfl, HB1.out⟩
  cases lk
  rotate_left
  · go_wp2
    go_ret
    exact ⟨by rw [HW3.out (by simp) (by simp)]; rfl, HB1.out⟩
  by_cases h1 : a < 0
  · have HR := Lib.hid (HW4.out rfl rfl (.inl h1))
    go_wp2
    go_ret
    exact ⟨by rw [HR.out]; rfl, HB1.out⟩
  by_cases h2 : (M : Int) < a
  · have HR := Lib.hid (HW4.out rfl rfl (.inr h2))
    go_wp2
    go_ret
    exact ⟨by rw [HR.out]; rfl, HB1.out⟩
  have hnr : ¬ (a < 0 ∨ (M : Int) < a) := by omega
  have h3 : 0 ≤ a := by omega
  have h4 : a ≤ (M : Int) := by omega
  have hfull : ∀ HWO : Hid (¬ (wo = true ∧ a < (M : Int))), Hid (capU W L S T J R - a < (zn : Int) → (wriC true ⟨bc, W, L, S, T, J, R, wo, false, l, ep, lo, pa⟩ a z).2 = 12) ∧ Hid (¬ capU W L S T J R - a < (zn : Int) → (wriC true ⟨bc, W, L, S, T, J, R, wo, false, l, ep, lo, pa⟩ a z).2 = 0) :=
    fun HWO => ⟨Lib.hid (HW6.out rfl rfl hnr HWO.out), Lib.hid (fun h => HW7.out rfl rfl hnr HWO.out (by omega))⟩
  have hprot : wo = true → a < (M : Int) → Hid ((wriC true ⟨bc, W, L, S, T, J, R, wo, false, l, ep, lo, pa⟩ a z).2 = 17) := fun g1 g2 => Lib.hid (HW5.out rfl rfl hnr g1 g2)
  clear HW1 HW2 HW3 HW4 HW5 HW6 HW7 hnr h1 h2
  by_cases hcap : capU W L S T J R - a < (zn : Int)
  all_goals
    cases wo
    · obtain ⟨HF, HO⟩ := hfull (Lib.hid (by simp))
      clear hfull hprot
      go_wp2_with fail
      refine (capacity_any W L S T J R _).mono ?_
      rintro e w3 ⟨rfl, hb⟩
      replace HB1 := Lib.hid (HB1.out.trans (hb.mono HB1.out.size))
      clear hb k0 k1 k2 k3 k4 k5 k6 k7 k8 k9 k10 k11 k12
      go_wp2
      go_ret
      exact ⟨by first | (rw [HF.out hcap]; rfl) | (rw [HO.out hcap]; rfl), HB1.out⟩
    · by_cases h5 : a < (M : Int)
      · have HR := hprot rfl h5
        clear hfull hprot
        go_wp2
        go_ret
        exact ⟨by rw [HR.out]; rfl, HB1.out⟩
      · obtain ⟨HF, HO⟩ := hfull (Lib.hid (fun h => h5 h.2))
        clear hfull hprot
        go_wp2_with fail
        refine (capacity_any W L S T J R _).mono ?_
        rintro e w3 ⟨rfl, hb⟩
        replace HB1 := Lib.hid (HB1.out.trans (hb.mono HB1.out.size))
        clear hb k0 k1 k2 k3 k4 k5 k6 k7 k8 k9 k10 k11 k12
        go_wp2
        go_ret
        exact ⟨by first | (rw [HF.out hcap]; rfl) | (rw [HO.out hcap]; rfl), HB1.out⟩
end Go.Proofs.Ytlbnjojafaieoaa
