/-
  The program's Valid.
-/
import Derived.Test.YtlbnjojafaieoaaCtHas
import Derived.Test.YtlbnjojafaieoaaSValid
namespace Go.Proofs.Ytlbnjojafaieoaa
open Go.RowKit
set_option linter.unusedVariables false
/-- the counter k of the three -/
def nth3 (a b c : Int) : Nat → Int
  | 0 => a
  | 1 => b
  | _ => c
theorem cnt3_all {a b c : Int} (h : ∀ k, k < 3 → cnt (nth3 a b c k) = true) : (cnt a && (cnt b && cnt c)) = true := by
  have h0 := h 0 (by omega); have h1 := h 1 (by omega); have h2 := h 2 (by omega)
  simp only [nth3] at h0 h1 h2
  rw [h0, h1, h2]; rfl
theorem cnt3_no {a b c : Int} {k : Nat} (hk : k < 3) (h : cnt (nth3 a b c k) = false) : (cnt a && (cnt b && cnt c)) = false := by
  match k, hk with
  | 0, _ => simp only [nth3] at h; rw [h]; rfl
  | 1, _ => simp only [nth3] at h; rw [h]; simp
  | 2, _ => simp only [nth3] at h; rw [h]; simp
theorem run_idx3 (a b c : Int) (k : Nat) (hk : k < 3) (w : World) :
    (Instr.index 60 (.agg #[.int .i64 a, .int .i64 b, .int .i64 c]) (.int .i64 (k : Int))).run Try.prog w = .ok (.int .i64 (nth3 a b c k)) w := by
  match k, hk with
  | 0, _ => with_unfolding_all rfl
  | 1, _ => with_unfolding_all rfl
  | 2, _ => with_unfolding_all rfl
theorem cnt_yes {a : Int} (h0 : 0 ≤ a) (h1 : a ≤ 1125899906842624) : cnt a = true := by unfold cnt; rw [decide_eq_true h0, decide_eq_true h1]; rfl
theorem cnt_no {a : Int} (h : a < 0 ∨ 1125899906842624 < a) : cnt a = false := by
  unfold cnt
  rcases h with h | h
  · rw [decide_eq_false (by omega)]; rfl
  · rw [decide_eq_false (by omega : ¬ a ≤ 1125899906842624), Bool.and_false]
theorem all_of_any (l : List Blk) : (!anyI pNot l) = allB l := by
  rw [anyI_eq]
  unfold allB pNot
  rw [List.not_any_eq_all_not]
  simp
theorem valc_math (bc : ByteArray) (W L S T J R : Int) (wo lk : Bool) (l : List Blk) (ep lo pa : Int) : vldC ⟨bc, W, L, S, T, J, R, wo, lk, l, ep, lo, pa⟩ = (bar bc && (vld W L S T J R && ((cnt ep && (cnt lo && cnt pa)) && (decide ((l.length : Int) ≤ capU W L S T J R) && (!anyI pNot l))))) := by
  rw [vldC_eq, all_of_any]
  cases bar bc <;> cases vld W L S T J R <;> cases decide ((l.length : Int) ≤ capU W L S T J R) <;> cases allB l <;> cases cnt ep <;> cases cnt lo <;> cases cnt pa <;> rfl
attribute [local irreducible] tim vld bar cnt okB capU allB vldC anyI fixI
set_option maxRecDepth 100000 in
set_option maxHeartbeats 4000000 in
theorem valc_any (c : Crt) (ad : Option Addr) (cap : Nat) (w : World) (hin : CrIn w c ad cap) :
    Calls Try.prog 14 #[crV c ad cap] w fun e w' => e = .returned (.bool (vldC c)) ∧ Below w.heap.size w w' := by
  obtain ⟨bc, W, L, S, T, J, R, wo, lk, l, ep, lo, pa⟩ := c
  obtain ⟨M, hM⟩ : ∃ M, M = l.length := ⟨_, rfl⟩
  have HV := Lib.hid (valc_math bc W L S T J R wo lk l ep lo pa)
  have HI := Lib.hid hin.ki
  have hlm : l.length ≤ 9223372036854775807 := Nat.le_trans hin.le hin.mx
  clear hin
  simp only at HI
  show Calls Try.prog 14 #[crW bc W L S T J R wo lk ad l.length cap ep lo pa] w _
  rw [← hM] at hlm HV ⊢
  have HCO := Lib.hid (fun X (h : Below w.heap.size w X) => contains_any _ pNot says_not ad M cap l X (HI.out.below h) hM hlm)
  generalize anyI pNot l = an at *
  clear hM HI
  have HB0 := Lib.hid (below_box1 w (boxK bc W L S T J R wo lk ad M cap ep lo pa))
  have HC := Lib.hid (CrAt.new w bc W L S T J R wo lk ad M cap ep lo pa 26)
  have hcu : 0 ≤ capU W L S T J R ∧ capU W L S T J R ≤ 4096 := by
    unfold capU
    split
    · rename_i hv
      have v := vld_iff.1 hv
      have := cap_pos v.w0 v.l0; have := v.l0; have := v.c1
      omega
    · omega
  obtain ⟨c0, c1⟩ := hcu
  cases hbar : bar bc
  · rw [hbar] at HV
    have HBR := Lib.hid hbar
    clear hbar
    go_enter Try.func14, Try.ntmps14
    go_wp2_with fail
    generalize World.alloc _ _ = X0 at *
    obtain ⟨_, k0, k1, k2, k3, k4, k5, k6, k7, k8, k9, k10, k11, k12⟩ := HC.out
    go_wp2_with fail
    refine (bar_any bc _).mono ?_
    rw [HBR.out]
    rintro e w2 ⟨rfl, hb⟩
    have HB1 := Lib.hid (HB0.out.trans (hb.mono HB0.out.size))
    clear hb
    go_wp2
    go_ret
    exact ⟨by rw [HV.out]; rfl, HB1.out⟩
  rw [hbar] at HV
  have HBR := Lib.hid hbar
  clear hbar
  go_enter Try.func14, Try.ntmps14
  go_wp2_with fail
  generalize World.alloc _ _ = X0 at *
  obtain ⟨_, k0, k1, k2, k3, k4, k5, k6, k7, k8, k9, k10, k11, k12⟩ := HC.out
  go_wp2_with fail
  clear k0 k1 k2 k3 k4 k5 k6 k7 k8 k9 k10 k11 k12
  refine (bar_any bc _).mono ?_
  rw [HBR.out]
  rintro e w2 ⟨rfl, hb⟩
  have HB1 := Lib.hid (HB0.out.trans (hb.mono HB0.out.size))
  replace HC := Lib.hid (HC.out.below hb HC.out.lt)
  clear hb
  obtain ⟨_, k0, k1, k2, k3, k4, k5, k6, k7, k8, k9, k10, k11, k12⟩ := HC.out
  go_wp2_with fail
  clear k0 k1 k2 k3 k4 k5 k6 k7 k8 k9 k10 k11 k12
  refine (valid_any W L S T J R _).mono ?_
  generalize vld W L S T J R = vl at *
  rintro e w3 ⟨rfl, hb⟩
  replace HB1 := Lib.hid (HB1.out.trans (hb.mono HB1.out.size))
  replace HC := Lib.hid (HC.out.below hb HC.out.lt)
  clear hb
  obtain ⟨_, k0, k1, k2, k3, k4, k5, k6, k7, k8, k9, k10, k11, k12⟩ := HC.out
  cases vl
  · go_wp2
    go_ret
    exact ⟨by rw [HV.out]; rfl, HB1.out⟩
  go_wp2
  clear k0 k1 k2 k3 k4 k5 k6 k7 k8 k9 k10 k11 k12
  go_loop [22] (fun vk => ∃ k : Nat, vk = .int .i64 k ∧ k ≤ 3 ∧ Hid (∀ j, j < k → cnt (nth3 ep lo pa j) = true)) (fun vk => 3 - (intOf vk).toNat)
  case atStart => exact ⟨0, rfl, by omega, Lib.hid fun j hj => by omega⟩
  case round =>
    obtain ⟨k, rfl, hk, hall⟩ := hrel
    by_cases hlt : k < 3
    · have hI := run_idx3 ep lo pa k hlt w3
      obtain ⟨X, hX⟩ : ∃ X, X = nth3 ep lo pa k := ⟨_, rfl⟩
      rw [← hX] at hI
      by_cases hx : 0 ≤ X ∧ X ≤ 1125899906842624
      · have HN : Hid (∀ j, j < k + 1 → cnt (nth3 ep lo pa j) = true) := Lib.hid fun j hj => by
          rcases Nat.lt_or_ge j k with h | h
          · exact hall.out j h
          · obtain rfl : j = k := by omega
            rw [← hX]
            exact cnt_yes hx.1 hx.2
        clear hX
        obtain ⟨x0, x1⟩ := hx
        go_wp2
        go_round
        case rel => exact ⟨k + 1, by go_num, by omega, HN⟩
        case measure => simp [intOf]; omega
      · have HN := Lib.hid (cnt3_no hlt (hX ▸ cnt_no (a := X) (by omega)))
        clear hX
        by_cases hx0 : X < 0
        · go_wp2
          go_ret
          exact ⟨by rw [HV.out, HN.out]; rfl, HB1.out⟩
        · have hx1 : 1125899906842624 < X := by omega
          clear hx
          go_wp2
          go_ret
          exact ⟨by rw [HV.out, HN.out]; rfl, HB1.out⟩
    · obtain rfl : k = 3 := by omega
      have HN := Lib.hid (cnt3_all hall.out)
      have HBX := Lib.hid (Below.refl w3.heap.size w3).drew
      go_wp2_with fail
      refine wp_region_noPanic ?_
      refine wp_region_held_drew (S := fun X => Below w3.heap.size w3 X) (by kernel_rfl) (HBX.out) (fun hS0 => ?_)
      refine held_take (i := 0) (v := ?_) rfl (by kernel_rfl) (by kernel_rfl) (by kernel_rfl) (fun _ _ _ h => h) (by rfl) ?_ (by assumption) ?_
      rotate_left
      · intro X hSX
        try dsimp only at hSX
        go_simp <;> with_reducible rfl
      simp only [Act.put, List.setIfInBounds_toArray, List.set_cons_zero, List.set_cons_succ]
      refine held_take (i := 1) (v := ?_) rfl (by kernel_rfl) (by kernel_rfl) (by kernel_rfl) (fun _ _ _ h => h) (by rfl) ?_ (by assumption) ?_
      rotate_left
      · intro X hSX
        try dsimp only at hSX
        obtain ⟨_, k0, k1, k2, k3, k4, k5, k6, k7, k8, k9, k10, k11, k12⟩ := HC.out.below hSX HC.out.lt
        go_simp <;> with_reducible rfl
      simp only [Act.put, List.setIfInBounds_toArray, List.set_cons_zero, List.set_cons_succ]
      refine held_take (i := 2) (v := ?_) rfl (by kernel_rfl) (by kernel_rfl) (by kernel_rfl) (fun _ _ _ h => h) (by rfl) ?_ (by assumption) ?_
      rotate_left
      · intro X hSX
        try dsimp only at hSX
        go_simp <;> with_reducible rfl
      simp only [Act.put, List.setIfInBounds_toArray, List.set_cons_zero, List.set_cons_succ]
      refine held_take (i := 3) (v := ?_) rfl (by kernel_rfl) (by kernel_rfl) (by kernel_rfl) (fun _ _ _ h => h) (by rfl) ?_ (by assumption) ?_
      rotate_left
      · intro X hSX
        try dsimp only at hSX
        go_simp <;> with_reducible rfl
      simp only [Act.put, List.setIfInBounds_toArray, List.set_cons_zero, List.set_cons_succ]
      refine held_take (i := 4) (v := ?_) rfl (by kernel_rfl) (by kernel_rfl) (by kernel_rfl) (fun _ _ _ h => h) (by rfl) ?_ (by assumption) ?_
      rotate_left
      · intro X hSX
        try dsimp only at hSX
        obtain ⟨_, k0, k1, k2, k3, k4, k5, k6, k7, k8, k9, k10, k11, k12⟩ := HC.out.below hSX HC.out.lt
        go_simp <;> with_reducible rfl
      simp only [Act.put, List.setIfInBounds_toArray, List.set_cons_zero, List.set_cons_succ]
      refine held_call (i := 5) rfl (by kernel_rfl) (by rfl) (fun K' hK' => ?_)
      go_simp
      refine (capacity_any W L S T J R _).mono ?_
      rintro e w4 ⟨rfl, hb⟩
      replace HBX := Lib.hid (HBX.out.trans (hb.mono HBX.out.size))
      have hS4 := HBX.out
      clear hb
      refine held_go hK' (HBX.out) ?_
      try simp only [Act.put, List.setIfInBounds_toArray, List.set_cons_zero, List.set_cons_succ]
      refine held_take (i := 6) (v := ?_) rfl (by kernel_rfl) (by kernel_rfl) (by kernel_rfl) (fun _ _ _ h => h) (by rfl) ?_ (by assumption) ?_
      rotate_left
      · intro X hSX
        try dsimp only at hSX
        go_simp <;> with_reducible rfl
      simp only [Act.put, List.setIfInBounds_toArray, List.set_cons_zero, List.set_cons_succ]
      refine wpAnyH_done (by kernel_rfl) ?_ _
      refine NoPanic.normal ?_
      replace HB1 := Lib.hid (HB1.out.trans (HBX.out.mono HB1.out.size))
      replace HC := Lib.hid (HC.out.below HBX.out HC.out.lt)
      obtain ⟨_, k0, k1, k2, k3, k4, k5, k6, k7, k8, k9, k10, k11, k12⟩ := HC.out
      clear HBX hS4
      by_cases hcp : (M : Int) ≤ capU W L S T J R
      rotate_left
      · have hcp2 : capU W L S T J R < (M : Int) := by omega
        have HD := Lib.hid (decide_eq_false hcp)
        clear hcp
        go_wp2
        go_ret
        exact ⟨by rw [HV.out, HN.out, HD.out]; rfl, HB1.out⟩
      have HD := Lib.hid (decide_eq_true hcp)
      go_wp2_with fail
      refine (HCO.out _ HB1.out).mono ?_
      rintro e w5 ⟨rfl, hb⟩
      have HB2 := Lib.hid (HB1.out.trans (hb.mono HB1.out.size))
      clear hb
      go_wp2
      go_ret
      exact ⟨by rw [HV.out, HN.out, HD.out]; rfl, HB2.out⟩
end Go.Proofs.Ytlbnjojafaieoaa
