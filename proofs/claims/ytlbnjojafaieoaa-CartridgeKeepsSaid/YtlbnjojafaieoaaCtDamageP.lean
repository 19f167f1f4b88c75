/-
  The program's contains and Damage.
-/
import Derived.Test.YtlbnjojafaieoaaCtWithP
import Derived.Test.YtlbnjojafaieoaaCtValP
namespace Go.Proofs.Ytlbnjojafaieoaa
open Go.RowKit
set_option linter.unusedVariables false
theorem ins_eq (i : Nat) (f n : Int) : ins i f n = (decide (0 < n) && (decide (f ≤ (i : Int)) && decide ((i : Int) - n < f))) := by
  rw [Bool.eq_iff_iff]
  unfold ins
  simp only [Bool.and_eq_true, Bool.or_eq_true, decide_eq_true_eq]
  omega
theorem CrBox.of_row {w0 w : World} {bc : ByteArray} {W L S T J R : Int} {wo lk : Bool} {ad : Option Addr} {n cap : Nat} {ep lo pa : Int} (h : w.heap[w0.heap.size]? = some (.cells (crK bc W L S T J R wo lk ad n cap ep lo pa) 26 (0, 0))) : CrBox w0 w bc W L S T J R wo lk ad n cap ep lo pa := by
  refine ⟨⟨(Array.getElem?_eq_some_iff.1 h).1, ?_, ?_, ?_, ?_, ?_, ?_, ?_, ?_, ?_, ?_, ?_, ?_, ?_⟩, h⟩ <;> (rw [cell_of_row w _ _ _ _ (0, 0) h]; rfl)
theorem CrBox.far {w0 w : World} {bc : ByteArray} {W L S T J R : Int} {wo lk : Bool} {ad : Option Addr} {n cap : Nat} {ep lo pa : Int} (h : CrBox w0 w bc W L S T J R wo lk ad n cap ep lo pa) (p : Addr) (hp : p.block ≠ w0.heap.size) (v : Value) : CrBox w0 (w.setCell p v) bc W L S T J R wo lk ad n cap ep lo pa :=
  .of_row ((Below.heap_setCell _ _ _ _ hp.symm).trans h.row)
attribute [local irreducible] ins
set_option maxRecDepth 100000 in
set_option maxHeartbeats 400000 in
theorem within_any (f n : Int) (i : Nat) (w : World) (hi : i ≤ 100000) (n1 : n ≤ 9223372036854775807) :
    Calls Try.prog 49 #[.agg #[.int .i64 f, .int .i64 n], .int .i64 (i : Int)] w fun e w' => e = .returned (.bool (ins i f n)) ∧ Below w.heap.size w w' := by
  have HI := Lib.hid (ins_eq i f n)
  have HB := Lib.hid (below_boxC w (.cells #[.int .i64 f, .int .i64 n] 40))
  have HP := Lib.hid (SpAt.new w f n 40)
  by_cases h1 : 0 < n
  rotate_left
  · rw [decide_eq_false h1] at HI
    go_enter Try.func49, Try.ntmps49
    go_wp2
    go_ret
    exact ⟨by rw [HI.out]; rfl, HB.out⟩
  by_cases h2 : f ≤ (i : Int)
  rotate_left
  · rw [decide_eq_true h1, decide_eq_false h2] at HI
    go_enter Try.func49, Try.ntmps49
    go_wp2
    go_ret
    exact ⟨by rw [HI.out]; rfl, HB.out⟩
  rw [decide_eq_true h1, decide_eq_true h2] at HI
  have hw : IntKind.i64.wrap ((i : Int) - n) = (i : Int) - n := by rw [IntKind.wrap_i64]; omega
  by_cases h3 : (i : Int) - n < f
  · rw [decide_eq_true h3] at HI
    go_enter Try.func49, Try.ntmps49
    go_wp2
    go_ret
    exact ⟨by rw [HI.out]; rfl, HB.out⟩
  · rw [decide_eq_false h3] at HI
    go_enter Try.func49, Try.ntmps49
    go_wp2
    go_ret
    exact ⟨by rw [HI.out]; rfl, HB.out⟩
attribute [local irreducible] tim vld bar cnt okB capU allB vldC eqK dmN mkBad
set_option maxRecDepth 100000 in
set_option maxHeartbeats 8000000 in
theorem damage_any (c : Crt) (ad : Option Addr) (cap : Nat) (f n : Int) (w : World) (hin : CrIn w c ad cap) (f0 : -9223372036854775808 ≤ f) (f1 : f ≤ 9223372036854775807) (n0 : -9223372036854775808 ≤ n) (n1 : n ≤ 9223372036854775807) :
    Calls Try.prog 30 #[crV c ad cap, .agg #[.int .i64 f, .int .i64 n]] w fun e w' => RetD w (dmgC (vldC c) c f n) e w' := by
  have HVX := Lib.hid (fun X (h : Below w.heap.size w X) => valc_any c ad cap X (hin.below h))
  have HKI := Lib.hid hin.ki
  have HNN := Lib.hid hin.nn
  have hbs := hin.bs
  have HPT := Lib.hid (fun h => vldC_parts (c := c) h)
  clear hin
  obtain ⟨bc, W, L, S, T, J, R, wo, lk, l, ep, lo, pa⟩ := c
  simp only at HKI HPT hbs
  generalize vldC ⟨bc, W, L, S, T, J, R, wo, lk, l, ep, lo, pa⟩ = vv at *
  have HD1 := Lib.hid (show dmgC false ⟨bc, W, L, S, T, J, R, wo, lk, l, ep, lo, pa⟩ f n = crZ from rfl)
  have HD2 := Lib.hid (show dmgC true ⟨bc, W, L, S, T, J, R, wo, lk, l, ep, lo, pa⟩ f n = ⟨bc, W, L, S, T, J, R, wo, lk, dmN l f n l.length, ep, lo, pa⟩ from rfl)
  obtain ⟨M, hM⟩ : ∃ M, M = l.length := ⟨_, rfl⟩
  show Calls Try.prog 30 #[crW bc W L S T J R wo lk ad l.length cap ep lo pa, .agg #[.int .i64 f, .int .i64 n]] w _
  have HX2 : Hid (∀ X, Below w.heap.size w X → Calls Try.prog 14 #[crW bc W L S T J R wo lk ad M cap ep lo pa] X fun e w' => e = .returned (.bool vv) ∧ Below X.heap.size X w') := Lib.hid (by rw [hM]; exact HVX.out)
  clear HVX
  have HM := Lib.hid hM
  rw [← hM] at HD2 ⊢
  clear hM
  have HW := Lib.hid (Way3.start w bc W L S T J R wo lk ad M cap ep lo pa f n)
  go_enter Try.func30, Try.ntmps30
  go_wp2_with fail
  generalize World.alloc _ _ = X0 at *
  refine (HX2.out X0 HW.out.b).mono ?_
  rintro e w1 ⟨rfl, hb⟩
  replace HW := Lib.hid (HW.out.next hb)
  clear hb
  cases vv
  · go_wp2_with (with_reducible refine wpList_store_cr rfl (.tmp 4) (.tmp 10) rfl (w.heap.size + 1 + 1) rfl _ _ _ _ _ _ _ _ _ _ _ _ _ _ _ rfl _ _ _ _ _ _ _ _ _ _ _ _ _ _ _ HW.out.z ?_)
    refine post_cellD rfl rfl (setRow_heap _ _ _ _ _ _ HW.out.z) Try.underlying26 rfl infoC rfl ?_
    rw [HD1.out]
    exact ⟨none, 0, rfl, ⟨Ki.nil _ _, Nat.le_refl _, Nat.zero_le _, fun _ => rfl, Nat.zero_le _⟩, below_set HW.out.b (by omega) _⟩
  obtain ⟨hv, hlen, hall, _⟩ := HPT.out rfl
  have hM2 : M ≤ 4096 := by have := HM.out; have := hv.c1; omega
  have HSM := Lib.hid (allB_small hall)
  clear hv hlen hall HPT
  obtain ⟨_, k0, k1, k2, k3, k4, k5, k6, k7, k8, k9, k10, k11, k12⟩ := HW.out.cb.at_
  go_wp2_with fail
  clear k0 k1 k2 k3 k4 k5 k6 k7 k8 k9 k10 k11 k12
  refine (with_any bc W L S T J R wo lk ad M cap ep lo pa ad M cap l w1 (HKI.out.below HW.out.b) HM.out hM2 HSM.out HNN.out).mono ?_
  rintro e w3 ⟨ad5, n5, cap5, rfl, hn5, hk, hb⟩
  rw [← HM.out] at hn5
  subst hn5
  have HLT := Lib.hid (fun g h => (hk.lt g h).2)
  have HK0 := Lib.hid (hk.below (below_boxC w3 (boxK bc W L S T J R wo lk ad5 n5 cap5 ep lo pa)))
  have HB0 := Lib.hid (hb.alloc hb.size (boxK bc W L S T J R wo lk ad5 n5 cap5 ep lo pa))
  have HC0 := Lib.hid (CrBox.new w3 bc W L S T J R wo lk ad5 n5 cap5 ep lo pa)
  have HLN := Lib.hid (fun i => (dmN_length l f n i).trans HM.out.symm)
  have HDS := Lib.hid (fun i => dmN_succ l f n i)
  have HD0 := Lib.hid (dmN_zero l f n)
  clear hk hb
  go_wp2
  go_loopg [18] n5 (fun gk vi wx => ∃ i : Nat, i + gk = n5 ∧ vi = .int .i64 i ∧ Hid (Kq wx w1.heap.size w1.heap.size (.slice ad5 n5 cap5) (dmN l f n i)) ∧ Hid (Below w1.heap.size w1 wx) ∧ Hid (CrBox w3 wx bc W L S T J R wo lk ad5 n5 cap5 ep lo pa))
  case atStart => exact ⟨0, by omega, rfl, by rw [HD0.out]; exact HK0, HB0, HC0⟩
  case round =>
    obtain ⟨i, hi, rfl, hK, hB, hC⟩ := hrel
    have HW3 := Lib.hid (HW.out.next hB.out)
    obtain ⟨_, k0, k1, k2, k3, k4, k5, k6, k7, k8, k9, k10, k11, k12⟩ := hC.out.at_
    cases gk with
    | zero =>
      obtain rfl : i = n5 := by omega
      go_wp2_with (with_reducible refine wpList_store_cr rfl (.tmp 4) (.tmp 30) rfl (w.heap.size + 1 + 1) rfl _ _ _ _ _ _ _ _ _ _ _ _ _ _ _ rfl _ _ _ _ _ _ _ _ _ _ _ _ _ _ _ HW3.out.z ?_)
      refine post_cellD rfl rfl (setRow_heap _ _ _ _ _ _ HW3.out.z) Try.underlying26 rfl infoC rfl ?_
      have hk2 := hK.out.keep (w' := wr.setRow (w.heap.size + 1 + 1) (crK bc W L S T J R wo lk ad5 i cap5 ep lo pa)) (fun k hk _ => by
        have := HW.out.s
        rw [setRow_other _ _ _ _ (by omega)]) (by simp [World.setRow])
      obtain ⟨ad6, cap6, e6, hx6, h61, h62, h63, _⟩ := hk2.read
      rw [HLN.out i] at e6 h61
      cases e6
      rw [HD2.out]
      refine ⟨ad5, cap5, by show _ = Ending.returned (crW bc W L S T J R wo lk ad5 (dmN l f n i).length cap5 ep lo pa); rw [HLN.out i], ⟨hx6.ki, by rw [HLN.out i]; exact h61, h62, h63, hbs⟩, below_set HW3.out.b (by omega) _⟩
    | succ gk0 =>
      have hiM : i < n5 := by omega
      obtain ⟨_, p0, p1⟩ := HW3.out.p
      have HX := Lib.hid (HDS.out i)
      go_wp2_with fail
      refine (within_any f n i _ (by omega) n1).mono ?_
      generalize ins i f n = hin at *
      rintro e w5 ⟨rfl, hb⟩
      replace hK := Lib.hid (hK.out.below hb)
      replace hC := Lib.hid (hC.out.below hb)
      replace hB := Lib.hid (hB.out.trans (hb.mono hB.out.size))
      clear hb k0 k1 k2 k3 k4 k5 k6 k7 k8 k9 k10 k11 k12 p0 p1 HW3
      obtain ⟨_, k0, k1, k2, k3, k4, k5, k6, k7, k8, k9, k10, k11, k12⟩ := hC.out.at_
      cases hin
      · go_wp2
        go_roundg gk0
        case rel => exact ⟨i + 1, by omega, by go_num, by rw [HX.out]; simp only [Bool.false_eq_true, if_false]; exact hK, hB, hC⟩
        case measure => omega
      · obtain ⟨g, cap6, hv, hg1, hg2, -, -, hc, hfz, hk2⟩ := hK.out.set_ i (by rw [HLN.out i]; exact hiM)
        rw [HLN.out i] at hv
        cases hv
        have HK2 := Lib.hid hk2
        have HB2 := Lib.hid (hB.out.setCell (p := ⟨g, i * 3 + 1, none⟩) hg1 (.bool true))
        have HC2 := Lib.hid (hC.out.far ⟨g, i * 3 + 1, none⟩ (by have := HLT.out g rfl; show g ≠ w3.heap.size; omega) (.bool true))
        have HMB := Lib.hid (show mkBad (dmN l f n i) i = (dmN l f n i).set i ⟨((dmN l f n i)[i]'(by rw [HLN.out i]; exact hiM)).m, true, ((dmN l f n i)[i]'(by rw [HLN.out i]; exact hiM)).d⟩ by unfold mkBad; rw [dif_pos (by rw [HLN.out i]; exact hiM)])
        clear hk2
        go_wp2
        go_roundg gk0
        case rel => exact ⟨i + 1, by omega, by go_num, by rw [HX.out]; simp only [if_true]; rw [HMB.out]; exact HK2, HB2, HC2⟩
        case measure => omega
end Go.Proofs.Ytlbnjojafaieoaa
