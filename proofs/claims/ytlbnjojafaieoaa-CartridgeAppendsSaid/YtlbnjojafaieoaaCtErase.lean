/-
  The specification's Erase.
-/
import Derived.Test.YtlbnjojafaieoaaCtFree
namespace Go.Proofs.Ytlbnjojafaieoaa
open Go.RowKit
set_option linter.unusedVariables false
theorem cnt_iff {n : Int} : cnt n = true ↔ 0 ≤ n ∧ n ≤ 1125899906842624 := by unfold cnt; simp
theorem vldC_parts {c : Crt} (h : vldC c = true) : Vld c.W c.L c.S c.T c.J c.R ∧ (c.l.length : Int) ≤ c.W * c.L ∧ allB c.l = true ∧ (0 ≤ c.ep ∧ c.ep ≤ 1125899906842624) := by
  unfold vldC at h
  simp only [Bool.and_eq_true, decide_eq_true_eq] at h
  obtain ⟨_, h2, h3, h4, h5, _, _⟩ := h
  have v := vld_iff.1 h2
  rw [capU_yes v] at h3
  exact ⟨v, h3, h4, cnt_iff.1 h5⟩
noncomputable def eraC (c : Crt) : Crt × Int :=
  if vldC c = true then (if (c.lk || c.wo) = true then (crZ, 17) else (if c.ep = 1125899906842624 then (crZ, 7) else ({c with l := [], ep := c.ep + 1}, 0))) else (crZ, 8)
attribute [local irreducible] tim vld bar cnt okB capU allB vldC eqK
set_option maxRecDepth 100000 in
set_option maxHeartbeats 4000000 in
theorem rerase_any (c : Crt) (ad : Option Addr) (cap : Nat) (w : World) (hin : CrIn w c ad cap) :
    Calls Try.prog 29 #[crV c ad cap] w fun e w' => RetC w (eraC c) e w' := by
  have HVX := Lib.hid (fun X (h : Below w.heap.size w X) => rvalc_any c ad cap X (hin.below h))
  have hbs := hin.bs
  have HE1 : Hid (vldC c = false → eraC c = (crZ, 8)) := Lib.hid fun h => by unfold eraC; rw [if_neg (by rw [h]; simp)]
  have HE2 : Hid (vldC c = true → (c.lk || c.wo) = true → eraC c = (crZ, 17)) := Lib.hid fun h h2 => by unfold eraC; rw [if_pos h, if_pos h2]
  have HE3 : Hid (vldC c = true → (c.lk || c.wo) = false → c.ep = 1125899906842624 → eraC c = (crZ, 7)) := Lib.hid fun h h2 h3 => by unfold eraC; rw [if_pos h, if_neg (by rw [h2]; simp), if_pos h3]
  have HE4 : Hid (vldC c = true → (c.lk || c.wo) = false → c.ep ≠ 1125899906842624 → eraC c = ({c with l := [], ep := c.ep + 1}, 0)) := Lib.hid fun h h2 h3 => by unfold eraC; rw [if_pos h, if_neg (by rw [h2]; simp), if_neg h3]
  have HPT := Lib.hid (fun h => vldC_parts (c := c) h)
  clear hin
  obtain ⟨bc, W, L, S, T, J, R, wo, lk, l, ep, lo, pa⟩ := c
  simp only at HE2 HE3 HE4 HPT hbs
  generalize vldC ⟨bc, W, L, S, T, J, R, wo, lk, l, ep, lo, pa⟩ = vv at *
  generalize eraC ⟨bc, W, L, S, T, J, R, wo, lk, l, ep, lo, pa⟩ = res at *
  show Calls Try.prog 29 #[crW bc W L S T J R wo lk ad l.length cap ep lo pa] w _
  have HX2 : Hid (∀ X, Below w.heap.size w X → Calls Try.prog 15 #[crW bc W L S T J R wo lk ad l.length cap ep lo pa] X fun e w' => e = .returned (.bool vv) ∧ Below X.heap.size X w') := Lib.hid HVX.out
  clear HVX
  generalize l.length = M at *
  have HW := Lib.hid (Way.start w bc W L S T J R wo lk ad M cap ep lo pa)
  go_enter Try.func29, Try.ntmps29
  go_wp2_with fail
  generalize World.alloc _ _ = X0 at *
  refine (HX2.out X0 HW.out.b).mono ?_
  rintro e w1 ⟨rfl, hb⟩
  replace HW := Lib.hid (HW.out.next hb)
  clear hb
  cases vv
  · go_wp2_with (with_reducible refine wpList_store_cr rfl (.tmp 2) (.tmp 7) rfl (w.heap.size + 1) rfl _ _ _ _ _ _ _ _ _ _ _ _ _ _ _ rfl _ _ _ _ _ _ _ _ _ _ _ _ _ _ _ HW.out.z ?_)
    refine post_cellC rfl rfl (setRow_heap _ _ _ _ _ _ HW.out.z) Try.underlying26 rfl infoC rfl rfl ?_
    rw [HE1.out (by simp)]
    exact retZ (below_set HW.out.b (by omega) _)
  obtain ⟨_, k0, k1, k2, k3, k4, k5, k6, k7, k8, k9, k10, k11, k12⟩ := HW.out.c.at_
  cases lk
  rotate_left
  · go_wp2_with (with_reducible refine wpList_store_cr rfl (.tmp 2) (.tmp 14) rfl (w.heap.size + 1) rfl _ _ _ _ _ _ _ _ _ _ _ _ _ _ _ rfl _ _ _ _ _ _ _ _ _ _ _ _ _ _ _ HW.out.z ?_)
    refine post_cellC rfl rfl (setRow_heap _ _ _ _ _ _ HW.out.z) Try.underlying26 rfl infoC rfl rfl ?_
    rw [HE2.out (by simp) (by simp)]
    exact retZ (below_set HW.out.b (by omega) _)
  cases wo
  rotate_left
  · go_wp2_with (with_reducible refine wpList_store_cr rfl (.tmp 2) (.tmp 14) rfl (w.heap.size + 1) rfl _ _ _ _ _ _ _ _ _ _ _ _ _ _ _ rfl _ _ _ _ _ _ _ _ _ _ _ _ _ _ _ HW.out.z ?_)
    refine post_cellC rfl rfl (setRow_heap _ _ _ _ _ _ HW.out.z) Try.underlying26 rfl infoC rfl rfl ?_
    rw [HE2.out (by simp) (by simp)]
    exact retZ (below_set HW.out.b (by omega) _)
  by_cases he : ep = 1125899906842624
  · subst he
    go_wp2_with (with_reducible refine wpList_store_cr rfl (.tmp 2) (.tmp 18) rfl (w.heap.size + 1) rfl _ _ _ _ _ _ _ _ _ _ _ _ _ _ _ rfl _ _ _ _ _ _ _ _ _ _ _ _ _ _ _ HW.out.z ?_)
    refine post_cellC rfl rfl (setRow_heap _ _ _ _ _ _ HW.out.z) Try.underlying26 rfl infoC rfl rfl ?_
    rw [HE3.out (by simp) (by simp) (by simp)]
    exact retZ (below_set HW.out.b (by omega) _)
  have he2 : (ep == 1125899906842624) = false := by rw [beq_eq_false_iff_ne]; exact he
  have HR := Lib.hid (HE4.out rfl rfl he)
  obtain ⟨e0, e1⟩ := (HPT.out rfl).2.2.2
  have f9 := HW.out.c.frozen 9
  have f10 := HW.out.c.frozen 10
  clear he
  have HZ : ∀ u v, ((w1.setCell ⟨w.heap.size, 9, none⟩ u).setCell ⟨w.heap.size, 10, none⟩ v).heap[w.heap.size + 1]? = some (.cells (crK ⟨#[]⟩ 0 0 0 0 0 0 false false none 0 0 0 0 0) 26 (0, 0)) := fun u v => by
    rw [Below.heap_setCell _ _ _ _ (by simp), Below.heap_setCell _ _ _ _ (by simp)]
    exact HW.out.z
  have HZH := Lib.hid (HZ (.slice none 0 0) (.int .i64 (ep + 1)))
  clear HZ
  go_wp2_with (with_reducible refine wpList_store_cr rfl (.tmp 2) (.tmp 24) rfl (w.heap.size + 1) rfl _ _ _ _ _ _ _ _ _ _ _ _ _ _ _ rfl _ _ _ _ _ _ _ _ _ _ _ _ _ _ _ HZH.out ?_)
  refine post_cellC rfl rfl (setRow_heap _ _ _ _ _ _ HZH.out) Try.underlying26 rfl infoC rfl rfl ?_
  rw [HR.out]
  exact ⟨none, 0, rfl, ⟨Ki.nil _ _, Nat.le_refl _, Nat.zero_le _, fun _ => rfl, hbs⟩, below_set ((HW.out.b.setCell (Nat.le_refl _) _).setCell (Nat.le_refl _) _) (by omega) _⟩
end Go.Proofs.Ytlbnjojafaieoaa
