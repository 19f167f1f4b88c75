/-
  The program's Erase.
-/
import Derived.Test.YtlbnjojafaieoaaCtWithP
import Derived.Test.YtlbnjojafaieoaaCtValP
namespace Go.Proofs.Ytlbnjojafaieoaa
open Go.RowKit
set_option linter.unusedVariables false
attribute [local irreducible] tim vld bar cnt okB capU allB vldC eqK
set_option maxRecDepth 100000 in
set_option maxHeartbeats 4000000 in
theorem erase_any (c : Crt) (ad : Option Addr) (cap : Nat) (w : World) (hin : CrIn w c ad cap) :
    Calls Try.prog 28 #[crV c ad cap] w fun e w' => RetC w (eraC c) e w' := by
  have HVX := Lib.hid (fun X (h : Below w.heap.size w X) => valc_any c ad cap X (hin.below h))
  have hbs := hin.bs
  have HE1 : Hid (vldC c = false → eraC c = (crZ, 8)) := Lib.hid fun h => by unfold eraC; rw [if_neg (by rw [h]; simp)]
  have HE2 : Hid (vldC c = true → (c.lk || c.wo) = true → eraC c = (crZ, 17)) := Lib.hid fun h h2 => by unfold eraC; rw [if_pos h, if_pos h2]
  have HE3 : Hid (vldC c = true → (c.lk || c.wo) = false → c.ep = 1125899906842624 → eraC c = (crZ, 7)) := Lib.hid fun h h2 h3 => by unfold eraC; rw [if_pos h, if_neg (by rw [h2]; simp), if_pos h3]
  have HE4 : Hid (vldC c = true → (c.lk || c.wo) = false → c.ep ≠ 1125899906842624 → eraC c = ({c with l := [], ep := c.ep + 1}, 0)) := Lib.hid fun h h2 h3 => by unfold eraC; rw [if_pos h, if_neg (by rw [h2]; simp), if_neg h3]
  have HPT := Lib.hid (fun h => vldC_parts (c := c) h)
  clear hin
  obtain ⟨bc, W, L, S, T, J, R, wo, lk, l, ep, lo, pa⟩ := c
  simp only at HE2 HE3 HE4 HPT hbs
  generalize vldC ⟨bc, W, L, S, T, J, R, wo, lk, l, ep, lo, pa⟩ = vv at *
  generalize eraC ⟨bc, W, L, S, T, J, R, wo, lk, l, ep, lo, pa⟩ = res at *
  show Calls Try.prog 28 #[crW bc W L S T J R wo lk ad l.length cap ep lo pa] w _
  have HX2 : Hid (∀ X, Below w.heap.size w X → Calls Try.prog 14 #[crW bc W L S T J R wo lk ad l.length cap ep lo pa] X fun e w' => e = .returned (.bool vv) ∧ Below X.heap.size X w') := Lib.hid HVX.out
  clear HVX
  generalize l.length = M at *
  have HW := Lib.hid (Way.start w bc W L S T J R wo lk ad M cap ep lo pa)
  go_enter Try.func28, Try.ntmps28
  go_wp2_with fail
  generalize World.alloc _ _ = X0 at *
  refine (HX2.out X0 HW.out.b).mono ?_
  rintro e w1 ⟨rfl, hb⟩
  replace HW := Lib.hid (HW.out.next hb)
  clear hb
  cases vv
  · go_wp2_with (with_reducible refine wpList_store_cr rfl (.tmp 2) (.tmp 8) rfl (w.heap.size + 1) rfl _ _ _ _ _ _ _ _ _ _ _ _ _ _ _ rfl _ _ _ _ _ _ _ _ _ _ _ _ _ _ _ HW.out.z ?_)
    refine post_cellC rfl rfl (setRow_heap _ _ _ _ _ _ HW.out.z) Try.underlying26 rfl infoC rfl rfl ?_
    rw [HE1.out (by simp)]
    exact retZ (below_set HW.out.b (by omega) _)
  obtain ⟨_, k0, k1, k2, k3, k4, k5, k6, k7, k8, k9, k10, k11, k12⟩ := HW.out.c.at_
  cases lk
  rotate_left
  · go_wp2_with (with_reducible refine wpList_store_cr rfl (.tmp 2) (.tmp 16) rfl (w.heap.size + 1) rfl _ _ _ _ _ _ _ _ _ _ _ _ _ _ _ rfl _ _ _ _ _ _ _ _ _ _ _ _ _ _ _ HW.out.z ?_)
    refine post_cellC rfl rfl (setRow_heap _ _ _ _ _ _ HW.out.z) Try.underlying26 rfl infoC rfl rfl ?_
    rw [HE2.out (by simp) (by simp)]
    exact retZ (below_set HW.out.b (by omega) _)
  cases wo
  rotate_left
  · go_wp2_with (with_reducible refine wpList_store_cr rfl (.tmp 2) (.tmp 16) rfl (w.heap.size + 1) rfl _ _ _ _ _ _ _ _ _ _ _ _ _ _ _ rfl _ _ _ _ _ _ _ _ _ _ _ _ _ _ _ HW.out.z ?_)
    refine post_cellC rfl rfl (setRow_heap _ _ _ _ _ _ HW.out.z) Try.underlying26 rfl infoC rfl rfl ?_
    rw [HE2.out (by simp) (by simp)]
    exact retZ (below_set HW.out.b (by omega) _)
  by_cases he : ep = 1125899906842624
  · subst he
    go_wp2_with (with_reducible refine wpList_store_cr rfl (.tmp 2) (.tmp 21) rfl (w.heap.size + 1) rfl _ _ _ _ _ _ _ _ _ _ _ _ _ _ _ rfl _ _ _ _ _ _ _ _ _ _ _ _ _ _ _ HW.out.z ?_)
    refine post_cellC rfl rfl (setRow_heap _ _ _ _ _ _ HW.out.z) Try.underlying26 rfl infoC rfl rfl ?_
    rw [HE3.out (by simp) (by simp) (by simp)]
    exact retZ (below_set HW.out.b (by omega) _)
  have he2 : (ep == 1125899906842624) = false := by rw [beq_eq_false_iff_ne]; exact he
  have HR := Lib.hid (HE4.out rfl rfl he)
  obtain ⟨e0, e1⟩ := (HPT.out rfl).2.2.2
  have f10 := HW.out.c.frozen 10
  clear he
  have HZ : ∀ v, (w1.setCell ⟨w.heap.size, 10, none⟩ v).heap[w.heap.size + 1]? = some (.cells (crK ⟨#[]⟩ 0 0 0 0 0 0 false false none 0 0 0 0 0) 26 (0, 0)) := fun v => by
    rw [Below.heap_setCell _ _ _ _ (by simp)]
    exact HW.out.z
  have HZH := Lib.hid (HZ (.int .i64 (ep + 1)))
  have HB1 := Lib.hid (HW.out.b.setCell (p := ⟨w.heap.size, 10, none⟩) (Nat.le_refl _) (.int .i64 (ep + 1)))
  have HS1 := Lib.hid HW.out.s
  clear HZ
  go_wp2_with fail
  generalize hX1 : World.setCell w1 _ _ = X1 at *
  have HS2 : Hid (w.heap.size + 2 ≤ X1.heap.size) := Lib.hid (by rw [← hX1]; simp only [World.setCell]; simpa using HS1.out)
  clear hX1
  refine (with_any bc W L S T J R false false ad M cap (ep + 1) lo pa none 0 0 [] X1 (Ki.nil _ _) rfl (by omega) (fun b h => by simp at h) (fun _ => rfl)).mono ?_
  rintro e w2 ⟨ad5, n5, cap5, rfl, rfl, hk5, hb⟩
  obtain ⟨ad6, cap6, e6, hx6, h61, h62, h63, -⟩ := hk5.read
  cases e6
  have HB2 := Lib.hid (HB1.out.trans (hb.mono HB1.out.size))
  have HZ2 := Lib.hid ((hb.block (w.heap.size + 1) (by have := HS2.out; omega)).trans HZH.out)
  have HX6 := Lib.hid hx6
  have HS6 := Lib.hid (hk5.lt)
  clear hb hx6 h61 k0 k1 k2 k3 k4 k5 k6 k7 k8 k9 k10 k11 k12 hk5
  go_wp2_with (with_reducible refine wpList_store_cr rfl (.tmp 2) (.tmp 27) rfl (w.heap.size + 1) rfl _ _ _ _ _ _ _ _ _ _ _ _ _ _ _ rfl _ _ _ _ _ _ _ _ _ _ _ _ _ _ _ HZ2.out ?_)
  refine post_cellC rfl rfl (setRow_heap _ _ _ _ _ _ HZ2.out) Try.underlying26 rfl infoC rfl rfl ?_
  rw [HR.out]
  exact ⟨ad5, cap5, rfl, ⟨Ki.nil _ _, Nat.zero_le _, h62, h63, hbs⟩, below_set HB2.out (by omega) _⟩
end Go.Proofs.Ytlbnjojafaieoaa
