/-
  Copied of the specification of drives: a cartridge with blocks of its own.
-/
import Derived.Test.YtepmmlnopdjjdaaQCrd
import Derived.Test.YtepmmlnopdjjdaaCtWrite
namespace Go.Proofs.Ytepmmlnopdjjdaa
open Go.RowKit
set_option linter.unusedVariables false
set_option linter.unusedSimpArgs false
/-- a call hands back a cartridge whose blocks are new -/
def RetN (w : World) (c : Crt) (e : Ending) (w' : World) : Prop := ∃ ad cap, e = .returned (crV c ad cap) ∧ CrIn w' c ad cap ∧ Kfr w' w.heap.size ad c.l ∧ Below w.heap.size w w'
theorem Way.nextD {w X Y : World} {bc : ByteArray} {W L S T J R : Int} {wo lk : Bool} {ad : Option Addr} {n cap : Nat} {ep lo pa : Int} {D : Nat} (h : Way w X bc W L S T J R wo lk ad n cap ep lo pa) (hb : Below D X Y) (hD : w.heap.size + 2 ≤ D) : Way w Y bc W L S T J R wo lk ad n cap ep lo pa :=
  ⟨h.b.trans (hb.mono (by omega)), ⟨h.c.at_.below hb (by omega), (hb.block _ (by omega)).trans h.c.row⟩, (hb.block _ (by omega)).trans h.z, Nat.le_trans h.s hb.size⟩
/-- an empty list of blocks of the call's own, in the newest cells -/
theorem Kq.empty (w : World) (g : Nat) (hg : g = w.heap.size) (B : Nat) (hB : B ≤ g) (C : Nat) : Kq (w.alloc (.cells #[] 61)) B C (.slice (some ⟨g, 0, none⟩) 0 0) [] := by
  subst hg
  exact ⟨[], rfl, ⟨rfl, .inr ⟨w.heap.size, 0, #[], rfl, hB, heap_alloc_new w _, Nat.le_refl _, by unfold maxLen; omega, rfl, rfl⟩⟩, fun k h => by simp at h⟩
theorem nd_end {w wr : World} {bc : ByteArray} {W L S T J R : Int} {wo lk : Bool} {ad : Option Addr} {n cap : Nat} {ep lo pa : Int} (HW : Way w wr bc W L S T J R wo lk ad n cap ep lo pa) {D : Nat} (hD : w.heap.size + 2 ≤ D)
    {ad5 : Option Addr} {m cap5 : Nat} {l : List Blk} (hK : Kq wr D D (.slice ad5 m cap5) l) (hm : m = l.length) (hbs : bc.size ≤ maxLen) :
    RetN w ⟨bc, W, L, S, T, J, R, wo, lk, l, ep, lo, pa⟩ (.returned (.agg (crK bc W L S T J R wo lk ad5 m cap5 ep lo pa))) ((wr.setCell ⟨w.heap.size, 9, none⟩ (.slice ad5 m cap5)).setRow (w.heap.size + 1) (crK bc W L S T J R wo lk ad5 m cap5 ep lo pa)) := by
  subst hm
  have hk2 := hK.keep (w' := (wr.setCell ⟨w.heap.size, 9, none⟩ (.slice ad5 l.length cap5)).setRow (w.heap.size + 1) (crK bc W L S T J R wo lk ad5 l.length cap5 ep lo pa)) (fun k hk _ => by
    rw [setRow_other _ _ _ _ (by omega), Below.heap_setCell _ _ _ _ (by show k ≠ w.heap.size; omega)]) (by simp [World.setRow, World.setCell])
  obtain ⟨ad6, cap6, e6, hx6, h61, h62, h63, _⟩ := hk2.read
  cases e6
  refine ⟨ad5, cap5, rfl, ⟨hx6.ki, h61, h62, h63, hbs⟩, fun X hX hs => ?_, below_set (HW.b.setCell (Nat.le_refl _) _) (by omega) _⟩
  obtain ⟨ad7, cap7, e7, hx7, _⟩ := (hk2.keep (w' := X) (fun k hk hlt => hX k (by omega) hlt) hs).read
  cases e7
  exact hx7.ki
set_option maxRecDepth 100000 in
set_option maxHeartbeats 4000000 in
theorem rdcopied_any (c : Crt) (ad : Option Addr) (cap : Nat) (w : World) (hin : CrIn w c ad cap) (hs : c.l.length ≤ 4096) (hd : ∀ b ∈ c.l, b.d.length ≤ 10000) :
    Calls Try.prog 11 #[crV c ad cap] w fun e w' => RetN w c e w' := by
  have HKI := Lib.hid hin.ki
  have hbs := hin.bs
  have HD := Lib.hid hd
  clear hin hd
  obtain ⟨bc, W, L, S, T, J, R, wo, lk, l, ep, lo, pa⟩ := c
  simp only at HKI HD hbs hs
  obtain ⟨M, hM⟩ : ∃ M, M = l.length := ⟨_, rfl⟩
  show Calls Try.prog 11 #[crW bc W L S T J R wo lk ad l.length cap ep lo pa] w _
  have HM := Lib.hid hM
  rw [← hM] at hs ⊢
  clear hM
  have HW := Lib.hid (Way.start w bc W L S T J R wo lk ad M cap ep lo pa)
  have HS0 := Lib.hid (show (((w.alloc (boxK bc W L S T J R wo lk ad M cap ep lo pa)).alloc (boxK ⟨#[]⟩ 0 0 0 0 0 0 false false none 0 0 0 0 0))).heap.size = w.heap.size + 2 by simp)
  go_enter Try.func11, Try.ntmps11
  go_wp2_with fail
  generalize World.alloc (World.alloc w _) _ = X0 at *
  have HK0 := Lib.hid (Kq.empty X0 (w.heap.size + 2) HS0.out.symm (w.heap.size + 2) (Nat.le_refl _) (w.heap.size + 2))
  have HW0 := Lib.hid (HW.out.next (below_boxC X0 (.cells #[] 61)))
  have HSX := Lib.hid HS0.out
  clear HW HS0
  go_wp2
  go_loopg [3, 4] M (fun gk v3 v4 wx => ∃ k : Nat, k + gk = M ∧ v4 = .int .i64 k ∧ Hid (Kq wx (w.heap.size + 2) (w.heap.size + 2) v3 (l.take k)) ∧ Hid (Way w wx bc W L S T J R wo lk ad M cap ep lo pa))
  case atStart => exact ⟨0, by omega, rfl, by rw [List.take_zero]; exact HK0, HW0⟩
  case round =>
    obtain ⟨k, hk, rfl, hK, hW⟩ := hrel
    obtain ⟨_, k0, k1, k2, k3, k4, k5, k6, k7, k8, k9, k10, k11, k12⟩ := hW.out.c.at_
    cases gk with
    | zero =>
      obtain rfl : k = M := by omega
      have HT := Lib.hid (show l.take k = l from List.take_of_length_le (by rw [← HM.out]; exact Nat.le_refl _))
      rw [HT.out] at hK
      obtain ⟨ad5, cap5, e5, -⟩ := hK.out.read
      rw [← HM.out] at e5
      subst e5
      have f9 := hW.out.c.frozen 9
      have HZ : Hid ((wr.setCell ⟨w.heap.size, 9, none⟩ (.slice ad5 k cap5)).heap[w.heap.size + 1]? = some (.cells (crK ⟨#[]⟩ 0 0 0 0 0 0 false false none 0 0 0 0 0) 30 (0, 0))) := Lib.hid (by
        rw [Below.heap_setCell _ _ _ _ (by show w.heap.size + 1 ≠ w.heap.size; omega)]
        exact hW.out.z)
      go_wp2_with (with_reducible refine wpList_store_cr rfl (.tmp 2) (.tmp 39) rfl (w.heap.size + 1) rfl _ _ _ _ _ _ _ _ _ _ _ _ _ _ _ rfl _ _ _ _ _ _ _ _ _ _ _ _ _ _ _ HZ.out ?_)
      refine post_cellD rfl rfl (setRow_heap _ _ _ _ _ _ HZ.out) Try.underlying30 rfl infoC rfl ?_
      exact nd_end hW.out (Nat.le_refl _) hK.out HM.out hbs
    | succ gk0 =>
      have hkM : k < M := by omega
      have hkl : k < l.length := by rw [← HM.out]; exact hkM
      obtain ⟨b, off, ad', cap', hadr, hlt, q0, q1, q2, hq, hq2, hq3, hq4⟩ := (HKI.out.below hW.out.b).get hkl
      have hbw : b < w.heap.size := by
        obtain ⟨b2, _, _, _, e2, h2, _⟩ := HKI.out.get hkl
        rw [hadr] at e2
        cases e2
        exact h2
      subst hadr
      have hdl : l[k].d.length ≤ 10000 := HD.out _ (List.getElem_mem hkl)
      have HNX := Lib.hid (show l.take (k + 1) = l.take k ++ [⟨l[k].m, l[k].bad, l[k].d⟩] by rw [List.take_succ_eq_append_getElem hkl])
      generalize l[k].m = xm at *
      generalize l[k].bad = xb at *
      generalize l[k].d = xd at *
      have HLI := Lib.hid hq
      have HQN := Lib.hid hq4
      have HQ := Lib.hid (show wr.cell? ⟨b, off + k * 3, none⟩ = some (.bool xm) ∧ wr.cell? ⟨b, off + k * 3 + 1, none⟩ = some (.bool xb) ∧ wr.cell? ⟨b, off + k * 3 + 2, none⟩ = some (.slice ad' xd.length cap') ∧ b < w.heap.size from ⟨q0, q1, q2, hbw⟩)
      have HBL := Lib.hid (show b < w.heap.size + 2 by omega)
      have HSW := Lib.hid (show w.heap.size + 2 ≤ wr.heap.size from hW.out.s)
      have HA := Lib.hid (show CrAt wr w.heap.size bc W L S T J R wo lk (some ⟨b, off, none⟩) M cap ep lo pa from hW.out.c.at_)
      have HLT := Lib.hid hK.out.lt
      have hlen2 : (l.take k).length + 1 ≤ 100000 := by rw [List.length_take]; omega
      clear hq hq2 hq3 hq4 q0 q1 q2 hkl
      go_wp2_with fail
      clear k0 k1 k2 k3 k4 k5 k6 k7 k8 k9 k10 k11 k12
      have HBX := Lib.hid (Below.refl (w.heap.size + 2) wr).drew
      refine wp_region_noPanic ?_
      refine wp_region_held_drew (S := fun X => Below (w.heap.size + 2) wr X) (by kernel_rfl) (HBX.out) (fun hS0 => ?_)
      refine held_take (i := 0) (v := ?_) rfl (by kernel_rfl) (by kernel_rfl) (by kernel_rfl) (fun _ _ _ h => h) (by rfl) ?_ (by assumption) ?_
      rotate_left
      · intro X hSX
        try dsimp only at hSX
        go_simp <;> with_reducible rfl
      simp only [Act.put, List.setIfInBounds_toArray, List.set_cons_zero, List.set_cons_succ]
      refine held_take (i := 1) (v := ?_) rfl (by kernel_rfl) (by kernel_rfl) (by kernel_rfl) (fun _ _ _ h => h) (by rfl) ?_ (by assumption) ?_
      rotate_left
      · intro X hSX
        try dsimp only at hSX
        obtain ⟨_, k0, k1, k2, k3, k4, k5, k6, k7, k8, k9, k10, k11, k12⟩ := HA.out.below hSX (by omega)
        go_simp <;> with_reducible rfl
      simp only [Act.put, List.setIfInBounds_toArray, List.set_cons_zero, List.set_cons_succ]
      refine held_take (i := 2) (v := ?_) rfl (by kernel_rfl) (by kernel_rfl) (by kernel_rfl) (fun _ _ _ h => h) (by rfl) ?_ (by assumption) ?_
      rotate_left
      · intro X hSX
        try dsimp only at hSX
        obtain ⟨_, k0, k1, k2, k3, k4, k5, k6, k7, k8, k9, k10, k11, k12⟩ := HA.out.below hSX (by omega)
        go_simp <;> with_reducible rfl
      simp only [Act.put, List.setIfInBounds_toArray, List.set_cons_zero, List.set_cons_succ]
      refine held_take (i := 3) (v := ?_) rfl (by kernel_rfl) (by kernel_rfl) (by kernel_rfl) (fun _ _ _ h => h) (by rfl) ?_ (by assumption) ?_
      rotate_left
      · intro X hSX
        try dsimp only at hSX
        go_simp <;> with_reducible rfl
      simp only [Act.put, List.setIfInBounds_toArray, List.set_cons_zero, List.set_cons_succ]
      refine held_take (i := 4) (v := ?_) rfl (by kernel_rfl) (by kernel_rfl) (by kernel_rfl) (fun _ _ _ h => h) (by rfl) ?_ (by assumption) ?_
      rotate_left
      · intro X hSX
        try dsimp only at hSX
        go_simp <;> with_reducible rfl
      simp only [Act.put, List.setIfInBounds_toArray, List.set_cons_zero, List.set_cons_succ]
      refine held_take (i := 5) (v := ?_) rfl (by kernel_rfl) (by kernel_rfl) (by kernel_rfl) (fun _ _ _ h => h) (by rfl) ?_ (by assumption) ?_
      rotate_left
      · intro X hSX
        try dsimp only at hSX
        go_simp <;> with_reducible rfl
      simp only [Act.put, List.setIfInBounds_toArray, List.set_cons_zero, List.set_cons_succ]
      refine held_take (i := 6) (v := ?_) rfl (by kernel_rfl) (by kernel_rfl) (by kernel_rfl) (fun _ _ _ h => h) (by rfl) ?_ (by assumption) ?_
      rotate_left
      · intro X hSX
        try dsimp only at hSX
        have q0 := (hSX.cell (p := ⟨b, off + k * 3, none⟩) HBL.out).trans HQ.out.1
        go_simp <;> with_reducible rfl
      simp only [Act.put, List.setIfInBounds_toArray, List.set_cons_zero, List.set_cons_succ]
      refine held_take (i := 7) (v := ?_) rfl (by kernel_rfl) (by kernel_rfl) (by kernel_rfl) (fun _ _ _ h => h) (by rfl) ?_ (by assumption) ?_
      rotate_left
      · intro X hSX
        try dsimp only at hSX
        obtain ⟨_, k0, k1, k2, k3, k4, k5, k6, k7, k8, k9, k10, k11, k12⟩ := HA.out.below hSX (by omega)
        go_simp <;> with_reducible rfl
      simp only [Act.put, List.setIfInBounds_toArray, List.set_cons_zero, List.set_cons_succ]
      refine held_take (i := 8) (v := ?_) rfl (by kernel_rfl) (by kernel_rfl) (by kernel_rfl) (fun _ _ _ h => h) (by rfl) ?_ (by assumption) ?_
      rotate_left
      · intro X hSX
        try dsimp only at hSX
        obtain ⟨_, k0, k1, k2, k3, k4, k5, k6, k7, k8, k9, k10, k11, k12⟩ := HA.out.below hSX (by omega)
        go_simp <;> with_reducible rfl
      simp only [Act.put, List.setIfInBounds_toArray, List.set_cons_zero, List.set_cons_succ]
      refine held_take (i := 9) (v := ?_) rfl (by kernel_rfl) (by kernel_rfl) (by kernel_rfl) (fun _ _ _ h => h) (by rfl) ?_ (by assumption) ?_
      rotate_left
      · intro X hSX
        try dsimp only at hSX
        go_simp <;> with_reducible rfl
      simp only [Act.put, List.setIfInBounds_toArray, List.set_cons_zero, List.set_cons_succ]
      refine held_take (i := 10) (v := ?_) rfl (by kernel_rfl) (by kernel_rfl) (by kernel_rfl) (fun _ _ _ h => h) (by rfl) ?_ (by assumption) ?_
      rotate_left
      · intro X hSX
        try dsimp only at hSX
        go_simp <;> with_reducible rfl
      simp only [Act.put, List.setIfInBounds_toArray, List.set_cons_zero, List.set_cons_succ]
      refine held_take (i := 11) (v := ?_) rfl (by kernel_rfl) (by kernel_rfl) (by kernel_rfl) (fun _ _ _ h => h) (by rfl) ?_ (by assumption) ?_
      rotate_left
      · intro X hSX
        try dsimp only at hSX
        go_simp <;> with_reducible rfl
      simp only [Act.put, List.setIfInBounds_toArray, List.set_cons_zero, List.set_cons_succ]
      refine held_take (i := 12) (v := ?_) rfl (by kernel_rfl) (by kernel_rfl) (by kernel_rfl) (fun _ _ _ h => h) (by rfl) ?_ (by assumption) ?_
      rotate_left
      · intro X hSX
        try dsimp only at hSX
        have q1 := (hSX.cell (p := ⟨b, off + k * 3 + 1, none⟩) HBL.out).trans HQ.out.2.1
        go_simp <;> with_reducible rfl
      simp only [Act.put, List.setIfInBounds_toArray, List.set_cons_zero, List.set_cons_succ]
      refine held_take (i := 14) (v := ?_) rfl (by kernel_rfl) (by kernel_rfl) (by kernel_rfl) (fun _ _ _ h => h) (by rfl) ?_ (by assumption) ?_
      rotate_left
      · intro X hSX
        try dsimp only at hSX
        obtain ⟨_, k0, k1, k2, k3, k4, k5, k6, k7, k8, k9, k10, k11, k12⟩ := HA.out.below hSX (by omega)
        go_simp <;> with_reducible rfl
      simp only [Act.put, List.setIfInBounds_toArray, List.set_cons_zero, List.set_cons_succ]
      refine held_take (i := 15) (v := ?_) rfl (by kernel_rfl) (by kernel_rfl) (by kernel_rfl) (fun _ _ _ h => h) (by rfl) ?_ (by assumption) ?_
      rotate_left
      · intro X hSX
        try dsimp only at hSX
        obtain ⟨_, k0, k1, k2, k3, k4, k5, k6, k7, k8, k9, k10, k11, k12⟩ := HA.out.below hSX (by omega)
        go_simp <;> with_reducible rfl
      simp only [Act.put, List.setIfInBounds_toArray, List.set_cons_zero, List.set_cons_succ]
      refine held_take (i := 16) (v := ?_) rfl (by kernel_rfl) (by kernel_rfl) (by kernel_rfl) (fun _ _ _ h => h) (by rfl) ?_ (by assumption) ?_
      rotate_left
      · intro X hSX
        try dsimp only at hSX
        go_simp <;> with_reducible rfl
      simp only [Act.put, List.setIfInBounds_toArray, List.set_cons_zero, List.set_cons_succ]
      refine held_take (i := 17) (v := ?_) rfl (by kernel_rfl) (by kernel_rfl) (by kernel_rfl) (fun _ _ _ h => h) (by rfl) ?_ (by assumption) ?_
      rotate_left
      · intro X hSX
        try dsimp only at hSX
        go_simp <;> with_reducible rfl
      simp only [Act.put, List.setIfInBounds_toArray, List.set_cons_zero, List.set_cons_succ]
      refine held_take (i := 18) (v := ?_) rfl (by kernel_rfl) (by kernel_rfl) (by kernel_rfl) (fun _ _ _ h => h) (by rfl) ?_ (by assumption) ?_
      rotate_left
      · intro X hSX
        try dsimp only at hSX
        go_simp <;> with_reducible rfl
      simp only [Act.put, List.setIfInBounds_toArray, List.set_cons_zero, List.set_cons_succ]
      refine held_take (i := 19) (v := ?_) rfl (by kernel_rfl) (by kernel_rfl) (by kernel_rfl) (fun _ _ _ h => h) (by rfl) ?_ (by assumption) ?_
      rotate_left
      · intro X hSX
        try dsimp only at hSX
        have q2 := (hSX.cell (p := ⟨b, off + k * 3 + 2, none⟩) HBL.out).trans HQ.out.2.2.1
        go_simp <;> with_reducible rfl
      simp only [Act.put, List.setIfInBounds_toArray, List.set_cons_zero, List.set_cons_succ]
      refine held_call (i := 13) rfl (by kernel_rfl) (by rfl) (fun K' hK' => ?_)
      go_simp
      have hb1 : Below wr.heap.size wr (wr.drew.alloc (.cells #[] 5)) := (Below.refl wr.heap.size wr).drew.alloc (by simp) _
      refine held_go hK' (hb1.mono HSW.out) ?_
      try simp only [Act.put, List.setIfInBounds_toArray, List.set_cons_zero, List.set_cons_succ]
      refine held_call (i := 20) rfl (by kernel_rfl) (by rfl) (fun K' hK' => ?_)
      refine wp_append_bu (.tmp 26) (.tmp 32) rfl wr.heap.size _ [] rfl (Own.empty wr.drew wr.heap.size rfl wr.heap.size (Nat.le_refl _)) ad' xd.length cap' xd HQN.out (HLI.out.below hb1 rfl) rfl rfl (by simp; omega) (by simp) ?_
      intro v1 w1 ho1 hg1
      rw [List.nil_append] at ho1
      obtain ⟨ad1, cap1, rfl, hx1, h11, h12, h13⟩ := LieX.of_own (x := u3.ownBlock) ho1 (fun g hg => (HLT.out g hg).2)
      have hb2 : Below wr.heap.size wr w1 := hb1.grown hg1 (by simp) (fun g hg => by have : wr.heap.size = g := Option.some.inj hg; omega)
      have hx1' := hx1
      have hS2 : Below (w.heap.size + 2) wr w1 := hb2.mono HSW.out
      refine held_go hK' (hb2.mono HSW.out) ?_
      try simp only [Act.put, List.setIfInBounds_toArray, List.set_cons_zero, List.set_cons_succ]
      refine held_take (i := 21) (v := ?_) rfl (by kernel_rfl) (by kernel_rfl) (by kernel_rfl) (fun _ _ _ h => h) (by rfl) ?_ (by assumption) ?_
      rotate_left
      · intro X hSX
        try dsimp only at hSX
        go_simp <;> with_reducible rfl
      simp only [Act.put, List.setIfInBounds_toArray, List.set_cons_zero, List.set_cons_succ]
      refine held_call (i := 22) rfl (by kernel_rfl) (by rfl) (fun K' hK' => ?_)
      go_simp
      have hb3 : Below wr.heap.size wr (w1.alloc (.cells #[.bool xm, .bool xb, .slice ad1 xd.length cap1] 61)) := hb2.alloc hb2.size _
      refine held_go hK' (hb3.mono HSW.out) ?_
      try simp only [Act.put, List.setIfInBounds_toArray, List.set_cons_zero, List.set_cons_succ]
      refine held_call (i := 23) rfl (by kernel_rfl) (by rfl) (fun K' hK' => ?_)
      refine wp_append_bk (.tmp 13) (.tmp 35) rfl (w.heap.size + 2) (w.heap.size + 2) wr.heap.size (w.heap.size + 2) u3 (l.take k) rfl (hK.out.below hb3) ⟨w1.heap.size, 0, none⟩ 1 1 [⟨xm, xb, xd⟩] (Kx.one xm xb ad1 xd cap1 hx1' h11 h12 h13 _ rfl) rfl rfl hlen2 (Nat.le_trans HSW.out hb3.size) (Nat.le_refl _) HSW.out ?_
      intro v5 w5 hk5 hg5 _
      have hb5 : Below (w.heap.size + 2) wr w5 := (hb3.mono HSW.out).grown hg5 (Nat.le_trans HSW.out hb3.size) (fun g hg => (HLT.out g hg).1)
      refine held_go hK' (hb5) ?_
      try simp only [Act.put, List.setIfInBounds_toArray, List.set_cons_zero, List.set_cons_succ]
      refine held_take (i := 24) (v := ?_) rfl (by kernel_rfl) (by kernel_rfl) (by kernel_rfl) (fun _ _ _ h => h) (by rfl) ?_ (by assumption) ?_
      rotate_left
      · intro X hSX
        try dsimp only at hSX
        go_simp <;> with_reducible rfl
      simp only [Act.put, List.setIfInBounds_toArray, List.set_cons_zero, List.set_cons_succ]
      refine wpAnyH_done (by kernel_rfl) ?_ _
      refine NoPanic.normal ?_
      have HK5 := Lib.hid hk5
      have HW5 := Lib.hid (hW.out.nextD hb5 (Nat.le_refl _))
      clear hk5 hg5 hb5 hb3 hb2 hb1 ho1 hg1 hx1 hx1' HBX
      go_wp2
      go_roundg gk0
      case rel => exact ⟨k + 1, by omega, by go_num, by rw [HNX.out]; exact HK5, HW5⟩
      case measure => omega
end Go.Proofs.Ytepmmlnopdjjdaa
