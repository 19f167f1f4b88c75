/-
  The closure of Write, as perform calls it.
-/
import Derived.Test.YtepmmlnopdjjdaaDpRun
import Derived.Test.YtepmmlnopdjjdaaQWrt
namespace Go.Proofs.Ytepmmlnopdjjdaa
open Go.RowKit
set_option linter.unusedVariables false
set_option linter.unusedSimpArgs false
set_option maxRecDepth 100000
theorem wri_is {v : Bool} {c : Crt} {a : Int} {z : List Blk} (h : (wriC v c a z).2 = 0) :
    v = true ∧ z.all okW = true ∧ (0 ≤ a ∧ a ≤ (c.l.length : Int)) ∧ (z.length : Int) ≤ capU c.W c.L c.S c.T c.J c.R - a ∧ c.lk = false ∧ (wriC v c a z).1 = {c with l := if z = [] then c.l else c.l.take a.toNat ++ z} := by
  unfold wriC at h ⊢
  by_cases h1 : v = true
  · rw [if_pos h1] at h ⊢
    by_cases h2 : z.all okW = true
    · rw [if_pos h2] at h ⊢
      by_cases h3 : c.lk = true
      · rw [if_pos h3] at h; exact absurd h (by simp)
      · rw [if_neg h3] at h ⊢
        by_cases h4 : a < 0 ∨ (c.l.length : Int) < a
        · rw [if_pos h4] at h; exact absurd h (by simp)
        · rw [if_neg h4] at h ⊢
          by_cases h5 : c.wo = true ∧ a < (c.l.length : Int)
          · rw [if_pos h5] at h; exact absurd h (by simp)
          · rw [if_neg h5] at h ⊢
            by_cases h6 : capU c.W c.L c.S c.T c.J c.R - a < (z.length : Int)
            · rw [if_pos h6] at h; exact absurd h (by simp)
            · rw [if_neg h6]
              exact ⟨h1, h2, by omega, by omega, by simpa using h3, rfl⟩
    · rw [if_neg h2] at h; exact absurd h (by simp)
  · rw [if_neg h1] at h; exact absurd h (by simp)
/-- what is written fits, and is small -/
theorem wri_small {v : Bool} {c : Crt} {a : Int} {z : List Blk} (hv : vldC c = true) (h : (wriC v c a z).2 = 0) : (wriC v c a z).1.l.length ≤ 4096 ∧ ∀ b ∈ (wriC v c a z).1.l, b.d.length ≤ 10000 := by
  obtain ⟨-, h2, ⟨h3, h4⟩, h5, -, h6⟩ := wri_is h
  have hp := vldC_parts hv
  have hc1 := hp.1.c1
  have hcap := capU_bd c.W c.L c.S c.T c.J c.R
  have hsm := allB_small hp.2.2.1
  have hws := okW_small h2
  rw [h6]
  show (if z = [] then c.l else c.l.take a.toNat ++ z).length ≤ 4096 ∧ ∀ b ∈ (if z = [] then c.l else c.l.take a.toNat ++ z), b.d.length ≤ 10000
  by_cases hz : z = []
  · rw [if_pos hz]
    exact ⟨by omega, hsm⟩
  · rw [if_neg hz]
    refine ⟨by rw [List.length_append, List.length_take]; omega, fun b hb => ?_⟩
    rcases List.mem_append.1 hb with h | h
    · exact hsm b (List.mem_of_mem_take h)
    · exact hws b h
section
variable {w X Y : World} {g k : Nat} {d : Drv} {c : Crt} {ad : Option Addr} {cap : Nat}
theorem Two.far (h : Two w X g k d c ad cap) {p : Nat} (hp : w.heap.size ≤ p) (hg : g ≠ p) (hk : k ≠ p) (cs : Array Value) : Two w (X.setRow p cs) g k d c ad cap := by
  refine ⟨?_, ?_, h.ne, below_set h.b (by omega) _, fun j hj h1 h2 => ?_⟩
  · rw [setRow_other _ _ _ _ hg]; exact h.d
  · rw [setRow_other _ _ _ _ hk]; exact h.c
  · rw [setRow_other _ _ _ _ (by omega)]; exact h.o j hj h1 h2
end
/-- what the closure of Write leaves -/
noncomputable def wrR (m : Mdl) (d : Drv) (c : Crt) (z : List Blk) : Drv × Crt × Int × Int :=
  if worn m c = true then (drZ, crZ, 0, 17) else (if z = [] then (drZ, crZ, 0, 8) else (if (wriC (vldC c) c d.hd z).2 = 0 then
    (mvD d (wriC (vldC c) c d.hd z).1 (d.hd + (z.length : Int)), mvC d (wriC (vldC c) c d.hd z).1 (d.hd + (z.length : Int)), rd c.W c.L c.S c.T c.J c.R d.hd (z.length : Int), 0) else (drZ, crZ, 0, (wriC (vldC c) c d.hd z).2)))
attribute [local irreducible] tim vld bar cnt okB capU allB vldC mdlU drvU due worn inc pas loc rd frs wriC
set_option maxHeartbeats 8000000 in
theorem run_write (gm gl : Nat) (m : Mdl) (zd : Option Addr) (zn zc : Nat) (z : List Blk) (a b c0 c1 e f g : Int) (d : Drv) (c : Crt) (ad : Option Addr) (cap : Nat) (w : World) (hgm : gm < w.heap.size) (hcm : w.heap[gm]? = some (.cells (mdK m) 23 (0, 0))) (hgl : gl < w.heap.size) (hcl : w.cell? ⟨gl, 0, none⟩ = some (.slice zd zn zc)) (hin : CrIn w c ad cap)
    (hz : Ki w zd z) (hzn : zn = z.length) (hzs : zn ≤ 100000) (hznil : zd = none → zc = 0) (hhd : 0 ≤ d.hd ∧ d.hd ≤ 4096)
    (h1 : 0 ≤ d.pa ∧ d.pa ≤ 1125899906842624) (h2 : 0 ≤ d.si ∧ d.si ≤ 1125899906842624) (h3 : 0 ≤ c.pa ∧ c.pa ≤ 1125899906842624) (X : World) (hX : Bx w X (pfL a b c0 c1 e f g d c ad cap)) :
    Calls Try.prog 45 #[.pointer (some ⟨w.heap.size + 1, 0, none⟩), .pointer (some ⟨w.heap.size + 2, 0, none⟩), .pointer (some ⟨gm, 0, none⟩), .pointer (some ⟨gl, 0, none⟩)] X fun e' X' =>
      RunP w w.heap.size (fun _ => True) (wrR m d c z) X e' X' := by
  have HF := Lib.hid (show wrR m d c z = if worn m c = true then (drZ, crZ, 0, 17) else (if z = [] then (drZ, crZ, 0, 8) else (if (wriC (vldC c) c d.hd z).2 = 0 then
    (mvD d (wriC (vldC c) c d.hd z).1 (d.hd + (z.length : Int)), mvC d (wriC (vldC c) c d.hd z).1 (d.hd + (z.length : Int)), rd c.W c.L c.S c.T c.J c.R d.hd (z.length : Int), 0) else (drZ, crZ, 0, (wriC (vldC c) c d.hd z).2))) from rfl)
  generalize wrR m d c z = res at *
  have HX := Lib.hid hX
  have HT := Lib.hid (run_two hX)
  have HIN := Lib.hid hin
  have HCL := Lib.hid (fun Z d' c' ad' cap' (h : Two X Z (w.heap.size + 1) (w.heap.size + 2) d' c' ad' cap') => two_cell hX h hgl hcl)
  have HCM := Lib.hid (fun Z d' c' ad' cap' (h : Two X Z (w.heap.size + 1) (w.heap.size + 2) d' c' ad' cap') => MdAt.of (m := m) ((two_old hX h gm hgm).trans hcm))
  have HWO := Lib.hid (fun Z => worn_any m c ad cap Z)
  have HXS := Lib.hid (show w.heap.size + 5 ≤ X.heap.size from hX.size)
  have HWR := Lib.hid (fun Z (h : Two X Z (w.heap.size + 1) (w.heap.size + 2) d c ad cap) => write_any c ad cap d.hd zd zn zc z Z ⟨two_ki hX h hin.ki, hin.le, hin.mx, hin.nn, hin.bs⟩ (two_ki hX h hz) hzn hzs hznil (by omega) (by omega))
  have HZN := Lib.hid hzn
  have HB0 := Lib.hid (Below.refl X.heap.size X)
  clear hX hin hcm hgm hcl hgl hzn hznil hz
  cases hwo : worn m c
  rotate_left
  · have HR := Lib.hid (show res = (drZ, crZ, 0, 17) by rw [HF.out, hwo]; rfl)
    rw [hwo] at HWO
    go_enter Try.func45, Try.ntmps45
    go_wp2_with fail
    replace HT := Lib.hid (HT.out.next (Below.refl X.heap.size X).drew)
    replace HB0 := Lib.hid HB0.out.drew
    refine wp_region_noPanic ?_
    refine wp_region_held_drew (S := (fun Z => MdAt Z gm m.ld m.ul m.cl m.ce m.cf ∧ CrAt Z (w.heap.size + 2) c.bc c.W c.L c.S c.T c.J c.R c.wo c.lk ad c.l.length cap c.ep c.lo c.pa)) (by kernel_rfl) (⟨HCM.out _ _ _ _ _ HT.out, HT.out.cat⟩) (fun hS0 => ?_)
    generalize World.drew X = X0 at *
    refine held_take (i := 0) (v := ?_) rfl (by kernel_rfl) (by kernel_rfl) (by kernel_rfl) (fun _ _ _ h => h) (by rfl) ?_ (by assumption) ?_
    rotate_left
    · intro X hSX
      try dsimp only at hSX
      obtain ⟨⟨_, m0, m1, m2, m3, m4⟩, -⟩ := hSX
      go_simp <;> with_reducible rfl
    simp only [Act.put, List.setIfInBounds_toArray, List.set_cons_zero, List.set_cons_succ]
    refine held_take (i := 1) (v := ?_) rfl (by kernel_rfl) (by kernel_rfl) (by kernel_rfl) (fun _ _ _ h => h) (by rfl) ?_ (by assumption) ?_
    rotate_left
    · intro X hSX
      try dsimp only at hSX
      go_simp <;> with_reducible rfl
    simp only [Act.put, List.setIfInBounds_toArray, List.set_cons_zero, List.set_cons_succ]
    refine held_take (i := 2) (v := ?_) rfl (by kernel_rfl) (by kernel_rfl) (by kernel_rfl) (fun _ _ _ h => h) (by rfl) ?_ (by assumption) ?_
    rotate_left
    · intro X hSX
      try dsimp only at hSX
      go_simp <;> with_reducible rfl
    simp only [Act.put, List.setIfInBounds_toArray, List.set_cons_zero, List.set_cons_succ]
    refine held_take (i := 3) (v := ?_) rfl (by kernel_rfl) (by kernel_rfl) (by kernel_rfl) (fun _ _ _ h => h) (by rfl) ?_ (by assumption) ?_
    rotate_left
    · intro X hSX
      try dsimp only at hSX
      obtain ⟨-, ⟨_, k0, k1, k2, k3, k4, k5, k6, k7, k8, k9, k10, k11, k12⟩⟩ := hSX
      go_simp <;> with_reducible rfl
    simp only [Act.put, List.setIfInBounds_toArray, List.set_cons_zero, List.set_cons_succ]
    refine held_call (i := 4) rfl (by kernel_rfl) (by rfl) (fun K' hK' => ?_)
    go_simp
    refine (HWO.out X0).mono ?_
    rintro e' X1 ⟨rfl, hb⟩
    replace HT := Lib.hid (HT.out.next hb)
    replace HB0 := Lib.hid (HB0.out.trans (hb.mono HB0.out.size))
    refine held_go hK' (⟨HCM.out _ _ _ _ _ HT.out, HT.out.cat⟩) ?_
    try simp only [Act.put, List.setIfInBounds_toArray, List.set_cons_zero, List.set_cons_succ]
    clear hb hS0
    refine wpAnyH_done (by kernel_rfl) ?_ _
    refine NoPanic.normal ?_
    go_wp2_with fail
    go_ret2
    rw [HR.out]
    exact run_err HX.out HB0.out (by decide)
  rw [hwo] at HWO
  replace HF := Lib.hid (show res = (if z = [] then (drZ, crZ, 0, 8) else (if (wriC (vldC c) c d.hd z).2 = 0 then
    (mvD d (wriC (vldC c) c d.hd z).1 (d.hd + (z.length : Int)), mvC d (wriC (vldC c) c d.hd z).1 (d.hd + (z.length : Int)), rd c.W c.L c.S c.T c.J c.R d.hd (z.length : Int), 0) else (drZ, crZ, 0, (wriC (vldC c) c d.hd z).2))) by rw [HF.out, hwo]; rfl)
  clear hwo
  go_enter Try.func45, Try.ntmps45
  go_wp2_with fail
  replace HT := Lib.hid (HT.out.next (Below.refl X.heap.size X).drew)
  replace HB0 := Lib.hid HB0.out.drew
  refine wp_region_noPanic ?_
  refine wp_region_held_drew (S := (fun Z => MdAt Z gm m.ld m.ul m.cl m.ce m.cf ∧ CrAt Z (w.heap.size + 2) c.bc c.W c.L c.S c.T c.J c.R c.wo c.lk ad c.l.length cap c.ep c.lo c.pa)) (by kernel_rfl) (⟨HCM.out _ _ _ _ _ HT.out, HT.out.cat⟩) (fun hS0 => ?_)
  generalize World.drew X = X0 at *
  refine held_take (i := 0) (v := ?_) rfl (by kernel_rfl) (by kernel_rfl) (by kernel_rfl) (fun _ _ _ h => h) (by rfl) ?_ (by assumption) ?_
  rotate_left
  · intro X hSX
    try dsimp only at hSX
    obtain ⟨⟨_, m0, m1, m2, m3, m4⟩, -⟩ := hSX
    go_simp <;> with_reducible rfl
  simp only [Act.put, List.setIfInBounds_toArray, List.set_cons_zero, List.set_cons_succ]
  refine held_take (i := 1) (v := ?_) rfl (by kernel_rfl) (by kernel_rfl) (by kernel_rfl) (fun _ _ _ h => h) (by rfl) ?_ (by assumption) ?_
  rotate_left
  · intro X hSX
    try dsimp only at hSX
    go_simp <;> with_reducible rfl
  simp only [Act.put, List.setIfInBounds_toArray, List.set_cons_zero, List.set_cons_succ]
  refine held_take (i := 2) (v := ?_) rfl (by kernel_rfl) (by kernel_rfl) (by kernel_rfl) (fun _ _ _ h => h) (by rfl) ?_ (by assumption) ?_
  rotate_left
  · intro X hSX
    try dsimp only at hSX
    go_simp <;> with_reducible rfl
  simp only [Act.put, List.setIfInBounds_toArray, List.set_cons_zero, List.set_cons_succ]
  refine held_take (i := 3) (v := ?_) rfl (by kernel_rfl) (by kernel_rfl) (by kernel_rfl) (fun _ _ _ h => h) (by rfl) ?_ (by assumption) ?_
  rotate_left
  · intro X hSX
    try dsimp only at hSX
    obtain ⟨-, ⟨_, k0, k1, k2, k3, k4, k5, k6, k7, k8, k9, k10, k11, k12⟩⟩ := hSX
    go_simp <;> with_reducible rfl
  simp only [Act.put, List.setIfInBounds_toArray, List.set_cons_zero, List.set_cons_succ]
  refine held_call (i := 4) rfl (by kernel_rfl) (by rfl) (fun K' hK' => ?_)
  go_simp
  refine (HWO.out X0).mono ?_
  rintro e' X1 ⟨rfl, hb⟩
  replace HT := Lib.hid (HT.out.next hb)
  replace HB0 := Lib.hid (HB0.out.trans (hb.mono HB0.out.size))
  refine held_go hK' (⟨HCM.out _ _ _ _ _ HT.out, HT.out.cat⟩) ?_
  try simp only [Act.put, List.setIfInBounds_toArray, List.set_cons_zero, List.set_cons_succ]
  clear hb hS0 HWO
  refine wpAnyH_done (by kernel_rfl) ?_ _
  refine NoPanic.normal ?_
  have s0 := HCL.out _ _ _ _ _ HT.out
  by_cases hz0 : zn = 0
  · have HR := Lib.hid (show res = (drZ, crZ, 0, 8) by rw [HF.out, if_pos (List.eq_nil_of_length_eq_zero (by rw [← HZN.out]; exact hz0))])
    subst hz0
    go_wp2_with fail
    go_ret2
    rw [HR.out]
    exact run_err HX.out HB0.out (by decide)
  replace HF := Lib.hid (show res = if (wriC (vldC c) c d.hd z).2 = 0 then
    (mvD d (wriC (vldC c) c d.hd z).1 (d.hd + (z.length : Int)), mvC d (wriC (vldC c) c d.hd z).1 (d.hd + (z.length : Int)), rd c.W c.L c.S c.T c.J c.R d.hd (z.length : Int), 0) else (drZ, crZ, 0, (wriC (vldC c) c d.hd z).2) by rw [HF.out, if_neg (fun h => hz0 (by rw [HZN.out, h]; rfl))])
  have HWI := Lib.hid (fun h => wri_is (v := vldC c) (c := c) (a := d.hd) (z := z) h)
  rw [← HZN.out] at HF
  clear HCM
  obtain ⟨rw_, hrw⟩ : ∃ q, q = wriC (vldC c) c d.hd z := ⟨_, rfl⟩
  rw [← hrw] at HF HWR HWI
  clear hrw
  obtain ⟨c2, er⟩ := rw_
  simp only at HF HWI
  go_wp2_with fail
  clear s0
  replace HT := Lib.hid (HT.out.next (Below.refl X1.heap.size X1).drew)
  replace HB0 := Lib.hid HB0.out.drew
  refine wp_region_noPanic ?_
  refine wp_region_held_drew (S := (fun Z => Two X Z (w.heap.size + 1) (w.heap.size + 2) d c ad cap)) (by kernel_rfl) (HT.out) (fun hS0 => ?_)
  generalize World.drew X1 = X2 at *
  refine held_take (i := 0) (v := ?_) rfl (by kernel_rfl) (by kernel_rfl) (by kernel_rfl) (fun _ _ _ h => h) (by rfl) ?_ (by assumption) ?_
  rotate_left
  · intro X hSX
    try dsimp only at hSX
    go_simp <;> with_reducible rfl
  simp only [Act.put, List.setIfInBounds_toArray, List.set_cons_zero, List.set_cons_succ]
  refine held_take (i := 3) (v := ?_) rfl (by kernel_rfl) (by kernel_rfl) (by kernel_rfl) (fun _ _ _ h => h) (by rfl) ?_ (by assumption) ?_
  rotate_left
  · intro X hSX
    try dsimp only at hSX
    go_simp <;> with_reducible rfl
  simp only [Act.put, List.setIfInBounds_toArray, List.set_cons_zero, List.set_cons_succ]
  refine held_take (i := 1) (v := ?_) rfl (by kernel_rfl) (by kernel_rfl) (by kernel_rfl) (fun _ _ _ h => h) (by rfl) ?_ (by assumption) ?_
  rotate_left
  · intro X hSX
    try dsimp only at hSX
    go_simp <;> with_reducible rfl
  simp only [Act.put, List.setIfInBounds_toArray, List.set_cons_zero, List.set_cons_succ]
  refine held_take (i := 4) (v := ?_) rfl (by kernel_rfl) (by kernel_rfl) (by kernel_rfl) (fun _ _ _ h => h) (by rfl) ?_ (by assumption) ?_
  rotate_left
  · intro X hSX
    try dsimp only at hSX
    go_simp <;> with_reducible rfl
  simp only [Act.put, List.setIfInBounds_toArray, List.set_cons_zero, List.set_cons_succ]
  refine held_take (i := 5) (v := ?_) rfl (by kernel_rfl) (by kernel_rfl) (by kernel_rfl) (fun _ _ _ h => h) (by rfl) ?_ (by assumption) ?_
  rotate_left
  · intro X hSX
    try dsimp only at hSX
    go_simp <;> with_reducible rfl
  simp only [Act.put, List.setIfInBounds_toArray, List.set_cons_zero, List.set_cons_succ]
  refine held_take (i := 2) (v := ?_) rfl (by kernel_rfl) (by kernel_rfl) (by kernel_rfl) (fun _ _ _ h => h) (by rfl) ?_ (by assumption) ?_
  rotate_left
  · intro X hSX
    try dsimp only at hSX
    obtain ⟨_, k0, k1, k2, k3, k4, k5, k6, k7, k8, k9, k10, k11, k12⟩ := hSX.cat
    go_simp <;> with_reducible rfl
  simp only [Act.put, List.setIfInBounds_toArray, List.set_cons_zero, List.set_cons_succ]
  refine held_take (i := 6) (v := ?_) rfl (by kernel_rfl) (by kernel_rfl) (by kernel_rfl) (fun _ _ _ h => h) (by rfl) ?_ (by assumption) ?_
  rotate_left
  · intro X hSX
    try dsimp only at hSX
    obtain ⟨_, d0, d1, d2, d3, d4, d5⟩ := hSX.dat
    go_simp <;> with_reducible rfl
  simp only [Act.put, List.setIfInBounds_toArray, List.set_cons_zero, List.set_cons_succ]
  refine held_take (i := 7) (v := ?_) rfl (by kernel_rfl) (by kernel_rfl) (by kernel_rfl) (fun _ _ _ h => h) (by rfl) ?_ (by assumption) ?_
  rotate_left
  · intro X hSX
    try dsimp only at hSX
    have s0 := HCL.out _ _ _ _ _ hSX
    go_simp <;> with_reducible rfl
  simp only [Act.put, List.setIfInBounds_toArray, List.set_cons_zero, List.set_cons_succ]
  refine held_two (i := 8) (j := 12) rfl rfl (by kernel_rfl) (by rfl) (by rfl) (fun K' hK' => ?_) (fun K' hK' => ?_)
  · go_simp
    refine (HWR.out X2 HT.out).mono ?_
    rintro e' X3 ⟨ad2, cap2, rfl, hi2, hkf, hb⟩
    have HKF := Lib.hid hkf
    have HI2 := Lib.hid hi2
    have HX2 := Lib.hid HB0.out.size
    have HSM := Lib.hid (Sm.refl X2.heap.size X3)
    replace HT := Lib.hid (HT.out.next hb)
    replace HB0 := Lib.hid (HB0.out.trans (hb.mono HB0.out.size))
    refine held_go hK' (HT.out) ?_
    try simp only [Act.put, List.setIfInBounds_toArray, List.set_cons_zero, List.set_cons_succ]
    clear hb hS0 hkf hi2
    have hS0 := HT.out
    refine held_take (i := 9) (v := ?_) rfl (by kernel_rfl) (by kernel_rfl) (by kernel_rfl) (fun _ _ _ h => h) (by rfl) ?_ (by assumption) ?_
    rotate_left
    · intro X hSX
      try dsimp only at hSX
      go_simp <;> with_reducible rfl
    simp only [Act.put, List.setIfInBounds_toArray, List.set_cons_zero, List.set_cons_succ]
    refine held_take (i := 10) (v := ?_) rfl (by kernel_rfl) (by kernel_rfl) (by kernel_rfl) (fun _ _ _ h => h) (by rfl) ?_ (by assumption) ?_
    rotate_left
    · intro X hSX
      try dsimp only at hSX
      go_simp <;> with_reducible rfl
    simp only [Act.put, List.setIfInBounds_toArray, List.set_cons_zero, List.set_cons_succ]
    refine held_take (i := 11) (v := ?_) rfl (by kernel_rfl) (by kernel_rfl) (by kernel_rfl) (fun _ _ _ h => h) (by rfl) ?_ (by assumption) ?_
    rotate_left
    · intro X hSX
      try dsimp only at hSX
      go_simp <;> with_reducible rfl
    simp only [Act.put, List.setIfInBounds_toArray, List.set_cons_zero, List.set_cons_succ]
    refine held_call (i := 12) rfl (by kernel_rfl) (by rfl) (fun K' hK' => ?_)
    go_simp
    have HPR := Lib.hid (show (X3.alloc (boxK ⟨#[]⟩ 0 0 0 0 0 0 false false none 0 0 0 0 0)).heap[X3.heap.size]? = some (.cells (crQ crZ none 0) 30 (0, 0)) from heap_alloc_new X3 _)
    have HPN := Lib.hid (show X.heap.size ≤ X3.heap.size ∧ w.heap.size + 1 ≠ X3.heap.size ∧ w.heap.size + 2 ≠ X3.heap.size by have h1 := HB0.out.size; have h2 := HXS.out; omega)
    have HAS := Lib.hid (show (X3.alloc (boxK ⟨#[]⟩ 0 0 0 0 0 0 false false none 0 0 0 0 0)).heap.size = X3.heap.size + 1 by simp)
    replace HSM := Lib.hid (HSM.out.next (below_boxC X3 (boxK ⟨#[]⟩ 0 0 0 0 0 0 false false none 0 0 0 0 0)))
    replace HT := Lib.hid (HT.out.next (below_boxC X3 (boxK ⟨#[]⟩ 0 0 0 0 0 0 false false none 0 0 0 0 0)))
    replace HB0 := Lib.hid (HB0.out.alloc HB0.out.size (boxK ⟨#[]⟩ 0 0 0 0 0 0 false false none 0 0 0 0 0))
    refine held_go hK' (HT.out) ?_
    try simp only [Act.put, List.setIfInBounds_toArray, List.set_cons_zero, List.set_cons_succ]
    generalize World.alloc X3 _ = X4 at *
    generalize hpq : X3.heap.size = p at HPR HPN HAS ⊢
    have HPQ := Lib.hid hpq
    clear hpq hS0
    have hS0 := HT.out
    refine held_call (i := 13) rfl (by kernel_rfl) (by rfl) (fun K' hK' => ?_)
    refine oper_store_cq (.tmp 8) (.tmp 28) rfl p rfl c2 ad2 cap2 rfl crZ none 0 HPR.out ?_
    have HP2 := Lib.hid (setRow_heap X4 p _ (crQ c2 ad2 cap2) _ _ HPR.out)
    replace HT := Lib.hid (HT.out.far HPN.out.1 HPN.out.2.1 HPN.out.2.2 (crQ c2 ad2 cap2))
    replace HB0 := Lib.hid (below_set HB0.out HPN.out.1 (crQ c2 ad2 cap2))
    replace HSM := Lib.hid (HSM.out.row (g := p) (cs := crQ c2 ad2 cap2) (.inr (by rw [HPQ.out]; exact Nat.le_refl _)))
    refine held_go hK' (HT.out) ?_
    try simp only [Act.put, List.setIfInBounds_toArray, List.set_cons_zero, List.set_cons_succ]
    generalize World.setRow X4 p _ = Z at *
    clear hS0
    have hS0 := HT.out
    refine held_take (i := 14) (v := ?_) rfl (by kernel_rfl) (by kernel_rfl) (by kernel_rfl) (fun _ _ _ h => h) (by rfl) ?_ (by assumption) ?_
    rotate_left
    · intro X hSX
      try dsimp only at hSX
      go_simp <;> with_reducible rfl
    simp only [Act.put, List.setIfInBounds_toArray, List.set_cons_zero, List.set_cons_succ]
    refine wpAnyH_done (by kernel_rfl) ?_ _
    refine NoPanic.normal ?_
    clear hS0
    by_cases her : er = 0
    rotate_left
    · have HR := Lib.hid (show res = (drZ, crZ, 0, er) by rw [HF.out, if_neg her])
      have hne : (er != 0) = true := by simp [her]
      go_wp2_with fail
      go_ret2
      rw [HR.out]
      exact run_err HX.out HB0.out her
    subst her
    have HR := Lib.hid (show res = (mvD d c2 (d.hd + (zn : Int)), mvC d c2 (d.hd + (zn : Int)), rd c.W c.L c.S c.T c.J c.R d.hd (zn : Int), 0) by rw [HF.out, if_pos rfl])
    have HC2 : Hid (c2.pa = c.pa ∧ c2.W = c.W ∧ c2.L = c.L ∧ c2.S = c.S ∧ c2.T = c.T ∧ c2.J = c.J ∧ c2.R = c.R) := Lib.hid (by rw [(HWI.out rfl).2.2.2.2.2]; exact ⟨rfl, rfl, rfl, rfl, rfl, rfl, rfl⟩)
    have HTC := Lib.hid HT.out.c
    have HT3 := Lib.hid (HT.out.rowc c2 ad2 cap2)
    have HSM3 := Lib.hid (HSM.out.row (g := w.heap.size + 2) (cs := crQ c2 ad2 cap2) (.inl (by have h1 := HX2.out; have h2 := HXS.out; omega)))
    have s0 := HCL.out _ _ _ _ _ HT3.out
    clear HF HWI HT HSM HB0
    go_wp2_with (first
      | (with_reducible refine ld_cr rfl (.tmp 8) rfl p rfl c2 ad2 cap2 HP2.out ?_)
      | (with_reducible refine wpList_store_cr rfl (.tmp 35) (.tmp 34) rfl (w.heap.size + 2) rfl _ _ _ _ _ _ _ _ _ _ _ _ _ _ _ rfl _ _ _ _ _ _ _ _ _ _ _ _ _ _ _ HTC.out ?_))
    refine (dstream_any (w.heap.size + 1) (w.heap.size + 2) d c2 ad2 cap2 zn _ HT3.out.d HT3.out.c HT3.out.ne h1 h2 (by rw [HC2.out.1]; exact h3) (by omega) hhd).mono ?_
    rintro e' X7 ⟨rfl, ht⟩
    have HT4 := Lib.hid (HT3.out.trans ht)
    have HK4 := Lib.hid (HKF.out X7 (fun k hk1 hk2 => (ht.o k (Nat.lt_of_lt_of_le hk2 HSM3.out.s) (by have h1 := HX2.out; have h2 := HXS.out; omega) (by have h1 := HX2.out; have h2 := HXS.out; omega)).trans (HSM3.out.k k hk1 hk2)) (Nat.le_trans HSM3.out.s ht.b.size))
    clear ht s0
    go_wp2
    go_ret2
    rw [HR.out, ← HC2.out.2.1, ← HC2.out.2.2.1, ← HC2.out.2.2.2.1, ← HC2.out.2.2.2.2.1, ← HC2.out.2.2.2.2.2.1, ← HC2.out.2.2.2.2.2.2]
    exact run_end HX.out HT4.out (mvC_in ⟨HK4.out, HI2.out.le, HI2.out.mx, HI2.out.nn, HI2.out.bs⟩)
  · go_simp
    have HPR := Lib.hid (show (X2.alloc (boxK ⟨#[]⟩ 0 0 0 0 0 0 false false none 0 0 0 0 0)).heap[X2.heap.size]? = some (.cells (crQ crZ none 0) 30 (0, 0)) from heap_alloc_new X2 _)
    have HPN := Lib.hid (show X.heap.size ≤ X2.heap.size ∧ w.heap.size + 1 ≠ X2.heap.size ∧ w.heap.size + 2 ≠ X2.heap.size by have h1 := HB0.out.size; have h2 := HXS.out; omega)
    have HAS := Lib.hid (show (X2.alloc (boxK ⟨#[]⟩ 0 0 0 0 0 0 false false none 0 0 0 0 0)).heap.size = X2.heap.size + 1 by simp)
    replace HT := Lib.hid (HT.out.next (below_boxC X2 (boxK ⟨#[]⟩ 0 0 0 0 0 0 false false none 0 0 0 0 0)))
    replace HB0 := Lib.hid (HB0.out.alloc HB0.out.size (boxK ⟨#[]⟩ 0 0 0 0 0 0 false false none 0 0 0 0 0))
    refine held_go hK' (HT.out) ?_
    try simp only [Act.put, List.setIfInBounds_toArray, List.set_cons_zero, List.set_cons_succ]
    generalize World.alloc X2 _ = X3 at *
    generalize hpq : X2.heap.size = p at HPR HPN HAS ⊢
    have HPQ := Lib.hid hpq
    clear hpq hS0
    have hS0 := HT.out
    refine held_call (i := 8) rfl (by kernel_rfl) (by rfl) (fun K' hK' => ?_)
    go_simp
    refine (HWR.out X3 HT.out).mono ?_
    rintro e' X4 ⟨ad2, cap2, rfl, hi2, hkf, hb⟩
    have HKF := Lib.hid hkf
    have HI2 := Lib.hid hi2
    have HX2 := Lib.hid HB0.out.size
    have HSM := Lib.hid (Sm.refl X3.heap.size X4)
    replace HT := Lib.hid (HT.out.next hb)
    replace HB0 := Lib.hid (HB0.out.trans (hb.mono HB0.out.size))
    replace HPR := Lib.hid (row_next HPR.out hb)
    refine held_go hK' (HT.out) ?_
    try simp only [Act.put, List.setIfInBounds_toArray, List.set_cons_zero, List.set_cons_succ]
    clear hb hS0 hkf hi2
    have hS0 := HT.out
    refine held_take (i := 9) (v := ?_) rfl (by kernel_rfl) (by kernel_rfl) (by kernel_rfl) (fun _ _ _ h => h) (by rfl) ?_ (by assumption) ?_
    rotate_left
    · intro X hSX
      try dsimp only at hSX
      go_simp <;> with_reducible rfl
    simp only [Act.put, List.setIfInBounds_toArray, List.set_cons_zero, List.set_cons_succ]
    refine held_take (i := 10) (v := ?_) rfl (by kernel_rfl) (by kernel_rfl) (by kernel_rfl) (fun _ _ _ h => h) (by rfl) ?_ (by assumption) ?_
    rotate_left
    · intro X hSX
      try dsimp only at hSX
      go_simp <;> with_reducible rfl
    simp only [Act.put, List.setIfInBounds_toArray, List.set_cons_zero, List.set_cons_succ]
    refine held_take (i := 11) (v := ?_) rfl (by kernel_rfl) (by kernel_rfl) (by kernel_rfl) (fun _ _ _ h => h) (by rfl) ?_ (by assumption) ?_
    rotate_left
    · intro X hSX
      try dsimp only at hSX
      go_simp <;> with_reducible rfl
    simp only [Act.put, List.setIfInBounds_toArray, List.set_cons_zero, List.set_cons_succ]
    refine held_call (i := 13) rfl (by kernel_rfl) (by rfl) (fun K' hK' => ?_)
    refine oper_store_cq (.tmp 8) (.tmp 28) rfl p rfl c2 ad2 cap2 rfl crZ none 0 HPR.out ?_
    have HP2 := Lib.hid (setRow_heap X4 p _ (crQ c2 ad2 cap2) _ _ HPR.out)
    replace HT := Lib.hid (HT.out.far HPN.out.1 HPN.out.2.1 HPN.out.2.2 (crQ c2 ad2 cap2))
    replace HB0 := Lib.hid (below_set HB0.out HPN.out.1 (crQ c2 ad2 cap2))
    replace HSM := Lib.hid (HSM.out.row (g := p) (cs := crQ c2 ad2 cap2) (.inl (by rw [HAS.out]; exact Nat.lt_succ_self _)))
    refine held_go hK' (HT.out) ?_
    try simp only [Act.put, List.setIfInBounds_toArray, List.set_cons_zero, List.set_cons_succ]
    generalize World.setRow X4 p _ = Z at *
    clear hS0
    have hS0 := HT.out
    refine held_take (i := 14) (v := ?_) rfl (by kernel_rfl) (by kernel_rfl) (by kernel_rfl) (fun _ _ _ h => h) (by rfl) ?_ (by assumption) ?_
    rotate_left
    · intro X hSX
      try dsimp only at hSX
      go_simp <;> with_reducible rfl
    simp only [Act.put, List.setIfInBounds_toArray, List.set_cons_zero, List.set_cons_succ]
    refine wpAnyH_done (by kernel_rfl) ?_ _
    refine NoPanic.normal ?_
    clear hS0
    by_cases her : er = 0
    rotate_left
    · have HR := Lib.hid (show res = (drZ, crZ, 0, er) by rw [HF.out, if_neg her])
      have hne : (er != 0) = true := by simp [her]
      go_wp2_with fail
      go_ret2
      rw [HR.out]
      exact run_err HX.out HB0.out her
    subst her
    have HR := Lib.hid (show res = (mvD d c2 (d.hd + (zn : Int)), mvC d c2 (d.hd + (zn : Int)), rd c.W c.L c.S c.T c.J c.R d.hd (zn : Int), 0) by rw [HF.out, if_pos rfl])
    have HC2 : Hid (c2.pa = c.pa ∧ c2.W = c.W ∧ c2.L = c.L ∧ c2.S = c.S ∧ c2.T = c.T ∧ c2.J = c.J ∧ c2.R = c.R) := Lib.hid (by rw [(HWI.out rfl).2.2.2.2.2]; exact ⟨rfl, rfl, rfl, rfl, rfl, rfl, rfl⟩)
    have HTC := Lib.hid HT.out.c
    have HT3 := Lib.hid (HT.out.rowc c2 ad2 cap2)
    have HSM3 := Lib.hid (HSM.out.row (g := w.heap.size + 2) (cs := crQ c2 ad2 cap2) (.inl (by have h1 := HX2.out; have h2 := HXS.out; omega)))
    have s0 := HCL.out _ _ _ _ _ HT3.out
    clear HF HWI HT HSM HB0
    go_wp2_with (first
      | (with_reducible refine ld_cr rfl (.tmp 8) rfl p rfl c2 ad2 cap2 HP2.out ?_)
      | (with_reducible refine wpList_store_cr rfl (.tmp 35) (.tmp 34) rfl (w.heap.size + 2) rfl _ _ _ _ _ _ _ _ _ _ _ _ _ _ _ rfl _ _ _ _ _ _ _ _ _ _ _ _ _ _ _ HTC.out ?_))
    refine (dstream_any (w.heap.size + 1) (w.heap.size + 2) d c2 ad2 cap2 zn _ HT3.out.d HT3.out.c HT3.out.ne h1 h2 (by rw [HC2.out.1]; exact h3) (by omega) hhd).mono ?_
    rintro e' X7 ⟨rfl, ht⟩
    have HT4 := Lib.hid (HT3.out.trans ht)
    have HK4 := Lib.hid (HKF.out X7 (fun k hk1 hk2 => (ht.o k (Nat.lt_of_lt_of_le hk2 HSM3.out.s) (by have h1 := HX2.out; have h2 := HXS.out; omega) (by have h1 := HX2.out; have h2 := HXS.out; omega)).trans (HSM3.out.k k hk1 hk2)) (Nat.le_trans HSM3.out.s ht.b.size))
    clear ht s0
    go_wp2
    go_ret2
    rw [HR.out, ← HC2.out.2.1, ← HC2.out.2.2.1, ← HC2.out.2.2.2.1, ← HC2.out.2.2.2.2.1, ← HC2.out.2.2.2.2.2.1, ← HC2.out.2.2.2.2.2.2]
    exact run_end HX.out HT4.out (mvC_in ⟨HK4.out, HI2.out.le, HI2.out.mx, HI2.out.nn, HI2.out.bs⟩)
end Go.Proofs.Ytepmmlnopdjjdaa
