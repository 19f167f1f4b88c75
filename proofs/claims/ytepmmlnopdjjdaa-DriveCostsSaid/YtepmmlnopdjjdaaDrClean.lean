/-
  Clean of the specification.
-/
import Derived.Test.YtepmmlnopdjjdaaDrLoad
namespace Go.Proofs.Ytepmmlnopdjjdaa
open Go.RowKit
set_option linter.unusedVariables false
set_option linter.unusedSimpArgs false
/-- the boxes of a function that hands back a drive -/
structure Fd (w w' : World) (g : Nat) (d x : Drv) : Prop where
  b : Below w.heap.size w w'
  g0 : w.heap.size ≤ g
  d : w'.heap[g]? = some (.cells (drK d) 25 (0, 0))
  x : w'.heap[g + 1]? = some (.cells (drK x) 25 (0, 0))
section
variable {w X Y : World} {g : Nat} {d x : Drv}
theorem Fd.next (h : Fd w X g d x) (hb : Below X.heap.size X Y) : Fd w Y g d x := by
  have hk : ∀ k o, X.heap[k]? = some o → Y.heap[k]? = some o := fun k o hk => (hb.block k (Array.getElem?_eq_some_iff.1 hk).1).trans hk
  exact ⟨h.b.trans (hb.mono h.b.size), h.g0, hk _ _ h.d, hk _ _ h.x⟩
theorem Fd.dat (h : Fd w X g d x) : DrAt X g d.st d.bc d.hd d.lo d.pa d.si := DrAt.of h.d
theorem Fd.setd (h : Fd w X g d x) (i : Nat) (u : Value) (d2 : Drv) (hd : (drK d).setIfInBounds i u = drK d2) : Fd w (X.setCell ⟨g, i, none⟩ u) g d2 x := by
  refine ⟨h.b.setCell h.g0 _, h.g0, ?_, ?_⟩
  · rw [← hd]; exact heap_set_b X g i u _ _ _ h.d
  · rw [Below.heap_setCell _ _ _ _ (by show g + 1 ≠ g; omega)]; exact h.x
theorem Fd.rowx (h : Fd w X g d x) (x2 : Drv) : Fd w (X.setRow (g + 1) (drK x2)) g d x2 := by
  refine ⟨below_set h.b (by have := h.g0; omega) _, h.g0, ?_, setRow_heap _ _ _ _ _ _ h.x⟩
  rw [setRow_other _ _ _ _ (by omega)]; exact h.d
end
theorem Fd.three (w : World) (m : Mdl) (d : Drv) : ∃ W1 : World, Below w.heap.size w W1 ∧ MdAt W1 w.heap.size m.ld m.ul m.cl m.ce m.cf ∧ W1.heap.size = w.heap.size + 1 ∧
    Fd W1 (((w.alloc (.cells #[.int .i64 m.ld, .int .i64 m.ul, .int .i64 m.cl, .int .i64 m.ce, .int .i64 m.cf] 23)).alloc (.cells #[.int .i64 d.st, .string d.bc, .int .i64 d.hd, .int .i64 d.lo, .int .i64 d.pa, .int .i64 d.si] 25)).alloc (.cells #[.int .i64 0, .string ⟨#[]⟩, .int .i64 0, .int .i64 0, .int .i64 0, .int .i64 0] 25)) (w.heap.size + 1) d drZ := by
  refine ⟨w.alloc (boxM m.ld m.ul m.cl m.ce m.cf), below_box1 _ _, MdAt.new w _ _ _ _ _ _, by simp, below_box2 _ _ _, by simp, ?_, ?_⟩
  · rw [((below_box1 _ _).block _ (by simp))]
    have h := heap_alloc_new (w.alloc (boxM m.ld m.ul m.cl m.ce m.cf)) (boxDr d)
    rwa [World.size_alloc] at h
  · have h := heap_alloc_new ((w.alloc (boxM m.ld m.ul m.cl m.ce m.cf)).alloc (boxDr d)) (boxDr drZ)
    rwa [World.size_alloc, World.size_alloc] at h
/-- a call hands back a drive, a time and an error -/
def RetDr (w : World) (r : Drv × Int × Int) (e : Ending) (w' : World) : Prop := e = .returned (.tuple #[drV r.1, .int .i64 r.2.1, .int .i64 r.2.2]) ∧ Below w.heap.size w w'
noncomputable def clU (m : Mdl) (d : Drv) : Drv × Int × Int :=
  if (mdlU m && drvU d) = true then (if d.st = 2 then (drZ, 0, 16) else (if d.st = 1 then (drZ, 0, 14) else (⟨d.st, d.bc, d.hd, d.lo, d.pa, 0⟩, m.cl, 0))) else (drZ, 0, 8)
attribute [local irreducible] tim vld bar cnt okB capU allB vldC mdlU drvU due inc
set_option maxRecDepth 100000 in
set_option maxHeartbeats 4000000 in
theorem rclean_any (m : Mdl) (d : Drv) (w : World) :
    Calls Try.prog 32 #[mdV m, drV d] w fun e w' => RetDr w (clU m d) e w' := by
  have HF := Lib.hid (show clU m d = if (mdlU m && drvU d) = true then (if d.st = 2 then (drZ, 0, 16) else (if d.st = 1 then (drZ, 0, 14) else (⟨d.st, d.bc, d.hd, d.lo, d.pa, 0⟩, m.cl, 0))) else (drZ, 0, 8) from rfl)
  generalize clU m d = res at *
  obtain ⟨W1, hb1, hm1, hs1, hf1⟩ := Fd.three w m d
  have HB1 := Lib.hid hb1
  have HM1 := Lib.hid hm1
  have HT := Lib.hid hf1
  clear hb1 hm1 hs1 hf1
  go_enter Try.func32, Try.ntmps32
  go_wp2_with fail
  generalize World.alloc _ _ = X0 at *
  obtain ⟨_, m0, m1, m2, m3, m4⟩ := HM1.out.on HT.out.b
  go_wp2_with fail
  refine (rmodel_any m X0).mono ?_
  rintro e w1 ⟨rfl, hb⟩
  replace HT := Lib.hid (HT.out.next hb)
  clear hb m0 m1 m2 m3 m4
  cases hm : mdlU m
  · have HR := Lib.hid (show res = (drZ, 0, 8) by rw [HF.out, hm]; rfl)
    clear hm
    go_wp2_with (with_reducible refine wpList_store_dr rfl (.tmp 4) (.tmp 16) rfl (w.heap.size + 1 + 1) rfl _ _ _ _ _ _ rfl drZ HT.out.x ?_)
    refine post_cell3 rfl rfl (HT.out.rowx drZ).x Try.underlying25 rfl infoD rfl rfl rfl ?_
    rw [HR.out]
    exact ⟨rfl, HB1.out.trans ((HT.out.rowx drZ).b.mono HB1.out.size)⟩
  have HM := Lib.hid hm
  clear hm
  obtain ⟨_, d0, d1, d2, d3, d4, d5⟩ := HT.out.dat
  go_wp2_with fail
  refine (rdrive_any d w1).mono ?_
  rintro e w2 ⟨rfl, hb⟩
  replace HT := Lib.hid (HT.out.next hb)
  clear hb d0 d1 d2 d3 d4 d5
  cases hd : drvU d
  · have HR := Lib.hid (show res = (drZ, 0, 8) by rw [HF.out, HM.out, hd]; rfl)
    clear hd
    go_wp2_with (with_reducible refine wpList_store_dr rfl (.tmp 4) (.tmp 16) rfl (w.heap.size + 1 + 1) rfl _ _ _ _ _ _ rfl drZ HT.out.x ?_)
    refine post_cell3 rfl rfl (HT.out.rowx drZ).x Try.underlying25 rfl infoD rfl rfl rfl ?_
    rw [HR.out]
    exact ⟨rfl, HB1.out.trans ((HT.out.rowx drZ).b.mono HB1.out.size)⟩
  replace HF := Lib.hid (show res = (if d.st = 2 then (drZ, 0, 16) else (if d.st = 1 then (drZ, 0, 14) else (⟨d.st, d.bc, d.hd, d.lo, d.pa, 0⟩, m.cl, 0))) by rw [HF.out, HM.out, hd]; rfl)
  clear hd
  obtain ⟨_, d0, d1, d2, d3, d4, d5⟩ := HT.out.dat
  by_cases h2 : d.st = 2
  · have HR := Lib.hid (show res = (drZ, 0, 16) by rw [HF.out, if_pos h2])
    go_wp2_with (with_reducible refine wpList_store_dr rfl (.tmp 4) (.tmp 21) rfl (w.heap.size + 1 + 1) rfl _ _ _ _ _ _ rfl drZ HT.out.x ?_)
    refine post_cell3 rfl rfl (HT.out.rowx drZ).x Try.underlying25 rfl infoD rfl rfl rfl ?_
    rw [HR.out]
    exact ⟨rfl, HB1.out.trans ((HT.out.rowx drZ).b.mono HB1.out.size)⟩
  by_cases h1 : d.st = 1
  · have HR := Lib.hid (show res = (drZ, 0, 14) by rw [HF.out, if_neg h2, if_pos h1])
    go_wp2_with (with_reducible refine wpList_store_dr rfl (.tmp 4) (.tmp 26) rfl (w.heap.size + 1 + 1) rfl _ _ _ _ _ _ rfl drZ HT.out.x ?_)
    refine post_cell3 rfl rfl (HT.out.rowx drZ).x Try.underlying25 rfl infoD rfl rfl rfl ?_
    rw [HR.out]
    exact ⟨rfl, HB1.out.trans ((HT.out.rowx drZ).b.mono HB1.out.size)⟩
  have HR := Lib.hid (show res = (⟨d.st, d.bc, d.hd, d.lo, d.pa, 0⟩, m.cl, 0) by rw [HF.out, if_neg h2, if_neg h1])
  clear HF
  have f := froz_of HT.out.d 5
  go_wp2_with fail
  replace HT := Lib.hid (HT.out.setd 5 (.int .i64 0) ⟨d.st, d.bc, d.hd, d.lo, d.pa, 0⟩ rfl)
  clear d0 d1 d2 d3 d4 d5 f
  generalize World.setCell w2 _ _ = Y0 at *
  replace HT := Lib.hid (HT.out.next (Below.refl Y0.heap.size Y0).drew)
  refine wp_region_noPanic ?_
  refine wp_region_held_drew (S := fun X => DrAt X (w.heap.size + 1) d.st d.bc d.hd d.lo d.pa 0 ∧ MdAt X w.heap.size m.ld m.ul m.cl m.ce m.cf) (by kernel_rfl) (⟨HT.out.dat, HM1.out.on HT.out.b⟩) (fun hS0 => ?_)
  generalize World.drew Y0 = X9 at *
  refine held_take (i := 0) (v := ?_) rfl (by kernel_rfl) (by kernel_rfl) (by kernel_rfl) (fun _ _ _ h => h) (by rfl) ?_ (by assumption) ?_
  rotate_left
  · intro X hSX
    try dsimp only at hSX
    obtain ⟨⟨_, d0, d1, d2, d3, d4, d5⟩, -⟩ := hSX
    go_simp <;> with_reducible rfl
  simp only [Act.put, List.setIfInBounds_toArray, List.set_cons_zero, List.set_cons_succ]
  refine held_take (i := 1) (v := ?_) rfl (by kernel_rfl) (by kernel_rfl) (by kernel_rfl) (fun _ _ _ h => h) (by rfl) ?_ (by assumption) ?_
  rotate_left
  · intro X hSX
    try dsimp only at hSX
    go_simp <;> with_reducible rfl
  simp only [Act.put, List.setIfInBounds_toArray, List.set_cons_zero, List.set_cons_succ]
  refine held_take (i := 2) (v := ?_) rfl (by kernel_rfl) (by kernel_rfl) (by kernel_rfl) (fun _ _ _ h => h) (by rfl) ?_ (by assumption) ?_
  rotate_left
  · intro X hSX
    try dsimp only at hSX
    obtain ⟨-, ⟨_, m0, m1, m2, m3, m4⟩⟩ := hSX
    go_simp <;> with_reducible rfl
  simp only [Act.put, List.setIfInBounds_toArray, List.set_cons_zero, List.set_cons_succ]
  refine held_call (i := 3) rfl (by kernel_rfl) (by rfl) (fun K' hK' => ?_)
  refine oper_store_dr (.tmp 4) (.tmp 28) rfl (w.heap.size + 1 + 1) rfl ⟨d.st, d.bc, d.hd, d.lo, d.pa, 0⟩ rfl drZ HT.out.x ?_
  replace HT := Lib.hid (HT.out.rowx ⟨d.st, d.bc, d.hd, d.lo, d.pa, 0⟩)
  refine held_go hK' (⟨HT.out.dat, HM1.out.on HT.out.b⟩) ?_
  try simp only [Act.put, List.setIfInBounds_toArray, List.set_cons_zero, List.set_cons_succ]
  generalize World.setRow X9 _ _ = X10 at *
  clear hS0
  have hS0 := (⟨HT.out.dat, HM1.out.on HT.out.b⟩ : DrAt X10 (w.heap.size + 1) d.st d.bc d.hd d.lo d.pa 0 ∧ MdAt X10 w.heap.size m.ld m.ul m.cl m.ce m.cf)
  refine held_take (i := 4) (v := ?_) rfl (by kernel_rfl) (by kernel_rfl) (by kernel_rfl) (fun _ _ _ h => h) (by rfl) ?_ (by assumption) ?_
  rotate_left
  · intro X hSX
    try dsimp only at hSX
    go_simp <;> with_reducible rfl
  simp only [Act.put, List.setIfInBounds_toArray, List.set_cons_zero, List.set_cons_succ]
  refine held_take (i := 5) (v := ?_) rfl (by kernel_rfl) (by kernel_rfl) (by kernel_rfl) (fun _ _ _ h => h) (by rfl) ?_ (by assumption) ?_
  rotate_left
  · intro X hSX
    try dsimp only at hSX
    go_simp <;> with_reducible rfl
  simp only [Act.put, List.setIfInBounds_toArray, List.set_cons_zero, List.set_cons_succ]
  refine wpAnyH_done (by kernel_rfl) ?_ _
  refine NoPanic.normal ?_
  go_wp2_with fail
  refine post_cell3 rfl rfl HT.out.x Try.underlying25 rfl infoD rfl rfl rfl ?_
  rw [HR.out]
  exact ⟨rfl, HB1.out.trans (HT.out.b.mono HB1.out.size)⟩
end Go.Proofs.Ytepmmlnopdjjdaa
