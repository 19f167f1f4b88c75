/-
  Valid models and drives, in the program.
-/
import Derived.Test.YtepmmlnopdjjdaaQBox
namespace Go.Proofs.Ytepmmlnopdjjdaa
open Go.RowKit
set_option linter.unusedVariables false
set_option linter.unusedSimpArgs false
set_option maxRecDepth 100000
theorem cells_new {X : World} {g : Nat} (hg : g = X.heap.size) (C : Array Value) (t : TypeId) (i : Nat) : (X.alloc (.cells C t)).cell? ⟨g, i, none⟩ = C[i]? := by
  subst hg
  exact row_cell (heap_alloc_new X _) i
theorem wtn3 (n a b c : Int) : wtn n [a, b, c] = ((decide (0 ≤ a) && decide (a ≤ n)) && ((decide (0 ≤ b) && decide (b ≤ n)) && (decide (0 ≤ c) && decide (c ≤ n)))) := by simp [wtn]
theorem wtn2 (n a b : Int) : wtn n [a, b] = ((decide (0 ≤ a) && decide (a ≤ n)) && (decide (0 ≤ b) && decide (b ≤ n))) := by simp [wtn]
theorem wtn1 (n a : Int) : wtn n [a] = (decide (0 ≤ a) && decide (a ≤ n)) := by simp [wtn]
theorem mdlU_wtn (m : Mdl) : mdlU m = (wtn 1000000 [m.ld, m.ul, m.cl] && wtn 1125899906842624 [m.ce, m.cf]) := by
  rw [wtn3, wtn2]
  unfold mdlU tim cnt
  simp only [Bool.and_assoc]
theorem drvU_wtn (d : Drv) : drvU d = ((decide (d.st = 0) && (decide (d.bc.toList = []) && decide (d.hd = 0)) || (decide (d.st = 1) || decide (d.st = 2))) && (wtn 1125899906842624 [d.lo, d.pa, d.si] && wtn 4096 [d.hd])) := by
  rw [wtn3, wtn1]
  unfold drvU cnt
  by_cases h0 : d.st = 0
  · simp [h0, Bool.and_assoc, Bool.and_comm, Bool.and_left_comm]
  by_cases h1 : d.st = 1
  · simp [h1, Bool.and_assoc]
  by_cases h2 : d.st = 2
  · simp [h2, Bool.and_assoc]
  have h3 : ¬ (0 ≤ d.st ∧ d.st ≤ 2) := by omega
  rw [← Bool.decide_and, decide_eq_false h3]
  simp [h0, h1, h2]
attribute [local irreducible] wtn mdlU drvU
set_option maxHeartbeats 1000000 in
theorem valmodel_any (m : Mdl) (w : World) :
    Calls Try.prog 36 #[mdV m] w fun e w' => e = .returned (.bool (mdlU m)) ∧ Below w.heap.size w w' := by
  have HR := Lib.hid (mdlU_wtn m)
  generalize mdlU m = res at *
  obtain ⟨ld, ul, cl, ce, cf⟩ := m
  simp only at HR
  show Calls Try.prog 36 #[mdW ld ul cl ce cf] w _
  have HB := Lib.hid (below_box2 w (boxM ld ul cl ce cf) (.cells #[.int .i64 ld, .int .i64 ul, .int .i64 cl] 3))
  have HB3 := Lib.hid (HB.out.alloc (by simp; omega) (.cells #[.int .i64 ce, .int .i64 cf] 3))
  go_enter Try.func36, Try.ntmps36
  go_wp2_with fail
  refine (within_any 1000000 (w.heap.size + 1) [ld, ul, cl] 3 3 _ rfl (by omega) ?_).mono ?_
  · intro i h
    rw [cells_new (by simp)]
    match i, h with
    | 0, _ => rfl
    | 1, _ => rfl
    | 2, _ => rfl
  rintro e w1 ⟨rfl, rfl⟩
  cases h1 : wtn 1000000 [ld, ul, cl]
  · rw [h1] at HR
    go_wp2
    go_ret
    exact ⟨by rw [HR.out]; rfl, HB.out⟩
  rw [h1] at HR
  clear h1
  go_wp2_with fail
  refine (within_any 1125899906842624 (w.heap.size + 2) [ce, cf] 2 2 _ rfl (by omega) ?_).mono ?_
  · intro i h
    rw [cells_new (by simp)]
    match i, h with
    | 0, _ => rfl
    | 1, _ => rfl
  rintro e w1 ⟨rfl, rfl⟩
  cases h2 : wtn 1125899906842624 [ce, cf]
  · rw [h2] at HR
    go_wp2
    go_ret
    exact ⟨by rw [HR.out]; rfl, HB3.out⟩
  rw [h2] at HR
  go_wp2
  go_ret
  exact ⟨by rw [HR.out]; rfl, HB3.out⟩
set_option maxHeartbeats 2000000 in
theorem valdrive_any (d : Drv) (w : World) :
    Calls Try.prog 37 #[drV d] w fun e w' => e = .returned (.bool (drvU d)) ∧ Below w.heap.size w w' := by
  have HR := Lib.hid (drvU_wtn d)
  generalize drvU d = res at *
  obtain ⟨st, bc, hd, lo, pa, si⟩ := d
  simp only at HR
  show Calls Try.prog 37 #[drW st bc hd lo pa si] w _
  have HB0 := Lib.hid (below_box1 w (boxD st bc hd lo pa si))
  have HD0 := Lib.hid (DrAt.new w st bc hd lo pa si 25)
  have HE := Lib.hid (fun X => (show Calls Try.prog 52 #[drW st bc hd lo pa si] X fun e w' => e = .returned (drW 0 ⟨#[]⟩ 0 lo pa si) ∧ Below X.heap.size X w' from emptied_any ⟨st, bc, hd, lo, pa, si⟩ X))
  by_cases h0 : st = 0
  · subst h0
    by_cases hbc : bc.toList = []
    · by_cases hz : hd = 0
      · subst hz
        have HR2 := Lib.hid (show res = (wtn 1125899906842624 [lo, pa, si] && wtn 4096 [0]) by rw [HR.out]; simp [hbc])
        clear HR
        go_enter Try.func37, Try.ntmps37
        go_wp2_with fail
        generalize World.alloc _ _ = X0 at *
        refine wp_region_noPanic ?_
        refine wp_region_held_drew (S := (fun X => DrAt X w.heap.size 0 bc 0 lo pa si ∧ Below w.heap.size w X)) (by kernel_rfl) (⟨HD0.out.below (Below.refl X0.heap.size X0).drew HD0.out.lt, HB0.out.drew⟩) (fun hS0 => ?_)
        generalize World.drew X0 = X1 at *
        refine held_take (i := 0) (v := ?_) rfl (by kernel_rfl) (by kernel_rfl) (by kernel_rfl) (fun _ _ _ h => h) (by rfl) ?_ (by assumption) ?_
        rotate_left
        · intro X hSX
          try dsimp only at hSX
          obtain ⟨⟨_, d0, d1, d2, d3, d4, d5⟩, -⟩ := hSX
          go_simp <;> with_reducible rfl
        simp only [Act.put, List.setIfInBounds_toArray, List.set_cons_zero, List.set_cons_succ]
        refine held_take (i := 1) (v := ?_) rfl (by kernel_rfl) (by kernel_rfl) (by kernel_rfl) (fun _ _ _ h => h) (by rfl) ?_ (by assumption) ?_
        rotate_left
        · intro X hSX
          try dsimp only at hSX
          obtain ⟨⟨_, d0, d1, d2, d3, d4, d5⟩, -⟩ := hSX
          go_simp <;> with_reducible rfl
        simp only [Act.put, List.setIfInBounds_toArray, List.set_cons_zero, List.set_cons_succ]
        refine held_call (i := 2) rfl (by kernel_rfl) (by rfl) (fun K' hK' => ?_)
        go_simp
        refine (HE.out X1).mono ?_
        rintro e w2 ⟨rfl, hb⟩
        have HS2 := Lib.hid (show DrAt w2 w.heap.size 0 bc 0 lo pa si ∧ Below w.heap.size w w2 from ⟨hS0.1.below hb hS0.1.lt, hS0.2.trans (hb.mono hS0.2.size)⟩)
        clear hb hS0
        refine held_go hK' (HS2.out) ?_
        try simp only [Act.put, List.setIfInBounds_toArray, List.set_cons_zero, List.set_cons_succ]
        refine held_take (i := 3) (v := ?_) rfl (by kernel_rfl) (by kernel_rfl) (by kernel_rfl) (fun _ _ _ h => h) (by rfl) ?_ (by assumption) ?_
        rotate_left
        · intro X hSX
          try dsimp only at hSX
          go_simp <;> with_reducible rfl
        simp only [Act.put, List.setIfInBounds_toArray, List.set_cons_zero, List.set_cons_succ]
        refine wpAnyH_done (by kernel_rfl) ?_ _
        refine NoPanic.normal ?_
        obtain ⟨_, d0, d1, d2, d3, d4, d5⟩ := HS2.out.1
        have HB2 := Lib.hid HS2.out.2
        go_wp2_with fail
        refine (within_any 1125899906842624 w2.heap.size [lo, pa, si] 3 3 _ rfl (by omega) ?_).mono ?_
        · intro i h
          rw [cells_new (by simp)]
          match i, h with
          | 0, _ => rfl
          | 1, _ => rfl
          | 2, _ => rfl
        rintro e w3 ⟨rfl, rfl⟩
        have HB3 := Lib.hid (HB2.out.alloc (by have := HB2.out.size; omega) (.cells #[.int .i64 lo, .int .i64 pa, .int .i64 si] 3))
        have HB4 := Lib.hid (HB3.out.alloc (by have := HB3.out.size; omega) (.cells #[.int .i64 0] 3))
        cases h1 : wtn 1125899906842624 [lo, pa, si]
        · rw [h1] at HR2
          go_wp2
          go_ret
          exact ⟨by rw [HR2.out]; rfl, HB3.out⟩
        rw [h1] at HR2
        clear h1
        go_wp2_with fail
        refine (within_any 4096 (w2.heap.size + 1) [0] 1 1 _ rfl (by omega) ?_).mono ?_
        · intro i h
          rw [cells_new (by simp)]
          match i, h with
          | 0, _ => rfl
        rintro e w4 ⟨rfl, rfl⟩
        cases h2 : wtn 4096 [0]
        · rw [h2] at HR2
          go_wp2
          go_ret
          exact ⟨by rw [HR2.out]; rfl, HB4.out⟩
        rw [h2] at HR2
        go_wp2
        go_ret
        exact ⟨by rw [HR2.out]; rfl, HB4.out⟩
      · have HR2 := Lib.hid (show res = false by rw [HR.out]; simp [hz])
        clear HR
        go_enter Try.func37, Try.ntmps37
        go_wp2_with fail
        generalize World.alloc _ _ = X0 at *
        refine wp_region_noPanic ?_
        refine wp_region_held_drew (S := (fun X => DrAt X w.heap.size 0 bc hd lo pa si ∧ Below w.heap.size w X)) (by kernel_rfl) (⟨HD0.out.below (Below.refl X0.heap.size X0).drew HD0.out.lt, HB0.out.drew⟩) (fun hS0 => ?_)
        generalize World.drew X0 = X1 at *
        refine held_take (i := 0) (v := ?_) rfl (by kernel_rfl) (by kernel_rfl) (by kernel_rfl) (fun _ _ _ h => h) (by rfl) ?_ (by assumption) ?_
        rotate_left
        · intro X hSX
          try dsimp only at hSX
          obtain ⟨⟨_, d0, d1, d2, d3, d4, d5⟩, -⟩ := hSX
          go_simp <;> with_reducible rfl
        simp only [Act.put, List.setIfInBounds_toArray, List.set_cons_zero, List.set_cons_succ]
        refine held_take (i := 1) (v := ?_) rfl (by kernel_rfl) (by kernel_rfl) (by kernel_rfl) (fun _ _ _ h => h) (by rfl) ?_ (by assumption) ?_
        rotate_left
        · intro X hSX
          try dsimp only at hSX
          obtain ⟨⟨_, d0, d1, d2, d3, d4, d5⟩, -⟩ := hSX
          go_simp <;> with_reducible rfl
        simp only [Act.put, List.setIfInBounds_toArray, List.set_cons_zero, List.set_cons_succ]
        refine held_call (i := 2) rfl (by kernel_rfl) (by rfl) (fun K' hK' => ?_)
        go_simp
        refine (HE.out X1).mono ?_
        rintro e w2 ⟨rfl, hb⟩
        have HS2 := Lib.hid (show DrAt w2 w.heap.size 0 bc hd lo pa si ∧ Below w.heap.size w w2 from ⟨hS0.1.below hb hS0.1.lt, hS0.2.trans (hb.mono hS0.2.size)⟩)
        clear hb hS0
        refine held_go hK' (HS2.out) ?_
        try simp only [Act.put, List.setIfInBounds_toArray, List.set_cons_zero, List.set_cons_succ]
        refine held_take (i := 3) (v := ?_) rfl (by kernel_rfl) (by kernel_rfl) (by kernel_rfl) (fun _ _ _ h => h) (by rfl) ?_ (by assumption) ?_
        rotate_left
        · intro X hSX
          try dsimp only at hSX
          go_simp <;> with_reducible rfl
        simp only [Act.put, List.setIfInBounds_toArray, List.set_cons_zero, List.set_cons_succ]
        refine wpAnyH_done (by kernel_rfl) ?_ _
        refine NoPanic.normal ?_
        obtain ⟨_, d0, d1, d2, d3, d4, d5⟩ := HS2.out.1
        have HB2 := Lib.hid HS2.out.2
        go_wp2_with fail
        go_ret
        exact ⟨by rw [HR2.out]; rfl, HB2.out⟩
    · have HR2 := Lib.hid (show res = false by rw [HR.out]; simp [hbc])
      clear HR
      go_enter Try.func37, Try.ntmps37
      go_wp2_with fail
      generalize World.alloc _ _ = X0 at *
      refine wp_region_noPanic ?_
      refine wp_region_held_drew (S := (fun X => DrAt X w.heap.size 0 bc hd lo pa si ∧ Below w.heap.size w X)) (by kernel_rfl) (⟨HD0.out.below (Below.refl X0.heap.size X0).drew HD0.out.lt, HB0.out.drew⟩) (fun hS0 => ?_)
      generalize World.drew X0 = X1 at *
      refine held_take (i := 0) (v := ?_) rfl (by kernel_rfl) (by kernel_rfl) (by kernel_rfl) (fun _ _ _ h => h) (by rfl) ?_ (by assumption) ?_
      rotate_left
      · intro X hSX
        try dsimp only at hSX
        obtain ⟨⟨_, d0, d1, d2, d3, d4, d5⟩, -⟩ := hSX
        go_simp <;> with_reducible rfl
      simp only [Act.put, List.setIfInBounds_toArray, List.set_cons_zero, List.set_cons_succ]
      refine held_take (i := 1) (v := ?_) rfl (by kernel_rfl) (by kernel_rfl) (by kernel_rfl) (fun _ _ _ h => h) (by rfl) ?_ (by assumption) ?_
      rotate_left
      · intro X hSX
        try dsimp only at hSX
        obtain ⟨⟨_, d0, d1, d2, d3, d4, d5⟩, -⟩ := hSX
        go_simp <;> with_reducible rfl
      simp only [Act.put, List.setIfInBounds_toArray, List.set_cons_zero, List.set_cons_succ]
      refine held_call (i := 2) rfl (by kernel_rfl) (by rfl) (fun K' hK' => ?_)
      go_simp
      refine (HE.out X1).mono ?_
      rintro e w2 ⟨rfl, hb⟩
      have HS2 := Lib.hid (show DrAt w2 w.heap.size 0 bc hd lo pa si ∧ Below w.heap.size w w2 from ⟨hS0.1.below hb hS0.1.lt, hS0.2.trans (hb.mono hS0.2.size)⟩)
      clear hb hS0
      refine held_go hK' (HS2.out) ?_
      try simp only [Act.put, List.setIfInBounds_toArray, List.set_cons_zero, List.set_cons_succ]
      refine held_take (i := 3) (v := ?_) rfl (by kernel_rfl) (by kernel_rfl) (by kernel_rfl) (fun _ _ _ h => h) (by rfl) ?_ (by assumption) ?_
      rotate_left
      · intro X hSX
        try dsimp only at hSX
        go_simp <;> with_reducible rfl
      simp only [Act.put, List.setIfInBounds_toArray, List.set_cons_zero, List.set_cons_succ]
      refine wpAnyH_done (by kernel_rfl) ?_ _
      refine NoPanic.normal ?_
      obtain ⟨_, d0, d1, d2, d3, d4, d5⟩ := HS2.out.1
      have HB2 := Lib.hid HS2.out.2
      go_wp2_with fail
      go_ret
      exact ⟨by rw [HR2.out]; rfl, HB2.out⟩
  by_cases h12 : st = 1 ∨ st = 2
  · have HR2 := Lib.hid (show res = (wtn 1125899906842624 [lo, pa, si] && wtn 4096 [hd]) by rw [HR.out]; rcases h12 with h | h <;> simp [h])
    clear HR
    rcases h12 with h | h
    all_goals
      subst h
      go_enter Try.func37, Try.ntmps37
      go_wp2_with fail
      refine (within_any 1125899906842624 (w.heap.size + 1) [lo, pa, si] 3 3 _ rfl (by omega) ?_).mono ?_
      · intro i h
        rw [cells_new (by simp)]
        match i, h with
        | 0, _ => rfl
        | 1, _ => rfl
        | 2, _ => rfl
      rintro e w3 ⟨rfl, rfl⟩
      have HB3 := Lib.hid (HB0.out.alloc (by have := HB0.out.size; omega) (.cells #[.int .i64 lo, .int .i64 pa, .int .i64 si] 3))
      have HB4 := Lib.hid (HB3.out.alloc (by have := HB3.out.size; omega) (.cells #[.int .i64 hd] 3))
      cases h1 : wtn 1125899906842624 [lo, pa, si]
      · rw [h1] at HR2
        go_wp2
        go_ret
        exact ⟨by rw [HR2.out]; rfl, HB3.out⟩
      rw [h1] at HR2
      clear h1
      go_wp2_with fail
      refine (within_any 4096 ((w.heap.size + 1) + 1) [hd] 1 1 _ rfl (by omega) ?_).mono ?_
      · intro i h
        rw [cells_new (by simp)]
        match i, h with
        | 0, _ => rfl
      rintro e w4 ⟨rfl, rfl⟩
      cases h2 : wtn 4096 [hd]
      · rw [h2] at HR2
        go_wp2
        go_ret
        exact ⟨by rw [HR2.out]; rfl, HB4.out⟩
      rw [h2] at HR2
      go_wp2
      go_ret
      exact ⟨by rw [HR2.out]; rfl, HB4.out⟩
  have h1 : ¬ st = 1 := fun h => h12 (.inl h)
  have h2 : ¬ st = 2 := fun h => h12 (.inr h)
  have HR2 := Lib.hid (show res = false by rw [HR.out]; simp [h0, h1, h2])
  clear HR h12
  go_enter Try.func37, Try.ntmps37
  go_wp2_with fail
  go_ret
  exact ⟨by rw [HR2.out]; rfl, HB0.out⟩
end Go.Proofs.Ytepmmlnopdjjdaa
