/-
  The program's Clean.
-/
import Derived.Test.YtepmmlnopdjjdaaDpLoad
import Derived.Test.YtepmmlnopdjjdaaDrClean
namespace Go.Proofs.Ytepmmlnopdjjdaa
open Go.RowKit
set_option linter.unusedVariables false
set_option linter.unusedSimpArgs false
set_option maxRecDepth 100000
/-- the first error of Clean -/
noncomputable def clE (m : Mdl) (d : Drv) : Int := if (mdlU m && drvU d) = true then (if d.st = 2 then 16 else (if d.st = 1 then 14 else 0)) else 8
theorem frs_cl (m : Mdl) (d : Drv) : frs [flU (!(mdlU m && drvU d)) 8, flU (d.st == 2) 16, flU (d.st == 1) 14, 0, 0, 0, 0] = clE m d := by
  unfold clE
  by_cases h1 : (mdlU m && drvU d) = true
  · rw [if_pos h1, h1]
    by_cases h2 : d.st = 2
    · simp [frs, flU, h2]
    by_cases h3 : d.st = 1
    · simp [frs, flU, h3]
    · simp [frs, flU, h2, h3]
  · rw [if_neg h1]
    rw [Bool.not_eq_true] at h1
    rw [h1]
    simp [frs, flU]
theorem clU_clE (m : Mdl) (d : Drv) : clU m d = if clE m d = 0 then (⟨d.st, d.bc, d.hd, d.lo, d.pa, 0⟩, m.cl, 0) else (drZ, 0, clE m d) := by
  unfold clE clU
  by_cases h1 : (mdlU m && drvU d) = true
  · simp only [if_pos h1]
    by_cases h2 : d.st = 2
    · simp only [if_pos h2]; rfl
    simp only [if_neg h2]
    by_cases h3 : d.st = 1
    · simp only [if_pos h3]; rfl
    simp only [if_neg h3]; rfl
  · simp only [if_neg h1]; rfl
attribute [local irreducible] tim vld bar cnt okB capU allB vldC mdlU drvU due inc frs clE
set_option maxHeartbeats 16000000 in
theorem clean_any (m : Mdl) (d : Drv) (w : World) :
    Calls Try.prog 24 #[mdV m, drV d] w fun e w' => RetDr w (clU m d) e w' := by
  have HFU := Lib.hid (clU_clE m d)
  have HF := Lib.hid (frs_cl m d)
  generalize clU m d = res at *
  generalize clE m d = fq at *
  have HT := Lib.hid (show Bx w (((w.alloc (boxMx m)).alloc (boxDr d)).alloc (.cells #[.int .i64 0, .string ⟨#[]⟩, .int .i64 0, .int .i64 0, .int .i64 0, .int .i64 0] 25)) ([(mdK m, 23), (drK d, 25)] ++ [(drK drZ, 25)]) from Bx.start w [(mdK m, 23), (drK d, 25), (drK drZ, 25)])
  go_enter Try.func24, Try.ntmps24
  go_upto_region 1 with fail
  generalize World.alloc _ _ = Y0 at *
  go_cut [7] (fun s7 wx => ∃ p a0 a1 a2 a3 a4 a5 a6, s7 = .pointer (some ⟨p, 0, none⟩) ∧ Hid (wx.heap[p]? = some (.cells (chK a0 a1 a2 a3 a4 a5 a6) 72 (0, 0))) ∧ Hid (w.heap.size + 3 ≤ p) ∧ Hid (Bx w wx ([(mdK m, 23), (drK d, 25)] ++ [(drK drZ, 25)])) ∧ Hid (frs [a0, a1, a2, a3, a4, a5, a6] = fq))
  case first =>
    cases h0 : mdlU m
    · have HM := Lib.hid (fun X => (valmodel_any m X))
      rw [h0] at HM HF
      clear h0
      replace HT := Lib.hid (HT.out.next (Below.refl Y0.heap.size Y0).drew)
      refine wp_region_noPanic ?_
      refine wp_region_held_drew (S := (fun X => Bx w X [(mdK m, 23), (drK d, 25)])) (by kernel_rfl) (HT.out.pre) (fun hS0 => ?_)
      generalize World.drew Y0 = X0 at *
      refine held_take (i := 0) (v := ?_) rfl (by kernel_rfl) (by kernel_rfl) (by kernel_rfl) (fun _ _ _ h => h) (by rfl) ?_ (by assumption) ?_
      rotate_left
      · intro X hSX
        try dsimp only at hSX
        obtain ⟨_, m0, m1, m2, m3, m4⟩ := hSX.m
        go_simp <;> with_reducible rfl
      simp only [Act.put, List.setIfInBounds_toArray, List.set_cons_zero, List.set_cons_succ]
      refine held_take (i := 9) (v := ?_) rfl (by kernel_rfl) (by kernel_rfl) (by kernel_rfl) (fun _ _ _ h => h) (by rfl) ?_ (by assumption) ?_
      rotate_left
      · intro X hSX
        try dsimp only at hSX
        go_simp <;> with_reducible rfl
      simp only [Act.put, List.setIfInBounds_toArray, List.set_cons_zero, List.set_cons_succ]
      refine held_take (i := 10) (v := ?_) rfl (by kernel_rfl) (by kernel_rfl) (by kernel_rfl) (fun _ _ _ h => h) (by rfl) ?_ (by assumption) ?_
      rotate_left
      · intro X hSX
        try dsimp only at hSX
        obtain ⟨_, d0, d1, d2, d3, d4, d5⟩ := hSX.d
        go_simp <;> with_reducible rfl
      simp only [Act.put, List.setIfInBounds_toArray, List.set_cons_zero, List.set_cons_succ]
      refine held_take (i := 11) (v := ?_) rfl (by kernel_rfl) (by kernel_rfl) (by kernel_rfl) (fun _ _ _ h => h) (by rfl) ?_ (by assumption) ?_
      rotate_left
      · intro X hSX
        try dsimp only at hSX
        go_simp <;> with_reducible rfl
      simp only [Act.put, List.setIfInBounds_toArray, List.set_cons_zero, List.set_cons_succ]
      refine held_take (i := 13) (v := ?_) rfl (by kernel_rfl) (by kernel_rfl) (by kernel_rfl) (fun _ _ _ h => h) (by rfl) ?_ (by assumption) ?_
      rotate_left
      · intro X hSX
        try dsimp only at hSX
        go_simp <;> with_reducible rfl
      simp only [Act.put, List.setIfInBounds_toArray, List.set_cons_zero, List.set_cons_succ]
      refine held_take (i := 14) (v := ?_) rfl (by kernel_rfl) (by kernel_rfl) (by kernel_rfl) (fun _ _ _ h => h) (by rfl) ?_ (by assumption) ?_
      rotate_left
      · intro X hSX
        try dsimp only at hSX
        obtain ⟨_, d0, d1, d2, d3, d4, d5⟩ := hSX.d
        go_simp <;> with_reducible rfl
      simp only [Act.put, List.setIfInBounds_toArray, List.set_cons_zero, List.set_cons_succ]
      refine held_take (i := 15) (v := ?_) rfl (by kernel_rfl) (by kernel_rfl) (by kernel_rfl) (fun _ _ _ h => h) (by rfl) ?_ (by assumption) ?_
      rotate_left
      · intro X hSX
        try dsimp only at hSX
        go_simp <;> with_reducible rfl
      simp only [Act.put, List.setIfInBounds_toArray, List.set_cons_zero, List.set_cons_succ]
      refine held_two (i := 1) (j := 18) rfl rfl (by kernel_rfl) (by rfl) (by rfl) (fun K' hK' => ?_) (fun K' hK' => ?_)
      · skip
        go_simp
        refine (HM.out X0).mono ?_
        rintro e X1 ⟨rfl, hb⟩
        replace HT := Lib.hid (HT.out.next hb)
        clear hb
        refine held_go hK' (HT.out.pre) ?_
        try simp only [Act.put, List.setIfInBounds_toArray, List.set_cons_zero, List.set_cons_succ]
        clear hS0
        have hS0 := HT.out.pre
        refine held_take (i := 2) (v := ?_) rfl (by kernel_rfl) (by kernel_rfl) (by kernel_rfl) (fun _ _ _ h => h) (by rfl) ?_ (by assumption) ?_
        rotate_left
        · intro X hSX
          try dsimp only at hSX
          go_simp <;> with_reducible rfl
        simp only [Act.put, List.setIfInBounds_toArray, List.set_cons_zero, List.set_cons_succ]
        refine held_take (i := 3) (v := ?_) rfl (by kernel_rfl) (by kernel_rfl) (by kernel_rfl) (fun _ _ _ h => h) (by rfl) ?_ (by assumption) ?_
        rotate_left
        · intro X hSX
          try dsimp only at hSX
          go_simp <;> with_reducible rfl
        simp only [Act.put, List.setIfInBounds_toArray, List.set_cons_zero, List.set_cons_succ]
        refine held_skip (i := 4) rfl (by kernel_rfl) (by kernel_rfl) (by kernel_rfl) (fun _ _ _ h => h) (by rfl) (by assumption) ?_
        simp only [Act.put, List.setIfInBounds_toArray, List.set_cons_zero, List.set_cons_succ]
        refine held_skip (i := 5) rfl (by kernel_rfl) (by kernel_rfl) (by kernel_rfl) (fun _ _ _ h => h) (by rfl) (by assumption) ?_
        simp only [Act.put, List.setIfInBounds_toArray, List.set_cons_zero, List.set_cons_succ]
        refine held_skip (i := 6) rfl (by kernel_rfl) (by kernel_rfl) (by kernel_rfl) (fun _ _ _ h => h) (by rfl) (by assumption) ?_
        simp only [Act.put, List.setIfInBounds_toArray, List.set_cons_zero, List.set_cons_succ]
        refine held_take (i := 7) (v := ?_) rfl (by kernel_rfl) (by kernel_rfl) (by kernel_rfl) (fun _ _ _ h => h) (by rfl) ?_ (by assumption) ?_
        rotate_left
        · intro X hSX
          try dsimp only at hSX
          go_simp <;> with_reducible rfl
        simp only [Act.put, List.setIfInBounds_toArray, List.set_cons_zero, List.set_cons_succ]
        refine held_two (i := 8) (j := 18) rfl rfl (by kernel_rfl) (by rfl) (by rfl) (fun K' hK' => ?_) (fun K' hK' => ?_)
        · skip
          go_simp
          refine (failed_any _ _ _).mono ?_
          rintro e XQ ⟨rfl, hYY⟩
          obtain rfl := hYY.symm
          refine held_go hK' (HT.out.pre) ?_
          try simp only [Act.put, List.setIfInBounds_toArray, List.set_cons_zero, List.set_cons_succ]
          clear hS0
          have hS0 := HT.out.pre
          refine held_two (i := 12) (j := 18) rfl rfl (by kernel_rfl) (by rfl) (by rfl) (fun K' hK' => ?_) (fun K' hK' => ?_)
          · skip
            go_simp
            refine (failed_any _ _ _).mono ?_
            rintro e XQ ⟨rfl, hYY⟩
            obtain rfl := hYY.symm
            refine held_go hK' (HT.out.pre) ?_
            try simp only [Act.put, List.setIfInBounds_toArray, List.set_cons_zero, List.set_cons_succ]
            clear hS0
            have hS0 := HT.out.pre
            refine held_two (i := 16) (j := 18) rfl rfl (by kernel_rfl) (by rfl) (by rfl) (fun K' hK' => ?_) (fun K' hK' => ?_)
            · skip
              go_simp
              refine (failed_any _ _ _).mono ?_
              rintro e XQ ⟨rfl, hYY⟩
              obtain rfl := hYY.symm
              refine held_go hK' (HT.out.pre) ?_
              try simp only [Act.put, List.setIfInBounds_toArray, List.set_cons_zero, List.set_cons_succ]
              clear hS0
              have hS0 := HT.out.pre
              refine held_take (i := 17) (v := ?_) rfl (by kernel_rfl) (by kernel_rfl) (by kernel_rfl) (fun _ _ _ h => h) (by rfl) ?_ (by assumption) ?_
              rotate_left
              · intro X hSX
                try dsimp only at hSX
                go_simp <;> with_reducible rfl
              simp only [Act.put, List.setIfInBounds_toArray, List.set_cons_zero, List.set_cons_succ]
              refine held_call (i := 18) rfl (by kernel_rfl) (by rfl) (fun K' hK' => ?_)
              go_simp
              have HP := Lib.hid (heap_alloc_new X1 (.cells #[.int .i64 0, .int .i64 0, .int .i64 0, .int .i64 0, .int .i64 0, .int .i64 0, .int .i64 0] 72))
              have HPN := Lib.hid HT.out.size
              replace HT := Lib.hid (HT.out.next (below_boxC X1 (.cells #[.int .i64 0, .int .i64 0, .int .i64 0, .int .i64 0, .int .i64 0, .int .i64 0, .int .i64 0] 72)))
              refine held_go hK' (HT.out.pre) ?_
              try simp only [Act.put, List.setIfInBounds_toArray, List.set_cons_zero, List.set_cons_succ]
              clear hS0
              have hS0 := HT.out.pre
              generalize World.alloc X1 _ = X2 at *
              generalize X1.heap.size = p at *
              refine held_call (i := 19) rfl (by kernel_rfl) (by rfl) (fun K' hK' => ?_)
              refine oper_store_ch (.tmp 7) (.tmp 26) rfl p rfl _ _ _ _ _ _ _ rfl chZ rfl HP.out ?_
              refine held_go hK' ((HT.out.far HPN.out _).pre) ?_
              try simp only [Act.put, List.setIfInBounds_toArray, List.set_cons_zero, List.set_cons_succ]
              refine wpAnyH_done (by kernel_rfl) ?_ _
              refine NoPanic.normal ?_
              go_wp2_with fail
              go_meet
              exact ⟨p, _, _, _, _, _, _, _, rfl, Lib.hid (setRow_heap _ _ _ (chK _ _ _ _ _ _ _) _ _ HP.out), HPN, Lib.hid (HT.out.far HPN.out _), HF⟩
            · skip
              go_simp
              have HP := Lib.hid (heap_alloc_new X1 (.cells #[.int .i64 0, .int .i64 0, .int .i64 0, .int .i64 0, .int .i64 0, .int .i64 0, .int .i64 0] 72))
              have HPN := Lib.hid HT.out.size
              replace HT := Lib.hid (HT.out.next (below_boxC X1 (.cells #[.int .i64 0, .int .i64 0, .int .i64 0, .int .i64 0, .int .i64 0, .int .i64 0, .int .i64 0] 72)))
              refine held_go hK' (HT.out.pre) ?_
              try simp only [Act.put, List.setIfInBounds_toArray, List.set_cons_zero, List.set_cons_succ]
              clear hS0
              have hS0 := HT.out.pre
              generalize World.alloc X1 _ = X2 at *
              generalize X1.heap.size = p at *
              refine held_call (i := 16) rfl (by kernel_rfl) (by rfl) (fun K' hK' => ?_)
              go_simp
              refine (failed_any _ _ _).mono ?_
              rintro e XQ ⟨rfl, hYY⟩
              obtain rfl := hYY.symm
              refine held_go hK' (HT.out.pre) ?_
              try simp only [Act.put, List.setIfInBounds_toArray, List.set_cons_zero, List.set_cons_succ]
              clear hS0
              have hS0 := HT.out.pre
              refine held_take (i := 17) (v := ?_) rfl (by kernel_rfl) (by kernel_rfl) (by kernel_rfl) (fun _ _ _ h => h) (by rfl) ?_ (by assumption) ?_
              rotate_left
              · intro X hSX
                try dsimp only at hSX
                go_simp <;> with_reducible rfl
              simp only [Act.put, List.setIfInBounds_toArray, List.set_cons_zero, List.set_cons_succ]
              refine held_call (i := 19) rfl (by kernel_rfl) (by rfl) (fun K' hK' => ?_)
              refine oper_store_ch (.tmp 7) (.tmp 26) rfl p rfl _ _ _ _ _ _ _ rfl chZ rfl HP.out ?_
              refine held_go hK' ((HT.out.far HPN.out _).pre) ?_
              try simp only [Act.put, List.setIfInBounds_toArray, List.set_cons_zero, List.set_cons_succ]
              refine wpAnyH_done (by kernel_rfl) ?_ _
              refine NoPanic.normal ?_
              go_wp2_with fail
              go_meet
              exact ⟨p, _, _, _, _, _, _, _, rfl, Lib.hid (setRow_heap _ _ _ (chK _ _ _ _ _ _ _) _ _ HP.out), HPN, Lib.hid (HT.out.far HPN.out _), HF⟩
          · skip
            go_simp
            have HP := Lib.hid (heap_alloc_new X1 (.cells #[.int .i64 0, .int .i64 0, .int .i64 0, .int .i64 0, .int .i64 0, .int .i64 0, .int .i64 0] 72))
            have HPN := Lib.hid HT.out.size
            replace HT := Lib.hid (HT.out.next (below_boxC X1 (.cells #[.int .i64 0, .int .i64 0, .int .i64 0, .int .i64 0, .int .i64 0, .int .i64 0, .int .i64 0] 72)))
            refine held_go hK' (HT.out.pre) ?_
            try simp only [Act.put, List.setIfInBounds_toArray, List.set_cons_zero, List.set_cons_succ]
            clear hS0
            have hS0 := HT.out.pre
            generalize World.alloc X1 _ = X2 at *
            generalize X1.heap.size = p at *
            refine held_call (i := 12) rfl (by kernel_rfl) (by rfl) (fun K' hK' => ?_)
            go_simp
            refine (failed_any _ _ _).mono ?_
            rintro e XQ ⟨rfl, hYY⟩
            obtain rfl := hYY.symm
            refine held_go hK' (HT.out.pre) ?_
            try simp only [Act.put, List.setIfInBounds_toArray, List.set_cons_zero, List.set_cons_succ]
            clear hS0
            have hS0 := HT.out.pre
            refine held_call (i := 16) rfl (by kernel_rfl) (by rfl) (fun K' hK' => ?_)
            go_simp
            refine (failed_any _ _ _).mono ?_
            rintro e XQ ⟨rfl, hYY⟩
            obtain rfl := hYY.symm
            refine held_go hK' (HT.out.pre) ?_
            try simp only [Act.put, List.setIfInBounds_toArray, List.set_cons_zero, List.set_cons_succ]
            clear hS0
            have hS0 := HT.out.pre
            refine held_take (i := 17) (v := ?_) rfl (by kernel_rfl) (by kernel_rfl) (by kernel_rfl) (fun _ _ _ h => h) (by rfl) ?_ (by assumption) ?_
            rotate_left
            · intro X hSX
              try dsimp only at hSX
              go_simp <;> with_reducible rfl
            simp only [Act.put, List.setIfInBounds_toArray, List.set_cons_zero, List.set_cons_succ]
            refine held_call (i := 19) rfl (by kernel_rfl) (by rfl) (fun K' hK' => ?_)
            refine oper_store_ch (.tmp 7) (.tmp 26) rfl p rfl _ _ _ _ _ _ _ rfl chZ rfl HP.out ?_
            refine held_go hK' ((HT.out.far HPN.out _).pre) ?_
            try simp only [Act.put, List.setIfInBounds_toArray, List.set_cons_zero, List.set_cons_succ]
            refine wpAnyH_done (by kernel_rfl) ?_ _
            refine NoPanic.normal ?_
            go_wp2_with fail
            go_meet
            exact ⟨p, _, _, _, _, _, _, _, rfl, Lib.hid (setRow_heap _ _ _ (chK _ _ _ _ _ _ _) _ _ HP.out), HPN, Lib.hid (HT.out.far HPN.out _), HF⟩
        · skip
          go_simp
          have HP := Lib.hid (heap_alloc_new X1 (.cells #[.int .i64 0, .int .i64 0, .int .i64 0, .int .i64 0, .int .i64 0, .int .i64 0, .int .i64 0] 72))
          have HPN := Lib.hid HT.out.size
          replace HT := Lib.hid (HT.out.next (below_boxC X1 (.cells #[.int .i64 0, .int .i64 0, .int .i64 0, .int .i64 0, .int .i64 0, .int .i64 0, .int .i64 0] 72)))
          refine held_go hK' (HT.out.pre) ?_
          try simp only [Act.put, List.setIfInBounds_toArray, List.set_cons_zero, List.set_cons_succ]
          clear hS0
          have hS0 := HT.out.pre
          generalize World.alloc X1 _ = X2 at *
          generalize X1.heap.size = p at *
          refine held_call (i := 8) rfl (by kernel_rfl) (by rfl) (fun K' hK' => ?_)
          go_simp
          refine (failed_any _ _ _).mono ?_
          rintro e XQ ⟨rfl, hYY⟩
          obtain rfl := hYY.symm
          refine held_go hK' (HT.out.pre) ?_
          try simp only [Act.put, List.setIfInBounds_toArray, List.set_cons_zero, List.set_cons_succ]
          clear hS0
          have hS0 := HT.out.pre
          refine held_call (i := 12) rfl (by kernel_rfl) (by rfl) (fun K' hK' => ?_)
          go_simp
          refine (failed_any _ _ _).mono ?_
          rintro e XQ ⟨rfl, hYY⟩
          obtain rfl := hYY.symm
          refine held_go hK' (HT.out.pre) ?_
          try simp only [Act.put, List.setIfInBounds_toArray, List.set_cons_zero, List.set_cons_succ]
          clear hS0
          have hS0 := HT.out.pre
          refine held_call (i := 16) rfl (by kernel_rfl) (by rfl) (fun K' hK' => ?_)
          go_simp
          refine (failed_any _ _ _).mono ?_
          rintro e XQ ⟨rfl, hYY⟩
          obtain rfl := hYY.symm
          refine held_go hK' (HT.out.pre) ?_
          try simp only [Act.put, List.setIfInBounds_toArray, List.set_cons_zero, List.set_cons_succ]
          clear hS0
          have hS0 := HT.out.pre
          refine held_take (i := 17) (v := ?_) rfl (by kernel_rfl) (by kernel_rfl) (by kernel_rfl) (fun _ _ _ h => h) (by rfl) ?_ (by assumption) ?_
          rotate_left
          · intro X hSX
            try dsimp only at hSX
            go_simp <;> with_reducible rfl
          simp only [Act.put, List.setIfInBounds_toArray, List.set_cons_zero, List.set_cons_succ]
          refine held_call (i := 19) rfl (by kernel_rfl) (by rfl) (fun K' hK' => ?_)
          refine oper_store_ch (.tmp 7) (.tmp 26) rfl p rfl _ _ _ _ _ _ _ rfl chZ rfl HP.out ?_
          refine held_go hK' ((HT.out.far HPN.out _).pre) ?_
          try simp only [Act.put, List.setIfInBounds_toArray, List.set_cons_zero, List.set_cons_succ]
          refine wpAnyH_done (by kernel_rfl) ?_ _
          refine NoPanic.normal ?_
          go_wp2_with fail
          go_meet
          exact ⟨p, _, _, _, _, _, _, _, rfl, Lib.hid (setRow_heap _ _ _ (chK _ _ _ _ _ _ _) _ _ HP.out), HPN, Lib.hid (HT.out.far HPN.out _), HF⟩
      · skip
        go_simp
        have HP := Lib.hid (heap_alloc_new X0 (.cells #[.int .i64 0, .int .i64 0, .int .i64 0, .int .i64 0, .int .i64 0, .int .i64 0, .int .i64 0] 72))
        have HPN := Lib.hid HT.out.size
        replace HT := Lib.hid (HT.out.next (below_boxC X0 (.cells #[.int .i64 0, .int .i64 0, .int .i64 0, .int .i64 0, .int .i64 0, .int .i64 0, .int .i64 0] 72)))
        refine held_go hK' (HT.out.pre) ?_
        try simp only [Act.put, List.setIfInBounds_toArray, List.set_cons_zero, List.set_cons_succ]
        clear hS0
        have hS0 := HT.out.pre
        generalize World.alloc X0 _ = X1 at *
        generalize X0.heap.size = p at *
        refine held_call (i := 1) rfl (by kernel_rfl) (by rfl) (fun K' hK' => ?_)
        go_simp
        refine (HM.out X1).mono ?_
        rintro e X2 ⟨rfl, hb⟩
        replace HT := Lib.hid (HT.out.next hb)
        replace HP := Lib.hid (row_next HP.out hb)
        clear hb
        refine held_go hK' (HT.out.pre) ?_
        try simp only [Act.put, List.setIfInBounds_toArray, List.set_cons_zero, List.set_cons_succ]
        clear hS0
        have hS0 := HT.out.pre
        refine held_take (i := 2) (v := ?_) rfl (by kernel_rfl) (by kernel_rfl) (by kernel_rfl) (fun _ _ _ h => h) (by rfl) ?_ (by assumption) ?_
        rotate_left
        · intro X hSX
          try dsimp only at hSX
          go_simp <;> with_reducible rfl
        simp only [Act.put, List.setIfInBounds_toArray, List.set_cons_zero, List.set_cons_succ]
        refine held_take (i := 3) (v := ?_) rfl (by kernel_rfl) (by kernel_rfl) (by kernel_rfl) (fun _ _ _ h => h) (by rfl) ?_ (by assumption) ?_
        rotate_left
        · intro X hSX
          try dsimp only at hSX
          go_simp <;> with_reducible rfl
        simp only [Act.put, List.setIfInBounds_toArray, List.set_cons_zero, List.set_cons_succ]
        refine held_skip (i := 4) rfl (by kernel_rfl) (by kernel_rfl) (by kernel_rfl) (fun _ _ _ h => h) (by rfl) (by assumption) ?_
        simp only [Act.put, List.setIfInBounds_toArray, List.set_cons_zero, List.set_cons_succ]
        refine held_skip (i := 5) rfl (by kernel_rfl) (by kernel_rfl) (by kernel_rfl) (fun _ _ _ h => h) (by rfl) (by assumption) ?_
        simp only [Act.put, List.setIfInBounds_toArray, List.set_cons_zero, List.set_cons_succ]
        refine held_skip (i := 6) rfl (by kernel_rfl) (by kernel_rfl) (by kernel_rfl) (fun _ _ _ h => h) (by rfl) (by assumption) ?_
        simp only [Act.put, List.setIfInBounds_toArray, List.set_cons_zero, List.set_cons_succ]
        refine held_take (i := 7) (v := ?_) rfl (by kernel_rfl) (by kernel_rfl) (by kernel_rfl) (fun _ _ _ h => h) (by rfl) ?_ (by assumption) ?_
        rotate_left
        · intro X hSX
          try dsimp only at hSX
          go_simp <;> with_reducible rfl
        simp only [Act.put, List.setIfInBounds_toArray, List.set_cons_zero, List.set_cons_succ]
        refine held_call (i := 8) rfl (by kernel_rfl) (by rfl) (fun K' hK' => ?_)
        go_simp
        refine (failed_any _ _ _).mono ?_
        rintro e XQ ⟨rfl, hYY⟩
        obtain rfl := hYY.symm
        refine held_go hK' (HT.out.pre) ?_
        try simp only [Act.put, List.setIfInBounds_toArray, List.set_cons_zero, List.set_cons_succ]
        clear hS0
        have hS0 := HT.out.pre
        refine held_call (i := 12) rfl (by kernel_rfl) (by rfl) (fun K' hK' => ?_)
        go_simp
        refine (failed_any _ _ _).mono ?_
        rintro e XQ ⟨rfl, hYY⟩
        obtain rfl := hYY.symm
        refine held_go hK' (HT.out.pre) ?_
        try simp only [Act.put, List.setIfInBounds_toArray, List.set_cons_zero, List.set_cons_succ]
        clear hS0
        have hS0 := HT.out.pre
        refine held_call (i := 16) rfl (by kernel_rfl) (by rfl) (fun K' hK' => ?_)
        go_simp
        refine (failed_any _ _ _).mono ?_
        rintro e XQ ⟨rfl, hYY⟩
        obtain rfl := hYY.symm
        refine held_go hK' (HT.out.pre) ?_
        try simp only [Act.put, List.setIfInBounds_toArray, List.set_cons_zero, List.set_cons_succ]
        clear hS0
        have hS0 := HT.out.pre
        refine held_take (i := 17) (v := ?_) rfl (by kernel_rfl) (by kernel_rfl) (by kernel_rfl) (fun _ _ _ h => h) (by rfl) ?_ (by assumption) ?_
        rotate_left
        · intro X hSX
          try dsimp only at hSX
          go_simp <;> with_reducible rfl
        simp only [Act.put, List.setIfInBounds_toArray, List.set_cons_zero, List.set_cons_succ]
        refine held_call (i := 19) rfl (by kernel_rfl) (by rfl) (fun K' hK' => ?_)
        refine oper_store_ch (.tmp 7) (.tmp 26) rfl p rfl _ _ _ _ _ _ _ rfl chZ rfl HP.out ?_
        refine held_go hK' ((HT.out.far HPN.out _).pre) ?_
        try simp only [Act.put, List.setIfInBounds_toArray, List.set_cons_zero, List.set_cons_succ]
        refine wpAnyH_done (by kernel_rfl) ?_ _
        refine NoPanic.normal ?_
        go_wp2_with fail
        go_meet
        exact ⟨p, _, _, _, _, _, _, _, rfl, Lib.hid (setRow_heap _ _ _ (chK _ _ _ _ _ _ _) _ _ HP.out), HPN, Lib.hid (HT.out.far HPN.out _), HF⟩
    have HM := Lib.hid (fun X => (valmodel_any m X))
    rw [h0] at HM HF
    clear h0
    have HD := Lib.hid (fun X => (valdrive_any d X))
    generalize drvU d = vd at *
    replace HT := Lib.hid (HT.out.next (Below.refl Y0.heap.size Y0).drew)
    refine wp_region_noPanic ?_
    refine wp_region_held_drew (S := (fun X => Bx w X [(mdK m, 23), (drK d, 25)])) (by kernel_rfl) (HT.out.pre) (fun hS0 => ?_)
    generalize World.drew Y0 = X0 at *
    refine held_take (i := 0) (v := ?_) rfl (by kernel_rfl) (by kernel_rfl) (by kernel_rfl) (fun _ _ _ h => h) (by rfl) ?_ (by assumption) ?_
    rotate_left
    · intro X hSX
      try dsimp only at hSX
      obtain ⟨_, m0, m1, m2, m3, m4⟩ := hSX.m
      go_simp <;> with_reducible rfl
    simp only [Act.put, List.setIfInBounds_toArray, List.set_cons_zero, List.set_cons_succ]
    refine held_take (i := 9) (v := ?_) rfl (by kernel_rfl) (by kernel_rfl) (by kernel_rfl) (fun _ _ _ h => h) (by rfl) ?_ (by assumption) ?_
    rotate_left
    · intro X hSX
      try dsimp only at hSX
      go_simp <;> with_reducible rfl
    simp only [Act.put, List.setIfInBounds_toArray, List.set_cons_zero, List.set_cons_succ]
    refine held_take (i := 10) (v := ?_) rfl (by kernel_rfl) (by kernel_rfl) (by kernel_rfl) (fun _ _ _ h => h) (by rfl) ?_ (by assumption) ?_
    rotate_left
    · intro X hSX
      try dsimp only at hSX
      obtain ⟨_, d0, d1, d2, d3, d4, d5⟩ := hSX.d
      go_simp <;> with_reducible rfl
    simp only [Act.put, List.setIfInBounds_toArray, List.set_cons_zero, List.set_cons_succ]
    refine held_take (i := 11) (v := ?_) rfl (by kernel_rfl) (by kernel_rfl) (by kernel_rfl) (fun _ _ _ h => h) (by rfl) ?_ (by assumption) ?_
    rotate_left
    · intro X hSX
      try dsimp only at hSX
      go_simp <;> with_reducible rfl
    simp only [Act.put, List.setIfInBounds_toArray, List.set_cons_zero, List.set_cons_succ]
    refine held_take (i := 13) (v := ?_) rfl (by kernel_rfl) (by kernel_rfl) (by kernel_rfl) (fun _ _ _ h => h) (by rfl) ?_ (by assumption) ?_
    rotate_left
    · intro X hSX
      try dsimp only at hSX
      go_simp <;> with_reducible rfl
    simp only [Act.put, List.setIfInBounds_toArray, List.set_cons_zero, List.set_cons_succ]
    refine held_take (i := 14) (v := ?_) rfl (by kernel_rfl) (by kernel_rfl) (by kernel_rfl) (fun _ _ _ h => h) (by rfl) ?_ (by assumption) ?_
    rotate_left
    · intro X hSX
      try dsimp only at hSX
      obtain ⟨_, d0, d1, d2, d3, d4, d5⟩ := hSX.d
      go_simp <;> with_reducible rfl
    simp only [Act.put, List.setIfInBounds_toArray, List.set_cons_zero, List.set_cons_succ]
    refine held_take (i := 15) (v := ?_) rfl (by kernel_rfl) (by kernel_rfl) (by kernel_rfl) (fun _ _ _ h => h) (by rfl) ?_ (by assumption) ?_
    rotate_left
    · intro X hSX
      try dsimp only at hSX
      go_simp <;> with_reducible rfl
    simp only [Act.put, List.setIfInBounds_toArray, List.set_cons_zero, List.set_cons_succ]
    refine held_two (i := 1) (j := 18) rfl rfl (by kernel_rfl) (by rfl) (by rfl) (fun K' hK' => ?_) (fun K' hK' => ?_)
    · skip
      go_simp
      refine (HM.out X0).mono ?_
      rintro e X1 ⟨rfl, hb⟩
      replace HT := Lib.hid (HT.out.next hb)
      clear hb
      refine held_go hK' (HT.out.pre) ?_
      try simp only [Act.put, List.setIfInBounds_toArray, List.set_cons_zero, List.set_cons_succ]
      clear hS0
      have hS0 := HT.out.pre
      refine held_take (i := 2) (v := ?_) rfl (by kernel_rfl) (by kernel_rfl) (by kernel_rfl) (fun _ _ _ h => h) (by rfl) ?_ (by assumption) ?_
      rotate_left
      · intro X hSX
        try dsimp only at hSX
        go_simp <;> with_reducible rfl
      simp only [Act.put, List.setIfInBounds_toArray, List.set_cons_zero, List.set_cons_succ]
      refine held_take (i := 3) (v := ?_) rfl (by kernel_rfl) (by kernel_rfl) (by kernel_rfl) (fun _ _ _ h => h) (by rfl) ?_ (by assumption) ?_
      rotate_left
      · intro X hSX
        try dsimp only at hSX
        go_simp <;> with_reducible rfl
      simp only [Act.put, List.setIfInBounds_toArray, List.set_cons_zero, List.set_cons_succ]
      refine held_take (i := 4) (v := ?_) rfl (by kernel_rfl) (by kernel_rfl) (by kernel_rfl) (fun _ _ _ h => h) (by rfl) ?_ (by assumption) ?_
      rotate_left
      · intro X hSX
        try dsimp only at hSX
        obtain ⟨_, d0, d1, d2, d3, d4, d5⟩ := hSX.d
        go_simp <;> with_reducible rfl
      simp only [Act.put, List.setIfInBounds_toArray, List.set_cons_zero, List.set_cons_succ]
      refine held_two (i := 5) (j := 18) rfl rfl (by kernel_rfl) (by rfl) (by rfl) (fun K' hK' => ?_) (fun K' hK' => ?_)
      · skip
        go_simp
        refine (HD.out X1).mono ?_
        rintro e X2 ⟨rfl, hb⟩
        replace HT := Lib.hid (HT.out.next hb)
        clear hb
        refine held_go hK' (HT.out.pre) ?_
        try simp only [Act.put, List.setIfInBounds_toArray, List.set_cons_zero, List.set_cons_succ]
        clear hS0
        have hS0 := HT.out.pre
        refine held_take (i := 6) (v := ?_) rfl (by kernel_rfl) (by kernel_rfl) (by kernel_rfl) (fun _ _ _ h => h) (by rfl) ?_ (by assumption) ?_
        rotate_left
        · intro X hSX
          try dsimp only at hSX
          go_simp <;> with_reducible rfl
        simp only [Act.put, List.setIfInBounds_toArray, List.set_cons_zero, List.set_cons_succ]
        refine held_take (i := 7) (v := ?_) rfl (by kernel_rfl) (by kernel_rfl) (by kernel_rfl) (fun _ _ _ h => h) (by rfl) ?_ (by assumption) ?_
        rotate_left
        · intro X hSX
          try dsimp only at hSX
          go_simp <;> with_reducible rfl
        simp only [Act.put, List.setIfInBounds_toArray, List.set_cons_zero, List.set_cons_succ]
        refine held_two (i := 8) (j := 18) rfl rfl (by kernel_rfl) (by rfl) (by rfl) (fun K' hK' => ?_) (fun K' hK' => ?_)
        · skip
          go_simp
          refine (failed_any _ _ _).mono ?_
          rintro e XQ ⟨rfl, hYY⟩
          obtain rfl := hYY.symm
          refine held_go hK' (HT.out.pre) ?_
          try simp only [Act.put, List.setIfInBounds_toArray, List.set_cons_zero, List.set_cons_succ]
          clear hS0
          have hS0 := HT.out.pre
          refine held_two (i := 12) (j := 18) rfl rfl (by kernel_rfl) (by rfl) (by rfl) (fun K' hK' => ?_) (fun K' hK' => ?_)
          · skip
            go_simp
            refine (failed_any _ _ _).mono ?_
            rintro e XQ ⟨rfl, hYY⟩
            obtain rfl := hYY.symm
            refine held_go hK' (HT.out.pre) ?_
            try simp only [Act.put, List.setIfInBounds_toArray, List.set_cons_zero, List.set_cons_succ]
            clear hS0
            have hS0 := HT.out.pre
            refine held_two (i := 16) (j := 18) rfl rfl (by kernel_rfl) (by rfl) (by rfl) (fun K' hK' => ?_) (fun K' hK' => ?_)
            · skip
              go_simp
              refine (failed_any _ _ _).mono ?_
              rintro e XQ ⟨rfl, hYY⟩
              obtain rfl := hYY.symm
              refine held_go hK' (HT.out.pre) ?_
              try simp only [Act.put, List.setIfInBounds_toArray, List.set_cons_zero, List.set_cons_succ]
              clear hS0
              have hS0 := HT.out.pre
              refine held_take (i := 17) (v := ?_) rfl (by kernel_rfl) (by kernel_rfl) (by kernel_rfl) (fun _ _ _ h => h) (by rfl) ?_ (by assumption) ?_
              rotate_left
              · intro X hSX
                try dsimp only at hSX
                go_simp <;> with_reducible rfl
              simp only [Act.put, List.setIfInBounds_toArray, List.set_cons_zero, List.set_cons_succ]
              refine held_call (i := 18) rfl (by kernel_rfl) (by rfl) (fun K' hK' => ?_)
              go_simp
              have HP := Lib.hid (heap_alloc_new X2 (.cells #[.int .i64 0, .int .i64 0, .int .i64 0, .int .i64 0, .int .i64 0, .int .i64 0, .int .i64 0] 72))
              have HPN := Lib.hid HT.out.size
              replace HT := Lib.hid (HT.out.next (below_boxC X2 (.cells #[.int .i64 0, .int .i64 0, .int .i64 0, .int .i64 0, .int .i64 0, .int .i64 0, .int .i64 0] 72)))
              refine held_go hK' (HT.out.pre) ?_
              try simp only [Act.put, List.setIfInBounds_toArray, List.set_cons_zero, List.set_cons_succ]
              clear hS0
              have hS0 := HT.out.pre
              generalize World.alloc X2 _ = X3 at *
              generalize X2.heap.size = p at *
              refine held_call (i := 19) rfl (by kernel_rfl) (by rfl) (fun K' hK' => ?_)
              refine oper_store_ch (.tmp 7) (.tmp 26) rfl p rfl _ _ _ _ _ _ _ rfl chZ rfl HP.out ?_
              refine held_go hK' ((HT.out.far HPN.out _).pre) ?_
              try simp only [Act.put, List.setIfInBounds_toArray, List.set_cons_zero, List.set_cons_succ]
              refine wpAnyH_done (by kernel_rfl) ?_ _
              refine NoPanic.normal ?_
              go_wp2_with fail
              go_meet
              exact ⟨p, _, _, _, _, _, _, _, rfl, Lib.hid (setRow_heap _ _ _ (chK _ _ _ _ _ _ _) _ _ HP.out), HPN, Lib.hid (HT.out.far HPN.out _), HF⟩
            · skip
              go_simp
              have HP := Lib.hid (heap_alloc_new X2 (.cells #[.int .i64 0, .int .i64 0, .int .i64 0, .int .i64 0, .int .i64 0, .int .i64 0, .int .i64 0] 72))
              have HPN := Lib.hid HT.out.size
              replace HT := Lib.hid (HT.out.next (below_boxC X2 (.cells #[.int .i64 0, .int .i64 0, .int .i64 0, .int .i64 0, .int .i64 0, .int .i64 0, .int .i64 0] 72)))
              refine held_go hK' (HT.out.pre) ?_
              try simp only [Act.put, List.setIfInBounds_toArray, List.set_cons_zero, List.set_cons_succ]
              clear hS0
              have hS0 := HT.out.pre
              generalize World.alloc X2 _ = X3 at *
              generalize X2.heap.size = p at *
              refine held_call (i := 16) rfl (by kernel_rfl) (by rfl) (fun K' hK' => ?_)
              go_simp
              refine (failed_any _ _ _).mono ?_
              rintro e XQ ⟨rfl, hYY⟩
              obtain rfl := hYY.symm
              refine held_go hK' (HT.out.pre) ?_
              try simp only [Act.put, List.setIfInBounds_toArray, List.set_cons_zero, List.set_cons_succ]
              clear hS0
              have hS0 := HT.out.pre
              refine held_take (i := 17) (v := ?_) rfl (by kernel_rfl) (by kernel_rfl) (by kernel_rfl) (fun _ _ _ h => h) (by rfl) ?_ (by assumption) ?_
              rotate_left
              · intro X hSX
                try dsimp only at hSX
                go_simp <;> with_reducible rfl
              simp only [Act.put, List.setIfInBounds_toArray, List.set_cons_zero, List.set_cons_succ]
              refine held_call (i := 19) rfl (by kernel_rfl) (by rfl) (fun K' hK' => ?_)
              refine oper_store_ch (.tmp 7) (.tmp 26) rfl p rfl _ _ _ _ _ _ _ rfl chZ rfl HP.out ?_
              refine held_go hK' ((HT.out.far HPN.out _).pre) ?_
              try simp only [Act.put, List.setIfInBounds_toArray, List.set_cons_zero, List.set_cons_succ]
              refine wpAnyH_done (by kernel_rfl) ?_ _
              refine NoPanic.normal ?_
              go_wp2_with fail
              go_meet
              exact ⟨p, _, _, _, _, _, _, _, rfl, Lib.hid (setRow_heap _ _ _ (chK _ _ _ _ _ _ _) _ _ HP.out), HPN, Lib.hid (HT.out.far HPN.out _), HF⟩
          · skip
            go_simp
            have HP := Lib.hid (heap_alloc_new X2 (.cells #[.int .i64 0, .int .i64 0, .int .i64 0, .int .i64 0, .int .i64 0, .int .i64 0, .int .i64 0] 72))
            have HPN := Lib.hid HT.out.size
            replace HT := Lib.hid (HT.out.next (below_boxC X2 (.cells #[.int .i64 0, .int .i64 0, .int .i64 0, .int .i64 0, .int .i64 0, .int .i64 0, .int .i64 0] 72)))
            refine held_go hK' (HT.out.pre) ?_
            try simp only [Act.put, List.setIfInBounds_toArray, List.set_cons_zero, List.set_cons_succ]
            clear hS0
            have hS0 := HT.out.pre
            generalize World.alloc X2 _ = X3 at *
            generalize X2.heap.size = p at *
            refine held_call (i := 12) rfl (by kernel_rfl) (by rfl) (fun K' hK' => ?_)
            go_simp
            refine (failed_any _ _ _).mono ?_
            rintro e XQ ⟨rfl, hYY⟩
            obtain rfl := hYY.symm
            refine held_go hK' (HT.out.pre) ?_
            try simp only [Act.put, List.setIfInBounds_toArray, List.set_cons_zero, List.set_cons_succ]
            clear hS0
            have hS0 := HT.out.pre
            refine held_call (i := 16) rfl (by kernel_rfl) (by rfl) (fun K' hK' => ?_)
            go_simp
            refine (failed_any _ _ _).mono ?_
            rintro e XQ ⟨rfl, hYY⟩
            obtain rfl := hYY.symm
            refine held_go hK' (HT.out.pre) ?_
            try simp only [Act.put, List.setIfInBounds_toArray, List.set_cons_zero, List.set_cons_succ]
            clear hS0
            have hS0 := HT.out.pre
            refine held_take (i := 17) (v := ?_) rfl (by kernel_rfl) (by kernel_rfl) (by kernel_rfl) (fun _ _ _ h => h) (by rfl) ?_ (by assumption) ?_
            rotate_left
            · intro X hSX
              try dsimp only at hSX
              go_simp <;> with_reducible rfl
            simp only [Act.put, List.setIfInBounds_toArray, List.set_cons_zero, List.set_cons_succ]
            refine held_call (i := 19) rfl (by kernel_rfl) (by rfl) (fun K' hK' => ?_)
            refine oper_store_ch (.tmp 7) (.tmp 26) rfl p rfl _ _ _ _ _ _ _ rfl chZ rfl HP.out ?_
            refine held_go hK' ((HT.out.far HPN.out _).pre) ?_
            try simp only [Act.put, List.setIfInBounds_toArray, List.set_cons_zero, List.set_cons_succ]
            refine wpAnyH_done (by kernel_rfl) ?_ _
            refine NoPanic.normal ?_
            go_wp2_with fail
            go_meet
            exact ⟨p, _, _, _, _, _, _, _, rfl, Lib.hid (setRow_heap _ _ _ (chK _ _ _ _ _ _ _) _ _ HP.out), HPN, Lib.hid (HT.out.far HPN.out _), HF⟩
        · skip
          go_simp
          have HP := Lib.hid (heap_alloc_new X2 (.cells #[.int .i64 0, .int .i64 0, .int .i64 0, .int .i64 0, .int .i64 0, .int .i64 0, .int .i64 0] 72))
          have HPN := Lib.hid HT.out.size
          replace HT := Lib.hid (HT.out.next (below_boxC X2 (.cells #[.int .i64 0, .int .i64 0, .int .i64 0, .int .i64 0, .int .i64 0, .int .i64 0, .int .i64 0] 72)))
          refine held_go hK' (HT.out.pre) ?_
          try simp only [Act.put, List.setIfInBounds_toArray, List.set_cons_zero, List.set_cons_succ]
          clear hS0
          have hS0 := HT.out.pre
          generalize World.alloc X2 _ = X3 at *
          generalize X2.heap.size = p at *
          refine held_call (i := 8) rfl (by kernel_rfl) (by rfl) (fun K' hK' => ?_)
          go_simp
          refine (failed_any _ _ _).mono ?_
          rintro e XQ ⟨rfl, hYY⟩
          obtain rfl := hYY.symm
          refine held_go hK' (HT.out.pre) ?_
          try simp only [Act.put, List.setIfInBounds_toArray, List.set_cons_zero, List.set_cons_succ]
          clear hS0
          have hS0 := HT.out.pre
          refine held_call (i := 12) rfl (by kernel_rfl) (by rfl) (fun K' hK' => ?_)
          go_simp
          refine (failed_any _ _ _).mono ?_
          rintro e XQ ⟨rfl, hYY⟩
          obtain rfl := hYY.symm
          refine held_go hK' (HT.out.pre) ?_
          try simp only [Act.put, List.setIfInBounds_toArray, List.set_cons_zero, List.set_cons_succ]
          clear hS0
          have hS0 := HT.out.pre
          refine held_call (i := 16) rfl (by kernel_rfl) (by rfl) (fun K' hK' => ?_)
          go_simp
          refine (failed_any _ _ _).mono ?_
          rintro e XQ ⟨rfl, hYY⟩
          obtain rfl := hYY.symm
          refine held_go hK' (HT.out.pre) ?_
          try simp only [Act.put, List.setIfInBounds_toArray, List.set_cons_zero, List.set_cons_succ]
          clear hS0
          have hS0 := HT.out.pre
          refine held_take (i := 17) (v := ?_) rfl (by kernel_rfl) (by kernel_rfl) (by kernel_rfl) (fun _ _ _ h => h) (by rfl) ?_ (by assumption) ?_
          rotate_left
          · intro X hSX
            try dsimp only at hSX
            go_simp <;> with_reducible rfl
          simp only [Act.put, List.setIfInBounds_toArray, List.set_cons_zero, List.set_cons_succ]
          refine held_call (i := 19) rfl (by kernel_rfl) (by rfl) (fun K' hK' => ?_)
          refine oper_store_ch (.tmp 7) (.tmp 26) rfl p rfl _ _ _ _ _ _ _ rfl chZ rfl HP.out ?_
          refine held_go hK' ((HT.out.far HPN.out _).pre) ?_
          try simp only [Act.put, List.setIfInBounds_toArray, List.set_cons_zero, List.set_cons_succ]
          refine wpAnyH_done (by kernel_rfl) ?_ _
          refine NoPanic.normal ?_
          go_wp2_with fail
          go_meet
          exact ⟨p, _, _, _, _, _, _, _, rfl, Lib.hid (setRow_heap _ _ _ (chK _ _ _ _ _ _ _) _ _ HP.out), HPN, Lib.hid (HT.out.far HPN.out _), HF⟩
      · skip
        go_simp
        have HP := Lib.hid (heap_alloc_new X1 (.cells #[.int .i64 0, .int .i64 0, .int .i64 0, .int .i64 0, .int .i64 0, .int .i64 0, .int .i64 0] 72))
        have HPN := Lib.hid HT.out.size
        replace HT := Lib.hid (HT.out.next (below_boxC X1 (.cells #[.int .i64 0, .int .i64 0, .int .i64 0, .int .i64 0, .int .i64 0, .int .i64 0, .int .i64 0] 72)))
        refine held_go hK' (HT.out.pre) ?_
        try simp only [Act.put, List.setIfInBounds_toArray, List.set_cons_zero, List.set_cons_succ]
        clear hS0
        have hS0 := HT.out.pre
        generalize World.alloc X1 _ = X2 at *
        generalize X1.heap.size = p at *
        refine held_call (i := 5) rfl (by kernel_rfl) (by rfl) (fun K' hK' => ?_)
        go_simp
        refine (HD.out X2).mono ?_
        rintro e X3 ⟨rfl, hb⟩
        replace HT := Lib.hid (HT.out.next hb)
        replace HP := Lib.hid (row_next HP.out hb)
        clear hb
        refine held_go hK' (HT.out.pre) ?_
        try simp only [Act.put, List.setIfInBounds_toArray, List.set_cons_zero, List.set_cons_succ]
        clear hS0
        have hS0 := HT.out.pre
        refine held_take (i := 6) (v := ?_) rfl (by kernel_rfl) (by kernel_rfl) (by kernel_rfl) (fun _ _ _ h => h) (by rfl) ?_ (by assumption) ?_
        rotate_left
        · intro X hSX
          try dsimp only at hSX
          go_simp <;> with_reducible rfl
        simp only [Act.put, List.setIfInBounds_toArray, List.set_cons_zero, List.set_cons_succ]
        refine held_take (i := 7) (v := ?_) rfl (by kernel_rfl) (by kernel_rfl) (by kernel_rfl) (fun _ _ _ h => h) (by rfl) ?_ (by assumption) ?_
        rotate_left
        · intro X hSX
          try dsimp only at hSX
          go_simp <;> with_reducible rfl
        simp only [Act.put, List.setIfInBounds_toArray, List.set_cons_zero, List.set_cons_succ]
        refine held_call (i := 8) rfl (by kernel_rfl) (by rfl) (fun K' hK' => ?_)
        go_simp
        refine (failed_any _ _ _).mono ?_
        rintro e XQ ⟨rfl, hYY⟩
        obtain rfl := hYY.symm
        refine held_go hK' (HT.out.pre) ?_
        try simp only [Act.put, List.setIfInBounds_toArray, List.set_cons_zero, List.set_cons_succ]
        clear hS0
        have hS0 := HT.out.pre
        refine held_call (i := 12) rfl (by kernel_rfl) (by rfl) (fun K' hK' => ?_)
        go_simp
        refine (failed_any _ _ _).mono ?_
        rintro e XQ ⟨rfl, hYY⟩
        obtain rfl := hYY.symm
        refine held_go hK' (HT.out.pre) ?_
        try simp only [Act.put, List.setIfInBounds_toArray, List.set_cons_zero, List.set_cons_succ]
        clear hS0
        have hS0 := HT.out.pre
        refine held_call (i := 16) rfl (by kernel_rfl) (by rfl) (fun K' hK' => ?_)
        go_simp
        refine (failed_any _ _ _).mono ?_
        rintro e XQ ⟨rfl, hYY⟩
        obtain rfl := hYY.symm
        refine held_go hK' (HT.out.pre) ?_
        try simp only [Act.put, List.setIfInBounds_toArray, List.set_cons_zero, List.set_cons_succ]
        clear hS0
        have hS0 := HT.out.pre
        refine held_take (i := 17) (v := ?_) rfl (by kernel_rfl) (by kernel_rfl) (by kernel_rfl) (fun _ _ _ h => h) (by rfl) ?_ (by assumption) ?_
        rotate_left
        · intro X hSX
          try dsimp only at hSX
          go_simp <;> with_reducible rfl
        simp only [Act.put, List.setIfInBounds_toArray, List.set_cons_zero, List.set_cons_succ]
        refine held_call (i := 19) rfl (by kernel_rfl) (by rfl) (fun K' hK' => ?_)
        refine oper_store_ch (.tmp 7) (.tmp 26) rfl p rfl _ _ _ _ _ _ _ rfl chZ rfl HP.out ?_
        refine held_go hK' ((HT.out.far HPN.out _).pre) ?_
        try simp only [Act.put, List.setIfInBounds_toArray, List.set_cons_zero, List.set_cons_succ]
        refine wpAnyH_done (by kernel_rfl) ?_ _
        refine NoPanic.normal ?_
        go_wp2_with fail
        go_meet
        exact ⟨p, _, _, _, _, _, _, _, rfl, Lib.hid (setRow_heap _ _ _ (chK _ _ _ _ _ _ _) _ _ HP.out), HPN, Lib.hid (HT.out.far HPN.out _), HF⟩
    · skip
      go_simp
      have HP := Lib.hid (heap_alloc_new X0 (.cells #[.int .i64 0, .int .i64 0, .int .i64 0, .int .i64 0, .int .i64 0, .int .i64 0, .int .i64 0] 72))
      have HPN := Lib.hid HT.out.size
      replace HT := Lib.hid (HT.out.next (below_boxC X0 (.cells #[.int .i64 0, .int .i64 0, .int .i64 0, .int .i64 0, .int .i64 0, .int .i64 0, .int .i64 0] 72)))
      refine held_go hK' (HT.out.pre) ?_
      try simp only [Act.put, List.setIfInBounds_toArray, List.set_cons_zero, List.set_cons_succ]
      clear hS0
      have hS0 := HT.out.pre
      generalize World.alloc X0 _ = X1 at *
      generalize X0.heap.size = p at *
      refine held_call (i := 1) rfl (by kernel_rfl) (by rfl) (fun K' hK' => ?_)
      go_simp
      refine (HM.out X1).mono ?_
      rintro e X2 ⟨rfl, hb⟩
      replace HT := Lib.hid (HT.out.next hb)
      replace HP := Lib.hid (row_next HP.out hb)
      clear hb
      refine held_go hK' (HT.out.pre) ?_
      try simp only [Act.put, List.setIfInBounds_toArray, List.set_cons_zero, List.set_cons_succ]
      clear hS0
      have hS0 := HT.out.pre
      refine held_take (i := 2) (v := ?_) rfl (by kernel_rfl) (by kernel_rfl) (by kernel_rfl) (fun _ _ _ h => h) (by rfl) ?_ (by assumption) ?_
      rotate_left
      · intro X hSX
        try dsimp only at hSX
        go_simp <;> with_reducible rfl
      simp only [Act.put, List.setIfInBounds_toArray, List.set_cons_zero, List.set_cons_succ]
      refine held_take (i := 3) (v := ?_) rfl (by kernel_rfl) (by kernel_rfl) (by kernel_rfl) (fun _ _ _ h => h) (by rfl) ?_ (by assumption) ?_
      rotate_left
      · intro X hSX
        try dsimp only at hSX
        go_simp <;> with_reducible rfl
      simp only [Act.put, List.setIfInBounds_toArray, List.set_cons_zero, List.set_cons_succ]
      refine held_take (i := 4) (v := ?_) rfl (by kernel_rfl) (by kernel_rfl) (by kernel_rfl) (fun _ _ _ h => h) (by rfl) ?_ (by assumption) ?_
      rotate_left
      · intro X hSX
        try dsimp only at hSX
        obtain ⟨_, d0, d1, d2, d3, d4, d5⟩ := hSX.d
        go_simp <;> with_reducible rfl
      simp only [Act.put, List.setIfInBounds_toArray, List.set_cons_zero, List.set_cons_succ]
      refine held_call (i := 5) rfl (by kernel_rfl) (by rfl) (fun K' hK' => ?_)
      go_simp
      refine (HD.out X2).mono ?_
      rintro e X3 ⟨rfl, hb⟩
      replace HT := Lib.hid (HT.out.next hb)
      replace HP := Lib.hid (row_next HP.out hb)
      clear hb
      refine held_go hK' (HT.out.pre) ?_
      try simp only [Act.put, List.setIfInBounds_toArray, List.set_cons_zero, List.set_cons_succ]
      clear hS0
      have hS0 := HT.out.pre
      refine held_take (i := 6) (v := ?_) rfl (by kernel_rfl) (by kernel_rfl) (by kernel_rfl) (fun _ _ _ h => h) (by rfl) ?_ (by assumption) ?_
      rotate_left
      · intro X hSX
        try dsimp only at hSX
        go_simp <;> with_reducible rfl
      simp only [Act.put, List.setIfInBounds_toArray, List.set_cons_zero, List.set_cons_succ]
      refine held_take (i := 7) (v := ?_) rfl (by kernel_rfl) (by kernel_rfl) (by kernel_rfl) (fun _ _ _ h => h) (by rfl) ?_ (by assumption) ?_
      rotate_left
      · intro X hSX
        try dsimp only at hSX
        go_simp <;> with_reducible rfl
      simp only [Act.put, List.setIfInBounds_toArray, List.set_cons_zero, List.set_cons_succ]
      refine held_call (i := 8) rfl (by kernel_rfl) (by rfl) (fun K' hK' => ?_)
      go_simp
      refine (failed_any _ _ _).mono ?_
      rintro e XQ ⟨rfl, hYY⟩
      obtain rfl := hYY.symm
      refine held_go hK' (HT.out.pre) ?_
      try simp only [Act.put, List.setIfInBounds_toArray, List.set_cons_zero, List.set_cons_succ]
      clear hS0
      have hS0 := HT.out.pre
      refine held_call (i := 12) rfl (by kernel_rfl) (by rfl) (fun K' hK' => ?_)
      go_simp
      refine (failed_any _ _ _).mono ?_
      rintro e XQ ⟨rfl, hYY⟩
      obtain rfl := hYY.symm
      refine held_go hK' (HT.out.pre) ?_
      try simp only [Act.put, List.setIfInBounds_toArray, List.set_cons_zero, List.set_cons_succ]
      clear hS0
      have hS0 := HT.out.pre
      refine held_call (i := 16) rfl (by kernel_rfl) (by rfl) (fun K' hK' => ?_)
      go_simp
      refine (failed_any _ _ _).mono ?_
      rintro e XQ ⟨rfl, hYY⟩
      obtain rfl := hYY.symm
      refine held_go hK' (HT.out.pre) ?_
      try simp only [Act.put, List.setIfInBounds_toArray, List.set_cons_zero, List.set_cons_succ]
      clear hS0
      have hS0 := HT.out.pre
      refine held_take (i := 17) (v := ?_) rfl (by kernel_rfl) (by kernel_rfl) (by kernel_rfl) (fun _ _ _ h => h) (by rfl) ?_ (by assumption) ?_
      rotate_left
      · intro X hSX
        try dsimp only at hSX
        go_simp <;> with_reducible rfl
      simp only [Act.put, List.setIfInBounds_toArray, List.set_cons_zero, List.set_cons_succ]
      refine held_call (i := 19) rfl (by kernel_rfl) (by rfl) (fun K' hK' => ?_)
      refine oper_store_ch (.tmp 7) (.tmp 26) rfl p rfl _ _ _ _ _ _ _ rfl chZ rfl HP.out ?_
      refine held_go hK' ((HT.out.far HPN.out _).pre) ?_
      try simp only [Act.put, List.setIfInBounds_toArray, List.set_cons_zero, List.set_cons_succ]
      refine wpAnyH_done (by kernel_rfl) ?_ _
      refine NoPanic.normal ?_
      go_wp2_with fail
      go_meet
      exact ⟨p, _, _, _, _, _, _, _, rfl, Lib.hid (setRow_heap _ _ _ (chK _ _ _ _ _ _ _) _ _ HP.out), HPN, Lib.hid (HT.out.far HPN.out _), HF⟩
  case rest =>
    obtain ⟨p, a0, a1, a2, a3, a4, a5, a6, rfl, hch, hpn, ht, hfr⟩ := hcut
    replace HT := Lib.hid ht.out
    have HCH := Lib.hid hch.out
    have HFI := Lib.hid (fun X => first_any a0 a1 a2 a3 a4 a5 a6 X)
    rw [hfr.out] at HFI
    clear hch hpn ht hfr HF
    go_wp2_with (with_reducible refine ld_ch rfl (.tmp 7) rfl p rfl _ _ _ _ _ _ _ HCH.out ?_)
    refine (HFI.out wc).mono ?_
    rintro e w2 ⟨rfl, hb⟩
    replace HT := Lib.hid (HT.out.next hb)
    clear hb HCH HFI
    by_cases hf0 : fq = 0
    rotate_left
    · have HR := Lib.hid (show res = (drZ, 0, fq) by rw [HFU.out, if_neg hf0])
      have hne : (fq != 0) = true := by simp [hf0]
      have R2 := Lib.hid (show w2.heap[w.heap.size + 2]? = some (.cells (drK drZ) 25 (0, 0)) from HT.out.at_ 2 _ rfl)
      go_wp2_with (with_reducible refine wpList_store_dr rfl (.tmp 4) (.tmp 31) rfl (w.heap.size + 2) rfl _ _ _ _ _ _ rfl drZ R2.out ?_)
      refine post_cell3 rfl rfl (setRow_heap _ _ _ (drK drZ) _ _ R2.out) Try.underlying25 rfl infoD rfl rfl rfl ?_
      rw [HR.out]
      exact ⟨rfl, below_set HT.out.b (by omega) _⟩
    subst hf0
    have HR := Lib.hid (show res = (⟨d.st, d.bc, d.hd, d.lo, d.pa, 0⟩, m.cl, 0) by rw [HFU.out, if_pos rfl])
    obtain ⟨_, d0, d1, d2, d3, d4, d5⟩ := HT.out.d
    have f := froz_of (HT.out.at_ 1 _ rfl) 5
    go_wp2_with fail
    clear d0 d1 d2 d3 d4 d5 f
    replace HT := Lib.hid (show Bx w (w2.setCell ⟨w.heap.size + 1, 5, none⟩ (.int .i64 0)) ([(mdK m, 23), (drK ⟨d.st, d.bc, d.hd, d.lo, d.pa, 0⟩, 25)] ++ [(drK drZ, 25)]) from HT.out.cell 1 5 (.int .i64 0) _ _ rfl)
    generalize World.setCell w2 _ _ = Y1 at *
    replace HT := Lib.hid (HT.out.next (Below.refl Y1.heap.size Y1).drew)
    refine wp_region_noPanic ?_
    refine wp_region_held_drew (S := (fun X => Bx w X [(mdK m, 23), (drK ⟨d.st, d.bc, d.hd, d.lo, d.pa, 0⟩, 25)])) (by kernel_rfl) (HT.out.pre) (fun hS0 => ?_)
    generalize World.drew Y1 = X9 at *
    refine held_take (i := 0) (v := ?_) rfl (by kernel_rfl) (by kernel_rfl) (by kernel_rfl) (fun _ _ _ h => h) (by rfl) ?_ (by assumption) ?_
    rotate_left
    · intro X hSX
      try dsimp only at hSX
      obtain ⟨_, d0, d1, d2, d3, d4, d5⟩ := hSX.d
      dsimp only at d0 d1 d2 d3 d4 d5
      go_simp <;> with_reducible rfl
    simp only [Act.put, List.setIfInBounds_toArray, List.set_cons_zero, List.set_cons_succ]
    refine held_take (i := 1) (v := ?_) rfl (by kernel_rfl) (by kernel_rfl) (by kernel_rfl) (fun _ _ _ h => h) (by rfl) ?_ (by assumption) ?_
    rotate_left
    · intro X hSX
      try dsimp only at hSX
      go_simp <;> with_reducible rfl
    simp only [Act.put, List.setIfInBounds_toArray, List.set_cons_zero, List.set_cons_succ]
    refine held_take (i := 2) (v := ?_) rfl (by kernel_rfl) (by kernel_rfl) (by kernel_rfl) (fun _ _ _ h => h) (by rfl) ?_ (by assumption) ?_
    rotate_left
    · intro X hSX
      try dsimp only at hSX
      obtain ⟨_, m0, m1, m2, m3, m4⟩ := hSX.m
      go_simp <;> with_reducible rfl
    simp only [Act.put, List.setIfInBounds_toArray, List.set_cons_zero, List.set_cons_succ]
    refine held_call (i := 3) rfl (by kernel_rfl) (by rfl) (fun K' hK' => ?_)
    refine oper_store_dr (.tmp 4) (.tmp 34) rfl (w.heap.size + 2) rfl ⟨d.st, d.bc, d.hd, d.lo, d.pa, 0⟩ rfl drZ (HT.out.at_ 2 _ rfl) ?_
    have HT2 := Lib.hid (HT.out.row 2 _ _ (drK ⟨d.st, d.bc, d.hd, d.lo, d.pa, 0⟩) rfl)
    refine held_go hK' ((show Bx w _ ([(mdK m, 23), (drK ⟨d.st, d.bc, d.hd, d.lo, d.pa, 0⟩, 25)] ++ _) from HT2.out).pre) ?_
    try simp only [Act.put, List.setIfInBounds_toArray, List.set_cons_zero, List.set_cons_succ]
    generalize World.setRow X9 _ _ = X10 at *
    clear hS0
    have hS0 := (show Bx w X10 ([(mdK m, 23), (drK ⟨d.st, d.bc, d.hd, d.lo, d.pa, 0⟩, 25)] ++ _) from HT2.out).pre
    refine held_take (i := 4) (v := ?_) rfl (by kernel_rfl) (by kernel_rfl) (by kernel_rfl) (fun _ _ _ h => h) (by rfl) ?_ (by assumption) ?_
    rotate_left
    · intro X hSX
      try dsimp only at hSX
      go_simp <;> with_reducible rfl
    simp only [Act.put, List.setIfInBounds_toArray, List.set_cons_zero, List.set_cons_succ]
    refine held_take (i := 5) (v := ?_) rfl (by kernel_rfl) (by kernel_rfl) (by kernel_rfl) (fun _ _ _ h => h) (by rfl) ?_ (by assumption) ?_
    rotate_left
    · intro X hSX
      try dsimp only at hSX
      go_simp <;> with_reducible rfl
    simp only [Act.put, List.setIfInBounds_toArray, List.set_cons_zero, List.set_cons_succ]
    refine wpAnyH_done (by kernel_rfl) ?_ _
    refine NoPanic.normal ?_
    go_wp2_with fail
    refine post_cell3 rfl rfl (show X10.heap[w.heap.size + 2]? = some (.cells (drK ⟨d.st, d.bc, d.hd, d.lo, d.pa, 0⟩) 25 (0, 0)) from HT2.out.at_ 2 _ rfl) Try.underlying25 rfl infoD rfl rfl rfl ?_
    rw [HR.out]
    exact ⟨rfl, HT2.out.b⟩
end Go.Proofs.Ytepmmlnopdjjdaa
