/-
  The program's Load.
-/
import Derived.Test.YtepmmlnopdjjdaaDpOut
import Derived.Deep.DeepCutAuto
namespace Go.Proofs.Ytepmmlnopdjjdaa
open Go.RowKit
set_option linter.unusedVariables false
set_option linter.unusedSimpArgs false
set_option maxRecDepth 100000
/-- the first error of Load -/
noncomputable def ldE (m : Mdl) (d : Drv) (c : Crt) : Int := if (mdlU m && (drvU d && vldC c)) = true then (if d.st = 2 then 16 else (if d.st = 1 then 14 else (if due m d = true then 13 else 0))) else 8
theorem frs_ld (m : Mdl) (d : Drv) (c : Crt) : frs [flU (!(mdlU m && (drvU d && vldC c))) 8, flU (d.st == 2) 16, flU (d.st == 1) 14, flU (due m d) 13, 0, 0, 0] = ldE m d c := by
  unfold ldE
  by_cases h1 : (mdlU m && (drvU d && vldC c)) = true
  · rw [if_pos h1, h1]
    by_cases h2 : d.st = 2
    · simp [frs, flU, h2]
    by_cases h3 : d.st = 1
    · simp [frs, flU, h3]
    by_cases h4 : due m d = true
    · simp [frs, flU, h2, h3, h4]
    · simp [frs, flU, h2, h3, h4]
  · rw [if_neg h1]
    rw [Bool.not_eq_true] at h1
    rw [h1]
    simp [frs, flU]
theorem ldE_parts {m : Mdl} {d : Drv} {c : Crt} (h : ldE m d c = 0) : mdlU m = true ∧ vldC c = true ∧ (0 ≤ d.lo ∧ d.lo ≤ 1125899906842624) ∧ (0 ≤ c.lo ∧ c.lo ≤ 1125899906842624) ∧ c.l.length ≤ 4096 ∧ (∀ b ∈ c.l, b.d.length ≤ 10000) ∧ d.hd = 0 ∧ d.st = 0 := by
  unfold ldE at h
  by_cases h1 : (mdlU m && (drvU d && vldC c)) = true
  · rw [if_pos h1] at h
    simp only [Bool.and_eq_true] at h1
    obtain ⟨k1, k2, k3⟩ := h1
    by_cases h2 : d.st = 2
    · rw [if_pos h2] at h; omega
    rw [if_neg h2] at h
    by_cases h3 : d.st = 1
    · rw [if_pos h3] at h; omega
    have hd := drvU_wtn d
    rw [k2] at hd
    have hd2 := hd.symm
    simp only [Bool.and_eq_true, Bool.or_eq_true, decide_eq_true_eq] at hd2
    have h0 : d.st = 0 ∧ d.hd = 0 := by
      rcases hd2.1 with h | h
      · exact ⟨h.1, h.2.2⟩
      · omega
    have hp := vldC_parts k3
    have hc := hp.1.c1
    exact ⟨k1, k3, (drvU_cnt k2).1, (vldC_cnt k3).1, by have := hp.2.1; omega, allB_small hp.2.2.1, h0.2, h0.1⟩
  · rw [if_neg h1] at h; omega
theorem ldU_ldE (m : Mdl) (d : Drv) (c : Crt) : ldU m d c = if ldE m d c = 0 then (⟨1, c.bc, d.hd, inc d.lo 1, d.pa, d.si⟩, {c with lo := inc c.lo 1}, m.ld, 0) else (drZ, crZ, 0, ldE m d c) := by
  by_cases h : ldE m d c = 0
  · rw [if_pos h, (ldE_parts h).2.2.2.2.2.2.1]
    unfold ldE at h
    unfold ldU
    by_cases h1 : (mdlU m && (drvU d && vldC c)) = true
    · rw [if_pos h1] at h ⊢
      by_cases h2 : d.st = 2
      · rw [if_pos h2] at h; omega
      rw [if_neg h2] at h ⊢
      by_cases h3 : d.st = 1
      · rw [if_pos h3] at h; omega
      rw [if_neg h3] at h ⊢
      by_cases h4 : due m d = true
      · rw [if_pos h4] at h; omega
      rw [if_neg h4]
    · rw [if_neg h1] at h; omega
  · rw [if_neg h]
    unfold ldE at h ⊢
    unfold ldU
    by_cases h1 : (mdlU m && (drvU d && vldC c)) = true
    · rw [if_pos h1] at h ⊢
      rw [if_pos h1]
      by_cases h2 : d.st = 2
      · rw [if_pos h2, if_pos h2]
      rw [if_neg h2] at h ⊢
      rw [if_neg h2]
      by_cases h3 : d.st = 1
      · rw [if_pos h3, if_pos h3]
      rw [if_neg h3] at h ⊢
      rw [if_neg h3]
      by_cases h4 : due m d = true
      · rw [if_pos h4, if_pos h4]
      rw [if_neg h4] at h; exact absurd rfl h
    · rw [if_neg h1, if_neg h1]
attribute [local irreducible] tim vld bar cnt okB capU allB vldC mdlU drvU due inc frs ldE
set_option maxHeartbeats 16000000 in
theorem load_any (m : Mdl) (d : Drv) (c : Crt) (ad : Option Addr) (cap : Nat) (w : World) (hin : CrIn w c ad cap) :
    Calls Try.prog 20 #[mdV m, drV d, crV c ad cap] w fun e w' => RetDC w ad c.l (ldU m d c) e w' := by
  have HFU := Lib.hid (ldU_ldE m d c)
  have HPT := Lib.hid (fun h => ldE_parts (m := m) (d := d) (c := c) h)
  have HF := Lib.hid (frs_ld m d c)
  generalize ldU m d c = res at *
  generalize ldE m d c = fq at *
  have HIN := Lib.hid hin
  have HU := Lib.hid (fun X => due_any m d X)
  have HT := Lib.hid (show Bx w (((((w.alloc (boxMx m)).alloc (boxDr d)).alloc (boxCx c ad cap)).alloc (.cells #[.int .i64 0, .string ⟨#[]⟩, .int .i64 0, .int .i64 0, .int .i64 0, .int .i64 0] 25)).alloc (boxK ⟨#[]⟩ 0 0 0 0 0 0 false false none 0 0 0 0 0)) ([(mdK m, 23), (drK d, 25), (crQ c ad cap, 30)] ++ [(drK drZ, 25), (crQ crZ none 0, 30)]) from Bx.start w [(mdK m, 23), (drK d, 25), (crQ c ad cap, 30), (drK drZ, 25), (crQ crZ none 0, 30)])
  clear hin
  go_enter Try.func20, Try.ntmps20
  go_upto_region 1 with fail
  generalize World.alloc _ _ = Y0 at *
  go_cut [10] (fun s10 wx => ∃ p a0 a1 a2 a3 a4 a5 a6, s10 = .pointer (some ⟨p, 0, none⟩) ∧ Hid (wx.heap[p]? = some (.cells (chK a0 a1 a2 a3 a4 a5 a6) 72 (0, 0))) ∧ Hid (w.heap.size + 5 ≤ p) ∧ Hid (Bx w wx ([(mdK m, 23), (drK d, 25), (crQ c ad cap, 30)] ++ [(drK drZ, 25), (crQ crZ none 0, 30)])) ∧ Hid (frs [a0, a1, a2, a3, a4, a5, a6] = fq))
  case first =>
    cases h0 : mdlU m
    · have HM := Lib.hid (fun X => (valmodel_any m X))
      rw [h0] at HM HF
      clear h0
      replace HT := Lib.hid (HT.out.next (Below.refl Y0.heap.size Y0).drew)
      refine wp_region_noPanic ?_
      refine wp_region_held_drew (S := (fun X => Bx w X [(mdK m, 23), (drK d, 25), (crQ c ad cap, 30)])) (by kernel_rfl) (HT.out.pre) (fun hS0 => ?_)
      generalize World.drew Y0 = X0 at *
      refine held_take (i := 0) (v := ?_) rfl (by kernel_rfl) (by kernel_rfl) (by kernel_rfl) (fun _ _ _ h => h) (by rfl) ?_ (by assumption) ?_
      rotate_left
      · intro X hSX
        try dsimp only at hSX
        obtain ⟨_, m0, m1, m2, m3, m4⟩ := hSX.m
        go_simp <;> with_reducible rfl
      simp only [Act.put, List.setIfInBounds_toArray, List.set_cons_zero, List.set_cons_succ]
      refine held_take (i := 14) (v := ?_) rfl (by kernel_rfl) (by kernel_rfl) (by kernel_rfl) (fun _ _ _ h => h) (by rfl) ?_ (by assumption) ?_
      rotate_left
      · intro X hSX
        try dsimp only at hSX
        go_simp <;> with_reducible rfl
      simp only [Act.put, List.setIfInBounds_toArray, List.set_cons_zero, List.set_cons_succ]
      refine held_take (i := 15) (v := ?_) rfl (by kernel_rfl) (by kernel_rfl) (by kernel_rfl) (fun _ _ _ h => h) (by rfl) ?_ (by assumption) ?_
      rotate_left
      · intro X hSX
        try dsimp only at hSX
        obtain ⟨_, d0, d1, d2, d3, d4, d5⟩ := hSX.d
        go_simp <;> with_reducible rfl
      simp only [Act.put, List.setIfInBounds_toArray, List.set_cons_zero, List.set_cons_succ]
      refine held_take (i := 16) (v := ?_) rfl (by kernel_rfl) (by kernel_rfl) (by kernel_rfl) (fun _ _ _ h => h) (by rfl) ?_ (by assumption) ?_
      rotate_left
      · intro X hSX
        try dsimp only at hSX
        go_simp <;> with_reducible rfl
      simp only [Act.put, List.setIfInBounds_toArray, List.set_cons_zero, List.set_cons_succ]
      refine held_take (i := 18) (v := ?_) rfl (by kernel_rfl) (by kernel_rfl) (by kernel_rfl) (fun _ _ _ h => h) (by rfl) ?_ (by assumption) ?_
      rotate_left
      · intro X hSX
        try dsimp only at hSX
        go_simp <;> with_reducible rfl
      simp only [Act.put, List.setIfInBounds_toArray, List.set_cons_zero, List.set_cons_succ]
      refine held_take (i := 19) (v := ?_) rfl (by kernel_rfl) (by kernel_rfl) (by kernel_rfl) (fun _ _ _ h => h) (by rfl) ?_ (by assumption) ?_
      rotate_left
      · intro X hSX
        try dsimp only at hSX
        obtain ⟨_, d0, d1, d2, d3, d4, d5⟩ := hSX.d
        go_simp <;> with_reducible rfl
      simp only [Act.put, List.setIfInBounds_toArray, List.set_cons_zero, List.set_cons_succ]
      refine held_take (i := 20) (v := ?_) rfl (by kernel_rfl) (by kernel_rfl) (by kernel_rfl) (fun _ _ _ h => h) (by rfl) ?_ (by assumption) ?_
      rotate_left
      · intro X hSX
        try dsimp only at hSX
        go_simp <;> with_reducible rfl
      simp only [Act.put, List.setIfInBounds_toArray, List.set_cons_zero, List.set_cons_succ]
      refine held_take (i := 22) (v := ?_) rfl (by kernel_rfl) (by kernel_rfl) (by kernel_rfl) (fun _ _ _ h => h) (by rfl) ?_ (by assumption) ?_
      rotate_left
      · intro X hSX
        try dsimp only at hSX
        obtain ⟨_, m0, m1, m2, m3, m4⟩ := hSX.m
        go_simp <;> with_reducible rfl
      simp only [Act.put, List.setIfInBounds_toArray, List.set_cons_zero, List.set_cons_succ]
      refine held_take (i := 23) (v := ?_) rfl (by kernel_rfl) (by kernel_rfl) (by kernel_rfl) (fun _ _ _ h => h) (by rfl) ?_ (by assumption) ?_
      rotate_left
      · intro X hSX
        try dsimp only at hSX
        obtain ⟨_, d0, d1, d2, d3, d4, d5⟩ := hSX.d
        go_simp <;> with_reducible rfl
      simp only [Act.put, List.setIfInBounds_toArray, List.set_cons_zero, List.set_cons_succ]
      refine held_two (i := 1) (j := 27) rfl rfl (by kernel_rfl) (by rfl) (by rfl) (fun K' hK' => ?_) (fun K' hK' => ?_)
      · skip
        go_simp
        refine (HM.out X0).mono ?_
        rintro e X1 ⟨rfl, hb⟩
        replace HT := Lib.hid (HT.out.next hb)
        clear hb
        refine held_go hK' (HT.out.pre) ?_
        try simp only [Act.put, List.setIfInBounds_toArray, List.set_cons_zero, List.set_cons_succ]
        clear hS0
        have hS0 := HT.out.pre
        refine held_take (i := 2) (v := ?_) rfl (by kernel_rfl) (by kernel_rfl) (by kernel_rfl) (fun _ _ _ h => h) (by rfl) ?_ (by assumption) ?_
        rotate_left
        · intro X hSX
          try dsimp only at hSX
          go_simp <;> with_reducible rfl
        simp only [Act.put, List.setIfInBounds_toArray, List.set_cons_zero, List.set_cons_succ]
        refine held_take (i := 3) (v := ?_) rfl (by kernel_rfl) (by kernel_rfl) (by kernel_rfl) (fun _ _ _ h => h) (by rfl) ?_ (by assumption) ?_
        rotate_left
        · intro X hSX
          try dsimp only at hSX
          go_simp <;> with_reducible rfl
        simp only [Act.put, List.setIfInBounds_toArray, List.set_cons_zero, List.set_cons_succ]
        refine held_skip (i := 4) rfl (by kernel_rfl) (by kernel_rfl) (by kernel_rfl) (fun _ _ _ h => h) (by rfl) (by assumption) ?_
        simp only [Act.put, List.setIfInBounds_toArray, List.set_cons_zero, List.set_cons_succ]
        refine held_skip (i := 5) rfl (by kernel_rfl) (by kernel_rfl) (by kernel_rfl) (fun _ _ _ h => h) (by rfl) (by assumption) ?_
        simp only [Act.put, List.setIfInBounds_toArray, List.set_cons_zero, List.set_cons_succ]
        refine held_skip (i := 6) rfl (by kernel_rfl) (by kernel_rfl) (by kernel_rfl) (fun _ _ _ h => h) (by rfl) (by assumption) ?_
        simp only [Act.put, List.setIfInBounds_toArray, List.set_cons_zero, List.set_cons_succ]
        refine held_take (i := 7) (v := ?_) rfl (by kernel_rfl) (by kernel_rfl) (by kernel_rfl) (fun _ _ _ h => h) (by rfl) ?_ (by assumption) ?_
        rotate_left
        · intro X hSX
          try dsimp only at hSX
          go_simp <;> with_reducible rfl
        simp only [Act.put, List.setIfInBounds_toArray, List.set_cons_zero, List.set_cons_succ]
        refine held_take (i := 8) (v := ?_) rfl (by kernel_rfl) (by kernel_rfl) (by kernel_rfl) (fun _ _ _ h => h) (by rfl) ?_ (by assumption) ?_
        rotate_left
        · intro X hSX
          try dsimp only at hSX
          go_simp <;> with_reducible rfl
        simp only [Act.put, List.setIfInBounds_toArray, List.set_cons_zero, List.set_cons_succ]
        refine held_skip (i := 9) rfl (by kernel_rfl) (by kernel_rfl) (by kernel_rfl) (fun _ _ _ h => h) (by rfl) (by assumption) ?_
        simp only [Act.put, List.setIfInBounds_toArray, List.set_cons_zero, List.set_cons_succ]
        refine held_skip (i := 10) rfl (by kernel_rfl) (by kernel_rfl) (by kernel_rfl) (fun _ _ _ h => h) (by rfl) (by assumption) ?_
        simp only [Act.put, List.setIfInBounds_toArray, List.set_cons_zero, List.set_cons_succ]
        refine held_skip (i := 11) rfl (by kernel_rfl) (by kernel_rfl) (by kernel_rfl) (fun _ _ _ h => h) (by rfl) (by assumption) ?_
        simp only [Act.put, List.setIfInBounds_toArray, List.set_cons_zero, List.set_cons_succ]
        refine held_take (i := 12) (v := ?_) rfl (by kernel_rfl) (by kernel_rfl) (by kernel_rfl) (fun _ _ _ h => h) (by rfl) ?_ (by assumption) ?_
        rotate_left
        · intro X hSX
          try dsimp only at hSX
          go_simp <;> with_reducible rfl
        simp only [Act.put, List.setIfInBounds_toArray, List.set_cons_zero, List.set_cons_succ]
        refine held_two (i := 13) (j := 27) rfl rfl (by kernel_rfl) (by rfl) (by rfl) (fun K' hK' => ?_) (fun K' hK' => ?_)
        · skip
          go_simp
          refine (failed_any _ _ _).mono ?_
          rintro e XQ ⟨rfl, hYY⟩
          obtain rfl := hYY.symm
          refine held_go hK' (HT.out.pre) ?_
          try simp only [Act.put, List.setIfInBounds_toArray, List.set_cons_zero, List.set_cons_succ]
          clear hS0
          have hS0 := HT.out.pre
          refine held_two (i := 17) (j := 27) rfl rfl (by kernel_rfl) (by rfl) (by rfl) (fun K' hK' => ?_) (fun K' hK' => ?_)
          · skip
            go_simp
            refine (failed_any _ _ _).mono ?_
            rintro e XQ ⟨rfl, hYY⟩
            obtain rfl := hYY.symm
            refine held_go hK' (HT.out.pre) ?_
            try simp only [Act.put, List.setIfInBounds_toArray, List.set_cons_zero, List.set_cons_succ]
            clear hS0
            have hS0 := HT.out.pre
            refine held_two (i := 21) (j := 27) rfl rfl (by kernel_rfl) (by rfl) (by rfl) (fun K' hK' => ?_) (fun K' hK' => ?_)
            · skip
              go_simp
              refine (failed_any _ _ _).mono ?_
              rintro e XQ ⟨rfl, hYY⟩
              obtain rfl := hYY.symm
              refine held_go hK' (HT.out.pre) ?_
              try simp only [Act.put, List.setIfInBounds_toArray, List.set_cons_zero, List.set_cons_succ]
              clear hS0
              have hS0 := HT.out.pre
              refine held_two (i := 24) (j := 27) rfl rfl (by kernel_rfl) (by rfl) (by rfl) (fun K' hK' => ?_) (fun K' hK' => ?_)
              · skip
                go_simp
                refine (HU.out X1).mono ?_
                rintro e X2 ⟨rfl, hb⟩
                replace HT := Lib.hid (HT.out.next hb)
                clear hb
                refine held_go hK' (HT.out.pre) ?_
                try simp only [Act.put, List.setIfInBounds_toArray, List.set_cons_zero, List.set_cons_succ]
                clear hS0
                have hS0 := HT.out.pre
                refine held_two (i := 25) (j := 27) rfl rfl (by kernel_rfl) (by rfl) (by rfl) (fun K' hK' => ?_) (fun K' hK' => ?_)
                · skip
                  go_simp
                  refine (failed_any _ _ _).mono ?_
                  rintro e XQ ⟨rfl, hYY⟩
                  obtain rfl := hYY.symm
                  refine held_go hK' (HT.out.pre) ?_
                  try simp only [Act.put, List.setIfInBounds_toArray, List.set_cons_zero, List.set_cons_succ]
                  clear hS0
                  have hS0 := HT.out.pre
                  refine held_take (i := 26) (v := ?_) rfl (by kernel_rfl) (by kernel_rfl) (by kernel_rfl) (fun _ _ _ h => h) (by rfl) ?_ (by assumption) ?_
                  rotate_left
                  · intro X hSX
                    try dsimp only at hSX
                    go_simp <;> with_reducible rfl
                  simp only [Act.put, List.setIfInBounds_toArray, List.set_cons_zero, List.set_cons_succ]
                  refine held_call (i := 27) rfl (by kernel_rfl) (by rfl) (fun K' hK' => ?_)
                  go_simp
                  have HP := Lib.hid (heap_alloc_new X2 (.cells #[.int .i64 0, .int .i64 0, .int .i64 0, .int .i64 0, .int .i64 0, .int .i64 0, .int .i64 0] 72))
                  have HPN := Lib.hid HT.out.size
                  replace HT := Lib.hid (HT.out.next (below_boxC X2 (.cells #[.int .i64 0, .int .i64 0, .int .i64 0, .int .i64 0, .int .i64 0, .int .i64 0, .int .i64 0] 72)))
                  refine held_go hK' (HT.out.pre) ?_
                  try simp only [Act.put, List.setIfInBounds_toArray, List.set_cons_zero, List.set_cons_succ]
                  clear hS0
                  have hS0 := HT.out.pre
                  generalize World.alloc X2 _ = X3 at *
                  generalize X2.heap.size = p at *
                  refine held_call (i := 28) rfl (by kernel_rfl) (by rfl) (fun K' hK' => ?_)
                  refine oper_store_ch (.tmp 10) (.tmp 37) rfl p rfl _ _ _ _ _ _ _ rfl chZ rfl HP.out ?_
                  refine held_go hK' ((HT.out.far HPN.out _).pre) ?_
                  try simp only [Act.put, List.setIfInBounds_toArray, List.set_cons_zero, List.set_cons_succ]
                  refine wpAnyH_done (by kernel_rfl) ?_ _
                  refine NoPanic.normal ?_
                  go_wp2_with fail
                  go_meet
                  exact ⟨p, _, _, _, _, _, _, _, rfl, Lib.hid (setRow_heap _ _ _ (chK _ _ _ _ _ _ _) _ _ HP.out), HPN, Lib.hid (HT.out.far HPN.out _), HF⟩
                · skip
                  go_simp
                  have HP := Lib.hid (heap_alloc_new X2 (.cells #[.int .i64 0, .int .i64 0, .int .i64 0, .int .i64 0, .int .i64 0, .int .i64 0, .int .i64 0] 72))
                  have HPN := Lib.hid HT.out.size
                  replace HT := Lib.hid (HT.out.next (below_boxC X2 (.cells #[.int .i64 0, .int .i64 0, .int .i64 0, .int .i64 0, .int .i64 0, .int .i64 0, .int .i64 0] 72)))
                  refine held_go hK' (HT.out.pre) ?_
                  try simp only [Act.put, List.setIfInBounds_toArray, List.set_cons_zero, List.set_cons_succ]
                  clear hS0
                  have hS0 := HT.out.pre
                  generalize World.alloc X2 _ = X3 at *
                  generalize X2.heap.size = p at *
                  refine held_call (i := 25) rfl (by kernel_rfl) (by rfl) (fun K' hK' => ?_)
                  go_simp
                  refine (failed_any _ _ _).mono ?_
                  rintro e XQ ⟨rfl, hYY⟩
                  obtain rfl := hYY.symm
                  refine held_go hK' (HT.out.pre) ?_
                  try simp only [Act.put, List.setIfInBounds_toArray, List.set_cons_zero, List.set_cons_succ]
                  clear hS0
                  have hS0 := HT.out.pre
                  refine held_take (i := 26) (v := ?_) rfl (by kernel_rfl) (by kernel_rfl) (by kernel_rfl) (fun _ _ _ h => h) (by rfl) ?_ (by assumption) ?_
                  rotate_left
                  · intro X hSX
                    try dsimp only at hSX
                    go_simp <;> with_reducible rfl
                  simp only [Act.put, List.setIfInBounds_toArray, List.set_cons_zero, List.set_cons_succ]
                  refine held_call (i := 28) rfl (by kernel_rfl) (by rfl) (fun K' hK' => ?_)
                  refine oper_store_ch (.tmp 10) (.tmp 37) rfl p rfl _ _ _ _ _ _ _ rfl chZ rfl HP.out ?_
                  refine held_go hK' ((HT.out.far HPN.out _).pre) ?_
                  try simp only [Act.put, List.setIfInBounds_toArray, List.set_cons_zero, List.set_cons_succ]
                  refine wpAnyH_done (by kernel_rfl) ?_ _
                  refine NoPanic.normal ?_
                  go_wp2_with fail
                  go_meet
                  exact ⟨p, _, _, _, _, _, _, _, rfl, Lib.hid (setRow_heap _ _ _ (chK _ _ _ _ _ _ _) _ _ HP.out), HPN, Lib.hid (HT.out.far HPN.out _), HF⟩
              · skip
                go_simp
                have HP := Lib.hid (heap_alloc_new X1 (.cells #[.int .i64 0, .int .i64 0, .int .i64 0, .int .i64 0, .int .i64 0, .int .i64 0, .int .i64 0] 72))
                have HPN := Lib.hid HT.out.size
                replace HT := Lib.hid (HT.out.next (below_boxC X1 (.cells #[.int .i64 0, .int .i64 0, .int .i64 0, .int .i64 0, .int .i64 0, .int .i64 0, .int .i64 0] 72)))
                refine held_go hK' (HT.out.pre) ?_
                try simp only [Act.put, List.setIfInBounds_toArray, List.set_cons_zero, List.set_cons_succ]
                clear hS0
                have hS0 := HT.out.pre
                generalize World.alloc X1 _ = X2 at *
                generalize X1.heap.size = p at *
                refine held_call (i := 24) rfl (by kernel_rfl) (by rfl) (fun K' hK' => ?_)
                go_simp
                refine (HU.out X2).mono ?_
                rintro e X3 ⟨rfl, hb⟩
                replace HT := Lib.hid (HT.out.next hb)
                replace HP := Lib.hid (row_next HP.out hb)
                clear hb
                refine held_go hK' (HT.out.pre) ?_
                try simp only [Act.put, List.setIfInBounds_toArray, List.set_cons_zero, List.set_cons_succ]
                clear hS0
                have hS0 := HT.out.pre
                refine held_call (i := 25) rfl (by kernel_rfl) (by rfl) (fun K' hK' => ?_)
                go_simp
                refine (failed_any _ _ _).mono ?_
                rintro e XQ ⟨rfl, hYY⟩
                obtain rfl := hYY.symm
                refine held_go hK' (HT.out.pre) ?_
                try simp only [Act.put, List.setIfInBounds_toArray, List.set_cons_zero, List.set_cons_succ]
                clear hS0
                have hS0 := HT.out.pre
                refine held_take (i := 26) (v := ?_) rfl (by kernel_rfl) (by kernel_rfl) (by kernel_rfl) (fun _ _ _ h => h) (by rfl) ?_ (by assumption) ?_
                rotate_left
                · intro X hSX
                  try dsimp only at hSX
                  go_simp <;> with_reducible rfl
                simp only [Act.put, List.setIfInBounds_toArray, List.set_cons_zero, List.set_cons_succ]
                refine held_call (i := 28) rfl (by kernel_rfl) (by rfl) (fun K' hK' => ?_)
                refine oper_store_ch (.tmp 10) (.tmp 37) rfl p rfl _ _ _ _ _ _ _ rfl chZ rfl HP.out ?_
                refine held_go hK' ((HT.out.far HPN.out _).pre) ?_
                try simp only [Act.put, List.setIfInBounds_toArray, List.set_cons_zero, List.set_cons_succ]
                refine wpAnyH_done (by kernel_rfl) ?_ _
                refine NoPanic.normal ?_
                go_wp2_with fail
                go_meet
                exact ⟨p, _, _, _, _, _, _, _, rfl, Lib.hid (setRow_heap _ _ _ (chK _ _ _ _ _ _ _) _ _ HP.out), HPN, Lib.hid (HT.out.far HPN.out _), HF⟩
            · skip
              go_simp
              have HP := Lib.hid (heap_alloc_new X1 (.cells #[.int .i64 0, .int .i64 0, .int .i64 0, .int .i64 0, .int .i64 0, .int .i64 0, .int .i64 0] 72))
              have HPN := Lib.hid HT.out.size
              replace HT := Lib.hid (HT.out.next (below_boxC X1 (.cells #[.int .i64 0, .int .i64 0, .int .i64 0, .int .i64 0, .int .i64 0, .int .i64 0, .int .i64 0] 72)))
              refine held_go hK' (HT.out.pre) ?_
              try simp only [Act.put, List.setIfInBounds_toArray, List.set_cons_zero, List.set_cons_succ]
              clear hS0
              have hS0 := HT.out.pre
              generalize World.alloc X1 _ = X2 at *
              generalize X1.heap.size = p at *
              refine held_call (i := 21) rfl (by kernel_rfl) (by rfl) (fun K' hK' => ?_)
              go_simp
              refine (failed_any _ _ _).mono ?_
              rintro e XQ ⟨rfl, hYY⟩
              obtain rfl := hYY.symm
              refine held_go hK' (HT.out.pre) ?_
              try simp only [Act.put, List.setIfInBounds_toArray, List.set_cons_zero, List.set_cons_succ]
              clear hS0
              have hS0 := HT.out.pre
              refine held_call (i := 24) rfl (by kernel_rfl) (by rfl) (fun K' hK' => ?_)
              go_simp
              refine (HU.out X2).mono ?_
              rintro e X3 ⟨rfl, hb⟩
              replace HT := Lib.hid (HT.out.next hb)
              replace HP := Lib.hid (row_next HP.out hb)
              clear hb
              refine held_go hK' (HT.out.pre) ?_
              try simp only [Act.put, List.setIfInBounds_toArray, List.set_cons_zero, List.set_cons_succ]
              clear hS0
              have hS0 := HT.out.pre
              refine held_call (i := 25) rfl (by kernel_rfl) (by rfl) (fun K' hK' => ?_)
              go_simp
              refine (failed_any _ _ _).mono ?_
              rintro e XQ ⟨rfl, hYY⟩
              obtain rfl := hYY.symm
              refine held_go hK' (HT.out.pre) ?_
              try simp only [Act.put, List.setIfInBounds_toArray, List.set_cons_zero, List.set_cons_succ]
              clear hS0
              have hS0 := HT.out.pre
              refine held_take (i := 26) (v := ?_) rfl (by kernel_rfl) (by kernel_rfl) (by kernel_rfl) (fun _ _ _ h => h) (by rfl) ?_ (by assumption) ?_
              rotate_left
              · intro X hSX
                try dsimp only at hSX
                go_simp <;> with_reducible rfl
              simp only [Act.put, List.setIfInBounds_toArray, List.set_cons_zero, List.set_cons_succ]
              refine held_call (i := 28) rfl (by kernel_rfl) (by rfl) (fun K' hK' => ?_)
              refine oper_store_ch (.tmp 10) (.tmp 37) rfl p rfl _ _ _ _ _ _ _ rfl chZ rfl HP.out ?_
              refine held_go hK' ((HT.out.far HPN.out _).pre) ?_
              try simp only [Act.put, List.setIfInBounds_toArray, List.set_cons_zero, List.set_cons_succ]
              refine wpAnyH_done (by kernel_rfl) ?_ _
              refine NoPanic.normal ?_
              go_wp2_with fail
              go_meet
              exact ⟨p, _, _, _, _, _, _, _, rfl, Lib.hid (setRow_heap _ _ _ (chK _ _ _ _ _ _ _) _ _ HP.out), HPN, Lib.hid (HT.out.far HPN.out _), HF⟩
          · skip
            go_simp
            have HP := Lib.hid (heap_alloc_new X1 (.cells #[.int .i64 0, .int .i64 0, .int .i64 0, .int .i64 0, .int .i64 0, .int .i64 0, .int .i64 0] 72))
            have HPN := Lib.hid HT.out.size
            replace HT := Lib.hid (HT.out.next (below_boxC X1 (.cells #[.int .i64 0, .int .i64 0, .int .i64 0, .int .i64 0, .int .i64 0, .int .i64 0, .int .i64 0] 72)))
            refine held_go hK' (HT.out.pre) ?_
            try simp only [Act.put, List.setIfInBounds_toArray, List.set_cons_zero, List.set_cons_succ]
            clear hS0
            have hS0 := HT.out.pre
            generalize World.alloc X1 _ = X2 at *
            generalize X1.heap.size = p at *
            refine held_call (i := 17) rfl (by kernel_rfl) (by rfl) (fun K' hK' => ?_)
            go_simp
            refine (failed_any _ _ _).mono ?_
            rintro e XQ ⟨rfl, hYY⟩
            obtain rfl := hYY.symm
            refine held_go hK' (HT.out.pre) ?_
            try simp only [Act.put, List.setIfInBounds_toArray, List.set_cons_zero, List.set_cons_succ]
            clear hS0
            have hS0 := HT.out.pre
            refine held_call (i := 21) rfl (by kernel_rfl) (by rfl) (fun K' hK' => ?_)
            go_simp
            refine (failed_any _ _ _).mono ?_
            rintro e XQ ⟨rfl, hYY⟩
            obtain rfl := hYY.symm
            refine held_go hK' (HT.out.pre) ?_
            try simp only [Act.put, List.setIfInBounds_toArray, List.set_cons_zero, List.set_cons_succ]
            clear hS0
            have hS0 := HT.out.pre
            refine held_call (i := 24) rfl (by kernel_rfl) (by rfl) (fun K' hK' => ?_)
            go_simp
            refine (HU.out X2).mono ?_
            rintro e X3 ⟨rfl, hb⟩
            replace HT := Lib.hid (HT.out.next hb)
            replace HP := Lib.hid (row_next HP.out hb)
            clear hb
            refine held_go hK' (HT.out.pre) ?_
            try simp only [Act.put, List.setIfInBounds_toArray, List.set_cons_zero, List.set_cons_succ]
            clear hS0
            have hS0 := HT.out.pre
            refine held_call (i := 25) rfl (by kernel_rfl) (by rfl) (fun K' hK' => ?_)
            go_simp
            refine (failed_any _ _ _).mono ?_
            rintro e XQ ⟨rfl, hYY⟩
            obtain rfl := hYY.symm
            refine held_go hK' (HT.out.pre) ?_
            try simp only [Act.put, List.setIfInBounds_toArray, List.set_cons_zero, List.set_cons_succ]
            clear hS0
            have hS0 := HT.out.pre
            refine held_take (i := 26) (v := ?_) rfl (by kernel_rfl) (by kernel_rfl) (by kernel_rfl) (fun _ _ _ h => h) (by rfl) ?_ (by assumption) ?_
            rotate_left
            · intro X hSX
              try dsimp only at hSX
              go_simp <;> with_reducible rfl
            simp only [Act.put, List.setIfInBounds_toArray, List.set_cons_zero, List.set_cons_succ]
            refine held_call (i := 28) rfl (by kernel_rfl) (by rfl) (fun K' hK' => ?_)
            refine oper_store_ch (.tmp 10) (.tmp 37) rfl p rfl _ _ _ _ _ _ _ rfl chZ rfl HP.out ?_
            refine held_go hK' ((HT.out.far HPN.out _).pre) ?_
            try simp only [Act.put, List.setIfInBounds_toArray, List.set_cons_zero, List.set_cons_succ]
            refine wpAnyH_done (by kernel_rfl) ?_ _
            refine NoPanic.normal ?_
            go_wp2_with fail
            go_meet
            exact ⟨p, _, _, _, _, _, _, _, rfl, Lib.hid (setRow_heap _ _ _ (chK _ _ _ _ _ _ _) _ _ HP.out), HPN, Lib.hid (HT.out.far HPN.out _), HF⟩
        · skip
          go_simp
          have HP := Lib.hid (heap_alloc_new X1 (.cells #[.int .i64 0, .int .i64 0, .int .i64 0, .int .i64 0, .int .i64 0, .int .i64 0, .int .i64 0] 72))
          have HPN := Lib.hid HT.out.size
          replace HT := Lib.hid (HT.out.next (below_boxC X1 (.cells #[.int .i64 0, .int .i64 0, .int .i64 0, .int .i64 0, .int .i64 0, .int .i64 0, .int .i64 0] 72)))
          refine held_go hK' (HT.out.pre) ?_
          try simp only [Act.put, List.setIfInBounds_toArray, List.set_cons_zero, List.set_cons_succ]
          clear hS0
          have hS0 := HT.out.pre
          generalize World.alloc X1 _ = X2 at *
          generalize X1.heap.size = p at *
          refine held_call (i := 13) rfl (by kernel_rfl) (by rfl) (fun K' hK' => ?_)
          go_simp
          refine (failed_any _ _ _).mono ?_
          rintro e XQ ⟨rfl, hYY⟩
          obtain rfl := hYY.symm
          refine held_go hK' (HT.out.pre) ?_
          try simp only [Act.put, List.setIfInBounds_toArray, List.set_cons_zero, List.set_cons_succ]
          clear hS0
          have hS0 := HT.out.pre
          refine held_call (i := 17) rfl (by kernel_rfl) (by rfl) (fun K' hK' => ?_)
          go_simp
          refine (failed_any _ _ _).mono ?_
          rintro e XQ ⟨rfl, hYY⟩
          obtain rfl := hYY.symm
          refine held_go hK' (HT.out.pre) ?_
          try simp only [Act.put, List.setIfInBounds_toArray, List.set_cons_zero, List.set_cons_succ]
          clear hS0
          have hS0 := HT.out.pre
          refine held_call (i := 21) rfl (by kernel_rfl) (by rfl) (fun K' hK' => ?_)
          go_simp
          refine (failed_any _ _ _).mono ?_
          rintro e XQ ⟨rfl, hYY⟩
          obtain rfl := hYY.symm
          refine held_go hK' (HT.out.pre) ?_
          try simp only [Act.put, List.setIfInBounds_toArray, List.set_cons_zero, List.set_cons_succ]
          clear hS0
          have hS0 := HT.out.pre
          refine held_call (i := 24) rfl (by kernel_rfl) (by rfl) (fun K' hK' => ?_)
          go_simp
          refine (HU.out X2).mono ?_
          rintro e X3 ⟨rfl, hb⟩
          replace HT := Lib.hid (HT.out.next hb)
          replace HP := Lib.hid (row_next HP.out hb)
          clear hb
          refine held_go hK' (HT.out.pre) ?_
          try simp only [Act.put, List.setIfInBounds_toArray, List.set_cons_zero, List.set_cons_succ]
          clear hS0
          have hS0 := HT.out.pre
          refine held_call (i := 25) rfl (by kernel_rfl) (by rfl) (fun K' hK' => ?_)
          go_simp
          refine (failed_any _ _ _).mono ?_
          rintro e XQ ⟨rfl, hYY⟩
          obtain rfl := hYY.symm
          refine held_go hK' (HT.out.pre) ?_
          try simp only [Act.put, List.setIfInBounds_toArray, List.set_cons_zero, List.set_cons_succ]
          clear hS0
          have hS0 := HT.out.pre
          refine held_take (i := 26) (v := ?_) rfl (by kernel_rfl) (by kernel_rfl) (by kernel_rfl) (fun _ _ _ h => h) (by rfl) ?_ (by assumption) ?_
          rotate_left
          · intro X hSX
            try dsimp only at hSX
            go_simp <;> with_reducible rfl
          simp only [Act.put, List.setIfInBounds_toArray, List.set_cons_zero, List.set_cons_succ]
          refine held_call (i := 28) rfl (by kernel_rfl) (by rfl) (fun K' hK' => ?_)
          refine oper_store_ch (.tmp 10) (.tmp 37) rfl p rfl _ _ _ _ _ _ _ rfl chZ rfl HP.out ?_
          refine held_go hK' ((HT.out.far HPN.out _).pre) ?_
          try simp only [Act.put, List.setIfInBounds_toArray, List.set_cons_zero, List.set_cons_succ]
          refine wpAnyH_done (by kernel_rfl) ?_ _
          refine NoPanic.normal ?_
          go_wp2_with fail
          go_meet
          exact ⟨p, _, _, _, _, _, _, _, rfl, Lib.hid (setRow_heap _ _ _ (chK _ _ _ _ _ _ _) _ _ HP.out), HPN, Lib.hid (HT.out.far HPN.out _), HF⟩
      · skip
        go_simp
        have HP := Lib.hid (heap_alloc_new X0 (.cells #[.int .i64 0, .int .i64 0, .int .i64 0, .int .i64 0, .int .i64 0, .int .i64 0, .int .i64 0] 72))
        have HPN := Lib.hid HT.out.size
        replace HT := Lib.hid (HT.out.next (below_boxC X0 (.cells #[.int .i64 0, .int .i64 0, .int .i64 0, .int .i64 0, .int .i64 0, .int .i64 0, .int .i64 0] 72)))
        refine held_go hK' (HT.out.pre) ?_
        try simp only [Act.put, List.setIfInBounds_toArray, List.set_cons_zero, List.set_cons_succ]
        clear hS0
        have hS0 := HT.out.pre
        generalize World.alloc X0 _ = X1 at *
        generalize X0.heap.size = p at *
        refine held_call (i := 1) rfl (by kernel_rfl) (by rfl) (fun K' hK' => ?_)
        go_simp
        refine (HM.out X1).mono ?_
        rintro e X2 ⟨rfl, hb⟩
        replace HT := Lib.hid (HT.out.next hb)
        replace HP := Lib.hid (row_next HP.out hb)
        clear hb
        refine held_go hK' (HT.out.pre) ?_
        try simp only [Act.put, List.setIfInBounds_toArray, List.set_cons_zero, List.set_cons_succ]
        clear hS0
        have hS0 := HT.out.pre
        refine held_take (i := 2) (v := ?_) rfl (by kernel_rfl) (by kernel_rfl) (by kernel_rfl) (fun _ _ _ h => h) (by rfl) ?_ (by assumption) ?_
        rotate_left
        · intro X hSX
          try dsimp only at hSX
          go_simp <;> with_reducible rfl
        simp only [Act.put, List.setIfInBounds_toArray, List.set_cons_zero, List.set_cons_succ]
        refine held_take (i := 3) (v := ?_) rfl (by kernel_rfl) (by kernel_rfl) (by kernel_rfl) (fun _ _ _ h => h) (by rfl) ?_ (by assumption) ?_
        rotate_left
        · intro X hSX
          try dsimp only at hSX
          go_simp <;> with_reducible rfl
        simp only [Act.put, List.setIfInBounds_toArray, List.set_cons_zero, List.set_cons_succ]
        refine held_skip (i := 4) rfl (by kernel_rfl) (by kernel_rfl) (by kernel_rfl) (fun _ _ _ h => h) (by rfl) (by assumption) ?_
        simp only [Act.put, List.setIfInBounds_toArray, List.set_cons_zero, List.set_cons_succ]
        refine held_skip (i := 5) rfl (by kernel_rfl) (by kernel_rfl) (by kernel_rfl) (fun _ _ _ h => h) (by rfl) (by assumption) ?_
        simp only [Act.put, List.setIfInBounds_toArray, List.set_cons_zero, List.set_cons_succ]
        refine held_skip (i := 6) rfl (by kernel_rfl) (by kernel_rfl) (by kernel_rfl) (fun _ _ _ h => h) (by rfl) (by assumption) ?_
        simp only [Act.put, List.setIfInBounds_toArray, List.set_cons_zero, List.set_cons_succ]
        refine held_take (i := 7) (v := ?_) rfl (by kernel_rfl) (by kernel_rfl) (by kernel_rfl) (fun _ _ _ h => h) (by rfl) ?_ (by assumption) ?_
        rotate_left
        · intro X hSX
          try dsimp only at hSX
          go_simp <;> with_reducible rfl
        simp only [Act.put, List.setIfInBounds_toArray, List.set_cons_zero, List.set_cons_succ]
        refine held_take (i := 8) (v := ?_) rfl (by kernel_rfl) (by kernel_rfl) (by kernel_rfl) (fun _ _ _ h => h) (by rfl) ?_ (by assumption) ?_
        rotate_left
        · intro X hSX
          try dsimp only at hSX
          go_simp <;> with_reducible rfl
        simp only [Act.put, List.setIfInBounds_toArray, List.set_cons_zero, List.set_cons_succ]
        refine held_skip (i := 9) rfl (by kernel_rfl) (by kernel_rfl) (by kernel_rfl) (fun _ _ _ h => h) (by rfl) (by assumption) ?_
        simp only [Act.put, List.setIfInBounds_toArray, List.set_cons_zero, List.set_cons_succ]
        refine held_skip (i := 10) rfl (by kernel_rfl) (by kernel_rfl) (by kernel_rfl) (fun _ _ _ h => h) (by rfl) (by assumption) ?_
        simp only [Act.put, List.setIfInBounds_toArray, List.set_cons_zero, List.set_cons_succ]
        refine held_skip (i := 11) rfl (by kernel_rfl) (by kernel_rfl) (by kernel_rfl) (fun _ _ _ h => h) (by rfl) (by assumption) ?_
        simp only [Act.put, List.setIfInBounds_toArray, List.set_cons_zero, List.set_cons_succ]
        refine held_take (i := 12) (v := ?_) rfl (by kernel_rfl) (by kernel_rfl) (by kernel_rfl) (fun _ _ _ h => h) (by rfl) ?_ (by assumption) ?_
        rotate_left
        · intro X hSX
          try dsimp only at hSX
          go_simp <;> with_reducible rfl
        simp only [Act.put, List.setIfInBounds_toArray, List.set_cons_zero, List.set_cons_succ]
        refine held_call (i := 13) rfl (by kernel_rfl) (by rfl) (fun K' hK' => ?_)
        go_simp
        refine (failed_any _ _ _).mono ?_
        rintro e XQ ⟨rfl, hYY⟩
        obtain rfl := hYY.symm
        refine held_go hK' (HT.out.pre) ?_
        try simp only [Act.put, List.setIfInBounds_toArray, List.set_cons_zero, List.set_cons_succ]
        clear hS0
        have hS0 := HT.out.pre
        refine held_call (i := 17) rfl (by kernel_rfl) (by rfl) (fun K' hK' => ?_)
        go_simp
        refine (failed_any _ _ _).mono ?_
        rintro e XQ ⟨rfl, hYY⟩
        obtain rfl := hYY.symm
        refine held_go hK' (HT.out.pre) ?_
        try simp only [Act.put, List.setIfInBounds_toArray, List.set_cons_zero, List.set_cons_succ]
        clear hS0
        have hS0 := HT.out.pre
        refine held_call (i := 21) rfl (by kernel_rfl) (by rfl) (fun K' hK' => ?_)
        go_simp
        refine (failed_any _ _ _).mono ?_
        rintro e XQ ⟨rfl, hYY⟩
        obtain rfl := hYY.symm
        refine held_go hK' (HT.out.pre) ?_
        try simp only [Act.put, List.setIfInBounds_toArray, List.set_cons_zero, List.set_cons_succ]
        clear hS0
        have hS0 := HT.out.pre
        refine held_call (i := 24) rfl (by kernel_rfl) (by rfl) (fun K' hK' => ?_)
        go_simp
        refine (HU.out X2).mono ?_
        rintro e X3 ⟨rfl, hb⟩
        replace HT := Lib.hid (HT.out.next hb)
        replace HP := Lib.hid (row_next HP.out hb)
        clear hb
        refine held_go hK' (HT.out.pre) ?_
        try simp only [Act.put, List.setIfInBounds_toArray, List.set_cons_zero, List.set_cons_succ]
        clear hS0
        have hS0 := HT.out.pre
        refine held_call (i := 25) rfl (by kernel_rfl) (by rfl) (fun K' hK' => ?_)
        go_simp
        refine (failed_any _ _ _).mono ?_
        rintro e XQ ⟨rfl, hYY⟩
        obtain rfl := hYY.symm
        refine held_go hK' (HT.out.pre) ?_
        try simp only [Act.put, List.setIfInBounds_toArray, List.set_cons_zero, List.set_cons_succ]
        clear hS0
        have hS0 := HT.out.pre
        refine held_take (i := 26) (v := ?_) rfl (by kernel_rfl) (by kernel_rfl) (by kernel_rfl) (fun _ _ _ h => h) (by rfl) ?_ (by assumption) ?_
        rotate_left
        · intro X hSX
          try dsimp only at hSX
          go_simp <;> with_reducible rfl
        simp only [Act.put, List.setIfInBounds_toArray, List.set_cons_zero, List.set_cons_succ]
        refine held_call (i := 28) rfl (by kernel_rfl) (by rfl) (fun K' hK' => ?_)
        refine oper_store_ch (.tmp 10) (.tmp 37) rfl p rfl _ _ _ _ _ _ _ rfl chZ rfl HP.out ?_
        refine held_go hK' ((HT.out.far HPN.out _).pre) ?_
        try simp only [Act.put, List.setIfInBounds_toArray, List.set_cons_zero, List.set_cons_succ]
        refine wpAnyH_done (by kernel_rfl) ?_ _
        refine NoPanic.normal ?_
        go_wp2_with fail
        go_meet
        exact ⟨p, _, _, _, _, _, _, _, rfl, Lib.hid (setRow_heap _ _ _ (chK _ _ _ _ _ _ _) _ _ HP.out), HPN, Lib.hid (HT.out.far HPN.out _), HF⟩
    have HM := Lib.hid (fun X => (valmodel_any m X))
    rw [h0] at HM HF
    clear h0
    cases h1 : drvU d
    · have HD := Lib.hid (fun X => (valdrive_any d X))
      rw [h1] at HD HF
      clear h1
      replace HT := Lib.hid (HT.out.next (Below.refl Y0.heap.size Y0).drew)
      refine wp_region_noPanic ?_
      refine wp_region_held_drew (S := (fun X => Bx w X [(mdK m, 23), (drK d, 25), (crQ c ad cap, 30)])) (by kernel_rfl) (HT.out.pre) (fun hS0 => ?_)
      generalize World.drew Y0 = X0 at *
      refine held_take (i := 0) (v := ?_) rfl (by kernel_rfl) (by kernel_rfl) (by kernel_rfl) (fun _ _ _ h => h) (by rfl) ?_ (by assumption) ?_
      rotate_left
      · intro X hSX
        try dsimp only at hSX
        obtain ⟨_, m0, m1, m2, m3, m4⟩ := hSX.m
        go_simp <;> with_reducible rfl
      simp only [Act.put, List.setIfInBounds_toArray, List.set_cons_zero, List.set_cons_succ]
      refine held_take (i := 14) (v := ?_) rfl (by kernel_rfl) (by kernel_rfl) (by kernel_rfl) (fun _ _ _ h => h) (by rfl) ?_ (by assumption) ?_
      rotate_left
      · intro X hSX
        try dsimp only at hSX
        go_simp <;> with_reducible rfl
      simp only [Act.put, List.setIfInBounds_toArray, List.set_cons_zero, List.set_cons_succ]
      refine held_take (i := 15) (v := ?_) rfl (by kernel_rfl) (by kernel_rfl) (by kernel_rfl) (fun _ _ _ h => h) (by rfl) ?_ (by assumption) ?_
      rotate_left
      · intro X hSX
        try dsimp only at hSX
        obtain ⟨_, d0, d1, d2, d3, d4, d5⟩ := hSX.d
        go_simp <;> with_reducible rfl
      simp only [Act.put, List.setIfInBounds_toArray, List.set_cons_zero, List.set_cons_succ]
      refine held_take (i := 16) (v := ?_) rfl (by kernel_rfl) (by kernel_rfl) (by kernel_rfl) (fun _ _ _ h => h) (by rfl) ?_ (by assumption) ?_
      rotate_left
      · intro X hSX
        try dsimp only at hSX
        go_simp <;> with_reducible rfl
      simp only [Act.put, List.setIfInBounds_toArray, List.set_cons_zero, List.set_cons_succ]
      refine held_take (i := 18) (v := ?_) rfl (by kernel_rfl) (by kernel_rfl) (by kernel_rfl) (fun _ _ _ h => h) (by rfl) ?_ (by assumption) ?_
      rotate_left
      · intro X hSX
        try dsimp only at hSX
        go_simp <;> with_reducible rfl
      simp only [Act.put, List.setIfInBounds_toArray, List.set_cons_zero, List.set_cons_succ]
      refine held_take (i := 19) (v := ?_) rfl (by kernel_rfl) (by kernel_rfl) (by kernel_rfl) (fun _ _ _ h => h) (by rfl) ?_ (by assumption) ?_
      rotate_left
      · intro X hSX
        try dsimp only at hSX
        obtain ⟨_, d0, d1, d2, d3, d4, d5⟩ := hSX.d
        go_simp <;> with_reducible rfl
      simp only [Act.put, List.setIfInBounds_toArray, List.set_cons_zero, List.set_cons_succ]
      refine held_take (i := 20) (v := ?_) rfl (by kernel_rfl) (by kernel_rfl) (by kernel_rfl) (fun _ _ _ h => h) (by rfl) ?_ (by assumption) ?_
      rotate_left
      · intro X hSX
        try dsimp only at hSX
        go_simp <;> with_reducible rfl
      simp only [Act.put, List.setIfInBounds_toArray, List.set_cons_zero, List.set_cons_succ]
      refine held_take (i := 22) (v := ?_) rfl (by kernel_rfl) (by kernel_rfl) (by kernel_rfl) (fun _ _ _ h => h) (by rfl) ?_ (by assumption) ?_
      rotate_left
      · intro X hSX
        try dsimp only at hSX
        obtain ⟨_, m0, m1, m2, m3, m4⟩ := hSX.m
        go_simp <;> with_reducible rfl
      simp only [Act.put, List.setIfInBounds_toArray, List.set_cons_zero, List.set_cons_succ]
      refine held_take (i := 23) (v := ?_) rfl (by kernel_rfl) (by kernel_rfl) (by kernel_rfl) (fun _ _ _ h => h) (by rfl) ?_ (by assumption) ?_
      rotate_left
      · intro X hSX
        try dsimp only at hSX
        obtain ⟨_, d0, d1, d2, d3, d4, d5⟩ := hSX.d
        go_simp <;> with_reducible rfl
      simp only [Act.put, List.setIfInBounds_toArray, List.set_cons_zero, List.set_cons_succ]
      refine held_two (i := 1) (j := 27) rfl rfl (by kernel_rfl) (by rfl) (by rfl) (fun K' hK' => ?_) (fun K' hK' => ?_)
      · skip
        go_simp
        refine (HM.out X0).mono ?_
        rintro e X1 ⟨rfl, hb⟩
        replace HT := Lib.hid (HT.out.next hb)
        clear hb
        refine held_go hK' (HT.out.pre) ?_
        try simp only [Act.put, List.setIfInBounds_toArray, List.set_cons_zero, List.set_cons_succ]
        clear hS0
        have hS0 := HT.out.pre
        refine held_take (i := 2) (v := ?_) rfl (by kernel_rfl) (by kernel_rfl) (by kernel_rfl) (fun _ _ _ h => h) (by rfl) ?_ (by assumption) ?_
        rotate_left
        · intro X hSX
          try dsimp only at hSX
          go_simp <;> with_reducible rfl
        simp only [Act.put, List.setIfInBounds_toArray, List.set_cons_zero, List.set_cons_succ]
        refine held_take (i := 3) (v := ?_) rfl (by kernel_rfl) (by kernel_rfl) (by kernel_rfl) (fun _ _ _ h => h) (by rfl) ?_ (by assumption) ?_
        rotate_left
        · intro X hSX
          try dsimp only at hSX
          go_simp <;> with_reducible rfl
        simp only [Act.put, List.setIfInBounds_toArray, List.set_cons_zero, List.set_cons_succ]
        refine held_take (i := 4) (v := ?_) rfl (by kernel_rfl) (by kernel_rfl) (by kernel_rfl) (fun _ _ _ h => h) (by rfl) ?_ (by assumption) ?_
        rotate_left
        · intro X hSX
          try dsimp only at hSX
          obtain ⟨_, d0, d1, d2, d3, d4, d5⟩ := hSX.d
          go_simp <;> with_reducible rfl
        simp only [Act.put, List.setIfInBounds_toArray, List.set_cons_zero, List.set_cons_succ]
        refine held_two (i := 5) (j := 27) rfl rfl (by kernel_rfl) (by rfl) (by rfl) (fun K' hK' => ?_) (fun K' hK' => ?_)
        · skip
          go_simp
          refine (HD.out X1).mono ?_
          rintro e X2 ⟨rfl, hb⟩
          replace HT := Lib.hid (HT.out.next hb)
          clear hb
          refine held_go hK' (HT.out.pre) ?_
          try simp only [Act.put, List.setIfInBounds_toArray, List.set_cons_zero, List.set_cons_succ]
          clear hS0
          have hS0 := HT.out.pre
          refine held_take (i := 6) (v := ?_) rfl (by kernel_rfl) (by kernel_rfl) (by kernel_rfl) (fun _ _ _ h => h) (by rfl) ?_ (by assumption) ?_
          rotate_left
          · intro X hSX
            try dsimp only at hSX
            go_simp <;> with_reducible rfl
          simp only [Act.put, List.setIfInBounds_toArray, List.set_cons_zero, List.set_cons_succ]
          refine held_take (i := 7) (v := ?_) rfl (by kernel_rfl) (by kernel_rfl) (by kernel_rfl) (fun _ _ _ h => h) (by rfl) ?_ (by assumption) ?_
          rotate_left
          · intro X hSX
            try dsimp only at hSX
            go_simp <;> with_reducible rfl
          simp only [Act.put, List.setIfInBounds_toArray, List.set_cons_zero, List.set_cons_succ]
          refine held_take (i := 8) (v := ?_) rfl (by kernel_rfl) (by kernel_rfl) (by kernel_rfl) (fun _ _ _ h => h) (by rfl) ?_ (by assumption) ?_
          rotate_left
          · intro X hSX
            try dsimp only at hSX
            go_simp <;> with_reducible rfl
          simp only [Act.put, List.setIfInBounds_toArray, List.set_cons_zero, List.set_cons_succ]
          refine held_skip (i := 9) rfl (by kernel_rfl) (by kernel_rfl) (by kernel_rfl) (fun _ _ _ h => h) (by rfl) (by assumption) ?_
          simp only [Act.put, List.setIfInBounds_toArray, List.set_cons_zero, List.set_cons_succ]
          refine held_skip (i := 10) rfl (by kernel_rfl) (by kernel_rfl) (by kernel_rfl) (fun _ _ _ h => h) (by rfl) (by assumption) ?_
          simp only [Act.put, List.setIfInBounds_toArray, List.set_cons_zero, List.set_cons_succ]
          refine held_skip (i := 11) rfl (by kernel_rfl) (by kernel_rfl) (by kernel_rfl) (fun _ _ _ h => h) (by rfl) (by assumption) ?_
          simp only [Act.put, List.setIfInBounds_toArray, List.set_cons_zero, List.set_cons_succ]
          refine held_take (i := 12) (v := ?_) rfl (by kernel_rfl) (by kernel_rfl) (by kernel_rfl) (fun _ _ _ h => h) (by rfl) ?_ (by assumption) ?_
          rotate_left
          · intro X hSX
            try dsimp only at hSX
            go_simp <;> with_reducible rfl
          simp only [Act.put, List.setIfInBounds_toArray, List.set_cons_zero, List.set_cons_succ]
          refine held_two (i := 13) (j := 27) rfl rfl (by kernel_rfl) (by rfl) (by rfl) (fun K' hK' => ?_) (fun K' hK' => ?_)
          · skip
            go_simp
            refine (failed_any _ _ _).mono ?_
            rintro e XQ ⟨rfl, hYY⟩
            obtain rfl := hYY.symm
            refine held_go hK' (HT.out.pre) ?_
            try simp only [Act.put, List.setIfInBounds_toArray, List.set_cons_zero, List.set_cons_succ]
            clear hS0
            have hS0 := HT.out.pre
            refine held_two (i := 17) (j := 27) rfl rfl (by kernel_rfl) (by rfl) (by rfl) (fun K' hK' => ?_) (fun K' hK' => ?_)
            · skip
              go_simp
              refine (failed_any _ _ _).mono ?_
              rintro e XQ ⟨rfl, hYY⟩
              obtain rfl := hYY.symm
              refine held_go hK' (HT.out.pre) ?_
              try simp only [Act.put, List.setIfInBounds_toArray, List.set_cons_zero, List.set_cons_succ]
              clear hS0
              have hS0 := HT.out.pre
              refine held_two (i := 21) (j := 27) rfl rfl (by kernel_rfl) (by rfl) (by rfl) (fun K' hK' => ?_) (fun K' hK' => ?_)
              · skip
                go_simp
                refine (failed_any _ _ _).mono ?_
                rintro e XQ ⟨rfl, hYY⟩
                obtain rfl := hYY.symm
                refine held_go hK' (HT.out.pre) ?_
                try simp only [Act.put, List.setIfInBounds_toArray, List.set_cons_zero, List.set_cons_succ]
                clear hS0
                have hS0 := HT.out.pre
                refine held_two (i := 24) (j := 27) rfl rfl (by kernel_rfl) (by rfl) (by rfl) (fun K' hK' => ?_) (fun K' hK' => ?_)
                · skip
                  go_simp
                  refine (HU.out X2).mono ?_
                  rintro e X3 ⟨rfl, hb⟩
                  replace HT := Lib.hid (HT.out.next hb)
                  clear hb
                  refine held_go hK' (HT.out.pre) ?_
                  try simp only [Act.put, List.setIfInBounds_toArray, List.set_cons_zero, List.set_cons_succ]
                  clear hS0
                  have hS0 := HT.out.pre
                  refine held_two (i := 25) (j := 27) rfl rfl (by kernel_rfl) (by rfl) (by rfl) (fun K' hK' => ?_) (fun K' hK' => ?_)
                  · skip
                    go_simp
                    refine (failed_any _ _ _).mono ?_
                    rintro e XQ ⟨rfl, hYY⟩
                    obtain rfl := hYY.symm
                    refine held_go hK' (HT.out.pre) ?_
                    try simp only [Act.put, List.setIfInBounds_toArray, List.set_cons_zero, List.set_cons_succ]
                    clear hS0
                    have hS0 := HT.out.pre
                    refine held_take (i := 26) (v := ?_) rfl (by kernel_rfl) (by kernel_rfl) (by kernel_rfl) (fun _ _ _ h => h) (by rfl) ?_ (by assumption) ?_
                    rotate_left
                    · intro X hSX
                      try dsimp only at hSX
                      go_simp <;> with_reducible rfl
                    simp only [Act.put, List.setIfInBounds_toArray, List.set_cons_zero, List.set_cons_succ]
                    refine held_call (i := 27) rfl (by kernel_rfl) (by rfl) (fun K' hK' => ?_)
                    go_simp
                    have HP := Lib.hid (heap_alloc_new X3 (.cells #[.int .i64 0, .int .i64 0, .int .i64 0, .int .i64 0, .int .i64 0, .int .i64 0, .int .i64 0] 72))
                    have HPN := Lib.hid HT.out.size
                    replace HT := Lib.hid (HT.out.next (below_boxC X3 (.cells #[.int .i64 0, .int .i64 0, .int .i64 0, .int .i64 0, .int .i64 0, .int .i64 0, .int .i64 0] 72)))
                    refine held_go hK' (HT.out.pre) ?_
                    try simp only [Act.put, List.setIfInBounds_toArray, List.set_cons_zero, List.set_cons_succ]
                    clear hS0
                    have hS0 := HT.out.pre
                    generalize World.alloc X3 _ = X4 at *
                    generalize X3.heap.size = p at *
                    refine held_call (i := 28) rfl (by kernel_rfl) (by rfl) (fun K' hK' => ?_)
                    refine oper_store_ch (.tmp 10) (.tmp 37) rfl p rfl _ _ _ _ _ _ _ rfl chZ rfl HP.out ?_
                    refine held_go hK' ((HT.out.far HPN.out _).pre) ?_
                    try simp only [Act.put, List.setIfInBounds_toArray, List.set_cons_zero, List.set_cons_succ]
                    refine wpAnyH_done (by kernel_rfl) ?_ _
                    refine NoPanic.normal ?_
                    go_wp2_with fail
                    go_meet
                    exact ⟨p, _, _, _, _, _, _, _, rfl, Lib.hid (setRow_heap _ _ _ (chK _ _ _ _ _ _ _) _ _ HP.out), HPN, Lib.hid (HT.out.far HPN.out _), HF⟩
                  · skip
                    go_simp
                    have HP := Lib.hid (heap_alloc_new X3 (.cells #[.int .i64 0, .int .i64 0, .int .i64 0, .int .i64 0, .int .i64 0, .int .i64 0, .int .i64 0] 72))
                    have HPN := Lib.hid HT.out.size
                    replace HT := Lib.hid (HT.out.next (below_boxC X3 (.cells #[.int .i64 0, .int .i64 0, .int .i64 0, .int .i64 0, .int .i64 0, .int .i64 0, .int .i64 0] 72)))
                    refine held_go hK' (HT.out.pre) ?_
                    try simp only [Act.put, List.setIfInBounds_toArray, List.set_cons_zero, List.set_cons_succ]
                    clear hS0
                    have hS0 := HT.out.pre
                    generalize World.alloc X3 _ = X4 at *
                    generalize X3.heap.size = p at *
                    refine held_call (i := 25) rfl (by kernel_rfl) (by rfl) (fun K' hK' => ?_)
                    go_simp
                    refine (failed_any _ _ _).mono ?_
                    rintro e XQ ⟨rfl, hYY⟩
                    obtain rfl := hYY.symm
                    refine held_go hK' (HT.out.pre) ?_
                    try simp only [Act.put, List.setIfInBounds_toArray, List.set_cons_zero, List.set_cons_succ]
                    clear hS0
                    have hS0 := HT.out.pre
                    refine held_take (i := 26) (v := ?_) rfl (by kernel_rfl) (by kernel_rfl) (by kernel_rfl) (fun _ _ _ h => h) (by rfl) ?_ (by assumption) ?_
                    rotate_left
                    · intro X hSX
                      try dsimp only at hSX
                      go_simp <;> with_reducible rfl
                    simp only [Act.put, List.setIfInBounds_toArray, List.set_cons_zero, List.set_cons_succ]
                    refine held_call (i := 28) rfl (by kernel_rfl) (by rfl) (fun K' hK' => ?_)
                    refine oper_store_ch (.tmp 10) (.tmp 37) rfl p rfl _ _ _ _ _ _ _ rfl chZ rfl HP.out ?_
                    refine held_go hK' ((HT.out.far HPN.out _).pre) ?_
                    try simp only [Act.put, List.setIfInBounds_toArray, List.set_cons_zero, List.set_cons_succ]
                    refine wpAnyH_done (by kernel_rfl) ?_ _
                    refine NoPanic.normal ?_
                    go_wp2_with fail
                    go_meet
                    exact ⟨p, _, _, _, _, _, _, _, rfl, Lib.hid (setRow_heap _ _ _ (chK _ _ _ _ _ _ _) _ _ HP.out), HPN, Lib.hid (HT.out.far HPN.out _), HF⟩
                · skip
                  go_simp
                  have HP := Lib.hid (heap_alloc_new X2 (.cells #[.int .i64 0, .int .i64 0, .int .i64 0, .int .i64 0, .int .i64 0, .int .i64 0, .int .i64 0] 72))
                  have HPN := Lib.hid HT.out.size
                  replace HT := Lib.hid (HT.out.next (below_boxC X2 (.cells #[.int .i64 0, .int .i64 0, .int .i64 0, .int .i64 0, .int .i64 0, .int .i64 0, .int .i64 0] 72)))
                  refine held_go hK' (HT.out.pre) ?_
                  try simp only [Act.put, List.setIfInBounds_toArray, List.set_cons_zero, List.set_cons_succ]
                  clear hS0
                  have hS0 := HT.out.pre
                  generalize World.alloc X2 _ = X3 at *
                  generalize X2.heap.size = p at *
                  refine held_call (i := 24) rfl (by kernel_rfl) (by rfl) (fun K' hK' => ?_)
                  go_simp
                  refine (HU.out X3).mono ?_
                  rintro e X4 ⟨rfl, hb⟩
                  replace HT := Lib.hid (HT.out.next hb)
                  replace HP := Lib.hid (row_next HP.out hb)
                  clear hb
                  refine held_go hK' (HT.out.pre) ?_
                  try simp only [Act.put, List.setIfInBounds_toArray, List.set_cons_zero, List.set_cons_succ]
                  clear hS0
                  have hS0 := HT.out.pre
                  refine held_call (i := 25) rfl (by kernel_rfl) (by rfl) (fun K' hK' => ?_)
                  go_simp
                  refine (failed_any _ _ _).mono ?_
                  rintro e XQ ⟨rfl, hYY⟩
                  obtain rfl := hYY.symm
                  refine held_go hK' (HT.out.pre) ?_
                  try simp only [Act.put, List.setIfInBounds_toArray, List.set_cons_zero, List.set_cons_succ]
                  clear hS0
                  have hS0 := HT.out.pre
                  refine held_take (i := 26) (v := ?_) rfl (by kernel_rfl) (by kernel_rfl) (by kernel_rfl) (fun _ _ _ h => h) (by rfl) ?_ (by assumption) ?_
                  rotate_left
                  · intro X hSX
                    try dsimp only at hSX
                    go_simp <;> with_reducible rfl
                  simp only [Act.put, List.setIfInBounds_toArray, List.set_cons_zero, List.set_cons_succ]
                  refine held_call (i := 28) rfl (by kernel_rfl) (by rfl) (fun K' hK' => ?_)
                  refine oper_store_ch (.tmp 10) (.tmp 37) rfl p rfl _ _ _ _ _ _ _ rfl chZ rfl HP.out ?_
                  refine held_go hK' ((HT.out.far HPN.out _).pre) ?_
                  try simp only [Act.put, List.setIfInBounds_toArray, List.set_cons_zero, List.set_cons_succ]
                  refine wpAnyH_done (by kernel_rfl) ?_ _
                  refine NoPanic.normal ?_
                  go_wp2_with fail
                  go_meet
                  exact ⟨p, _, _, _, _, _, _, _, rfl, Lib.hid (setRow_heap _ _ _ (chK _ _ _ _ _ _ _) _ _ HP.out), HPN, Lib.hid (HT.out.far HPN.out _), HF⟩
              · skip
                go_simp
                have HP := Lib.hid (heap_alloc_new X2 (.cells #[.int .i64 0, .int .i64 0, .int .i64 0, .int .i64 0, .int .i64 0, .int .i64 0, .int .i64 0] 72))
                have HPN := Lib.hid HT.out.size
                replace HT := Lib.hid (HT.out.next (below_boxC X2 (.cells #[.int .i64 0, .int .i64 0, .int .i64 0, .int .i64 0, .int .i64 0, .int .i64 0, .int .i64 0] 72)))
                refine held_go hK' (HT.out.pre) ?_
                try simp only [Act.put, List.setIfInBounds_toArray, List.set_cons_zero, List.set_cons_succ]
                clear hS0
                have hS0 := HT.out.pre
                generalize World.alloc X2 _ = X3 at *
                generalize X2.heap.size = p at *
                refine held_call (i := 21) rfl (by kernel_rfl) (by rfl) (fun K' hK' => ?_)
                go_simp
                refine (failed_any _ _ _).mono ?_
                rintro e XQ ⟨rfl, hYY⟩
                obtain rfl := hYY.symm
                refine held_go hK' (HT.out.pre) ?_
                try simp only [Act.put, List.setIfInBounds_toArray, List.set_cons_zero, List.set_cons_succ]
                clear hS0
                have hS0 := HT.out.pre
                refine held_call (i := 24) rfl (by kernel_rfl) (by rfl) (fun K' hK' => ?_)
                go_simp
                refine (HU.out X3).mono ?_
                rintro e X4 ⟨rfl, hb⟩
                replace HT := Lib.hid (HT.out.next hb)
                replace HP := Lib.hid (row_next HP.out hb)
                clear hb
                refine held_go hK' (HT.out.pre) ?_
                try simp only [Act.put, List.setIfInBounds_toArray, List.set_cons_zero, List.set_cons_succ]
                clear hS0
                have hS0 := HT.out.pre
                refine held_call (i := 25) rfl (by kernel_rfl) (by rfl) (fun K' hK' => ?_)
                go_simp
                refine (failed_any _ _ _).mono ?_
                rintro e XQ ⟨rfl, hYY⟩
                obtain rfl := hYY.symm
                refine held_go hK' (HT.out.pre) ?_
                try simp only [Act.put, List.setIfInBounds_toArray, List.set_cons_zero, List.set_cons_succ]
                clear hS0
                have hS0 := HT.out.pre
                refine held_take (i := 26) (v := ?_) rfl (by kernel_rfl) (by kernel_rfl) (by kernel_rfl) (fun _ _ _ h => h) (by rfl) ?_ (by assumption) ?_
                rotate_left
                · intro X hSX
                  try dsimp only at hSX
                  go_simp <;> with_reducible rfl
                simp only [Act.put, List.setIfInBounds_toArray, List.set_cons_zero, List.set_cons_succ]
                refine held_call (i := 28) rfl (by kernel_rfl) (by rfl) (fun K' hK' => ?_)
                refine oper_store_ch (.tmp 10) (.tmp 37) rfl p rfl _ _ _ _ _ _ _ rfl chZ rfl HP.out ?_
                refine held_go hK' ((HT.out.far HPN.out _).pre) ?_
                try simp only [Act.put, List.setIfInBounds_toArray, List.set_cons_zero, List.set_cons_succ]
                refine wpAnyH_done (by kernel_rfl) ?_ _
                refine NoPanic.normal ?_
                go_wp2_with fail
                go_meet
                exact ⟨p, _, _, _, _, _, _, _, rfl, Lib.hid (setRow_heap _ _ _ (chK _ _ _ _ _ _ _) _ _ HP.out), HPN, Lib.hid (HT.out.far HPN.out _), HF⟩
            · skip
              go_simp
              have HP := Lib.hid (heap_alloc_new X2 (.cells #[.int .i64 0, .int .i64 0, .int .i64 0, .int .i64 0, .int .i64 0, .int .i64 0, .int .i64 0] 72))
              have HPN := Lib.hid HT.out.size
              replace HT := Lib.hid (HT.out.next (below_boxC X2 (.cells #[.int .i64 0, .int .i64 0, .int .i64 0, .int .i64 0, .int .i64 0, .int .i64 0, .int .i64 0] 72)))
              refine held_go hK' (HT.out.pre) ?_
              try simp only [Act.put, List.setIfInBounds_toArray, List.set_cons_zero, List.set_cons_succ]
              clear hS0
              have hS0 := HT.out.pre
              generalize World.alloc X2 _ = X3 at *
              generalize X2.heap.size = p at *
              refine held_call (i := 17) rfl (by kernel_rfl) (by rfl) (fun K' hK' => ?_)
              go_simp
              refine (failed_any _ _ _).mono ?_
              rintro e XQ ⟨rfl, hYY⟩
              obtain rfl := hYY.symm
              refine held_go hK' (HT.out.pre) ?_
              try simp only [Act.put, List.setIfInBounds_toArray, List.set_cons_zero, List.set_cons_succ]
              clear hS0
              have hS0 := HT.out.pre
              refine held_call (i := 21) rfl (by kernel_rfl) (by rfl) (fun K' hK' => ?_)
              go_simp
              refine (failed_any _ _ _).mono ?_
              rintro e XQ ⟨rfl, hYY⟩
              obtain rfl := hYY.symm
              refine held_go hK' (HT.out.pre) ?_
              try simp only [Act.put, List.setIfInBounds_toArray, List.set_cons_zero, List.set_cons_succ]
              clear hS0
              have hS0 := HT.out.pre
              refine held_call (i := 24) rfl (by kernel_rfl) (by rfl) (fun K' hK' => ?_)
              go_simp
              refine (HU.out X3).mono ?_
              rintro e X4 ⟨rfl, hb⟩
              replace HT := Lib.hid (HT.out.next hb)
              replace HP := Lib.hid (row_next HP.out hb)
              clear hb
              refine held_go hK' (HT.out.pre) ?_
              try simp only [Act.put, List.setIfInBounds_toArray, List.set_cons_zero, List.set_cons_succ]
              clear hS0
              have hS0 := HT.out.pre
              refine held_call (i := 25) rfl (by kernel_rfl) (by rfl) (fun K' hK' => ?_)
              go_simp
              refine (failed_any _ _ _).mono ?_
              rintro e XQ ⟨rfl, hYY⟩
              obtain rfl := hYY.symm
              refine held_go hK' (HT.out.pre) ?_
              try simp only [Act.put, List.setIfInBounds_toArray, List.set_cons_zero, List.set_cons_succ]
              clear hS0
              have hS0 := HT.out.pre
              refine held_take (i := 26) (v := ?_) rfl (by kernel_rfl) (by kernel_rfl) (by kernel_rfl) (fun _ _ _ h => h) (by rfl) ?_ (by assumption) ?_
              rotate_left
              · intro X hSX
                try dsimp only at hSX
                go_simp <;> with_reducible rfl
              simp only [Act.put, List.setIfInBounds_toArray, List.set_cons_zero, List.set_cons_succ]
              refine held_call (i := 28) rfl (by kernel_rfl) (by rfl) (fun K' hK' => ?_)
              refine oper_store_ch (.tmp 10) (.tmp 37) rfl p rfl _ _ _ _ _ _ _ rfl chZ rfl HP.out ?_
              refine held_go hK' ((HT.out.far HPN.out _).pre) ?_
              try simp only [Act.put, List.setIfInBounds_toArray, List.set_cons_zero, List.set_cons_succ]
              refine wpAnyH_done (by kernel_rfl) ?_ _
              refine NoPanic.normal ?_
              go_wp2_with fail
              go_meet
              exact ⟨p, _, _, _, _, _, _, _, rfl, Lib.hid (setRow_heap _ _ _ (chK _ _ _ _ _ _ _) _ _ HP.out), HPN, Lib.hid (HT.out.far HPN.out _), HF⟩
          · skip
            go_simp
            have HP := Lib.hid (heap_alloc_new X2 (.cells #[.int .i64 0, .int .i64 0, .int .i64 0, .int .i64 0, .int .i64 0, .int .i64 0, .int .i64 0] 72))
            have HPN := Lib.hid HT.out.size
            replace HT := Lib.hid (HT.out.next (below_boxC X2 (.cells #[.int .i64 0, .int .i64 0, .int .i64 0, .int .i64 0, .int .i64 0, .int .i64 0, .int .i64 0] 72)))
            refine held_go hK' (HT.out.pre) ?_
            try simp only [Act.put, List.setIfInBounds_toArray, List.set_cons_zero, List.set_cons_succ]
            clear hS0
            have hS0 := HT.out.pre
            generalize World.alloc X2 _ = X3 at *
            generalize X2.heap.size = p at *
            refine held_call (i := 13) rfl (by kernel_rfl) (by rfl) (fun K' hK' => ?_)
            go_simp
            refine (failed_any _ _ _).mono ?_
            rintro e XQ ⟨rfl, hYY⟩
            obtain rfl := hYY.symm
            refine held_go hK' (HT.out.pre) ?_
            try simp only [Act.put, List.setIfInBounds_toArray, List.set_cons_zero, List.set_cons_succ]
            clear hS0
            have hS0 := HT.out.pre
            refine held_call (i := 17) rfl (by kernel_rfl) (by rfl) (fun K' hK' => ?_)
            go_simp
            refine (failed_any _ _ _).mono ?_
            rintro e XQ ⟨rfl, hYY⟩
            obtain rfl := hYY.symm
            refine held_go hK' (HT.out.pre) ?_
            try simp only [Act.put, List.setIfInBounds_toArray, List.set_cons_zero, List.set_cons_succ]
            clear hS0
            have hS0 := HT.out.pre
            refine held_call (i := 21) rfl (by kernel_rfl) (by rfl) (fun K' hK' => ?_)
            go_simp
            refine (failed_any _ _ _).mono ?_
            rintro e XQ ⟨rfl, hYY⟩
            obtain rfl := hYY.symm
            refine held_go hK' (HT.out.pre) ?_
            try simp only [Act.put, List.setIfInBounds_toArray, List.set_cons_zero, List.set_cons_succ]
            clear hS0
            have hS0 := HT.out.pre
            refine held_call (i := 24) rfl (by kernel_rfl) (by rfl) (fun K' hK' => ?_)
            go_simp
            refine (HU.out X3).mono ?_
            rintro e X4 ⟨rfl, hb⟩
            replace HT := Lib.hid (HT.out.next hb)
            replace HP := Lib.hid (row_next HP.out hb)
            clear hb
            refine held_go hK' (HT.out.pre) ?_
            try simp only [Act.put, List.setIfInBounds_toArray, List.set_cons_zero, List.set_cons_succ]
            clear hS0
            have hS0 := HT.out.pre
            refine held_call (i := 25) rfl (by kernel_rfl) (by rfl) (fun K' hK' => ?_)
            go_simp
            refine (failed_any _ _ _).mono ?_
            rintro e XQ ⟨rfl, hYY⟩
            obtain rfl := hYY.symm
            refine held_go hK' (HT.out.pre) ?_
            try simp only [Act.put, List.setIfInBounds_toArray, List.set_cons_zero, List.set_cons_succ]
            clear hS0
            have hS0 := HT.out.pre
            refine held_take (i := 26) (v := ?_) rfl (by kernel_rfl) (by kernel_rfl) (by kernel_rfl) (fun _ _ _ h => h) (by rfl) ?_ (by assumption) ?_
            rotate_left
            · intro X hSX
              try dsimp only at hSX
              go_simp <;> with_reducible rfl
            simp only [Act.put, List.setIfInBounds_toArray, List.set_cons_zero, List.set_cons_succ]
            refine held_call (i := 28) rfl (by kernel_rfl) (by rfl) (fun K' hK' => ?_)
            refine oper_store_ch (.tmp 10) (.tmp 37) rfl p rfl _ _ _ _ _ _ _ rfl chZ rfl HP.out ?_
            refine held_go hK' ((HT.out.far HPN.out _).pre) ?_
            try simp only [Act.put, List.setIfInBounds_toArray, List.set_cons_zero, List.set_cons_succ]
            refine wpAnyH_done (by kernel_rfl) ?_ _
            refine NoPanic.normal ?_
            go_wp2_with fail
            go_meet
            exact ⟨p, _, _, _, _, _, _, _, rfl, Lib.hid (setRow_heap _ _ _ (chK _ _ _ _ _ _ _) _ _ HP.out), HPN, Lib.hid (HT.out.far HPN.out _), HF⟩
        · skip
          go_simp
          have HP := Lib.hid (heap_alloc_new X1 (.cells #[.int .i64 0, .int .i64 0, .int .i64 0, .int .i64 0, .int .i64 0, .int .i64 0, .int .i64 0] 72))
          have HPN := Lib.hid HT.out.size
          replace HT := Lib.hid (HT.out.next (below_boxC X1 (.cells #[.int .i64 0, .int .i64 0, .int .i64 0, .int .i64 0, .int .i64 0, .int .i64 0, .int .i64 0] 72)))
          refine held_go hK' (HT.out.pre) ?_
          try simp only [Act.put, List.setIfInBounds_toArray, List.set_cons_zero, List.set_cons_succ]
          clear hS0
          have hS0 := HT.out.pre
          generalize World.alloc X1 _ = X2 at *
          generalize X1.heap.size = p at *
          refine held_call (i := 5) rfl (by kernel_rfl) (by rfl) (fun K' hK' => ?_)
          go_simp
          refine (HD.out X2).mono ?_
          rintro e X3 ⟨rfl, hb⟩
          replace HT := Lib.hid (HT.out.next hb)
          replace HP := Lib.hid (row_next HP.out hb)
          clear hb
          refine held_go hK' (HT.out.pre) ?_
          try simp only [Act.put, List.setIfInBounds_toArray, List.set_cons_zero, List.set_cons_succ]
          clear hS0
          have hS0 := HT.out.pre
          refine held_take (i := 6) (v := ?_) rfl (by kernel_rfl) (by kernel_rfl) (by kernel_rfl) (fun _ _ _ h => h) (by rfl) ?_ (by assumption) ?_
          rotate_left
          · intro X hSX
            try dsimp only at hSX
            go_simp <;> with_reducible rfl
          simp only [Act.put, List.setIfInBounds_toArray, List.set_cons_zero, List.set_cons_succ]
          refine held_take (i := 7) (v := ?_) rfl (by kernel_rfl) (by kernel_rfl) (by kernel_rfl) (fun _ _ _ h => h) (by rfl) ?_ (by assumption) ?_
          rotate_left
          · intro X hSX
            try dsimp only at hSX
            go_simp <;> with_reducible rfl
          simp only [Act.put, List.setIfInBounds_toArray, List.set_cons_zero, List.set_cons_succ]
          refine held_take (i := 8) (v := ?_) rfl (by kernel_rfl) (by kernel_rfl) (by kernel_rfl) (fun _ _ _ h => h) (by rfl) ?_ (by assumption) ?_
          rotate_left
          · intro X hSX
            try dsimp only at hSX
            go_simp <;> with_reducible rfl
          simp only [Act.put, List.setIfInBounds_toArray, List.set_cons_zero, List.set_cons_succ]
          refine held_skip (i := 9) rfl (by kernel_rfl) (by kernel_rfl) (by kernel_rfl) (fun _ _ _ h => h) (by rfl) (by assumption) ?_
          simp only [Act.put, List.setIfInBounds_toArray, List.set_cons_zero, List.set_cons_succ]
          refine held_skip (i := 10) rfl (by kernel_rfl) (by kernel_rfl) (by kernel_rfl) (fun _ _ _ h => h) (by rfl) (by assumption) ?_
          simp only [Act.put, List.setIfInBounds_toArray, List.set_cons_zero, List.set_cons_succ]
          refine held_skip (i := 11) rfl (by kernel_rfl) (by kernel_rfl) (by kernel_rfl) (fun _ _ _ h => h) (by rfl) (by assumption) ?_
          simp only [Act.put, List.setIfInBounds_toArray, List.set_cons_zero, List.set_cons_succ]
          refine held_take (i := 12) (v := ?_) rfl (by kernel_rfl) (by kernel_rfl) (by kernel_rfl) (fun _ _ _ h => h) (by rfl) ?_ (by assumption) ?_
          rotate_left
          · intro X hSX
            try dsimp only at hSX
            go_simp <;> with_reducible rfl
          simp only [Act.put, List.setIfInBounds_toArray, List.set_cons_zero, List.set_cons_succ]
          refine held_call (i := 13) rfl (by kernel_rfl) (by rfl) (fun K' hK' => ?_)
          go_simp
          refine (failed_any _ _ _).mono ?_
          rintro e XQ ⟨rfl, hYY⟩
          obtain rfl := hYY.symm
          refine held_go hK' (HT.out.pre) ?_
          try simp only [Act.put, List.setIfInBounds_toArray, List.set_cons_zero, List.set_cons_succ]
          clear hS0
          have hS0 := HT.out.pre
          refine held_call (i := 17) rfl (by kernel_rfl) (by rfl) (fun K' hK' => ?_)
          go_simp
          refine (failed_any _ _ _).mono ?_
          rintro e XQ ⟨rfl, hYY⟩
          obtain rfl := hYY.symm
          refine held_go hK' (HT.out.pre) ?_
          try simp only [Act.put, List.setIfInBounds_toArray, List.set_cons_zero, List.set_cons_succ]
          clear hS0
          have hS0 := HT.out.pre
          refine held_call (i := 21) rfl (by kernel_rfl) (by rfl) (fun K' hK' => ?_)
          go_simp
          refine (failed_any _ _ _).mono ?_
          rintro e XQ ⟨rfl, hYY⟩
          obtain rfl := hYY.symm
          refine held_go hK' (HT.out.pre) ?_
          try simp only [Act.put, List.setIfInBounds_toArray, List.set_cons_zero, List.set_cons_succ]
          clear hS0
          have hS0 := HT.out.pre
          refine held_call (i := 24) rfl (by kernel_rfl) (by rfl) (fun K' hK' => ?_)
          go_simp
          refine (HU.out X3).mono ?_
          rintro e X4 ⟨rfl, hb⟩
          replace HT := Lib.hid (HT.out.next hb)
          replace HP := Lib.hid (row_next HP.out hb)
          clear hb
          refine held_go hK' (HT.out.pre) ?_
          try simp only [Act.put, List.setIfInBounds_toArray, List.set_cons_zero, List.set_cons_succ]
          clear hS0
          have hS0 := HT.out.pre
          refine held_call (i := 25) rfl (by kernel_rfl) (by rfl) (fun K' hK' => ?_)
          go_simp
          refine (failed_any _ _ _).mono ?_
          rintro e XQ ⟨rfl, hYY⟩
          obtain rfl := hYY.symm
          refine held_go hK' (HT.out.pre) ?_
          try simp only [Act.put, List.setIfInBounds_toArray, List.set_cons_zero, List.set_cons_succ]
          clear hS0
          have hS0 := HT.out.pre
          refine held_take (i := 26) (v := ?_) rfl (by kernel_rfl) (by kernel_rfl) (by kernel_rfl) (fun _ _ _ h => h) (by rfl) ?_ (by assumption) ?_
          rotate_left
          · intro X hSX
            try dsimp only at hSX
            go_simp <;> with_reducible rfl
          simp only [Act.put, List.setIfInBounds_toArray, List.set_cons_zero, List.set_cons_succ]
          refine held_call (i := 28) rfl (by kernel_rfl) (by rfl) (fun K' hK' => ?_)
          refine oper_store_ch (.tmp 10) (.tmp 37) rfl p rfl _ _ _ _ _ _ _ rfl chZ rfl HP.out ?_
          refine held_go hK' ((HT.out.far HPN.out _).pre) ?_
          try simp only [Act.put, List.setIfInBounds_toArray, List.set_cons_zero, List.set_cons_succ]
          refine wpAnyH_done (by kernel_rfl) ?_ _
          refine NoPanic.normal ?_
          go_wp2_with fail
          go_meet
          exact ⟨p, _, _, _, _, _, _, _, rfl, Lib.hid (setRow_heap _ _ _ (chK _ _ _ _ _ _ _) _ _ HP.out), HPN, Lib.hid (HT.out.far HPN.out _), HF⟩
      · skip
        go_simp
        have HP := Lib.hid (heap_alloc_new X0 (.cells #[.int .i64 0, .int .i64 0, .int .i64 0, .int .i64 0, .int .i64 0, .int .i64 0, .int .i64 0] 72))
        have HPN := Lib.hid HT.out.size
        replace HT := Lib.hid (HT.out.next (below_boxC X0 (.cells #[.int .i64 0, .int .i64 0, .int .i64 0, .int .i64 0, .int .i64 0, .int .i64 0, .int .i64 0] 72)))
        refine held_go hK' (HT.out.pre) ?_
        try simp only [Act.put, List.setIfInBounds_toArray, List.set_cons_zero, List.set_cons_succ]
        clear hS0
        have hS0 := HT.out.pre
        generalize World.alloc X0 _ = X1 at *
        generalize X0.heap.size = p at *
        refine held_call (i := 1) rfl (by kernel_rfl) (by rfl) (fun K' hK' => ?_)
        go_simp
        refine (HM.out X1).mono ?_
        rintro e X2 ⟨rfl, hb⟩
        replace HT := Lib.hid (HT.out.next hb)
        replace HP := Lib.hid (row_next HP.out hb)
        clear hb
        refine held_go hK' (HT.out.pre) ?_
        try simp only [Act.put, List.setIfInBounds_toArray, List.set_cons_zero, List.set_cons_succ]
        clear hS0
        have hS0 := HT.out.pre
        refine held_take (i := 2) (v := ?_) rfl (by kernel_rfl) (by kernel_rfl) (by kernel_rfl) (fun _ _ _ h => h) (by rfl) ?_ (by assumption) ?_
        rotate_left
        · intro X hSX
          try dsimp only at hSX
          go_simp <;> with_reducible rfl
        simp only [Act.put, List.setIfInBounds_toArray, List.set_cons_zero, List.set_cons_succ]
        refine held_take (i := 3) (v := ?_) rfl (by kernel_rfl) (by kernel_rfl) (by kernel_rfl) (fun _ _ _ h => h) (by rfl) ?_ (by assumption) ?_
        rotate_left
        · intro X hSX
          try dsimp only at hSX
          go_simp <;> with_reducible rfl
        simp only [Act.put, List.setIfInBounds_toArray, List.set_cons_zero, List.set_cons_succ]
        refine held_take (i := 4) (v := ?_) rfl (by kernel_rfl) (by kernel_rfl) (by kernel_rfl) (fun _ _ _ h => h) (by rfl) ?_ (by assumption) ?_
        rotate_left
        · intro X hSX
          try dsimp only at hSX
          obtain ⟨_, d0, d1, d2, d3, d4, d5⟩ := hSX.d
          go_simp <;> with_reducible rfl
        simp only [Act.put, List.setIfInBounds_toArray, List.set_cons_zero, List.set_cons_succ]
        refine held_call (i := 5) rfl (by kernel_rfl) (by rfl) (fun K' hK' => ?_)
        go_simp
        refine (HD.out X2).mono ?_
        rintro e X3 ⟨rfl, hb⟩
        replace HT := Lib.hid (HT.out.next hb)
        replace HP := Lib.hid (row_next HP.out hb)
        clear hb
        refine held_go hK' (HT.out.pre) ?_
        try simp only [Act.put, List.setIfInBounds_toArray, List.set_cons_zero, List.set_cons_succ]
        clear hS0
        have hS0 := HT.out.pre
        refine held_take (i := 6) (v := ?_) rfl (by kernel_rfl) (by kernel_rfl) (by kernel_rfl) (fun _ _ _ h => h) (by rfl) ?_ (by assumption) ?_
        rotate_left
        · intro X hSX
          try dsimp only at hSX
          go_simp <;> with_reducible rfl
        simp only [Act.put, List.setIfInBounds_toArray, List.set_cons_zero, List.set_cons_succ]
        refine held_take (i := 7) (v := ?_) rfl (by kernel_rfl) (by kernel_rfl) (by kernel_rfl) (fun _ _ _ h => h) (by rfl) ?_ (by assumption) ?_
        rotate_left
        · intro X hSX
          try dsimp only at hSX
          go_simp <;> with_reducible rfl
        simp only [Act.put, List.setIfInBounds_toArray, List.set_cons_zero, List.set_cons_succ]
        refine held_take (i := 8) (v := ?_) rfl (by kernel_rfl) (by kernel_rfl) (by kernel_rfl) (fun _ _ _ h => h) (by rfl) ?_ (by assumption) ?_
        rotate_left
        · intro X hSX
          try dsimp only at hSX
          go_simp <;> with_reducible rfl
        simp only [Act.put, List.setIfInBounds_toArray, List.set_cons_zero, List.set_cons_succ]
        refine held_skip (i := 9) rfl (by kernel_rfl) (by kernel_rfl) (by kernel_rfl) (fun _ _ _ h => h) (by rfl) (by assumption) ?_
        simp only [Act.put, List.setIfInBounds_toArray, List.set_cons_zero, List.set_cons_succ]
        refine held_skip (i := 10) rfl (by kernel_rfl) (by kernel_rfl) (by kernel_rfl) (fun _ _ _ h => h) (by rfl) (by assumption) ?_
        simp only [Act.put, List.setIfInBounds_toArray, List.set_cons_zero, List.set_cons_succ]
        refine held_skip (i := 11) rfl (by kernel_rfl) (by kernel_rfl) (by kernel_rfl) (fun _ _ _ h => h) (by rfl) (by assumption) ?_
        simp only [Act.put, List.setIfInBounds_toArray, List.set_cons_zero, List.set_cons_succ]
        refine held_take (i := 12) (v := ?_) rfl (by kernel_rfl) (by kernel_rfl) (by kernel_rfl) (fun _ _ _ h => h) (by rfl) ?_ (by assumption) ?_
        rotate_left
        · intro X hSX
          try dsimp only at hSX
          go_simp <;> with_reducible rfl
        simp only [Act.put, List.setIfInBounds_toArray, List.set_cons_zero, List.set_cons_succ]
        refine held_call (i := 13) rfl (by kernel_rfl) (by rfl) (fun K' hK' => ?_)
        go_simp
        refine (failed_any _ _ _).mono ?_
        rintro e XQ ⟨rfl, hYY⟩
        obtain rfl := hYY.symm
        refine held_go hK' (HT.out.pre) ?_
        try simp only [Act.put, List.setIfInBounds_toArray, List.set_cons_zero, List.set_cons_succ]
        clear hS0
        have hS0 := HT.out.pre
        refine held_call (i := 17) rfl (by kernel_rfl) (by rfl) (fun K' hK' => ?_)
        go_simp
        refine (failed_any _ _ _).mono ?_
        rintro e XQ ⟨rfl, hYY⟩
        obtain rfl := hYY.symm
        refine held_go hK' (HT.out.pre) ?_
        try simp only [Act.put, List.setIfInBounds_toArray, List.set_cons_zero, List.set_cons_succ]
        clear hS0
        have hS0 := HT.out.pre
        refine held_call (i := 21) rfl (by kernel_rfl) (by rfl) (fun K' hK' => ?_)
        go_simp
        refine (failed_any _ _ _).mono ?_
        rintro e XQ ⟨rfl, hYY⟩
        obtain rfl := hYY.symm
        refine held_go hK' (HT.out.pre) ?_
        try simp only [Act.put, List.setIfInBounds_toArray, List.set_cons_zero, List.set_cons_succ]
        clear hS0
        have hS0 := HT.out.pre
        refine held_call (i := 24) rfl (by kernel_rfl) (by rfl) (fun K' hK' => ?_)
        go_simp
        refine (HU.out X3).mono ?_
        rintro e X4 ⟨rfl, hb⟩
        replace HT := Lib.hid (HT.out.next hb)
        replace HP := Lib.hid (row_next HP.out hb)
        clear hb
        refine held_go hK' (HT.out.pre) ?_
        try simp only [Act.put, List.setIfInBounds_toArray, List.set_cons_zero, List.set_cons_succ]
        clear hS0
        have hS0 := HT.out.pre
        refine held_call (i := 25) rfl (by kernel_rfl) (by rfl) (fun K' hK' => ?_)
        go_simp
        refine (failed_any _ _ _).mono ?_
        rintro e XQ ⟨rfl, hYY⟩
        obtain rfl := hYY.symm
        refine held_go hK' (HT.out.pre) ?_
        try simp only [Act.put, List.setIfInBounds_toArray, List.set_cons_zero, List.set_cons_succ]
        clear hS0
        have hS0 := HT.out.pre
        refine held_take (i := 26) (v := ?_) rfl (by kernel_rfl) (by kernel_rfl) (by kernel_rfl) (fun _ _ _ h => h) (by rfl) ?_ (by assumption) ?_
        rotate_left
        · intro X hSX
          try dsimp only at hSX
          go_simp <;> with_reducible rfl
        simp only [Act.put, List.setIfInBounds_toArray, List.set_cons_zero, List.set_cons_succ]
        refine held_call (i := 28) rfl (by kernel_rfl) (by rfl) (fun K' hK' => ?_)
        refine oper_store_ch (.tmp 10) (.tmp 37) rfl p rfl _ _ _ _ _ _ _ rfl chZ rfl HP.out ?_
        refine held_go hK' ((HT.out.far HPN.out _).pre) ?_
        try simp only [Act.put, List.setIfInBounds_toArray, List.set_cons_zero, List.set_cons_succ]
        refine wpAnyH_done (by kernel_rfl) ?_ _
        refine NoPanic.normal ?_
        go_wp2_with fail
        go_meet
        exact ⟨p, _, _, _, _, _, _, _, rfl, Lib.hid (setRow_heap _ _ _ (chK _ _ _ _ _ _ _) _ _ HP.out), HPN, Lib.hid (HT.out.far HPN.out _), HF⟩
    have HD := Lib.hid (fun X => (valdrive_any d X))
    rw [h1] at HD HF
    clear h1
    have HC := Lib.hid (fun X h => valc_any c ad cap X h)
    generalize vldC c = vc at *
    replace HT := Lib.hid (HT.out.next (Below.refl Y0.heap.size Y0).drew)
    refine wp_region_noPanic ?_
    refine wp_region_held_drew (S := (fun X => Bx w X [(mdK m, 23), (drK d, 25), (crQ c ad cap, 30)])) (by kernel_rfl) (HT.out.pre) (fun hS0 => ?_)
    generalize World.drew Y0 = X0 at *
    refine held_take (i := 0) (v := ?_) rfl (by kernel_rfl) (by kernel_rfl) (by kernel_rfl) (fun _ _ _ h => h) (by rfl) ?_ (by assumption) ?_
    rotate_left
    · intro X hSX
      try dsimp only at hSX
      obtain ⟨_, m0, m1, m2, m3, m4⟩ := hSX.m
      go_simp <;> with_reducible rfl
    simp only [Act.put, List.setIfInBounds_toArray, List.set_cons_zero, List.set_cons_succ]
    refine held_take (i := 14) (v := ?_) rfl (by kernel_rfl) (by kernel_rfl) (by kernel_rfl) (fun _ _ _ h => h) (by rfl) ?_ (by assumption) ?_
    rotate_left
    · intro X hSX
      try dsimp only at hSX
      go_simp <;> with_reducible rfl
    simp only [Act.put, List.setIfInBounds_toArray, List.set_cons_zero, List.set_cons_succ]
    refine held_take (i := 15) (v := ?_) rfl (by kernel_rfl) (by kernel_rfl) (by kernel_rfl) (fun _ _ _ h => h) (by rfl) ?_ (by assumption) ?_
    rotate_left
    · intro X hSX
      try dsimp only at hSX
      obtain ⟨_, d0, d1, d2, d3, d4, d5⟩ := hSX.d
      go_simp <;> with_reducible rfl
    simp only [Act.put, List.setIfInBounds_toArray, List.set_cons_zero, List.set_cons_succ]
    refine held_take (i := 16) (v := ?_) rfl (by kernel_rfl) (by kernel_rfl) (by kernel_rfl) (fun _ _ _ h => h) (by rfl) ?_ (by assumption) ?_
    rotate_left
    · intro X hSX
      try dsimp only at hSX
      go_simp <;> with_reducible rfl
    simp only [Act.put, List.setIfInBounds_toArray, List.set_cons_zero, List.set_cons_succ]
    refine held_take (i := 18) (v := ?_) rfl (by kernel_rfl) (by kernel_rfl) (by kernel_rfl) (fun _ _ _ h => h) (by rfl) ?_ (by assumption) ?_
    rotate_left
    · intro X hSX
      try dsimp only at hSX
      go_simp <;> with_reducible rfl
    simp only [Act.put, List.setIfInBounds_toArray, List.set_cons_zero, List.set_cons_succ]
    refine held_take (i := 19) (v := ?_) rfl (by kernel_rfl) (by kernel_rfl) (by kernel_rfl) (fun _ _ _ h => h) (by rfl) ?_ (by assumption) ?_
    rotate_left
    · intro X hSX
      try dsimp only at hSX
      obtain ⟨_, d0, d1, d2, d3, d4, d5⟩ := hSX.d
      go_simp <;> with_reducible rfl
    simp only [Act.put, List.setIfInBounds_toArray, List.set_cons_zero, List.set_cons_succ]
    refine held_take (i := 20) (v := ?_) rfl (by kernel_rfl) (by kernel_rfl) (by kernel_rfl) (fun _ _ _ h => h) (by rfl) ?_ (by assumption) ?_
    rotate_left
    · intro X hSX
      try dsimp only at hSX
      go_simp <;> with_reducible rfl
    simp only [Act.put, List.setIfInBounds_toArray, List.set_cons_zero, List.set_cons_succ]
    refine held_take (i := 22) (v := ?_) rfl (by kernel_rfl) (by kernel_rfl) (by kernel_rfl) (fun _ _ _ h => h) (by rfl) ?_ (by assumption) ?_
    rotate_left
    · intro X hSX
      try dsimp only at hSX
      obtain ⟨_, m0, m1, m2, m3, m4⟩ := hSX.m
      go_simp <;> with_reducible rfl
    simp only [Act.put, List.setIfInBounds_toArray, List.set_cons_zero, List.set_cons_succ]
    refine held_take (i := 23) (v := ?_) rfl (by kernel_rfl) (by kernel_rfl) (by kernel_rfl) (fun _ _ _ h => h) (by rfl) ?_ (by assumption) ?_
    rotate_left
    · intro X hSX
      try dsimp only at hSX
      obtain ⟨_, d0, d1, d2, d3, d4, d5⟩ := hSX.d
      go_simp <;> with_reducible rfl
    simp only [Act.put, List.setIfInBounds_toArray, List.set_cons_zero, List.set_cons_succ]
    refine held_two (i := 1) (j := 27) rfl rfl (by kernel_rfl) (by rfl) (by rfl) (fun K' hK' => ?_) (fun K' hK' => ?_)
    · skip
      go_simp
      refine (HM.out X0).mono ?_
      rintro e X1 ⟨rfl, hb⟩
      replace HT := Lib.hid (HT.out.next hb)
      clear hb
      refine held_go hK' (HT.out.pre) ?_
      try simp only [Act.put, List.setIfInBounds_toArray, List.set_cons_zero, List.set_cons_succ]
      clear hS0
      have hS0 := HT.out.pre
      refine held_take (i := 2) (v := ?_) rfl (by kernel_rfl) (by kernel_rfl) (by kernel_rfl) (fun _ _ _ h => h) (by rfl) ?_ (by assumption) ?_
      rotate_left
      · intro X hSX
        try dsimp only at hSX
        go_simp <;> with_reducible rfl
      simp only [Act.put, List.setIfInBounds_toArray, List.set_cons_zero, List.set_cons_succ]
      refine held_take (i := 3) (v := ?_) rfl (by kernel_rfl) (by kernel_rfl) (by kernel_rfl) (fun _ _ _ h => h) (by rfl) ?_ (by assumption) ?_
      rotate_left
      · intro X hSX
        try dsimp only at hSX
        go_simp <;> with_reducible rfl
      simp only [Act.put, List.setIfInBounds_toArray, List.set_cons_zero, List.set_cons_succ]
      refine held_take (i := 4) (v := ?_) rfl (by kernel_rfl) (by kernel_rfl) (by kernel_rfl) (fun _ _ _ h => h) (by rfl) ?_ (by assumption) ?_
      rotate_left
      · intro X hSX
        try dsimp only at hSX
        obtain ⟨_, d0, d1, d2, d3, d4, d5⟩ := hSX.d
        go_simp <;> with_reducible rfl
      simp only [Act.put, List.setIfInBounds_toArray, List.set_cons_zero, List.set_cons_succ]
      refine held_two (i := 5) (j := 27) rfl rfl (by kernel_rfl) (by rfl) (by rfl) (fun K' hK' => ?_) (fun K' hK' => ?_)
      · skip
        go_simp
        refine (HD.out X1).mono ?_
        rintro e X2 ⟨rfl, hb⟩
        replace HT := Lib.hid (HT.out.next hb)
        clear hb
        refine held_go hK' (HT.out.pre) ?_
        try simp only [Act.put, List.setIfInBounds_toArray, List.set_cons_zero, List.set_cons_succ]
        clear hS0
        have hS0 := HT.out.pre
        refine held_take (i := 6) (v := ?_) rfl (by kernel_rfl) (by kernel_rfl) (by kernel_rfl) (fun _ _ _ h => h) (by rfl) ?_ (by assumption) ?_
        rotate_left
        · intro X hSX
          try dsimp only at hSX
          go_simp <;> with_reducible rfl
        simp only [Act.put, List.setIfInBounds_toArray, List.set_cons_zero, List.set_cons_succ]
        refine held_take (i := 7) (v := ?_) rfl (by kernel_rfl) (by kernel_rfl) (by kernel_rfl) (fun _ _ _ h => h) (by rfl) ?_ (by assumption) ?_
        rotate_left
        · intro X hSX
          try dsimp only at hSX
          go_simp <;> with_reducible rfl
        simp only [Act.put, List.setIfInBounds_toArray, List.set_cons_zero, List.set_cons_succ]
        refine held_take (i := 8) (v := ?_) rfl (by kernel_rfl) (by kernel_rfl) (by kernel_rfl) (fun _ _ _ h => h) (by rfl) ?_ (by assumption) ?_
        rotate_left
        · intro X hSX
          try dsimp only at hSX
          go_simp <;> with_reducible rfl
        simp only [Act.put, List.setIfInBounds_toArray, List.set_cons_zero, List.set_cons_succ]
        refine held_take (i := 9) (v := ?_) rfl (by kernel_rfl) (by kernel_rfl) (by kernel_rfl) (fun _ _ _ h => h) (by rfl) ?_ (by assumption) ?_
        rotate_left
        · intro X hSX
          try dsimp only at hSX
          obtain ⟨_, k0, k1, k2, k3, k4, k5, k6, k7, k8, k9, k10, k11, k12⟩ := hSX.c
          go_simp <;> with_reducible rfl
        simp only [Act.put, List.setIfInBounds_toArray, List.set_cons_zero, List.set_cons_succ]
        refine held_two (i := 10) (j := 27) rfl rfl (by kernel_rfl) (by rfl) (by rfl) (fun K' hK' => ?_) (fun K' hK' => ?_)
        · skip
          go_simp
          refine (HC.out X2 (HIN.out.below HT.out.b)).mono ?_
          rintro e X3 ⟨rfl, hb⟩
          replace HT := Lib.hid (HT.out.next hb)
          clear hb
          refine held_go hK' (HT.out.pre) ?_
          try simp only [Act.put, List.setIfInBounds_toArray, List.set_cons_zero, List.set_cons_succ]
          clear hS0
          have hS0 := HT.out.pre
          refine held_take (i := 11) (v := ?_) rfl (by kernel_rfl) (by kernel_rfl) (by kernel_rfl) (fun _ _ _ h => h) (by rfl) ?_ (by assumption) ?_
          rotate_left
          · intro X hSX
            try dsimp only at hSX
            go_simp <;> with_reducible rfl
          simp only [Act.put, List.setIfInBounds_toArray, List.set_cons_zero, List.set_cons_succ]
          refine held_take (i := 12) (v := ?_) rfl (by kernel_rfl) (by kernel_rfl) (by kernel_rfl) (fun _ _ _ h => h) (by rfl) ?_ (by assumption) ?_
          rotate_left
          · intro X hSX
            try dsimp only at hSX
            go_simp <;> with_reducible rfl
          simp only [Act.put, List.setIfInBounds_toArray, List.set_cons_zero, List.set_cons_succ]
          refine held_two (i := 13) (j := 27) rfl rfl (by kernel_rfl) (by rfl) (by rfl) (fun K' hK' => ?_) (fun K' hK' => ?_)
          · skip
            go_simp
            refine (failed_any _ _ _).mono ?_
            rintro e XQ ⟨rfl, hYY⟩
            obtain rfl := hYY.symm
            refine held_go hK' (HT.out.pre) ?_
            try simp only [Act.put, List.setIfInBounds_toArray, List.set_cons_zero, List.set_cons_succ]
            clear hS0
            have hS0 := HT.out.pre
            refine held_two (i := 17) (j := 27) rfl rfl (by kernel_rfl) (by rfl) (by rfl) (fun K' hK' => ?_) (fun K' hK' => ?_)
            · skip
              go_simp
              refine (failed_any _ _ _).mono ?_
              rintro e XQ ⟨rfl, hYY⟩
              obtain rfl := hYY.symm
              refine held_go hK' (HT.out.pre) ?_
              try simp only [Act.put, List.setIfInBounds_toArray, List.set_cons_zero, List.set_cons_succ]
              clear hS0
              have hS0 := HT.out.pre
              refine held_two (i := 21) (j := 27) rfl rfl (by kernel_rfl) (by rfl) (by rfl) (fun K' hK' => ?_) (fun K' hK' => ?_)
              · skip
                go_simp
                refine (failed_any _ _ _).mono ?_
                rintro e XQ ⟨rfl, hYY⟩
                obtain rfl := hYY.symm
                refine held_go hK' (HT.out.pre) ?_
                try simp only [Act.put, List.setIfInBounds_toArray, List.set_cons_zero, List.set_cons_succ]
                clear hS0
                have hS0 := HT.out.pre
                refine held_two (i := 24) (j := 27) rfl rfl (by kernel_rfl) (by rfl) (by rfl) (fun K' hK' => ?_) (fun K' hK' => ?_)
                · skip
                  go_simp
                  refine (HU.out X3).mono ?_
                  rintro e X4 ⟨rfl, hb⟩
                  replace HT := Lib.hid (HT.out.next hb)
                  clear hb
                  refine held_go hK' (HT.out.pre) ?_
                  try simp only [Act.put, List.setIfInBounds_toArray, List.set_cons_zero, List.set_cons_succ]
                  clear hS0
                  have hS0 := HT.out.pre
                  refine held_two (i := 25) (j := 27) rfl rfl (by kernel_rfl) (by rfl) (by rfl) (fun K' hK' => ?_) (fun K' hK' => ?_)
                  · skip
                    go_simp
                    refine (failed_any _ _ _).mono ?_
                    rintro e XQ ⟨rfl, hYY⟩
                    obtain rfl := hYY.symm
                    refine held_go hK' (HT.out.pre) ?_
                    try simp only [Act.put, List.setIfInBounds_toArray, List.set_cons_zero, List.set_cons_succ]
                    clear hS0
                    have hS0 := HT.out.pre
                    refine held_take (i := 26) (v := ?_) rfl (by kernel_rfl) (by kernel_rfl) (by kernel_rfl) (fun _ _ _ h => h) (by rfl) ?_ (by assumption) ?_
                    rotate_left
                    · intro X hSX
                      try dsimp only at hSX
                      go_simp <;> with_reducible rfl
                    simp only [Act.put, List.setIfInBounds_toArray, List.set_cons_zero, List.set_cons_succ]
                    refine held_call (i := 27) rfl (by kernel_rfl) (by rfl) (fun K' hK' => ?_)
                    go_simp
                    have HP := Lib.hid (heap_alloc_new X4 (.cells #[.int .i64 0, .int .i64 0, .int .i64 0, .int .i64 0, .int .i64 0, .int .i64 0, .int .i64 0] 72))
                    have HPN := Lib.hid HT.out.size
                    replace HT := Lib.hid (HT.out.next (below_boxC X4 (.cells #[.int .i64 0, .int .i64 0, .int .i64 0, .int .i64 0, .int .i64 0, .int .i64 0, .int .i64 0] 72)))
                    refine held_go hK' (HT.out.pre) ?_
                    try simp only [Act.put, List.setIfInBounds_toArray, List.set_cons_zero, List.set_cons_succ]
                    clear hS0
                    have hS0 := HT.out.pre
                    generalize World.alloc X4 _ = X5 at *
                    generalize X4.heap.size = p at *
                    refine held_call (i := 28) rfl (by kernel_rfl) (by rfl) (fun K' hK' => ?_)
                    refine oper_store_ch (.tmp 10) (.tmp 37) rfl p rfl _ _ _ _ _ _ _ rfl chZ rfl HP.out ?_
                    refine held_go hK' ((HT.out.far HPN.out _).pre) ?_
                    try simp only [Act.put, List.setIfInBounds_toArray, List.set_cons_zero, List.set_cons_succ]
                    refine wpAnyH_done (by kernel_rfl) ?_ _
                    refine NoPanic.normal ?_
                    go_wp2_with fail
                    go_meet
                    exact ⟨p, _, _, _, _, _, _, _, rfl, Lib.hid (setRow_heap _ _ _ (chK _ _ _ _ _ _ _) _ _ HP.out), HPN, Lib.hid (HT.out.far HPN.out _), HF⟩
                  · skip
                    go_simp
                    have HP := Lib.hid (heap_alloc_new X4 (.cells #[.int .i64 0, .int .i64 0, .int .i64 0, .int .i64 0, .int .i64 0, .int .i64 0, .int .i64 0] 72))
                    have HPN := Lib.hid HT.out.size
                    replace HT := Lib.hid (HT.out.next (below_boxC X4 (.cells #[.int .i64 0, .int .i64 0, .int .i64 0, .int .i64 0, .int .i64 0, .int .i64 0, .int .i64 0] 72)))
                    refine held_go hK' (HT.out.pre) ?_
                    try simp only [Act.put, List.setIfInBounds_toArray, List.set_cons_zero, List.set_cons_succ]
                    clear hS0
                    have hS0 := HT.out.pre
                    generalize World.alloc X4 _ = X5 at *
                    generalize X4.heap.size = p at *
                    refine held_call (i := 25) rfl (by kernel_rfl) (by rfl) (fun K' hK' => ?_)
                    go_simp
                    refine (failed_any _ _ _).mono ?_
                    rintro e XQ ⟨rfl, hYY⟩
                    obtain rfl := hYY.symm
                    refine held_go hK' (HT.out.pre) ?_
                    try simp only [Act.put, List.setIfInBounds_toArray, List.set_cons_zero, List.set_cons_succ]
                    clear hS0
                    have hS0 := HT.out.pre
                    refine held_take (i := 26) (v := ?_) rfl (by kernel_rfl) (by kernel_rfl) (by kernel_rfl) (fun _ _ _ h => h) (by rfl) ?_ (by assumption) ?_
                    rotate_left
                    · intro X hSX
                      try dsimp only at hSX
                      go_simp <;> with_reducible rfl
                    simp only [Act.put, List.setIfInBounds_toArray, List.set_cons_zero, List.set_cons_succ]
                    refine held_call (i := 28) rfl (by kernel_rfl) (by rfl) (fun K' hK' => ?_)
                    refine oper_store_ch (.tmp 10) (.tmp 37) rfl p rfl _ _ _ _ _ _ _ rfl chZ rfl HP.out ?_
                    refine held_go hK' ((HT.out.far HPN.out _).pre) ?_
                    try simp only [Act.put, List.setIfInBounds_toArray, List.set_cons_zero, List.set_cons_succ]
                    refine wpAnyH_done (by kernel_rfl) ?_ _
                    refine NoPanic.normal ?_
                    go_wp2_with fail
                    go_meet
                    exact ⟨p, _, _, _, _, _, _, _, rfl, Lib.hid (setRow_heap _ _ _ (chK _ _ _ _ _ _ _) _ _ HP.out), HPN, Lib.hid (HT.out.far HPN.out _), HF⟩
                · skip
                  go_simp
                  have HP := Lib.hid (heap_alloc_new X3 (.cells #[.int .i64 0, .int .i64 0, .int .i64 0, .int .i64 0, .int .i64 0, .int .i64 0, .int .i64 0] 72))
                  have HPN := Lib.hid HT.out.size
                  replace HT := Lib.hid (HT.out.next (below_boxC X3 (.cells #[.int .i64 0, .int .i64 0, .int .i64 0, .int .i64 0, .int .i64 0, .int .i64 0, .int .i64 0] 72)))
                  refine held_go hK' (HT.out.pre) ?_
                  try simp only [Act.put, List.setIfInBounds_toArray, List.set_cons_zero, List.set_cons_succ]
                  clear hS0
                  have hS0 := HT.out.pre
                  generalize World.alloc X3 _ = X4 at *
                  generalize X3.heap.size = p at *
                  refine held_call (i := 24) rfl (by kernel_rfl) (by rfl) (fun K' hK' => ?_)
                  go_simp
                  refine (HU.out X4).mono ?_
                  rintro e X5 ⟨rfl, hb⟩
                  replace HT := Lib.hid (HT.out.next hb)
                  replace HP := Lib.hid (row_next HP.out hb)
                  clear hb
                  refine held_go hK' (HT.out.pre) ?_
                  try simp only [Act.put, List.setIfInBounds_toArray, List.set_cons_zero, List.set_cons_succ]
                  clear hS0
                  have hS0 := HT.out.pre
                  refine held_call (i := 25) rfl (by kernel_rfl) (by rfl) (fun K' hK' => ?_)
                  go_simp
                  refine (failed_any _ _ _).mono ?_
                  rintro e XQ ⟨rfl, hYY⟩
                  obtain rfl := hYY.symm
                  refine held_go hK' (HT.out.pre) ?_
                  try simp only [Act.put, List.setIfInBounds_toArray, List.set_cons_zero, List.set_cons_succ]
                  clear hS0
                  have hS0 := HT.out.pre
                  refine held_take (i := 26) (v := ?_) rfl (by kernel_rfl) (by kernel_rfl) (by kernel_rfl) (fun _ _ _ h => h) (by rfl) ?_ (by assumption) ?_
                  rotate_left
                  · intro X hSX
                    try dsimp only at hSX
                    go_simp <;> with_reducible rfl
                  simp only [Act.put, List.setIfInBounds_toArray, List.set_cons_zero, List.set_cons_succ]
                  refine held_call (i := 28) rfl (by kernel_rfl) (by rfl) (fun K' hK' => ?_)
                  refine oper_store_ch (.tmp 10) (.tmp 37) rfl p rfl _ _ _ _ _ _ _ rfl chZ rfl HP.out ?_
                  refine held_go hK' ((HT.out.far HPN.out _).pre) ?_
                  try simp only [Act.put, List.setIfInBounds_toArray, List.set_cons_zero, List.set_cons_succ]
                  refine wpAnyH_done (by kernel_rfl) ?_ _
                  refine NoPanic.normal ?_
                  go_wp2_with fail
                  go_meet
                  exact ⟨p, _, _, _, _, _, _, _, rfl, Lib.hid (setRow_heap _ _ _ (chK _ _ _ _ _ _ _) _ _ HP.out), HPN, Lib.hid (HT.out.far HPN.out _), HF⟩
              · skip
                go_simp
                have HP := Lib.hid (heap_alloc_new X3 (.cells #[.int .i64 0, .int .i64 0, .int .i64 0, .int .i64 0, .int .i64 0, .int .i64 0, .int .i64 0] 72))
                have HPN := Lib.hid HT.out.size
                replace HT := Lib.hid (HT.out.next (below_boxC X3 (.cells #[.int .i64 0, .int .i64 0, .int .i64 0, .int .i64 0, .int .i64 0, .int .i64 0, .int .i64 0] 72)))
                refine held_go hK' (HT.out.pre) ?_
                try simp only [Act.put, List.setIfInBounds_toArray, List.set_cons_zero, List.set_cons_succ]
                clear hS0
                have hS0 := HT.out.pre
                generalize World.alloc X3 _ = X4 at *
                generalize X3.heap.size = p at *
                refine held_call (i := 21) rfl (by kernel_rfl) (by rfl) (fun K' hK' => ?_)
                go_simp
                refine (failed_any _ _ _).mono ?_
                rintro e XQ ⟨rfl, hYY⟩
                obtain rfl := hYY.symm
                refine held_go hK' (HT.out.pre) ?_
                try simp only [Act.put, List.setIfInBounds_toArray, List.set_cons_zero, List.set_cons_succ]
                clear hS0
                have hS0 := HT.out.pre
                refine held_call (i := 24) rfl (by kernel_rfl) (by rfl) (fun K' hK' => ?_)
                go_simp
                refine (HU.out X4).mono ?_
                rintro e X5 ⟨rfl, hb⟩
                replace HT := Lib.hid (HT.out.next hb)
                replace HP := Lib.hid (row_next HP.out hb)
                clear hb
                refine held_go hK' (HT.out.pre) ?_
                try simp only [Act.put, List.setIfInBounds_toArray, List.set_cons_zero, List.set_cons_succ]
                clear hS0
                have hS0 := HT.out.pre
                refine held_call (i := 25) rfl (by kernel_rfl) (by rfl) (fun K' hK' => ?_)
                go_simp
                refine (failed_any _ _ _).mono ?_
                rintro e XQ ⟨rfl, hYY⟩
                obtain rfl := hYY.symm
                refine held_go hK' (HT.out.pre) ?_
                try simp only [Act.put, List.setIfInBounds_toArray, List.set_cons_zero, List.set_cons_succ]
                clear hS0
                have hS0 := HT.out.pre
                refine held_take (i := 26) (v := ?_) rfl (by kernel_rfl) (by kernel_rfl) (by kernel_rfl) (fun _ _ _ h => h) (by rfl) ?_ (by assumption) ?_
                rotate_left
                · intro X hSX
                  try dsimp only at hSX
                  go_simp <;> with_reducible rfl
                simp only [Act.put, List.setIfInBounds_toArray, List.set_cons_zero, List.set_cons_succ]
                refine held_call (i := 28) rfl (by kernel_rfl) (by rfl) (fun K' hK' => ?_)
                refine oper_store_ch (.tmp 10) (.tmp 37) rfl p rfl _ _ _ _ _ _ _ rfl chZ rfl HP.out ?_
                refine held_go hK' ((HT.out.far HPN.out _).pre) ?_
                try simp only [Act.put, List.setIfInBounds_toArray, List.set_cons_zero, List.set_cons_succ]
                refine wpAnyH_done (by kernel_rfl) ?_ _
                refine NoPanic.normal ?_
                go_wp2_with fail
                go_meet
                exact ⟨p, _, _, _, _, _, _, _, rfl, Lib.hid (setRow_heap _ _ _ (chK _ _ _ _ _ _ _) _ _ HP.out), HPN, Lib.hid (HT.out.far HPN.out _), HF⟩
            · skip
              go_simp
              have HP := Lib.hid (heap_alloc_new X3 (.cells #[.int .i64 0, .int .i64 0, .int .i64 0, .int .i64 0, .int .i64 0, .int .i64 0, .int .i64 0] 72))
              have HPN := Lib.hid HT.out.size
              replace HT := Lib.hid (HT.out.next (below_boxC X3 (.cells #[.int .i64 0, .int .i64 0, .int .i64 0, .int .i64 0, .int .i64 0, .int .i64 0, .int .i64 0] 72)))
              refine held_go hK' (HT.out.pre) ?_
              try simp only [Act.put, List.setIfInBounds_toArray, List.set_cons_zero, List.set_cons_succ]
              clear hS0
              have hS0 := HT.out.pre
              generalize World.alloc X3 _ = X4 at *
              generalize X3.heap.size = p at *
              refine held_call (i := 17) rfl (by kernel_rfl) (by rfl) (fun K' hK' => ?_)
              go_simp
              refine (failed_any _ _ _).mono ?_
              rintro e XQ ⟨rfl, hYY⟩
              obtain rfl := hYY.symm
              refine held_go hK' (HT.out.pre) ?_
              try simp only [Act.put, List.setIfInBounds_toArray, List.set_cons_zero, List.set_cons_succ]
              clear hS0
              have hS0 := HT.out.pre
              refine held_call (i := 21) rfl (by kernel_rfl) (by rfl) (fun K' hK' => ?_)
              go_simp
              refine (failed_any _ _ _).mono ?_
              rintro e XQ ⟨rfl, hYY⟩
              obtain rfl := hYY.symm
              refine held_go hK' (HT.out.pre) ?_
              try simp only [Act.put, List.setIfInBounds_toArray, List.set_cons_zero, List.set_cons_succ]
              clear hS0
              have hS0 := HT.out.pre
              refine held_call (i := 24) rfl (by kernel_rfl) (by rfl) (fun K' hK' => ?_)
              go_simp
              refine (HU.out X4).mono ?_
              rintro e X5 ⟨rfl, hb⟩
              replace HT := Lib.hid (HT.out.next hb)
              replace HP := Lib.hid (row_next HP.out hb)
              clear hb
              refine held_go hK' (HT.out.pre) ?_
              try simp only [Act.put, List.setIfInBounds_toArray, List.set_cons_zero, List.set_cons_succ]
              clear hS0
              have hS0 := HT.out.pre
              refine held_call (i := 25) rfl (by kernel_rfl) (by rfl) (fun K' hK' => ?_)
              go_simp
              refine (failed_any _ _ _).mono ?_
              rintro e XQ ⟨rfl, hYY⟩
              obtain rfl := hYY.symm
              refine held_go hK' (HT.out.pre) ?_
              try simp only [Act.put, List.setIfInBounds_toArray, List.set_cons_zero, List.set_cons_succ]
              clear hS0
              have hS0 := HT.out.pre
              refine held_take (i := 26) (v := ?_) rfl (by kernel_rfl) (by kernel_rfl) (by kernel_rfl) (fun _ _ _ h => h) (by rfl) ?_ (by assumption) ?_
              rotate_left
              · intro X hSX
                try dsimp only at hSX
                go_simp <;> with_reducible rfl
              simp only [Act.put, List.setIfInBounds_toArray, List.set_cons_zero, List.set_cons_succ]
              refine held_call (i := 28) rfl (by kernel_rfl) (by rfl) (fun K' hK' => ?_)
              refine oper_store_ch (.tmp 10) (.tmp 37) rfl p rfl _ _ _ _ _ _ _ rfl chZ rfl HP.out ?_
              refine held_go hK' ((HT.out.far HPN.out _).pre) ?_
              try simp only [Act.put, List.setIfInBounds_toArray, List.set_cons_zero, List.set_cons_succ]
              refine wpAnyH_done (by kernel_rfl) ?_ _
              refine NoPanic.normal ?_
              go_wp2_with fail
              go_meet
              exact ⟨p, _, _, _, _, _, _, _, rfl, Lib.hid (setRow_heap _ _ _ (chK _ _ _ _ _ _ _) _ _ HP.out), HPN, Lib.hid (HT.out.far HPN.out _), HF⟩
          · skip
            go_simp
            have HP := Lib.hid (heap_alloc_new X3 (.cells #[.int .i64 0, .int .i64 0, .int .i64 0, .int .i64 0, .int .i64 0, .int .i64 0, .int .i64 0] 72))
            have HPN := Lib.hid HT.out.size
            replace HT := Lib.hid (HT.out.next (below_boxC X3 (.cells #[.int .i64 0, .int .i64 0, .int .i64 0, .int .i64 0, .int .i64 0, .int .i64 0, .int .i64 0] 72)))
            refine held_go hK' (HT.out.pre) ?_
            try simp only [Act.put, List.setIfInBounds_toArray, List.set_cons_zero, List.set_cons_succ]
            clear hS0
            have hS0 := HT.out.pre
            generalize World.alloc X3 _ = X4 at *
            generalize X3.heap.size = p at *
            refine held_call (i := 13) rfl (by kernel_rfl) (by rfl) (fun K' hK' => ?_)
            go_simp
            refine (failed_any _ _ _).mono ?_
            rintro e XQ ⟨rfl, hYY⟩
            obtain rfl := hYY.symm
            refine held_go hK' (HT.out.pre) ?_
            try simp only [Act.put, List.setIfInBounds_toArray, List.set_cons_zero, List.set_cons_succ]
            clear hS0
            have hS0 := HT.out.pre
            refine held_call (i := 17) rfl (by kernel_rfl) (by rfl) (fun K' hK' => ?_)
            go_simp
            refine (failed_any _ _ _).mono ?_
            rintro e XQ ⟨rfl, hYY⟩
            obtain rfl := hYY.symm
            refine held_go hK' (HT.out.pre) ?_
            try simp only [Act.put, List.setIfInBounds_toArray, List.set_cons_zero, List.set_cons_succ]
            clear hS0
            have hS0 := HT.out.pre
            refine held_call (i := 21) rfl (by kernel_rfl) (by rfl) (fun K' hK' => ?_)
            go_simp
            refine (failed_any _ _ _).mono ?_
            rintro e XQ ⟨rfl, hYY⟩
            obtain rfl := hYY.symm
            refine held_go hK' (HT.out.pre) ?_
            try simp only [Act.put, List.setIfInBounds_toArray, List.set_cons_zero, List.set_cons_succ]
            clear hS0
            have hS0 := HT.out.pre
            refine held_call (i := 24) rfl (by kernel_rfl) (by rfl) (fun K' hK' => ?_)
            go_simp
            refine (HU.out X4).mono ?_
            rintro e X5 ⟨rfl, hb⟩
            replace HT := Lib.hid (HT.out.next hb)
            replace HP := Lib.hid (row_next HP.out hb)
            clear hb
            refine held_go hK' (HT.out.pre) ?_
            try simp only [Act.put, List.setIfInBounds_toArray, List.set_cons_zero, List.set_cons_succ]
            clear hS0
            have hS0 := HT.out.pre
            refine held_call (i := 25) rfl (by kernel_rfl) (by rfl) (fun K' hK' => ?_)
            go_simp
            refine (failed_any _ _ _).mono ?_
            rintro e XQ ⟨rfl, hYY⟩
            obtain rfl := hYY.symm
            refine held_go hK' (HT.out.pre) ?_
            try simp only [Act.put, List.setIfInBounds_toArray, List.set_cons_zero, List.set_cons_succ]
            clear hS0
            have hS0 := HT.out.pre
            refine held_take (i := 26) (v := ?_) rfl (by kernel_rfl) (by kernel_rfl) (by kernel_rfl) (fun _ _ _ h => h) (by rfl) ?_ (by assumption) ?_
            rotate_left
            · intro X hSX
              try dsimp only at hSX
              go_simp <;> with_reducible rfl
            simp only [Act.put, List.setIfInBounds_toArray, List.set_cons_zero, List.set_cons_succ]
            refine held_call (i := 28) rfl (by kernel_rfl) (by rfl) (fun K' hK' => ?_)
            refine oper_store_ch (.tmp 10) (.tmp 37) rfl p rfl _ _ _ _ _ _ _ rfl chZ rfl HP.out ?_
            refine held_go hK' ((HT.out.far HPN.out _).pre) ?_
            try simp only [Act.put, List.setIfInBounds_toArray, List.set_cons_zero, List.set_cons_succ]
            refine wpAnyH_done (by kernel_rfl) ?_ _
            refine NoPanic.normal ?_
            go_wp2_with fail
            go_meet
            exact ⟨p, _, _, _, _, _, _, _, rfl, Lib.hid (setRow_heap _ _ _ (chK _ _ _ _ _ _ _) _ _ HP.out), HPN, Lib.hid (HT.out.far HPN.out _), HF⟩
        · skip
          go_simp
          have HP := Lib.hid (heap_alloc_new X2 (.cells #[.int .i64 0, .int .i64 0, .int .i64 0, .int .i64 0, .int .i64 0, .int .i64 0, .int .i64 0] 72))
          have HPN := Lib.hid HT.out.size
          replace HT := Lib.hid (HT.out.next (below_boxC X2 (.cells #[.int .i64 0, .int .i64 0, .int .i64 0, .int .i64 0, .int .i64 0, .int .i64 0, .int .i64 0] 72)))
          refine held_go hK' (HT.out.pre) ?_
          try simp only [Act.put, List.setIfInBounds_toArray, List.set_cons_zero, List.set_cons_succ]
          clear hS0
          have hS0 := HT.out.pre
          generalize World.alloc X2 _ = X3 at *
          generalize X2.heap.size = p at *
          refine held_call (i := 10) rfl (by kernel_rfl) (by rfl) (fun K' hK' => ?_)
          go_simp
          refine (HC.out X3 (HIN.out.below HT.out.b)).mono ?_
          rintro e X4 ⟨rfl, hb⟩
          replace HT := Lib.hid (HT.out.next hb)
          replace HP := Lib.hid (row_next HP.out hb)
          clear hb
          refine held_go hK' (HT.out.pre) ?_
          try simp only [Act.put, List.setIfInBounds_toArray, List.set_cons_zero, List.set_cons_succ]
          clear hS0
          have hS0 := HT.out.pre
          refine held_take (i := 11) (v := ?_) rfl (by kernel_rfl) (by kernel_rfl) (by kernel_rfl) (fun _ _ _ h => h) (by rfl) ?_ (by assumption) ?_
          rotate_left
          · intro X hSX
            try dsimp only at hSX
            go_simp <;> with_reducible rfl
          simp only [Act.put, List.setIfInBounds_toArray, List.set_cons_zero, List.set_cons_succ]
          refine held_take (i := 12) (v := ?_) rfl (by kernel_rfl) (by kernel_rfl) (by kernel_rfl) (fun _ _ _ h => h) (by rfl) ?_ (by assumption) ?_
          rotate_left
          · intro X hSX
            try dsimp only at hSX
            go_simp <;> with_reducible rfl
          simp only [Act.put, List.setIfInBounds_toArray, List.set_cons_zero, List.set_cons_succ]
          refine held_call (i := 13) rfl (by kernel_rfl) (by rfl) (fun K' hK' => ?_)
          go_simp
          refine (failed_any _ _ _).mono ?_
          rintro e XQ ⟨rfl, hYY⟩
          obtain rfl := hYY.symm
          refine held_go hK' (HT.out.pre) ?_
          try simp only [Act.put, List.setIfInBounds_toArray, List.set_cons_zero, List.set_cons_succ]
          clear hS0
          have hS0 := HT.out.pre
          refine held_call (i := 17) rfl (by kernel_rfl) (by rfl) (fun K' hK' => ?_)
          go_simp
          refine (failed_any _ _ _).mono ?_
          rintro e XQ ⟨rfl, hYY⟩
          obtain rfl := hYY.symm
          refine held_go hK' (HT.out.pre) ?_
          try simp only [Act.put, List.setIfInBounds_toArray, List.set_cons_zero, List.set_cons_succ]
          clear hS0
          have hS0 := HT.out.pre
          refine held_call (i := 21) rfl (by kernel_rfl) (by rfl) (fun K' hK' => ?_)
          go_simp
          refine (failed_any _ _ _).mono ?_
          rintro e XQ ⟨rfl, hYY⟩
          obtain rfl := hYY.symm
          refine held_go hK' (HT.out.pre) ?_
          try simp only [Act.put, List.setIfInBounds_toArray, List.set_cons_zero, List.set_cons_succ]
          clear hS0
          have hS0 := HT.out.pre
          refine held_call (i := 24) rfl (by kernel_rfl) (by rfl) (fun K' hK' => ?_)
          go_simp
          refine (HU.out X4).mono ?_
          rintro e X5 ⟨rfl, hb⟩
          replace HT := Lib.hid (HT.out.next hb)
          replace HP := Lib.hid (row_next HP.out hb)
          clear hb
          refine held_go hK' (HT.out.pre) ?_
          try simp only [Act.put, List.setIfInBounds_toArray, List.set_cons_zero, List.set_cons_succ]
          clear hS0
          have hS0 := HT.out.pre
          refine held_call (i := 25) rfl (by kernel_rfl) (by rfl) (fun K' hK' => ?_)
          go_simp
          refine (failed_any _ _ _).mono ?_
          rintro e XQ ⟨rfl, hYY⟩
          obtain rfl := hYY.symm
          refine held_go hK' (HT.out.pre) ?_
          try simp only [Act.put, List.setIfInBounds_toArray, List.set_cons_zero, List.set_cons_succ]
          clear hS0
          have hS0 := HT.out.pre
          refine held_take (i := 26) (v := ?_) rfl (by kernel_rfl) (by kernel_rfl) (by kernel_rfl) (fun _ _ _ h => h) (by rfl) ?_ (by assumption) ?_
          rotate_left
          · intro X hSX
            try dsimp only at hSX
            go_simp <;> with_reducible rfl
          simp only [Act.put, List.setIfInBounds_toArray, List.set_cons_zero, List.set_cons_succ]
          refine held_call (i := 28) rfl (by kernel_rfl) (by rfl) (fun K' hK' => ?_)
          refine oper_store_ch (.tmp 10) (.tmp 37) rfl p rfl _ _ _ _ _ _ _ rfl chZ rfl HP.out ?_
          refine held_go hK' ((HT.out.far HPN.out _).pre) ?_
          try simp only [Act.put, List.setIfInBounds_toArray, List.set_cons_zero, List.set_cons_succ]
          refine wpAnyH_done (by kernel_rfl) ?_ _
          refine NoPanic.normal ?_
          go_wp2_with fail
          go_meet
          exact ⟨p, _, _, _, _, _, _, _, rfl, Lib.hid (setRow_heap _ _ _ (chK _ _ _ _ _ _ _) _ _ HP.out), HPN, Lib.hid (HT.out.far HPN.out _), HF⟩
      · skip
        go_simp
        have HP := Lib.hid (heap_alloc_new X1 (.cells #[.int .i64 0, .int .i64 0, .int .i64 0, .int .i64 0, .int .i64 0, .int .i64 0, .int .i64 0] 72))
        have HPN := Lib.hid HT.out.size
        replace HT := Lib.hid (HT.out.next (below_boxC X1 (.cells #[.int .i64 0, .int .i64 0, .int .i64 0, .int .i64 0, .int .i64 0, .int .i64 0, .int .i64 0] 72)))
        refine held_go hK' (HT.out.pre) ?_
        try simp only [Act.put, List.setIfInBounds_toArray, List.set_cons_zero, List.set_cons_succ]
        clear hS0
        have hS0 := HT.out.pre
        generalize World.alloc X1 _ = X2 at *
        generalize X1.heap.size = p at *
        refine held_call (i := 5) rfl (by kernel_rfl) (by rfl) (fun K' hK' => ?_)
        go_simp
        refine (HD.out X2).mono ?_
        rintro e X3 ⟨rfl, hb⟩
        replace HT := Lib.hid (HT.out.next hb)
        replace HP := Lib.hid (row_next HP.out hb)
        clear hb
        refine held_go hK' (HT.out.pre) ?_
        try simp only [Act.put, List.setIfInBounds_toArray, List.set_cons_zero, List.set_cons_succ]
        clear hS0
        have hS0 := HT.out.pre
        refine held_take (i := 6) (v := ?_) rfl (by kernel_rfl) (by kernel_rfl) (by kernel_rfl) (fun _ _ _ h => h) (by rfl) ?_ (by assumption) ?_
        rotate_left
        · intro X hSX
          try dsimp only at hSX
          go_simp <;> with_reducible rfl
        simp only [Act.put, List.setIfInBounds_toArray, List.set_cons_zero, List.set_cons_succ]
        refine held_take (i := 7) (v := ?_) rfl (by kernel_rfl) (by kernel_rfl) (by kernel_rfl) (fun _ _ _ h => h) (by rfl) ?_ (by assumption) ?_
        rotate_left
        · intro X hSX
          try dsimp only at hSX
          go_simp <;> with_reducible rfl
        simp only [Act.put, List.setIfInBounds_toArray, List.set_cons_zero, List.set_cons_succ]
        refine held_take (i := 8) (v := ?_) rfl (by kernel_rfl) (by kernel_rfl) (by kernel_rfl) (fun _ _ _ h => h) (by rfl) ?_ (by assumption) ?_
        rotate_left
        · intro X hSX
          try dsimp only at hSX
          go_simp <;> with_reducible rfl
        simp only [Act.put, List.setIfInBounds_toArray, List.set_cons_zero, List.set_cons_succ]
        refine held_take (i := 9) (v := ?_) rfl (by kernel_rfl) (by kernel_rfl) (by kernel_rfl) (fun _ _ _ h => h) (by rfl) ?_ (by assumption) ?_
        rotate_left
        · intro X hSX
          try dsimp only at hSX
          obtain ⟨_, k0, k1, k2, k3, k4, k5, k6, k7, k8, k9, k10, k11, k12⟩ := hSX.c
          go_simp <;> with_reducible rfl
        simp only [Act.put, List.setIfInBounds_toArray, List.set_cons_zero, List.set_cons_succ]
        refine held_call (i := 10) rfl (by kernel_rfl) (by rfl) (fun K' hK' => ?_)
        go_simp
        refine (HC.out X3 (HIN.out.below HT.out.b)).mono ?_
        rintro e X4 ⟨rfl, hb⟩
        replace HT := Lib.hid (HT.out.next hb)
        replace HP := Lib.hid (row_next HP.out hb)
        clear hb
        refine held_go hK' (HT.out.pre) ?_
        try simp only [Act.put, List.setIfInBounds_toArray, List.set_cons_zero, List.set_cons_succ]
        clear hS0
        have hS0 := HT.out.pre
        refine held_take (i := 11) (v := ?_) rfl (by kernel_rfl) (by kernel_rfl) (by kernel_rfl) (fun _ _ _ h => h) (by rfl) ?_ (by assumption) ?_
        rotate_left
        · intro X hSX
          try dsimp only at hSX
          go_simp <;> with_reducible rfl
        simp only [Act.put, List.setIfInBounds_toArray, List.set_cons_zero, List.set_cons_succ]
        refine held_take (i := 12) (v := ?_) rfl (by kernel_rfl) (by kernel_rfl) (by kernel_rfl) (fun _ _ _ h => h) (by rfl) ?_ (by assumption) ?_
        rotate_left
        · intro X hSX
          try dsimp only at hSX
          go_simp <;> with_reducible rfl
        simp only [Act.put, List.setIfInBounds_toArray, List.set_cons_zero, List.set_cons_succ]
        refine held_call (i := 13) rfl (by kernel_rfl) (by rfl) (fun K' hK' => ?_)
        go_simp
        refine (failed_any _ _ _).mono ?_
        rintro e XQ ⟨rfl, hYY⟩
        obtain rfl := hYY.symm
        refine held_go hK' (HT.out.pre) ?_
        try simp only [Act.put, List.setIfInBounds_toArray, List.set_cons_zero, List.set_cons_succ]
        clear hS0
        have hS0 := HT.out.pre
        refine held_call (i := 17) rfl (by kernel_rfl) (by rfl) (fun K' hK' => ?_)
        go_simp
        refine (failed_any _ _ _).mono ?_
        rintro e XQ ⟨rfl, hYY⟩
        obtain rfl := hYY.symm
        refine held_go hK' (HT.out.pre) ?_
        try simp only [Act.put, List.setIfInBounds_toArray, List.set_cons_zero, List.set_cons_succ]
        clear hS0
        have hS0 := HT.out.pre
        refine held_call (i := 21) rfl (by kernel_rfl) (by rfl) (fun K' hK' => ?_)
        go_simp
        refine (failed_any _ _ _).mono ?_
        rintro e XQ ⟨rfl, hYY⟩
        obtain rfl := hYY.symm
        refine held_go hK' (HT.out.pre) ?_
        try simp only [Act.put, List.setIfInBounds_toArray, List.set_cons_zero, List.set_cons_succ]
        clear hS0
        have hS0 := HT.out.pre
        refine held_call (i := 24) rfl (by kernel_rfl) (by rfl) (fun K' hK' => ?_)
        go_simp
        refine (HU.out X4).mono ?_
        rintro e X5 ⟨rfl, hb⟩
        replace HT := Lib.hid (HT.out.next hb)
        replace HP := Lib.hid (row_next HP.out hb)
        clear hb
        refine held_go hK' (HT.out.pre) ?_
        try simp only [Act.put, List.setIfInBounds_toArray, List.set_cons_zero, List.set_cons_succ]
        clear hS0
        have hS0 := HT.out.pre
        refine held_call (i := 25) rfl (by kernel_rfl) (by rfl) (fun K' hK' => ?_)
        go_simp
        refine (failed_any _ _ _).mono ?_
        rintro e XQ ⟨rfl, hYY⟩
        obtain rfl := hYY.symm
        refine held_go hK' (HT.out.pre) ?_
        try simp only [Act.put, List.setIfInBounds_toArray, List.set_cons_zero, List.set_cons_succ]
        clear hS0
        have hS0 := HT.out.pre
        refine held_take (i := 26) (v := ?_) rfl (by kernel_rfl) (by kernel_rfl) (by kernel_rfl) (fun _ _ _ h => h) (by rfl) ?_ (by assumption) ?_
        rotate_left
        · intro X hSX
          try dsimp only at hSX
          go_simp <;> with_reducible rfl
        simp only [Act.put, List.setIfInBounds_toArray, List.set_cons_zero, List.set_cons_succ]
        refine held_call (i := 28) rfl (by kernel_rfl) (by rfl) (fun K' hK' => ?_)
        refine oper_store_ch (.tmp 10) (.tmp 37) rfl p rfl _ _ _ _ _ _ _ rfl chZ rfl HP.out ?_
        refine held_go hK' ((HT.out.far HPN.out _).pre) ?_
        try simp only [Act.put, List.setIfInBounds_toArray, List.set_cons_zero, List.set_cons_succ]
        refine wpAnyH_done (by kernel_rfl) ?_ _
        refine NoPanic.normal ?_
        go_wp2_with fail
        go_meet
        exact ⟨p, _, _, _, _, _, _, _, rfl, Lib.hid (setRow_heap _ _ _ (chK _ _ _ _ _ _ _) _ _ HP.out), HPN, Lib.hid (HT.out.far HPN.out _), HF⟩
    · skip
      go_simp
      have HP := Lib.hid (heap_alloc_new X0 (.cells #[.int .i64 0, .int .i64 0, .int .i64 0, .int .i64 0, .int .i64 0, .int .i64 0, .int .i64 0] 72))
      have HPN := Lib.hid HT.out.size
      replace HT := Lib.hid (HT.out.next (below_boxC X0 (.cells #[.int .i64 0, .int .i64 0, .int .i64 0, .int .i64 0, .int .i64 0, .int .i64 0, .int .i64 0] 72)))
      refine held_go hK' (HT.out.pre) ?_
      try simp only [Act.put, List.setIfInBounds_toArray, List.set_cons_zero, List.set_cons_succ]
      clear hS0
      have hS0 := HT.out.pre
      generalize World.alloc X0 _ = X1 at *
      generalize X0.heap.size = p at *
      refine held_call (i := 1) rfl (by kernel_rfl) (by rfl) (fun K' hK' => ?_)
      go_simp
      refine (HM.out X1).mono ?_
      rintro e X2 ⟨rfl, hb⟩
      replace HT := Lib.hid (HT.out.next hb)
      replace HP := Lib.hid (row_next HP.out hb)
      clear hb
      refine held_go hK' (HT.out.pre) ?_
      try simp only [Act.put, List.setIfInBounds_toArray, List.set_cons_zero, List.set_cons_succ]
      clear hS0
      have hS0 := HT.out.pre
      refine held_take (i := 2) (v := ?_) rfl (by kernel_rfl) (by kernel_rfl) (by kernel_rfl) (fun _ _ _ h => h) (by rfl) ?_ (by assumption) ?_
      rotate_left
      · intro X hSX
        try dsimp only at hSX
        go_simp <;> with_reducible rfl
      simp only [Act.put, List.setIfInBounds_toArray, List.set_cons_zero, List.set_cons_succ]
      refine held_take (i := 3) (v := ?_) rfl (by kernel_rfl) (by kernel_rfl) (by kernel_rfl) (fun _ _ _ h => h) (by rfl) ?_ (by assumption) ?_
      rotate_left
      · intro X hSX
        try dsimp only at hSX
        go_simp <;> with_reducible rfl
      simp only [Act.put, List.setIfInBounds_toArray, List.set_cons_zero, List.set_cons_succ]
      refine held_take (i := 4) (v := ?_) rfl (by kernel_rfl) (by kernel_rfl) (by kernel_rfl) (fun _ _ _ h => h) (by rfl) ?_ (by assumption) ?_
      rotate_left
      · intro X hSX
        try dsimp only at hSX
        obtain ⟨_, d0, d1, d2, d3, d4, d5⟩ := hSX.d
        go_simp <;> with_reducible rfl
      simp only [Act.put, List.setIfInBounds_toArray, List.set_cons_zero, List.set_cons_succ]
      refine held_call (i := 5) rfl (by kernel_rfl) (by rfl) (fun K' hK' => ?_)
      go_simp
      refine (HD.out X2).mono ?_
      rintro e X3 ⟨rfl, hb⟩
      replace HT := Lib.hid (HT.out.next hb)
      replace HP := Lib.hid (row_next HP.out hb)
      clear hb
      refine held_go hK' (HT.out.pre) ?_
      try simp only [Act.put, List.setIfInBounds_toArray, List.set_cons_zero, List.set_cons_succ]
      clear hS0
      have hS0 := HT.out.pre
      refine held_take (i := 6) (v := ?_) rfl (by kernel_rfl) (by kernel_rfl) (by kernel_rfl) (fun _ _ _ h => h) (by rfl) ?_ (by assumption) ?_
      rotate_left
      · intro X hSX
        try dsimp only at hSX
        go_simp <;> with_reducible rfl
      simp only [Act.put, List.setIfInBounds_toArray, List.set_cons_zero, List.set_cons_succ]
      refine held_take (i := 7) (v := ?_) rfl (by kernel_rfl) (by kernel_rfl) (by kernel_rfl) (fun _ _ _ h => h) (by rfl) ?_ (by assumption) ?_
      rotate_left
      · intro X hSX
        try dsimp only at hSX
        go_simp <;> with_reducible rfl
      simp only [Act.put, List.setIfInBounds_toArray, List.set_cons_zero, List.set_cons_succ]
      refine held_take (i := 8) (v := ?_) rfl (by kernel_rfl) (by kernel_rfl) (by kernel_rfl) (fun _ _ _ h => h) (by rfl) ?_ (by assumption) ?_
      rotate_left
      · intro X hSX
        try dsimp only at hSX
        go_simp <;> with_reducible rfl
      simp only [Act.put, List.setIfInBounds_toArray, List.set_cons_zero, List.set_cons_succ]
      refine held_take (i := 9) (v := ?_) rfl (by kernel_rfl) (by kernel_rfl) (by kernel_rfl) (fun _ _ _ h => h) (by rfl) ?_ (by assumption) ?_
      rotate_left
      · intro X hSX
        try dsimp only at hSX
        obtain ⟨_, k0, k1, k2, k3, k4, k5, k6, k7, k8, k9, k10, k11, k12⟩ := hSX.c
        go_simp <;> with_reducible rfl
      simp only [Act.put, List.setIfInBounds_toArray, List.set_cons_zero, List.set_cons_succ]
      refine held_call (i := 10) rfl (by kernel_rfl) (by rfl) (fun K' hK' => ?_)
      go_simp
      refine (HC.out X3 (HIN.out.below HT.out.b)).mono ?_
      rintro e X4 ⟨rfl, hb⟩
      replace HT := Lib.hid (HT.out.next hb)
      replace HP := Lib.hid (row_next HP.out hb)
      clear hb
      refine held_go hK' (HT.out.pre) ?_
      try simp only [Act.put, List.setIfInBounds_toArray, List.set_cons_zero, List.set_cons_succ]
      clear hS0
      have hS0 := HT.out.pre
      refine held_take (i := 11) (v := ?_) rfl (by kernel_rfl) (by kernel_rfl) (by kernel_rfl) (fun _ _ _ h => h) (by rfl) ?_ (by assumption) ?_
      rotate_left
      · intro X hSX
        try dsimp only at hSX
        go_simp <;> with_reducible rfl
      simp only [Act.put, List.setIfInBounds_toArray, List.set_cons_zero, List.set_cons_succ]
      refine held_take (i := 12) (v := ?_) rfl (by kernel_rfl) (by kernel_rfl) (by kernel_rfl) (fun _ _ _ h => h) (by rfl) ?_ (by assumption) ?_
      rotate_left
      · intro X hSX
        try dsimp only at hSX
        go_simp <;> with_reducible rfl
      simp only [Act.put, List.setIfInBounds_toArray, List.set_cons_zero, List.set_cons_succ]
      refine held_call (i := 13) rfl (by kernel_rfl) (by rfl) (fun K' hK' => ?_)
      go_simp
      refine (failed_any _ _ _).mono ?_
      rintro e XQ ⟨rfl, hYY⟩
      obtain rfl := hYY.symm
      refine held_go hK' (HT.out.pre) ?_
      try simp only [Act.put, List.setIfInBounds_toArray, List.set_cons_zero, List.set_cons_succ]
      clear hS0
      have hS0 := HT.out.pre
      refine held_call (i := 17) rfl (by kernel_rfl) (by rfl) (fun K' hK' => ?_)
      go_simp
      refine (failed_any _ _ _).mono ?_
      rintro e XQ ⟨rfl, hYY⟩
      obtain rfl := hYY.symm
      refine held_go hK' (HT.out.pre) ?_
      try simp only [Act.put, List.setIfInBounds_toArray, List.set_cons_zero, List.set_cons_succ]
      clear hS0
      have hS0 := HT.out.pre
      refine held_call (i := 21) rfl (by kernel_rfl) (by rfl) (fun K' hK' => ?_)
      go_simp
      refine (failed_any _ _ _).mono ?_
      rintro e XQ ⟨rfl, hYY⟩
      obtain rfl := hYY.symm
      refine held_go hK' (HT.out.pre) ?_
      try simp only [Act.put, List.setIfInBounds_toArray, List.set_cons_zero, List.set_cons_succ]
      clear hS0
      have hS0 := HT.out.pre
      refine held_call (i := 24) rfl (by kernel_rfl) (by rfl) (fun K' hK' => ?_)
      go_simp
      refine (HU.out X4).mono ?_
      rintro e X5 ⟨rfl, hb⟩
      replace HT := Lib.hid (HT.out.next hb)
      replace HP := Lib.hid (row_next HP.out hb)
      clear hb
      refine held_go hK' (HT.out.pre) ?_
      try simp only [Act.put, List.setIfInBounds_toArray, List.set_cons_zero, List.set_cons_succ]
      clear hS0
      have hS0 := HT.out.pre
      refine held_call (i := 25) rfl (by kernel_rfl) (by rfl) (fun K' hK' => ?_)
      go_simp
      refine (failed_any _ _ _).mono ?_
      rintro e XQ ⟨rfl, hYY⟩
      obtain rfl := hYY.symm
      refine held_go hK' (HT.out.pre) ?_
      try simp only [Act.put, List.setIfInBounds_toArray, List.set_cons_zero, List.set_cons_succ]
      clear hS0
      have hS0 := HT.out.pre
      refine held_take (i := 26) (v := ?_) rfl (by kernel_rfl) (by kernel_rfl) (by kernel_rfl) (fun _ _ _ h => h) (by rfl) ?_ (by assumption) ?_
      rotate_left
      · intro X hSX
        try dsimp only at hSX
        go_simp <;> with_reducible rfl
      simp only [Act.put, List.setIfInBounds_toArray, List.set_cons_zero, List.set_cons_succ]
      refine held_call (i := 28) rfl (by kernel_rfl) (by rfl) (fun K' hK' => ?_)
      refine oper_store_ch (.tmp 10) (.tmp 37) rfl p rfl _ _ _ _ _ _ _ rfl chZ rfl HP.out ?_
      refine held_go hK' ((HT.out.far HPN.out _).pre) ?_
      try simp only [Act.put, List.setIfInBounds_toArray, List.set_cons_zero, List.set_cons_succ]
      refine wpAnyH_done (by kernel_rfl) ?_ _
      refine NoPanic.normal ?_
      go_wp2_with fail
      go_meet
      exact ⟨p, _, _, _, _, _, _, _, rfl, Lib.hid (setRow_heap _ _ _ (chK _ _ _ _ _ _ _) _ _ HP.out), HPN, Lib.hid (HT.out.far HPN.out _), HF⟩
  case rest =>
    obtain ⟨p, a0, a1, a2, a3, a4, a5, a6, rfl, hch, hpn, ht, hfr⟩ := hcut
    replace HT := Lib.hid ht.out
    have HCH := Lib.hid hch.out
    have HPN := Lib.hid hpn.out
    have HFR := Lib.hid hfr.out
    clear hch hpn ht hfr HF HU
    have HRD := Lib.hid (show wc.heap[w.heap.size + 1]? = some (.cells (drK d) 25 (0, 0)) from HT.out.at_ 1 _ rfl)
    have HRC := Lib.hid (show wc.heap[w.heap.size + 2]? = some (.cells (crQ c ad cap) 30 (0, 0)) from HT.out.at_ 2 _ rfl)
    go_wp2_with (first
      | (with_reducible refine ld_ch rfl (.tmp 10) rfl p rfl _ _ _ _ _ _ _ HCH.out ?_)
      | (with_reducible refine ld_dr rfl (.tmp 4) rfl (w.heap.size + 1) rfl d HRD.out ?_)
      | (with_reducible refine ld_cr rfl (.tmp 5) rfl (w.heap.size + 2) rfl c ad cap HRC.out ?_))
    have HSZ := Lib.hid (show w.heap.size + 5 ≤ wc.heap.size from HT.out.size)
    have HLT := Lib.hid (show w.heap.size + 3 < wc.heap.size ∧ w.heap.size + 4 < wc.heap.size by have h1 := HSZ.out; omega)
    by_cases hf0 : fq = 0
    rotate_left
    · have HR := Lib.hid (show res = (drZ, crZ, 0, fq) by rw [HFU.out, if_neg hf0])
      refine (perform_no a0 a1 a2 a3 a4 a5 a6 d c ad cap _ fq wc HFR.out hf0).mono ?_
      rintro e w2 ⟨rfl, hb⟩
      have HSM := Lib.hid (Sm.refl wc.heap.size w2)
      replace HT := Lib.hid (HT.out.next hb)
      clear hb
      have R3 := Lib.hid (show w2.heap[w.heap.size + 3]? = some (.cells (drK drZ) 25 (0, 0)) from HT.out.at_ 3 _ rfl)
      have R4 := Lib.hid (show (w2.setRow (w.heap.size + 3) (drK drZ)).heap[w.heap.size + 4]? = some (.cells (crQ crZ none 0) 30 (0, 0)) by rw [setRow_other _ _ _ _ (by omega)]; exact HT.out.at_ 4 _ rfl)
      have HS3 := Lib.hid ((HSM.out.row (g := w.heap.size + 3) (cs := drK drZ) (.inl HLT.out.1)).row (g := w.heap.size + 4) (cs := crQ crZ none 0) (.inl HLT.out.2))
      have HB3 := Lib.hid (below_set (below_set HT.out.b (show w.heap.size ≤ w.heap.size + 3 by omega) (drK drZ)) (show w.heap.size ≤ w.heap.size + 4 by omega) (crQ crZ none 0))
      clear HSM HT HCH
      go_wp2_with (first
        | (with_reducible refine wpList_store_dr rfl (.tmp 6) (.tmp 43) rfl (w.heap.size + 3) rfl _ _ _ _ _ _ rfl drZ R3.out ?_)
        | (with_reducible refine wpList_store_cr rfl (.tmp 7) (.tmp 44) rfl (w.heap.size + 4) rfl _ _ _ _ _ _ _ _ _ _ _ _ _ _ _ rfl _ _ _ _ _ _ _ _ _ _ _ _ _ _ _ R4.out ?_))
      refine post_cells2 rfl rfl (show ((w2.setRow (w.heap.size + 3) (drK drZ)).setRow (w.heap.size + 4) (crQ crZ none 0)).heap[w.heap.size + 3]? = some (.cells (drK drZ) 25 (0, 0)) by rw [setRow_other _ _ _ _ (by omega)]; exact setRow_heap _ _ _ (drK drZ) _ _ R3.out) Try.underlying25 rfl infoD rfl (setRow_heap _ _ _ (crQ crZ none 0) _ _ R4.out) Try.underlying30 rfl infoC rfl rfl rfl ?_
      rw [HR.out]
      exact ret_dcZ HB3.out
    subst hf0
    have hp := HPT.out rfl
    have HR := Lib.hid (show res = ((⟨1, c.bc, d.hd, inc d.lo 1, d.pa, d.si⟩ : Drv), {c with lo := inc c.lo 1}, m.ld, (0 : Int)) by rw [HFU.out, if_pos rfl])
    clear HFU HPT
    have HRUN := Lib.hid (fun X (hX : Bx wc X (pfL a0 a1 a2 a3 a4 a5 a6 d c ad cap)) => run_load w.heap.size m a0 a1 a2 a3 a4 a5 a6 d c ad cap wc (by have h1 := HSZ.out; omega) (mdK_row (HT.out.at_ 0 _ rfl)).1 (HIN.out.below HT.out.b) hp.2.2.1 hp.2.2.2.1 X hX)
    have HSL := Lib.hid (show c.l.length ≤ 4096 ∧ ∀ b ∈ c.l, b.d.length ≤ 10000 from ⟨hp.2.2.2.2.1, hp.2.2.2.2.2.1⟩)
    clear hp
    refine (perform_load w.heap.size a0 a1 a2 a3 a4 a5 a6 d c ad cap wc (⟨1, c.bc, d.hd, inc d.lo 1, d.pa, d.si⟩, {c with lo := inc c.lo 1}, m.ld, 0) wc.heap.size (fun _ => True) HFR.out (Nat.le_refl _) (fun h => absurd rfl h) (fun _ => HSL.out) (fun _ _ _ _ _ => trivial) HRUN.out).mono ?_
    rintro e w2 ⟨ad', cap', rfl, hi, hkf, hb, -⟩
    have HI := Lib.hid hi
    have HKF := Lib.hid hkf
    have HSM := Lib.hid (Sm.refl wc.heap.size w2)
    have HX1 := Lib.hid HT.out.b.size
    replace HT := Lib.hid (HT.out.next hb)
    clear hb hi hkf HRUN HSL HFR
    have R3 := Lib.hid (show w2.heap[w.heap.size + 3]? = some (.cells (drK drZ) 25 (0, 0)) from HT.out.at_ 3 _ rfl)
    have R4 := Lib.hid (show (w2.setRow (w.heap.size + 3) (drK ⟨1, c.bc, d.hd, inc d.lo 1, d.pa, d.si⟩)).heap[w.heap.size + 4]? = some (.cells (crQ crZ none 0) 30 (0, 0)) by rw [setRow_other _ _ _ _ (by omega)]; exact HT.out.at_ 4 _ rfl)
    have HS3 := Lib.hid ((HSM.out.row (g := w.heap.size + 3) (cs := drK ⟨1, c.bc, d.hd, inc d.lo 1, d.pa, d.si⟩) (.inl HLT.out.1)).row (g := w.heap.size + 4) (cs := crQ {c with lo := inc c.lo 1} ad' cap') (.inl HLT.out.2))
    have HB3 := Lib.hid (below_set (below_set HT.out.b (show w.heap.size ≤ w.heap.size + 3 by omega) (drK ⟨1, c.bc, d.hd, inc d.lo 1, d.pa, d.si⟩)) (show w.heap.size ≤ w.heap.size + 4 by omega) (crQ {c with lo := inc c.lo 1} ad' cap'))
    clear HSM HT HCH
    go_wp2_with (first
      | (with_reducible refine wpList_store_dr rfl (.tmp 6) (.tmp 43) rfl (w.heap.size + 3) rfl _ _ _ _ _ _ rfl drZ R3.out ?_)
      | (with_reducible refine wpList_store_cr rfl (.tmp 7) (.tmp 44) rfl (w.heap.size + 4) rfl _ _ _ _ _ _ _ _ _ _ _ _ _ _ _ rfl _ _ _ _ _ _ _ _ _ _ _ _ _ _ _ R4.out ?_))
    refine post_cells2 rfl rfl (show ((w2.setRow (w.heap.size + 3) (drK ⟨1, c.bc, d.hd, inc d.lo 1, d.pa, d.si⟩)).setRow (w.heap.size + 4) (crQ {c with lo := inc c.lo 1} ad' cap')).heap[w.heap.size + 3]? = some (.cells (drK ⟨1, c.bc, d.hd, inc d.lo 1, d.pa, d.si⟩) 25 (0, 0)) by rw [setRow_other _ _ _ _ (by omega)]; exact setRow_heap _ _ _ (drK ⟨1, c.bc, d.hd, inc d.lo 1, d.pa, d.si⟩) _ _ R3.out) Try.underlying25 rfl infoD rfl (setRow_heap _ _ _ (crQ {c with lo := inc c.lo 1} ad' cap') _ _ R4.out) Try.underlying30 rfl infoC rfl rfl rfl ?_
    rw [HR.out]
    exact outer_end HI.out HKF.out HX1.out HS3.out HB3.out
end Go.Proofs.Ytepmmlnopdjjdaa
