/-
  DriveWears: a drive that is due does not load, a failed one does nothing.
-/
import Derived.Test.YtogeenihpcbbcaaQBase
import Derived.Deep.DeepCutAuto
import Derived.Deep.LoopGhost
namespace Go.Proofs.Ytogeenihpcbbcaa
open Go.RowKit
set_option linter.unusedVariables false
set_option linter.unusedSimpArgs false
set_option maxRecDepth 100000
abbrev boxDz : Obj := .cells #[.int .i64 0, .string ⟨#[]⟩, .int .i64 0, .int .i64 0, .int .i64 0, .int .i64 0] 25
abbrev boxKz : Obj := .cells #[.string ⟨#[]⟩, .int .i64 0, .int .i64 0, .int .i64 0, .int .i64 0, .int .i64 0, .int .i64 0, .bool false, .bool false, .slice none 0 0, .int .i64 0, .int .i64 0, .int .i64 0] 30
/-- a load that succeeds: the drive was not due, and empty -/
theorem ldU_ok {m : Mdl} {d : Drv} {c : Crt} (h : (ldU m d c).2.2.2 = 0) : due m d = false ∧ d.st = 0 := by
  rw [ldU_ldE] at h
  by_cases h0 : ldE m d c = 0
  · refine ⟨?_, (ldE_parts h0).2.2.2.2.2.2.2⟩
    unfold ldE at h0
    by_cases h1 : (mdlU m && (drvU d && vldC c)) = true
    · rw [if_pos h1] at h0
      by_cases h2 : d.st = 2
      · rw [if_pos h2] at h0; omega
      rw [if_neg h2] at h0
      by_cases h3 : d.st = 1
      · rw [if_pos h3] at h0; omega
      rw [if_neg h3] at h0
      by_cases h4 : due m d = true
      · rw [if_pos h4] at h0; omega
      · simpa using h4
    · rw [if_neg h1] at h0; omega
  · rw [if_neg h0] at h; exact absurd h h0
theorem clU_ok {m : Mdl} {d : Drv} (h : (clU m d).2.2 = 0) : due m (clU m d).1 = false ∧ (clU m d).1.si = 0 := by
  rw [clU_clE] at h ⊢
  by_cases h0 : clE m d = 0
  · rw [if_pos h0]
    refine ⟨?_, rfl⟩
    unfold due
    by_cases h1 : 0 < m.ce
    · rw [decide_eq_false (show ¬ m.ce ≤ 0 by omega), Bool.and_false]
    · rw [decide_eq_false h1, Bool.false_and]
  · rw [if_neg h0] at h; exact absurd h h0
/-- a failed drive does nothing -/
theorem stU_fail (m : Mdl) (d : Drv) (c : Crt) (k n : Int) (z : List Blk) (h : d.st = 2) : (stU m d c k n z).e = 16 ∨ (stU m d c k n z).e = 8 := by
  have hf : fstU m d c = 16 ∨ fstU m d c = 8 := by
    unfold fstU
    by_cases h1 : (mdlU m && (drvU d && vldC c)) = true
    · rw [if_pos h1, if_pos h]; exact .inl rfl
    · rw [if_neg h1]; exact .inr rfl
  have hf0 : ¬ fstU m d c = 0 := by omega
  unfold stU
  by_cases h0 : k = 0
  · rw [if_pos h0]
    unfold ldU
    by_cases h1 : (mdlU m && (drvU d && vldC c)) = true
    · rw [if_pos h1, if_pos h]; exact .inl rfl
    · rw [if_neg h1]; exact .inr rfl
  rw [if_neg h0]
  by_cases h1 : k = 1
  · rw [if_pos h1]; unfold ulU; rw [if_neg hf0]; exact hf
  rw [if_neg h1]
  by_cases h2 : k = 2
  · rw [if_pos h2]; unfold skU; rw [if_neg hf0]; exact hf
  rw [if_neg h2]
  by_cases h3 : k = 3
  · rw [if_pos h3]; unfold rdU; rw [if_neg hf0]; exact hf
  rw [if_neg h3]
  by_cases h4 : k = 4
  · rw [if_pos h4]; unfold wrU; rw [if_neg hf0]; exact hf
  rw [if_neg h4]
  unfold clU
  by_cases h1 : (mdlU m && drvU d) = true
  · rw [if_pos h1, if_pos h]; exact .inl rfl
  · rw [if_neg h1]; exact .inr rfl
attribute [local irreducible] stU fewB due worn mdlU drvU vldC ldU clU
set_option maxHeartbeats 16000000 in
theorem law_wears (m : Mdl) (d : Drv) (c : Crt) (ad : Option Addr) (cap : Nat) (sd : Option Addr) (sn sc : Nat) (ls : List St4) (w : World) (hin : CrIn w c ad cap) (hs : Ks4 w sd ls) (hsn : sn = ls.length) (hsc : sn ≤ sc) (hsm : sc ≤ maxLen) :
    Calls Try.prog 7 #[mdV m, drV d, crV c ad cap, .slice sd sn sc] w fun e w' => e = .returned (.bool true) ∧ Below w.heap.size w w' := by
  have HIN := Lib.hid hin
  have HKS := Lib.hid hs
  have HSN := Lib.hid hsn
  have hsb : sn ≤ 9223372036854775807 := by unfold maxLen at hsm; omega
  have HT := Lib.hid (show Bx w (((w.alloc (boxMx m)).alloc (boxDr d)).alloc (boxCx c ad cap)) [(mdK m, 23), (drK d, 25), (crQ c ad cap, 30)] from Bx.start w [(mdK m, 23), (drK d, 25), (crQ c ad cap, 30)])
  clear hin hs hsn hsc hsm
  go_enter Try.func7, Try.ntmps7
  go_wp2_with fail
  generalize World.alloc _ _ = Y0 at *
  refine (lives_any Y0).mono ?_
  rintro e Y1 ⟨rfl, hb⟩
  replace HT := Lib.hid (HT.out.next hb)
  clear hb
  obtain ⟨_, k0, k1, k2, k3, k4, k5, k6, k7, k8, k9, k10, k11, k12⟩ := HT.out.c
  go_wp2_with fail
  clear k0 k1 k2 k3 k4 k5 k6 k7 k8 k9 k10 k11 k12
  have HA := Lib.hid (heap_alloc_new Y1 (boxCx c ad cap))
  replace HT := Lib.hid (HT.out.next (below_boxC Y1 (boxCx c ad cap)))
  generalize World.alloc Y1 _ = Y2 at HA HT ⊢
  generalize Y1.heap.size = ga at HA ⊢
  refine (few_any (some ⟨ga, 0, none⟩) 1 1 [c] sd sn sc ls 20 Y2 (kcs_one HA.out (HIN.out.below HT.out.b)) rfl (HKS.out.below HT.out.b) HSN.out (by decide) hsb).mono ?_
  rintro e Y3 ⟨rfl, hY⟩
  obtain rfl := hY.symm
  clear HA
  cases hfew : fewB [c] ls 20
  · go_wp2
    go_ret
    exact ⟨rfl, HT.out.b⟩
  have hfw := fewB_iff.1 hfew
  have hoc := okC_iff.1 (hfw.2.1 c (by simp))
  have HOS := Lib.hid (fun s hs => (okS_iff.1 (hfw.2.2 s hs)).1)
  have HCP := Lib.hid (fun X h => rdcopied_any c ad cap X h (by omega) (fun b hb => by have := hoc.2 b hb; omega))
  have HLD := Lib.hid (fun X ad1 cap1 (h : CrIn X c ad1 cap1) => load_any m d c ad1 cap1 X h)
  have HLO := Lib.hid (fun h => ldU_ok (m := m) (d := d) (c := c) h)
  clear hfew hfw hoc
  generalize ldU m d c = r at *
  go_upto_region 5 with fail
  go_cut [12] (fun s12 wx => s12 = .int .i64 r.2.2.2 ∧ Hid (Bx w wx [(mdK m, 23), (drK d, 25), (crQ c ad cap, 30)]))
  case first =>
    replace HT := Lib.hid (HT.out.next (Below.refl Y2.heap.size Y2).drew)
    refine wp_region_noPanic ?_
    refine wp_region_held_drew (S := (fun X => Bx w X [(mdK m, 23), (drK d, 25), (crQ c ad cap, 30)])) (by kernel_rfl) (HT.out) (fun hS0 => ?_)
    generalize World.drew Y2 = X0 at *
    refine held_take (i := 0) (v := ?_) rfl (by kernel_rfl) (by kernel_rfl) (by kernel_rfl) (fun _ _ _ h => h) (by rfl) ?_ (by assumption) ?_
    rotate_left
    · intro X hSX
      try dsimp only at hSX
      obtain ⟨_, m0, m1, m2, m3, m4⟩ := hSX.m
      go_simp <;> with_reducible rfl
    simp only [Act.put, List.setIfInBounds_toArray, List.set_cons_zero, List.set_cons_succ]
    refine held_take (i := 1) (v := ?_) rfl (by kernel_rfl) (by kernel_rfl) (by kernel_rfl) (fun _ _ _ h => h) (by rfl) ?_ (by assumption) ?_
    rotate_left
    · intro X hSX
      try dsimp only at hSX
      obtain ⟨_, d0, d1, d2, d3, d4, d5⟩ := hSX.d
      go_simp <;> with_reducible rfl
    simp only [Act.put, List.setIfInBounds_toArray, List.set_cons_zero, List.set_cons_succ]
    refine held_take (i := 2) (v := ?_) rfl (by kernel_rfl) (by kernel_rfl) (by kernel_rfl) (fun _ _ _ h => h) (by rfl) ?_ (by assumption) ?_
    rotate_left
    · intro X hSX
      try dsimp only at hSX
      obtain ⟨_, k0, k1, k2, k3, k4, k5, k6, k7, k8, k9, k10, k11, k12⟩ := hSX.c
      go_simp <;> with_reducible rfl
    simp only [Act.put, List.setIfInBounds_toArray, List.set_cons_zero, List.set_cons_succ]
    refine held_three (i := 3) (j := 10) (k := 11) rfl rfl rfl (by kernel_rfl) (by rfl) (by rfl) (by rfl) (fun K' hK' => ?_) (fun K' hK' => ?_) (fun K' hK' => ?_)
    · skip
      go_simp
      refine (HCP.out X0 (HIN.out.below HT.out.b)).mono ?_
      rintro e X1 ⟨ad1, cap1, rfl, hi, hkf, hb⟩
      have HI1 := Lib.hid hi
      clear hi hkf
      replace HT := Lib.hid (HT.out.next hb)
      refine held_go hK' (HT.out) ?_
      try simp only [Act.put, List.setIfInBounds_toArray, List.set_cons_zero, List.set_cons_succ]
      clear hS0
      have hS0 := HT.out
      clear hb
      refine held_three (i := 4) (j := 10) (k := 11) rfl rfl rfl (by kernel_rfl) (by rfl) (by rfl) (by rfl) (fun K' hK' => ?_) (fun K' hK' => ?_) (fun K' hK' => ?_)
      · skip
        go_simp
        refine (HLD.out X1 ad1 cap1 HI1.out).mono ?_
        rintro e X2 ⟨ad2, cap2, rfl, hi2, -, hb⟩
        clear HI1 hi2
        replace HT := Lib.hid (HT.out.next hb)
        refine held_go hK' (HT.out) ?_
        try simp only [Act.put, List.setIfInBounds_toArray, List.set_cons_zero, List.set_cons_succ]
        clear hS0
        have hS0 := HT.out
        clear hb
        refine held_take (i := 5) (v := ?_) rfl (by kernel_rfl) (by kernel_rfl) (by kernel_rfl) (fun _ _ _ h => h) (by rfl) ?_ (by assumption) ?_
        rotate_left
        · intro X hSX
          try dsimp only at hSX
          go_simp <;> with_reducible rfl
        simp only [Act.put, List.setIfInBounds_toArray, List.set_cons_zero, List.set_cons_succ]
        refine held_take (i := 6) (v := ?_) rfl (by kernel_rfl) (by kernel_rfl) (by kernel_rfl) (fun _ _ _ h => h) (by rfl) ?_ (by assumption) ?_
        rotate_left
        · intro X hSX
          try dsimp only at hSX
          go_simp <;> with_reducible rfl
        simp only [Act.put, List.setIfInBounds_toArray, List.set_cons_zero, List.set_cons_succ]
        refine held_take (i := 7) (v := ?_) rfl (by kernel_rfl) (by kernel_rfl) (by kernel_rfl) (fun _ _ _ h => h) (by rfl) ?_ (by assumption) ?_
        rotate_left
        · intro X hSX
          try dsimp only at hSX
          go_simp <;> with_reducible rfl
        simp only [Act.put, List.setIfInBounds_toArray, List.set_cons_zero, List.set_cons_succ]
        refine held_take (i := 8) (v := ?_) rfl (by kernel_rfl) (by kernel_rfl) (by kernel_rfl) (fun _ _ _ h => h) (by rfl) ?_ (by assumption) ?_
        rotate_left
        · intro X hSX
          try dsimp only at hSX
          go_simp <;> with_reducible rfl
        simp only [Act.put, List.setIfInBounds_toArray, List.set_cons_zero, List.set_cons_succ]
        refine held_take (i := 9) (v := ?_) rfl (by kernel_rfl) (by kernel_rfl) (by kernel_rfl) (fun _ _ _ h => h) (by rfl) ?_ (by assumption) ?_
        rotate_left
        · intro X hSX
          try dsimp only at hSX
          go_simp <;> with_reducible rfl
        simp only [Act.put, List.setIfInBounds_toArray, List.set_cons_zero, List.set_cons_succ]
        refine held_two (i := 10) (j := 11) rfl rfl (by kernel_rfl) (by rfl) (by rfl) (fun K' hK' => ?_) (fun K' hK' => ?_)
        · skip
          go_simp
          have HPp := Lib.hid (heap_alloc_new X2 boxDz)
          have HNp := Lib.hid (show w.heap.size + 3 ≤ X2.heap.size from HT.out.size)
          replace HT := Lib.hid (HT.out.next (below_boxC X2 boxDz))
          refine held_go hK' (HT.out) ?_
          try simp only [Act.put, List.setIfInBounds_toArray, List.set_cons_zero, List.set_cons_succ]
          generalize World.alloc X2 _ = X3 at *
          generalize X2.heap.size = p at *
          clear hS0
          have hS0 := HT.out
          refine held_call (i := 11) rfl (by kernel_rfl) (by rfl) (fun K' hK' => ?_)
          go_simp
          have HPq := Lib.hid (heap_alloc_new X3 boxKz)
          have HNq := Lib.hid (show w.heap.size + 3 ≤ X3.heap.size from HT.out.size)
          have HNE := Lib.hid (show p ≠ X3.heap.size ∨ X3.heap.size ≠ p by have h1 := (Array.getElem?_eq_some_iff.1 HPp.out).1; omega)
          replace HPp := Lib.hid (row_next HPp.out (below_boxC X3 boxKz))
          replace HT := Lib.hid (HT.out.next (below_boxC X3 boxKz))
          refine held_go hK' (HT.out) ?_
          try simp only [Act.put, List.setIfInBounds_toArray, List.set_cons_zero, List.set_cons_succ]
          generalize World.alloc X3 _ = X4 at *
          generalize X3.heap.size = q at *
          clear hS0
          have hS0 := HT.out
          refine held_call (i := 12) rfl (by kernel_rfl) (by rfl) (fun K' hK' => ?_)
          refine oper_store_dr (.tmp 9) (.tmp 31) rfl p rfl r.1 rfl drZ HPp.out ?_
          replace HT := Lib.hid (HT.out.far HNp.out (drK r.1))
          refine held_go hK' (HT.out) ?_
          try simp only [Act.put, List.setIfInBounds_toArray, List.set_cons_zero, List.set_cons_succ]
          replace HPq := Lib.hid (row_keep (cs := drK r.1) HPq.out (by have h1 := HNE.out; omega : q ≠ p))
          generalize World.setRow X4 p _ = Y at *
          clear hS0
          have hS0 := HT.out
          refine held_call (i := 13) rfl (by kernel_rfl) (by rfl) (fun K' hK' => ?_)
          refine oper_store_cq (.tmp 10) (.tmp 32) rfl q rfl r.2.1 ad2 cap2 rfl crZ none 0 HPq.out ?_
          replace HT := Lib.hid (HT.out.far HNq.out (crQ r.2.1 ad2 cap2))
          refine held_go hK' (HT.out) ?_
          try simp only [Act.put, List.setIfInBounds_toArray, List.set_cons_zero, List.set_cons_succ]
          generalize World.setRow Y q _ = Y2 at *
          clear hS0
          have hS0 := HT.out
          refine held_take (i := 14) (v := ?_) rfl (by kernel_rfl) (by kernel_rfl) (by kernel_rfl) (fun _ _ _ h => h) (by rfl) ?_ (by assumption) ?_
          rotate_left
          · intro X hSX
            try dsimp only at hSX
            go_simp <;> with_reducible rfl
          simp only [Act.put, List.setIfInBounds_toArray, List.set_cons_zero, List.set_cons_succ]
          refine held_take (i := 15) (v := ?_) rfl (by kernel_rfl) (by kernel_rfl) (by kernel_rfl) (fun _ _ _ h => h) (by rfl) ?_ (by assumption) ?_
          rotate_left
          · intro X hSX
            try dsimp only at hSX
            go_simp <;> with_reducible rfl
          simp only [Act.put, List.setIfInBounds_toArray, List.set_cons_zero, List.set_cons_succ]
          refine wpAnyH_done (by kernel_rfl) ?_ _
          refine NoPanic.normal ?_
          go_wp2_with fail
          go_meet
          exact ⟨rfl, HT⟩
        · skip
          go_simp
          have HPq := Lib.hid (heap_alloc_new X2 boxKz)
          have HNq := Lib.hid (show w.heap.size + 3 ≤ X2.heap.size from HT.out.size)
          replace HT := Lib.hid (HT.out.next (below_boxC X2 boxKz))
          refine held_go hK' (HT.out) ?_
          try simp only [Act.put, List.setIfInBounds_toArray, List.set_cons_zero, List.set_cons_succ]
          generalize World.alloc X2 _ = X3 at *
          generalize X2.heap.size = q at *
          clear hS0
          have hS0 := HT.out
          refine held_call (i := 10) rfl (by kernel_rfl) (by rfl) (fun K' hK' => ?_)
          go_simp
          have HPp := Lib.hid (heap_alloc_new X3 boxDz)
          have HNp := Lib.hid (show w.heap.size + 3 ≤ X3.heap.size from HT.out.size)
          have HNE := Lib.hid (show X3.heap.size ≠ q ∨ q ≠ X3.heap.size by have h1 := (Array.getElem?_eq_some_iff.1 HPq.out).1; omega)
          replace HPq := Lib.hid (row_next HPq.out (below_boxC X3 boxDz))
          replace HT := Lib.hid (HT.out.next (below_boxC X3 boxDz))
          refine held_go hK' (HT.out) ?_
          try simp only [Act.put, List.setIfInBounds_toArray, List.set_cons_zero, List.set_cons_succ]
          generalize World.alloc X3 _ = X4 at *
          generalize X3.heap.size = p at *
          clear hS0
          have hS0 := HT.out
          refine held_call (i := 12) rfl (by kernel_rfl) (by rfl) (fun K' hK' => ?_)
          refine oper_store_dr (.tmp 9) (.tmp 31) rfl p rfl r.1 rfl drZ HPp.out ?_
          replace HT := Lib.hid (HT.out.far HNp.out (drK r.1))
          refine held_go hK' (HT.out) ?_
          try simp only [Act.put, List.setIfInBounds_toArray, List.set_cons_zero, List.set_cons_succ]
          replace HPq := Lib.hid (row_keep (cs := drK r.1) HPq.out (by have h1 := HNE.out; omega : q ≠ p))
          generalize World.setRow X4 p _ = Y at *
          clear hS0
          have hS0 := HT.out
          refine held_call (i := 13) rfl (by kernel_rfl) (by rfl) (fun K' hK' => ?_)
          refine oper_store_cq (.tmp 10) (.tmp 32) rfl q rfl r.2.1 ad2 cap2 rfl crZ none 0 HPq.out ?_
          replace HT := Lib.hid (HT.out.far HNq.out (crQ r.2.1 ad2 cap2))
          refine held_go hK' (HT.out) ?_
          try simp only [Act.put, List.setIfInBounds_toArray, List.set_cons_zero, List.set_cons_succ]
          generalize World.setRow Y q _ = Y2 at *
          clear hS0
          have hS0 := HT.out
          refine held_take (i := 14) (v := ?_) rfl (by kernel_rfl) (by kernel_rfl) (by kernel_rfl) (fun _ _ _ h => h) (by rfl) ?_ (by assumption) ?_
          rotate_left
          · intro X hSX
            try dsimp only at hSX
            go_simp <;> with_reducible rfl
          simp only [Act.put, List.setIfInBounds_toArray, List.set_cons_zero, List.set_cons_succ]
          refine held_take (i := 15) (v := ?_) rfl (by kernel_rfl) (by kernel_rfl) (by kernel_rfl) (fun _ _ _ h => h) (by rfl) ?_ (by assumption) ?_
          rotate_left
          · intro X hSX
            try dsimp only at hSX
            go_simp <;> with_reducible rfl
          simp only [Act.put, List.setIfInBounds_toArray, List.set_cons_zero, List.set_cons_succ]
          refine wpAnyH_done (by kernel_rfl) ?_ _
          refine NoPanic.normal ?_
          go_wp2_with fail
          go_meet
          exact ⟨rfl, HT⟩
      · skip
        go_simp
        have HPp := Lib.hid (heap_alloc_new X1 boxDz)
        have HNp := Lib.hid (show w.heap.size + 3 ≤ X1.heap.size from HT.out.size)
        replace HI1 := Lib.hid (HI1.out.below (below_boxC X1 boxDz))
        replace HT := Lib.hid (HT.out.next (below_boxC X1 boxDz))
        refine held_go hK' (HT.out) ?_
        try simp only [Act.put, List.setIfInBounds_toArray, List.set_cons_zero, List.set_cons_succ]
        generalize World.alloc X1 _ = X2 at *
        generalize X1.heap.size = p at *
        clear hS0
        have hS0 := HT.out
        refine held_two (i := 4) (j := 11) rfl rfl (by kernel_rfl) (by rfl) (by rfl) (fun K' hK' => ?_) (fun K' hK' => ?_)
        · skip
          go_simp
          refine (HLD.out X2 ad1 cap1 HI1.out).mono ?_
          rintro e X3 ⟨ad2, cap2, rfl, hi2, -, hb⟩
          clear HI1 hi2
          replace HPp := Lib.hid (row_next HPp.out hb)
          replace HT := Lib.hid (HT.out.next hb)
          refine held_go hK' (HT.out) ?_
          try simp only [Act.put, List.setIfInBounds_toArray, List.set_cons_zero, List.set_cons_succ]
          clear hS0
          have hS0 := HT.out
          clear hb
          refine held_take (i := 5) (v := ?_) rfl (by kernel_rfl) (by kernel_rfl) (by kernel_rfl) (fun _ _ _ h => h) (by rfl) ?_ (by assumption) ?_
          rotate_left
          · intro X hSX
            try dsimp only at hSX
            go_simp <;> with_reducible rfl
          simp only [Act.put, List.setIfInBounds_toArray, List.set_cons_zero, List.set_cons_succ]
          refine held_take (i := 6) (v := ?_) rfl (by kernel_rfl) (by kernel_rfl) (by kernel_rfl) (fun _ _ _ h => h) (by rfl) ?_ (by assumption) ?_
          rotate_left
          · intro X hSX
            try dsimp only at hSX
            go_simp <;> with_reducible rfl
          simp only [Act.put, List.setIfInBounds_toArray, List.set_cons_zero, List.set_cons_succ]
          refine held_take (i := 7) (v := ?_) rfl (by kernel_rfl) (by kernel_rfl) (by kernel_rfl) (fun _ _ _ h => h) (by rfl) ?_ (by assumption) ?_
          rotate_left
          · intro X hSX
            try dsimp only at hSX
            go_simp <;> with_reducible rfl
          simp only [Act.put, List.setIfInBounds_toArray, List.set_cons_zero, List.set_cons_succ]
          refine held_take (i := 8) (v := ?_) rfl (by kernel_rfl) (by kernel_rfl) (by kernel_rfl) (fun _ _ _ h => h) (by rfl) ?_ (by assumption) ?_
          rotate_left
          · intro X hSX
            try dsimp only at hSX
            go_simp <;> with_reducible rfl
          simp only [Act.put, List.setIfInBounds_toArray, List.set_cons_zero, List.set_cons_succ]
          refine held_take (i := 9) (v := ?_) rfl (by kernel_rfl) (by kernel_rfl) (by kernel_rfl) (fun _ _ _ h => h) (by rfl) ?_ (by assumption) ?_
          rotate_left
          · intro X hSX
            try dsimp only at hSX
            go_simp <;> with_reducible rfl
          simp only [Act.put, List.setIfInBounds_toArray, List.set_cons_zero, List.set_cons_succ]
          refine held_call (i := 11) rfl (by kernel_rfl) (by rfl) (fun K' hK' => ?_)
          go_simp
          have HPq := Lib.hid (heap_alloc_new X3 boxKz)
          have HNq := Lib.hid (show w.heap.size + 3 ≤ X3.heap.size from HT.out.size)
          have HNE := Lib.hid (show p ≠ X3.heap.size ∨ X3.heap.size ≠ p by have h1 := (Array.getElem?_eq_some_iff.1 HPp.out).1; omega)
          replace HPp := Lib.hid (row_next HPp.out (below_boxC X3 boxKz))
          replace HT := Lib.hid (HT.out.next (below_boxC X3 boxKz))
          refine held_go hK' (HT.out) ?_
          try simp only [Act.put, List.setIfInBounds_toArray, List.set_cons_zero, List.set_cons_succ]
          generalize World.alloc X3 _ = X4 at *
          generalize X3.heap.size = q at *
          clear hS0
          have hS0 := HT.out
          refine held_call (i := 12) rfl (by kernel_rfl) (by rfl) (fun K' hK' => ?_)
          refine oper_store_dr (.tmp 9) (.tmp 31) rfl p rfl r.1 rfl drZ HPp.out ?_
          replace HT := Lib.hid (HT.out.far HNp.out (drK r.1))
          refine held_go hK' (HT.out) ?_
          try simp only [Act.put, List.setIfInBounds_toArray, List.set_cons_zero, List.set_cons_succ]
          replace HPq := Lib.hid (row_keep (cs := drK r.1) HPq.out (by have h1 := HNE.out; omega : q ≠ p))
          generalize World.setRow X4 p _ = Y at *
          clear hS0
          have hS0 := HT.out
          refine held_call (i := 13) rfl (by kernel_rfl) (by rfl) (fun K' hK' => ?_)
          refine oper_store_cq (.tmp 10) (.tmp 32) rfl q rfl r.2.1 ad2 cap2 rfl crZ none 0 HPq.out ?_
          replace HT := Lib.hid (HT.out.far HNq.out (crQ r.2.1 ad2 cap2))
          refine held_go hK' (HT.out) ?_
          try simp only [Act.put, List.setIfInBounds_toArray, List.set_cons_zero, List.set_cons_succ]
          generalize World.setRow Y q _ = Y2 at *
          clear hS0
          have hS0 := HT.out
          refine held_take (i := 14) (v := ?_) rfl (by kernel_rfl) (by kernel_rfl) (by kernel_rfl) (fun _ _ _ h => h) (by rfl) ?_ (by assumption) ?_
          rotate_left
          · intro X hSX
            try dsimp only at hSX
            go_simp <;> with_reducible rfl
          simp only [Act.put, List.setIfInBounds_toArray, List.set_cons_zero, List.set_cons_succ]
          refine held_take (i := 15) (v := ?_) rfl (by kernel_rfl) (by kernel_rfl) (by kernel_rfl) (fun _ _ _ h => h) (by rfl) ?_ (by assumption) ?_
          rotate_left
          · intro X hSX
            try dsimp only at hSX
            go_simp <;> with_reducible rfl
          simp only [Act.put, List.setIfInBounds_toArray, List.set_cons_zero, List.set_cons_succ]
          refine wpAnyH_done (by kernel_rfl) ?_ _
          refine NoPanic.normal ?_
          go_wp2_with fail
          go_meet
          exact ⟨rfl, HT⟩
        · skip
          go_simp
          have HPq := Lib.hid (heap_alloc_new X2 boxKz)
          have HNq := Lib.hid (show w.heap.size + 3 ≤ X2.heap.size from HT.out.size)
          have HNE := Lib.hid (show p ≠ X2.heap.size ∨ X2.heap.size ≠ p by have h1 := (Array.getElem?_eq_some_iff.1 HPp.out).1; omega)
          replace HPp := Lib.hid (row_next HPp.out (below_boxC X2 boxKz))
          replace HI1 := Lib.hid (HI1.out.below (below_boxC X2 boxKz))
          replace HT := Lib.hid (HT.out.next (below_boxC X2 boxKz))
          refine held_go hK' (HT.out) ?_
          try simp only [Act.put, List.setIfInBounds_toArray, List.set_cons_zero, List.set_cons_succ]
          generalize World.alloc X2 _ = X3 at *
          generalize X2.heap.size = q at *
          clear hS0
          have hS0 := HT.out
          refine held_call (i := 4) rfl (by kernel_rfl) (by rfl) (fun K' hK' => ?_)
          go_simp
          refine (HLD.out X3 ad1 cap1 HI1.out).mono ?_
          rintro e X4 ⟨ad2, cap2, rfl, hi2, -, hb⟩
          clear HI1 hi2
          replace HPp := Lib.hid (row_next HPp.out hb)
          replace HPq := Lib.hid (row_next HPq.out hb)
          replace HT := Lib.hid (HT.out.next hb)
          refine held_go hK' (HT.out) ?_
          try simp only [Act.put, List.setIfInBounds_toArray, List.set_cons_zero, List.set_cons_succ]
          clear hS0
          have hS0 := HT.out
          clear hb
          refine held_take (i := 5) (v := ?_) rfl (by kernel_rfl) (by kernel_rfl) (by kernel_rfl) (fun _ _ _ h => h) (by rfl) ?_ (by assumption) ?_
          rotate_left
          · intro X hSX
            try dsimp only at hSX
            go_simp <;> with_reducible rfl
          simp only [Act.put, List.setIfInBounds_toArray, List.set_cons_zero, List.set_cons_succ]
          refine held_take (i := 6) (v := ?_) rfl (by kernel_rfl) (by kernel_rfl) (by kernel_rfl) (fun _ _ _ h => h) (by rfl) ?_ (by assumption) ?_
          rotate_left
          · intro X hSX
            try dsimp only at hSX
            go_simp <;> with_reducible rfl
          simp only [Act.put, List.setIfInBounds_toArray, List.set_cons_zero, List.set_cons_succ]
          refine held_take (i := 7) (v := ?_) rfl (by kernel_rfl) (by kernel_rfl) (by kernel_rfl) (fun _ _ _ h => h) (by rfl) ?_ (by assumption) ?_
          rotate_left
          · intro X hSX
            try dsimp only at hSX
            go_simp <;> with_reducible rfl
          simp only [Act.put, List.setIfInBounds_toArray, List.set_cons_zero, List.set_cons_succ]
          refine held_take (i := 8) (v := ?_) rfl (by kernel_rfl) (by kernel_rfl) (by kernel_rfl) (fun _ _ _ h => h) (by rfl) ?_ (by assumption) ?_
          rotate_left
          · intro X hSX
            try dsimp only at hSX
            go_simp <;> with_reducible rfl
          simp only [Act.put, List.setIfInBounds_toArray, List.set_cons_zero, List.set_cons_succ]
          refine held_take (i := 9) (v := ?_) rfl (by kernel_rfl) (by kernel_rfl) (by kernel_rfl) (fun _ _ _ h => h) (by rfl) ?_ (by assumption) ?_
          rotate_left
          · intro X hSX
            try dsimp only at hSX
            go_simp <;> with_reducible rfl
          simp only [Act.put, List.setIfInBounds_toArray, List.set_cons_zero, List.set_cons_succ]
          refine held_call (i := 12) rfl (by kernel_rfl) (by rfl) (fun K' hK' => ?_)
          refine oper_store_dr (.tmp 9) (.tmp 31) rfl p rfl r.1 rfl drZ HPp.out ?_
          replace HT := Lib.hid (HT.out.far HNp.out (drK r.1))
          refine held_go hK' (HT.out) ?_
          try simp only [Act.put, List.setIfInBounds_toArray, List.set_cons_zero, List.set_cons_succ]
          replace HPq := Lib.hid (row_keep (cs := drK r.1) HPq.out (by have h1 := HNE.out; omega : q ≠ p))
          generalize World.setRow X4 p _ = Y at *
          clear hS0
          have hS0 := HT.out
          refine held_call (i := 13) rfl (by kernel_rfl) (by rfl) (fun K' hK' => ?_)
          refine oper_store_cq (.tmp 10) (.tmp 32) rfl q rfl r.2.1 ad2 cap2 rfl crZ none 0 HPq.out ?_
          replace HT := Lib.hid (HT.out.far HNq.out (crQ r.2.1 ad2 cap2))
          refine held_go hK' (HT.out) ?_
          try simp only [Act.put, List.setIfInBounds_toArray, List.set_cons_zero, List.set_cons_succ]
          generalize World.setRow Y q _ = Y2 at *
          clear hS0
          have hS0 := HT.out
          refine held_take (i := 14) (v := ?_) rfl (by kernel_rfl) (by kernel_rfl) (by kernel_rfl) (fun _ _ _ h => h) (by rfl) ?_ (by assumption) ?_
          rotate_left
          · intro X hSX
            try dsimp only at hSX
            go_simp <;> with_reducible rfl
          simp only [Act.put, List.setIfInBounds_toArray, List.set_cons_zero, List.set_cons_succ]
          refine held_take (i := 15) (v := ?_) rfl (by kernel_rfl) (by kernel_rfl) (by kernel_rfl) (fun _ _ _ h => h) (by rfl) ?_ (by assumption) ?_
          rotate_left
          · intro X hSX
            try dsimp only at hSX
            go_simp <;> with_reducible rfl
          simp only [Act.put, List.setIfInBounds_toArray, List.set_cons_zero, List.set_cons_succ]
          refine wpAnyH_done (by kernel_rfl) ?_ _
          refine NoPanic.normal ?_
          go_wp2_with fail
          go_meet
          exact ⟨rfl, HT⟩
      · skip
        go_simp
        have HPq := Lib.hid (heap_alloc_new X1 boxKz)
        have HNq := Lib.hid (show w.heap.size + 3 ≤ X1.heap.size from HT.out.size)
        replace HI1 := Lib.hid (HI1.out.below (below_boxC X1 boxKz))
        replace HT := Lib.hid (HT.out.next (below_boxC X1 boxKz))
        refine held_go hK' (HT.out) ?_
        try simp only [Act.put, List.setIfInBounds_toArray, List.set_cons_zero, List.set_cons_succ]
        generalize World.alloc X1 _ = X2 at *
        generalize X1.heap.size = q at *
        clear hS0
        have hS0 := HT.out
        refine held_two (i := 4) (j := 10) rfl rfl (by kernel_rfl) (by rfl) (by rfl) (fun K' hK' => ?_) (fun K' hK' => ?_)
        · skip
          go_simp
          refine (HLD.out X2 ad1 cap1 HI1.out).mono ?_
          rintro e X3 ⟨ad2, cap2, rfl, hi2, -, hb⟩
          clear HI1 hi2
          replace HPq := Lib.hid (row_next HPq.out hb)
          replace HT := Lib.hid (HT.out.next hb)
          refine held_go hK' (HT.out) ?_
          try simp only [Act.put, List.setIfInBounds_toArray, List.set_cons_zero, List.set_cons_succ]
          clear hS0
          have hS0 := HT.out
          clear hb
          refine held_take (i := 5) (v := ?_) rfl (by kernel_rfl) (by kernel_rfl) (by kernel_rfl) (fun _ _ _ h => h) (by rfl) ?_ (by assumption) ?_
          rotate_left
          · intro X hSX
            try dsimp only at hSX
            go_simp <;> with_reducible rfl
          simp only [Act.put, List.setIfInBounds_toArray, List.set_cons_zero, List.set_cons_succ]
          refine held_take (i := 6) (v := ?_) rfl (by kernel_rfl) (by kernel_rfl) (by kernel_rfl) (fun _ _ _ h => h) (by rfl) ?_ (by assumption) ?_
          rotate_left
          · intro X hSX
            try dsimp only at hSX
            go_simp <;> with_reducible rfl
          simp only [Act.put, List.setIfInBounds_toArray, List.set_cons_zero, List.set_cons_succ]
          refine held_take (i := 7) (v := ?_) rfl (by kernel_rfl) (by kernel_rfl) (by kernel_rfl) (fun _ _ _ h => h) (by rfl) ?_ (by assumption) ?_
          rotate_left
          · intro X hSX
            try dsimp only at hSX
            go_simp <;> with_reducible rfl
          simp only [Act.put, List.setIfInBounds_toArray, List.set_cons_zero, List.set_cons_succ]
          refine held_take (i := 8) (v := ?_) rfl (by kernel_rfl) (by kernel_rfl) (by kernel_rfl) (fun _ _ _ h => h) (by rfl) ?_ (by assumption) ?_
          rotate_left
          · intro X hSX
            try dsimp only at hSX
            go_simp <;> with_reducible rfl
          simp only [Act.put, List.setIfInBounds_toArray, List.set_cons_zero, List.set_cons_succ]
          refine held_take (i := 9) (v := ?_) rfl (by kernel_rfl) (by kernel_rfl) (by kernel_rfl) (fun _ _ _ h => h) (by rfl) ?_ (by assumption) ?_
          rotate_left
          · intro X hSX
            try dsimp only at hSX
            go_simp <;> with_reducible rfl
          simp only [Act.put, List.setIfInBounds_toArray, List.set_cons_zero, List.set_cons_succ]
          refine held_call (i := 10) rfl (by kernel_rfl) (by rfl) (fun K' hK' => ?_)
          go_simp
          have HPp := Lib.hid (heap_alloc_new X3 boxDz)
          have HNp := Lib.hid (show w.heap.size + 3 ≤ X3.heap.size from HT.out.size)
          have HNE := Lib.hid (show X3.heap.size ≠ q ∨ q ≠ X3.heap.size by have h1 := (Array.getElem?_eq_some_iff.1 HPq.out).1; omega)
          replace HPq := Lib.hid (row_next HPq.out (below_boxC X3 boxDz))
          replace HT := Lib.hid (HT.out.next (below_boxC X3 boxDz))
          refine held_go hK' (HT.out) ?_
          try simp only [Act.put, List.setIfInBounds_toArray, List.set_cons_zero, List.set_cons_succ]
          generalize World.alloc X3 _ = X4 at *
          generalize X3.heap.size = p at *
          clear hS0
          have hS0 := HT.out
          refine held_call (i := 12) rfl (by kernel_rfl) (by rfl) (fun K' hK' => ?_)
          refine oper_store_dr (.tmp 9) (.tmp 31) rfl p rfl r.1 rfl drZ HPp.out ?_
          replace HT := Lib.hid (HT.out.far HNp.out (drK r.1))
          refine held_go hK' (HT.out) ?_
          try simp only [Act.put, List.setIfInBounds_toArray, List.set_cons_zero, List.set_cons_succ]
          replace HPq := Lib.hid (row_keep (cs := drK r.1) HPq.out (by have h1 := HNE.out; omega : q ≠ p))
          generalize World.setRow X4 p _ = Y at *
          clear hS0
          have hS0 := HT.out
          refine held_call (i := 13) rfl (by kernel_rfl) (by rfl) (fun K' hK' => ?_)
          refine oper_store_cq (.tmp 10) (.tmp 32) rfl q rfl r.2.1 ad2 cap2 rfl crZ none 0 HPq.out ?_
          replace HT := Lib.hid (HT.out.far HNq.out (crQ r.2.1 ad2 cap2))
          refine held_go hK' (HT.out) ?_
          try simp only [Act.put, List.setIfInBounds_toArray, List.set_cons_zero, List.set_cons_succ]
          generalize World.setRow Y q _ = Y2 at *
          clear hS0
          have hS0 := HT.out
          refine held_take (i := 14) (v := ?_) rfl (by kernel_rfl) (by kernel_rfl) (by kernel_rfl) (fun _ _ _ h => h) (by rfl) ?_ (by assumption) ?_
          rotate_left
          · intro X hSX
            try dsimp only at hSX
            go_simp <;> with_reducible rfl
          simp only [Act.put, List.setIfInBounds_toArray, List.set_cons_zero, List.set_cons_succ]
          refine held_take (i := 15) (v := ?_) rfl (by kernel_rfl) (by kernel_rfl) (by kernel_rfl) (fun _ _ _ h => h) (by rfl) ?_ (by assumption) ?_
          rotate_left
          · intro X hSX
            try dsimp only at hSX
            go_simp <;> with_reducible rfl
          simp only [Act.put, List.setIfInBounds_toArray, List.set_cons_zero, List.set_cons_succ]
          refine wpAnyH_done (by kernel_rfl) ?_ _
          refine NoPanic.normal ?_
          go_wp2_with fail
          go_meet
          exact ⟨rfl, HT⟩
        · skip
          go_simp
          have HPp := Lib.hid (heap_alloc_new X2 boxDz)
          have HNp := Lib.hid (show w.heap.size + 3 ≤ X2.heap.size from HT.out.size)
          have HNE := Lib.hid (show X2.heap.size ≠ q ∨ q ≠ X2.heap.size by have h1 := (Array.getElem?_eq_some_iff.1 HPq.out).1; omega)
          replace HPq := Lib.hid (row_next HPq.out (below_boxC X2 boxDz))
          replace HI1 := Lib.hid (HI1.out.below (below_boxC X2 boxDz))
          replace HT := Lib.hid (HT.out.next (below_boxC X2 boxDz))
          refine held_go hK' (HT.out) ?_
          try simp only [Act.put, List.setIfInBounds_toArray, List.set_cons_zero, List.set_cons_succ]
          generalize World.alloc X2 _ = X3 at *
          generalize X2.heap.size = p at *
          clear hS0
          have hS0 := HT.out
          refine held_call (i := 4) rfl (by kernel_rfl) (by rfl) (fun K' hK' => ?_)
          go_simp
          refine (HLD.out X3 ad1 cap1 HI1.out).mono ?_
          rintro e X4 ⟨ad2, cap2, rfl, hi2, -, hb⟩
          clear HI1 hi2
          replace HPq := Lib.hid (row_next HPq.out hb)
          replace HPp := Lib.hid (row_next HPp.out hb)
          replace HT := Lib.hid (HT.out.next hb)
          refine held_go hK' (HT.out) ?_
          try simp only [Act.put, List.setIfInBounds_toArray, List.set_cons_zero, List.set_cons_succ]
          clear hS0
          have hS0 := HT.out
          clear hb
          refine held_take (i := 5) (v := ?_) rfl (by kernel_rfl) (by kernel_rfl) (by kernel_rfl) (fun _ _ _ h => h) (by rfl) ?_ (by assumption) ?_
          rotate_left
          · intro X hSX
            try dsimp only at hSX
            go_simp <;> with_reducible rfl
          simp only [Act.put, List.setIfInBounds_toArray, List.set_cons_zero, List.set_cons_succ]
          refine held_take (i := 6) (v := ?_) rfl (by kernel_rfl) (by kernel_rfl) (by kernel_rfl) (fun _ _ _ h => h) (by rfl) ?_ (by assumption) ?_
          rotate_left
          · intro X hSX
            try dsimp only at hSX
            go_simp <;> with_reducible rfl
          simp only [Act.put, List.setIfInBounds_toArray, List.set_cons_zero, List.set_cons_succ]
          refine held_take (i := 7) (v := ?_) rfl (by kernel_rfl) (by kernel_rfl) (by kernel_rfl) (fun _ _ _ h => h) (by rfl) ?_ (by assumption) ?_
          rotate_left
          · intro X hSX
            try dsimp only at hSX
            go_simp <;> with_reducible rfl
          simp only [Act.put, List.setIfInBounds_toArray, List.set_cons_zero, List.set_cons_succ]
          refine held_take (i := 8) (v := ?_) rfl (by kernel_rfl) (by kernel_rfl) (by kernel_rfl) (fun _ _ _ h => h) (by rfl) ?_ (by assumption) ?_
          rotate_left
          · intro X hSX
            try dsimp only at hSX
            go_simp <;> with_reducible rfl
          simp only [Act.put, List.setIfInBounds_toArray, List.set_cons_zero, List.set_cons_succ]
          refine held_take (i := 9) (v := ?_) rfl (by kernel_rfl) (by kernel_rfl) (by kernel_rfl) (fun _ _ _ h => h) (by rfl) ?_ (by assumption) ?_
          rotate_left
          · intro X hSX
            try dsimp only at hSX
            go_simp <;> with_reducible rfl
          simp only [Act.put, List.setIfInBounds_toArray, List.set_cons_zero, List.set_cons_succ]
          refine held_call (i := 12) rfl (by kernel_rfl) (by rfl) (fun K' hK' => ?_)
          refine oper_store_dr (.tmp 9) (.tmp 31) rfl p rfl r.1 rfl drZ HPp.out ?_
          replace HT := Lib.hid (HT.out.far HNp.out (drK r.1))
          refine held_go hK' (HT.out) ?_
          try simp only [Act.put, List.setIfInBounds_toArray, List.set_cons_zero, List.set_cons_succ]
          replace HPq := Lib.hid (row_keep (cs := drK r.1) HPq.out (by have h1 := HNE.out; omega : q ≠ p))
          generalize World.setRow X4 p _ = Y at *
          clear hS0
          have hS0 := HT.out
          refine held_call (i := 13) rfl (by kernel_rfl) (by rfl) (fun K' hK' => ?_)
          refine oper_store_cq (.tmp 10) (.tmp 32) rfl q rfl r.2.1 ad2 cap2 rfl crZ none 0 HPq.out ?_
          replace HT := Lib.hid (HT.out.far HNq.out (crQ r.2.1 ad2 cap2))
          refine held_go hK' (HT.out) ?_
          try simp only [Act.put, List.setIfInBounds_toArray, List.set_cons_zero, List.set_cons_succ]
          generalize World.setRow Y q _ = Y2 at *
          clear hS0
          have hS0 := HT.out
          refine held_take (i := 14) (v := ?_) rfl (by kernel_rfl) (by kernel_rfl) (by kernel_rfl) (fun _ _ _ h => h) (by rfl) ?_ (by assumption) ?_
          rotate_left
          · intro X hSX
            try dsimp only at hSX
            go_simp <;> with_reducible rfl
          simp only [Act.put, List.setIfInBounds_toArray, List.set_cons_zero, List.set_cons_succ]
          refine held_take (i := 15) (v := ?_) rfl (by kernel_rfl) (by kernel_rfl) (by kernel_rfl) (fun _ _ _ h => h) (by rfl) ?_ (by assumption) ?_
          rotate_left
          · intro X hSX
            try dsimp only at hSX
            go_simp <;> with_reducible rfl
          simp only [Act.put, List.setIfInBounds_toArray, List.set_cons_zero, List.set_cons_succ]
          refine wpAnyH_done (by kernel_rfl) ?_ _
          refine NoPanic.normal ?_
          go_wp2_with fail
          go_meet
          exact ⟨rfl, HT⟩
    · skip
      go_simp
      have HPp := Lib.hid (heap_alloc_new X0 boxDz)
      have HNp := Lib.hid (show w.heap.size + 3 ≤ X0.heap.size from HT.out.size)
      replace HT := Lib.hid (HT.out.next (below_boxC X0 boxDz))
      refine held_go hK' (HT.out) ?_
      try simp only [Act.put, List.setIfInBounds_toArray, List.set_cons_zero, List.set_cons_succ]
      generalize World.alloc X0 _ = X1 at *
      generalize X0.heap.size = p at *
      clear hS0
      have hS0 := HT.out
      refine held_two (i := 3) (j := 11) rfl rfl (by kernel_rfl) (by rfl) (by rfl) (fun K' hK' => ?_) (fun K' hK' => ?_)
      · skip
        go_simp
        refine (HCP.out X1 (HIN.out.below HT.out.b)).mono ?_
        rintro e X2 ⟨ad1, cap1, rfl, hi, hkf, hb⟩
        have HI1 := Lib.hid hi
        clear hi hkf
        replace HPp := Lib.hid (row_next HPp.out hb)
        replace HT := Lib.hid (HT.out.next hb)
        refine held_go hK' (HT.out) ?_
        try simp only [Act.put, List.setIfInBounds_toArray, List.set_cons_zero, List.set_cons_succ]
        clear hS0
        have hS0 := HT.out
        clear hb
        refine held_two (i := 4) (j := 11) rfl rfl (by kernel_rfl) (by rfl) (by rfl) (fun K' hK' => ?_) (fun K' hK' => ?_)
        · skip
          go_simp
          refine (HLD.out X2 ad1 cap1 HI1.out).mono ?_
          rintro e X3 ⟨ad2, cap2, rfl, hi2, -, hb⟩
          clear HI1 hi2
          replace HPp := Lib.hid (row_next HPp.out hb)
          replace HT := Lib.hid (HT.out.next hb)
          refine held_go hK' (HT.out) ?_
          try simp only [Act.put, List.setIfInBounds_toArray, List.set_cons_zero, List.set_cons_succ]
          clear hS0
          have hS0 := HT.out
          clear hb
          refine held_take (i := 5) (v := ?_) rfl (by kernel_rfl) (by kernel_rfl) (by kernel_rfl) (fun _ _ _ h => h) (by rfl) ?_ (by assumption) ?_
          rotate_left
          · intro X hSX
            try dsimp only at hSX
            go_simp <;> with_reducible rfl
          simp only [Act.put, List.setIfInBounds_toArray, List.set_cons_zero, List.set_cons_succ]
          refine held_take (i := 6) (v := ?_) rfl (by kernel_rfl) (by kernel_rfl) (by kernel_rfl) (fun _ _ _ h => h) (by rfl) ?_ (by assumption) ?_
          rotate_left
          · intro X hSX
            try dsimp only at hSX
            go_simp <;> with_reducible rfl
          simp only [Act.put, List.setIfInBounds_toArray, List.set_cons_zero, List.set_cons_succ]
          refine held_take (i := 7) (v := ?_) rfl (by kernel_rfl) (by kernel_rfl) (by kernel_rfl) (fun _ _ _ h => h) (by rfl) ?_ (by assumption) ?_
          rotate_left
          · intro X hSX
            try dsimp only at hSX
            go_simp <;> with_reducible rfl
          simp only [Act.put, List.setIfInBounds_toArray, List.set_cons_zero, List.set_cons_succ]
          refine held_take (i := 8) (v := ?_) rfl (by kernel_rfl) (by kernel_rfl) (by kernel_rfl) (fun _ _ _ h => h) (by rfl) ?_ (by assumption) ?_
          rotate_left
          · intro X hSX
            try dsimp only at hSX
            go_simp <;> with_reducible rfl
          simp only [Act.put, List.setIfInBounds_toArray, List.set_cons_zero, List.set_cons_succ]
          refine held_take (i := 9) (v := ?_) rfl (by kernel_rfl) (by kernel_rfl) (by kernel_rfl) (fun _ _ _ h => h) (by rfl) ?_ (by assumption) ?_
          rotate_left
          · intro X hSX
            try dsimp only at hSX
            go_simp <;> with_reducible rfl
          simp only [Act.put, List.setIfInBounds_toArray, List.set_cons_zero, List.set_cons_succ]
          refine held_call (i := 11) rfl (by kernel_rfl) (by rfl) (fun K' hK' => ?_)
          go_simp
          have HPq := Lib.hid (heap_alloc_new X3 boxKz)
          have HNq := Lib.hid (show w.heap.size + 3 ≤ X3.heap.size from HT.out.size)
          have HNE := Lib.hid (show p ≠ X3.heap.size ∨ X3.heap.size ≠ p by have h1 := (Array.getElem?_eq_some_iff.1 HPp.out).1; omega)
          replace HPp := Lib.hid (row_next HPp.out (below_boxC X3 boxKz))
          replace HT := Lib.hid (HT.out.next (below_boxC X3 boxKz))
          refine held_go hK' (HT.out) ?_
          try simp only [Act.put, List.setIfInBounds_toArray, List.set_cons_zero, List.set_cons_succ]
          generalize World.alloc X3 _ = X4 at *
          generalize X3.heap.size = q at *
          clear hS0
          have hS0 := HT.out
          refine held_call (i := 12) rfl (by kernel_rfl) (by rfl) (fun K' hK' => ?_)
          refine oper_store_dr (.tmp 9) (.tmp 31) rfl p rfl r.1 rfl drZ HPp.out ?_
          replace HT := Lib.hid (HT.out.far HNp.out (drK r.1))
          refine held_go hK' (HT.out) ?_
          try simp only [Act.put, List.setIfInBounds_toArray, List.set_cons_zero, List.set_cons_succ]
          replace HPq := Lib.hid (row_keep (cs := drK r.1) HPq.out (by have h1 := HNE.out; omega : q ≠ p))
          generalize World.setRow X4 p _ = Y at *
          clear hS0
          have hS0 := HT.out
          refine held_call (i := 13) rfl (by kernel_rfl) (by rfl) (fun K' hK' => ?_)
          refine oper_store_cq (.tmp 10) (.tmp 32) rfl q rfl r.2.1 ad2 cap2 rfl crZ none 0 HPq.out ?_
          replace HT := Lib.hid (HT.out.far HNq.out (crQ r.2.1 ad2 cap2))
          refine held_go hK' (HT.out) ?_
          try simp only [Act.put, List.setIfInBounds_toArray, List.set_cons_zero, List.set_cons_succ]
          generalize World.setRow Y q _ = Y2 at *
          clear hS0
          have hS0 := HT.out
          refine held_take (i := 14) (v := ?_) rfl (by kernel_rfl) (by kernel_rfl) (by kernel_rfl) (fun _ _ _ h => h) (by rfl) ?_ (by assumption) ?_
          rotate_left
          · intro X hSX
            try dsimp only at hSX
            go_simp <;> with_reducible rfl
          simp only [Act.put, List.setIfInBounds_toArray, List.set_cons_zero, List.set_cons_succ]
          refine held_take (i := 15) (v := ?_) rfl (by kernel_rfl) (by kernel_rfl) (by kernel_rfl) (fun _ _ _ h => h) (by rfl) ?_ (by assumption) ?_
          rotate_left
          · intro X hSX
            try dsimp only at hSX
            go_simp <;> with_reducible rfl
          simp only [Act.put, List.setIfInBounds_toArray, List.set_cons_zero, List.set_cons_succ]
          refine wpAnyH_done (by kernel_rfl) ?_ _
          refine NoPanic.normal ?_
          go_wp2_with fail
          go_meet
          exact ⟨rfl, HT⟩
        · skip
          go_simp
          have HPq := Lib.hid (heap_alloc_new X2 boxKz)
          have HNq := Lib.hid (show w.heap.size + 3 ≤ X2.heap.size from HT.out.size)
          have HNE := Lib.hid (show p ≠ X2.heap.size ∨ X2.heap.size ≠ p by have h1 := (Array.getElem?_eq_some_iff.1 HPp.out).1; omega)
          replace HPp := Lib.hid (row_next HPp.out (below_boxC X2 boxKz))
          replace HI1 := Lib.hid (HI1.out.below (below_boxC X2 boxKz))
          replace HT := Lib.hid (HT.out.next (below_boxC X2 boxKz))
          refine held_go hK' (HT.out) ?_
          try simp only [Act.put, List.setIfInBounds_toArray, List.set_cons_zero, List.set_cons_succ]
          generalize World.alloc X2 _ = X3 at *
          generalize X2.heap.size = q at *
          clear hS0
          have hS0 := HT.out
          refine held_call (i := 4) rfl (by kernel_rfl) (by rfl) (fun K' hK' => ?_)
          go_simp
          refine (HLD.out X3 ad1 cap1 HI1.out).mono ?_
          rintro e X4 ⟨ad2, cap2, rfl, hi2, -, hb⟩
          clear HI1 hi2
          replace HPp := Lib.hid (row_next HPp.out hb)
          replace HPq := Lib.hid (row_next HPq.out hb)
          replace HT := Lib.hid (HT.out.next hb)
          refine held_go hK' (HT.out) ?_
          try simp only [Act.put, List.setIfInBounds_toArray, List.set_cons_zero, List.set_cons_succ]
          clear hS0
          have hS0 := HT.out
          clear hb
          refine held_take (i := 5) (v := ?_) rfl (by kernel_rfl) (by kernel_rfl) (by kernel_rfl) (fun _ _ _ h => h) (by rfl) ?_ (by assumption) ?_
          rotate_left
          · intro X hSX
            try dsimp only at hSX
            go_simp <;> with_reducible rfl
          simp only [Act.put, List.setIfInBounds_toArray, List.set_cons_zero, List.set_cons_succ]
          refine held_take (i := 6) (v := ?_) rfl (by kernel_rfl) (by kernel_rfl) (by kernel_rfl) (fun _ _ _ h => h) (by rfl) ?_ (by assumption) ?_
          rotate_left
          · intro X hSX
            try dsimp only at hSX
            go_simp <;> with_reducible rfl
          simp only [Act.put, List.setIfInBounds_toArray, List.set_cons_zero, List.set_cons_succ]
          refine held_take (i := 7) (v := ?_) rfl (by kernel_rfl) (by kernel_rfl) (by kernel_rfl) (fun _ _ _ h => h) (by rfl) ?_ (by assumption) ?_
          rotate_left
          · intro X hSX
            try dsimp only at hSX
            go_simp <;> with_reducible rfl
          simp only [Act.put, List.setIfInBounds_toArray, List.set_cons_zero, List.set_cons_succ]
          refine held_take (i := 8) (v := ?_) rfl (by kernel_rfl) (by kernel_rfl) (by kernel_rfl) (fun _ _ _ h => h) (by rfl) ?_ (by assumption) ?_
          rotate_left
          · intro X hSX
            try dsimp only at hSX
            go_simp <;> with_reducible rfl
          simp only [Act.put, List.setIfInBounds_toArray, List.set_cons_zero, List.set_cons_succ]
          refine held_take (i := 9) (v := ?_) rfl (by kernel_rfl) (by kernel_rfl) (by kernel_rfl) (fun _ _ _ h => h) (by rfl) ?_ (by assumption) ?_
          rotate_left
          · intro X hSX
            try dsimp only at hSX
            go_simp <;> with_reducible rfl
          simp only [Act.put, List.setIfInBounds_toArray, List.set_cons_zero, List.set_cons_succ]
          refine held_call (i := 12) rfl (by kernel_rfl) (by rfl) (fun K' hK' => ?_)
          refine oper_store_dr (.tmp 9) (.tmp 31) rfl p rfl r.1 rfl drZ HPp.out ?_
          replace HT := Lib.hid (HT.out.far HNp.out (drK r.1))
          refine held_go hK' (HT.out) ?_
          try simp only [Act.put, List.setIfInBounds_toArray, List.set_cons_zero, List.set_cons_succ]
          replace HPq := Lib.hid (row_keep (cs := drK r.1) HPq.out (by have h1 := HNE.out; omega : q ≠ p))
          generalize World.setRow X4 p _ = Y at *
          clear hS0
          have hS0 := HT.out
          refine held_call (i := 13) rfl (by kernel_rfl) (by rfl) (fun K' hK' => ?_)
          refine oper_store_cq (.tmp 10) (.tmp 32) rfl q rfl r.2.1 ad2 cap2 rfl crZ none 0 HPq.out ?_
          replace HT := Lib.hid (HT.out.far HNq.out (crQ r.2.1 ad2 cap2))
          refine held_go hK' (HT.out) ?_
          try simp only [Act.put, List.setIfInBounds_toArray, List.set_cons_zero, List.set_cons_succ]
          generalize World.setRow Y q _ = Y2 at *
          clear hS0
          have hS0 := HT.out
          refine held_take (i := 14) (v := ?_) rfl (by kernel_rfl) (by kernel_rfl) (by kernel_rfl) (fun _ _ _ h => h) (by rfl) ?_ (by assumption) ?_
          rotate_left
          · intro X hSX
            try dsimp only at hSX
            go_simp <;> with_reducible rfl
          simp only [Act.put, List.setIfInBounds_toArray, List.set_cons_zero, List.set_cons_succ]
          refine held_take (i := 15) (v := ?_) rfl (by kernel_rfl) (by kernel_rfl) (by kernel_rfl) (fun _ _ _ h => h) (by rfl) ?_ (by assumption) ?_
          rotate_left
          · intro X hSX
            try dsimp only at hSX
            go_simp <;> with_reducible rfl
          simp only [Act.put, List.setIfInBounds_toArray, List.set_cons_zero, List.set_cons_succ]
          refine wpAnyH_done (by kernel_rfl) ?_ _
          refine NoPanic.normal ?_
          go_wp2_with fail
          go_meet
          exact ⟨rfl, HT⟩
      · skip
        go_simp
        have HPq := Lib.hid (heap_alloc_new X1 boxKz)
        have HNq := Lib.hid (show w.heap.size + 3 ≤ X1.heap.size from HT.out.size)
        have HNE := Lib.hid (show p ≠ X1.heap.size ∨ X1.heap.size ≠ p by have h1 := (Array.getElem?_eq_some_iff.1 HPp.out).1; omega)
        replace HPp := Lib.hid (row_next HPp.out (below_boxC X1 boxKz))
        replace HT := Lib.hid (HT.out.next (below_boxC X1 boxKz))
        refine held_go hK' (HT.out) ?_
        try simp only [Act.put, List.setIfInBounds_toArray, List.set_cons_zero, List.set_cons_succ]
        generalize World.alloc X1 _ = X2 at *
        generalize X1.heap.size = q at *
        clear hS0
        have hS0 := HT.out
        refine held_call (i := 3) rfl (by kernel_rfl) (by rfl) (fun K' hK' => ?_)
        go_simp
        refine (HCP.out X2 (HIN.out.below HT.out.b)).mono ?_
        rintro e X3 ⟨ad1, cap1, rfl, hi, hkf, hb⟩
        have HI1 := Lib.hid hi
        clear hi hkf
        replace HPp := Lib.hid (row_next HPp.out hb)
        replace HPq := Lib.hid (row_next HPq.out hb)
        replace HT := Lib.hid (HT.out.next hb)
        refine held_go hK' (HT.out) ?_
        try simp only [Act.put, List.setIfInBounds_toArray, List.set_cons_zero, List.set_cons_succ]
        clear hS0
        have hS0 := HT.out
        clear hb
        refine held_call (i := 4) rfl (by kernel_rfl) (by rfl) (fun K' hK' => ?_)
        go_simp
        refine (HLD.out X3 ad1 cap1 HI1.out).mono ?_
        rintro e X4 ⟨ad2, cap2, rfl, hi2, -, hb⟩
        clear HI1 hi2
        replace HPp := Lib.hid (row_next HPp.out hb)
        replace HPq := Lib.hid (row_next HPq.out hb)
        replace HT := Lib.hid (HT.out.next hb)
        refine held_go hK' (HT.out) ?_
        try simp only [Act.put, List.setIfInBounds_toArray, List.set_cons_zero, List.set_cons_succ]
        clear hS0
        have hS0 := HT.out
        clear hb
        refine held_take (i := 5) (v := ?_) rfl (by kernel_rfl) (by kernel_rfl) (by kernel_rfl) (fun _ _ _ h => h) (by rfl) ?_ (by assumption) ?_
        rotate_left
        · intro X hSX
          try dsimp only at hSX
          go_simp <;> with_reducible rfl
        simp only [Act.put, List.setIfInBounds_toArray, List.set_cons_zero, List.set_cons_succ]
        refine held_take (i := 6) (v := ?_) rfl (by kernel_rfl) (by kernel_rfl) (by kernel_rfl) (fun _ _ _ h => h) (by rfl) ?_ (by assumption) ?_
        rotate_left
        · intro X hSX
          try dsimp only at hSX
          go_simp <;> with_reducible rfl
        simp only [Act.put, List.setIfInBounds_toArray, List.set_cons_zero, List.set_cons_succ]
        refine held_take (i := 7) (v := ?_) rfl (by kernel_rfl) (by kernel_rfl) (by kernel_rfl) (fun _ _ _ h => h) (by rfl) ?_ (by assumption) ?_
        rotate_left
        · intro X hSX
          try dsimp only at hSX
          go_simp <;> with_reducible rfl
        simp only [Act.put, List.setIfInBounds_toArray, List.set_cons_zero, List.set_cons_succ]
        refine held_take (i := 8) (v := ?_) rfl (by kernel_rfl) (by kernel_rfl) (by kernel_rfl) (fun _ _ _ h => h) (by rfl) ?_ (by assumption) ?_
        rotate_left
        · intro X hSX
          try dsimp only at hSX
          go_simp <;> with_reducible rfl
        simp only [Act.put, List.setIfInBounds_toArray, List.set_cons_zero, List.set_cons_succ]
        refine held_take (i := 9) (v := ?_) rfl (by kernel_rfl) (by kernel_rfl) (by kernel_rfl) (fun _ _ _ h => h) (by rfl) ?_ (by assumption) ?_
        rotate_left
        · intro X hSX
          try dsimp only at hSX
          go_simp <;> with_reducible rfl
        simp only [Act.put, List.setIfInBounds_toArray, List.set_cons_zero, List.set_cons_succ]
        refine held_call (i := 12) rfl (by kernel_rfl) (by rfl) (fun K' hK' => ?_)
        refine oper_store_dr (.tmp 9) (.tmp 31) rfl p rfl r.1 rfl drZ HPp.out ?_
        replace HT := Lib.hid (HT.out.far HNp.out (drK r.1))
        refine held_go hK' (HT.out) ?_
        try simp only [Act.put, List.setIfInBounds_toArray, List.set_cons_zero, List.set_cons_succ]
        replace HPq := Lib.hid (row_keep (cs := drK r.1) HPq.out (by have h1 := HNE.out; omega : q ≠ p))
        generalize World.setRow X4 p _ = Y at *
        clear hS0
        have hS0 := HT.out
        refine held_call (i := 13) rfl (by kernel_rfl) (by rfl) (fun K' hK' => ?_)
        refine oper_store_cq (.tmp 10) (.tmp 32) rfl q rfl r.2.1 ad2 cap2 rfl crZ none 0 HPq.out ?_
        replace HT := Lib.hid (HT.out.far HNq.out (crQ r.2.1 ad2 cap2))
        refine held_go hK' (HT.out) ?_
        try simp only [Act.put, List.setIfInBounds_toArray, List.set_cons_zero, List.set_cons_succ]
        generalize World.setRow Y q _ = Y2 at *
        clear hS0
        have hS0 := HT.out
        refine held_take (i := 14) (v := ?_) rfl (by kernel_rfl) (by kernel_rfl) (by kernel_rfl) (fun _ _ _ h => h) (by rfl) ?_ (by assumption) ?_
        rotate_left
        · intro X hSX
          try dsimp only at hSX
          go_simp <;> with_reducible rfl
        simp only [Act.put, List.setIfInBounds_toArray, List.set_cons_zero, List.set_cons_succ]
        refine held_take (i := 15) (v := ?_) rfl (by kernel_rfl) (by kernel_rfl) (by kernel_rfl) (fun _ _ _ h => h) (by rfl) ?_ (by assumption) ?_
        rotate_left
        · intro X hSX
          try dsimp only at hSX
          go_simp <;> with_reducible rfl
        simp only [Act.put, List.setIfInBounds_toArray, List.set_cons_zero, List.set_cons_succ]
        refine wpAnyH_done (by kernel_rfl) ?_ _
        refine NoPanic.normal ?_
        go_wp2_with fail
        go_meet
        exact ⟨rfl, HT⟩
    · skip
      go_simp
      have HPq := Lib.hid (heap_alloc_new X0 boxKz)
      have HNq := Lib.hid (show w.heap.size + 3 ≤ X0.heap.size from HT.out.size)
      replace HT := Lib.hid (HT.out.next (below_boxC X0 boxKz))
      refine held_go hK' (HT.out) ?_
      try simp only [Act.put, List.setIfInBounds_toArray, List.set_cons_zero, List.set_cons_succ]
      generalize World.alloc X0 _ = X1 at *
      generalize X0.heap.size = q at *
      clear hS0
      have hS0 := HT.out
      refine held_two (i := 3) (j := 10) rfl rfl (by kernel_rfl) (by rfl) (by rfl) (fun K' hK' => ?_) (fun K' hK' => ?_)
      · skip
        go_simp
        refine (HCP.out X1 (HIN.out.below HT.out.b)).mono ?_
        rintro e X2 ⟨ad1, cap1, rfl, hi, hkf, hb⟩
        have HI1 := Lib.hid hi
        clear hi hkf
        replace HPq := Lib.hid (row_next HPq.out hb)
        replace HT := Lib.hid (HT.out.next hb)
        refine held_go hK' (HT.out) ?_
        try simp only [Act.put, List.setIfInBounds_toArray, List.set_cons_zero, List.set_cons_succ]
        clear hS0
        have hS0 := HT.out
        clear hb
        refine held_two (i := 4) (j := 10) rfl rfl (by kernel_rfl) (by rfl) (by rfl) (fun K' hK' => ?_) (fun K' hK' => ?_)
        · skip
          go_simp
          refine (HLD.out X2 ad1 cap1 HI1.out).mono ?_
          rintro e X3 ⟨ad2, cap2, rfl, hi2, -, hb⟩
          clear HI1 hi2
          replace HPq := Lib.hid (row_next HPq.out hb)
          replace HT := Lib.hid (HT.out.next hb)
          refine held_go hK' (HT.out) ?_
          try simp only [Act.put, List.setIfInBounds_toArray, List.set_cons_zero, List.set_cons_succ]
          clear hS0
          have hS0 := HT.out
          clear hb
          refine held_take (i := 5) (v := ?_) rfl (by kernel_rfl) (by kernel_rfl) (by kernel_rfl) (fun _ _ _ h => h) (by rfl) ?_ (by assumption) ?_
          rotate_left
          · intro X hSX
            try dsimp only at hSX
            go_simp <;> with_reducible rfl
          simp only [Act.put, List.setIfInBounds_toArray, List.set_cons_zero, List.set_cons_succ]
          refine held_take (i := 6) (v := ?_) rfl (by kernel_rfl) (by kernel_rfl) (by kernel_rfl) (fun _ _ _ h => h) (by rfl) ?_ (by assumption) ?_
          rotate_left
          · intro X hSX
            try dsimp only at hSX
            go_simp <;> with_reducible rfl
          simp only [Act.put, List.setIfInBounds_toArray, List.set_cons_zero, List.set_cons_succ]
          refine held_take (i := 7) (v := ?_) rfl (by kernel_rfl) (by kernel_rfl) (by kernel_rfl) (fun _ _ _ h => h) (by rfl) ?_ (by assumption) ?_
          rotate_left
          · intro X hSX
            try dsimp only at hSX
            go_simp <;> with_reducible rfl
          simp only [Act.put, List.setIfInBounds_toArray, List.set_cons_zero, List.set_cons_succ]
          refine held_take (i := 8) (v := ?_) rfl (by kernel_rfl) (by kernel_rfl) (by kernel_rfl) (fun _ _ _ h => h) (by rfl) ?_ (by assumption) ?_
          rotate_left
          · intro X hSX
            try dsimp only at hSX
            go_simp <;> with_reducible rfl
          simp only [Act.put, List.setIfInBounds_toArray, List.set_cons_zero, List.set_cons_succ]
          refine held_take (i := 9) (v := ?_) rfl (by kernel_rfl) (by kernel_rfl) (by kernel_rfl) (fun _ _ _ h => h) (by rfl) ?_ (by assumption) ?_
          rotate_left
          · intro X hSX
            try dsimp only at hSX
            go_simp <;> with_reducible rfl
          simp only [Act.put, List.setIfInBounds_toArray, List.set_cons_zero, List.set_cons_succ]
          refine held_call (i := 10) rfl (by kernel_rfl) (by rfl) (fun K' hK' => ?_)
          go_simp
          have HPp := Lib.hid (heap_alloc_new X3 boxDz)
          have HNp := Lib.hid (show w.heap.size + 3 ≤ X3.heap.size from HT.out.size)
          have HNE := Lib.hid (show X3.heap.size ≠ q ∨ q ≠ X3.heap.size by have h1 := (Array.getElem?_eq_some_iff.1 HPq.out).1; omega)
          replace HPq := Lib.hid (row_next HPq.out (below_boxC X3 boxDz))
          replace HT := Lib.hid (HT.out.next (below_boxC X3 boxDz))
          refine held_go hK' (HT.out) ?_
          try simp only [Act.put, List.setIfInBounds_toArray, List.set_cons_zero, List.set_cons_succ]
          generalize World.alloc X3 _ = X4 at *
          generalize X3.heap.size = p at *
          clear hS0
          have hS0 := HT.out
          refine held_call (i := 12) rfl (by kernel_rfl) (by rfl) (fun K' hK' => ?_)
          refine oper_store_dr (.tmp 9) (.tmp 31) rfl p rfl r.1 rfl drZ HPp.out ?_
          replace HT := Lib.hid (HT.out.far HNp.out (drK r.1))
          refine held_go hK' (HT.out) ?_
          try simp only [Act.put, List.setIfInBounds_toArray, List.set_cons_zero, List.set_cons_succ]
          replace HPq := Lib.hid (row_keep (cs := drK r.1) HPq.out (by have h1 := HNE.out; omega : q ≠ p))
          generalize World.setRow X4 p _ = Y at *
          clear hS0
          have hS0 := HT.out
          refine held_call (i := 13) rfl (by kernel_rfl) (by rfl) (fun K' hK' => ?_)
          refine oper_store_cq (.tmp 10) (.tmp 32) rfl q rfl r.2.1 ad2 cap2 rfl crZ none 0 HPq.out ?_
          replace HT := Lib.hid (HT.out.far HNq.out (crQ r.2.1 ad2 cap2))
          refine held_go hK' (HT.out) ?_
          try simp only [Act.put, List.setIfInBounds_toArray, List.set_cons_zero, List.set_cons_succ]
          generalize World.setRow Y q _ = Y2 at *
          clear hS0
          have hS0 := HT.out
          refine held_take (i := 14) (v := ?_) rfl (by kernel_rfl) (by kernel_rfl) (by kernel_rfl) (fun _ _ _ h => h) (by rfl) ?_ (by assumption) ?_
          rotate_left
          · intro X hSX
            try dsimp only at hSX
            go_simp <;> with_reducible rfl
          simp only [Act.put, List.setIfInBounds_toArray, List.set_cons_zero, List.set_cons_succ]
          refine held_take (i := 15) (v := ?_) rfl (by kernel_rfl) (by kernel_rfl) (by kernel_rfl) (fun _ _ _ h => h) (by rfl) ?_ (by assumption) ?_
          rotate_left
          · intro X hSX
            try dsimp only at hSX
            go_simp <;> with_reducible rfl
          simp only [Act.put, List.setIfInBounds_toArray, List.set_cons_zero, List.set_cons_succ]
          refine wpAnyH_done (by kernel_rfl) ?_ _
          refine NoPanic.normal ?_
          go_wp2_with fail
          go_meet
          exact ⟨rfl, HT⟩
        · skip
          go_simp
          have HPp := Lib.hid (heap_alloc_new X2 boxDz)
          have HNp := Lib.hid (show w.heap.size + 3 ≤ X2.heap.size from HT.out.size)
          have HNE := Lib.hid (show X2.heap.size ≠ q ∨ q ≠ X2.heap.size by have h1 := (Array.getElem?_eq_some_iff.1 HPq.out).1; omega)
          replace HPq := Lib.hid (row_next HPq.out (below_boxC X2 boxDz))
          replace HI1 := Lib.hid (HI1.out.below (below_boxC X2 boxDz))
          replace HT := Lib.hid (HT.out.next (below_boxC X2 boxDz))
          refine held_go hK' (HT.out) ?_
          try simp only [Act.put, List.setIfInBounds_toArray, List.set_cons_zero, List.set_cons_succ]
          generalize World.alloc X2 _ = X3 at *
          generalize X2.heap.size = p at *
          clear hS0
          have hS0 := HT.out
          refine held_call (i := 4) rfl (by kernel_rfl) (by rfl) (fun K' hK' => ?_)
          go_simp
          refine (HLD.out X3 ad1 cap1 HI1.out).mono ?_
          rintro e X4 ⟨ad2, cap2, rfl, hi2, -, hb⟩
          clear HI1 hi2
          replace HPq := Lib.hid (row_next HPq.out hb)
          replace HPp := Lib.hid (row_next HPp.out hb)
          replace HT := Lib.hid (HT.out.next hb)
          refine held_go hK' (HT.out) ?_
          try simp only [Act.put, List.setIfInBounds_toArray, List.set_cons_zero, List.set_cons_succ]
          clear hS0
          have hS0 := HT.out
          clear hb
          refine held_take (i := 5) (v := ?_) rfl (by kernel_rfl) (by kernel_rfl) (by kernel_rfl) (fun _ _ _ h => h) (by rfl) ?_ (by assumption) ?_
          rotate_left
          · intro X hSX
            try dsimp only at hSX
            go_simp <;> with_reducible rfl
          simp only [Act.put, List.setIfInBounds_toArray, List.set_cons_zero, List.set_cons_succ]
          refine held_take (i := 6) (v := ?_) rfl (by kernel_rfl) (by kernel_rfl) (by kernel_rfl) (fun _ _ _ h => h) (by rfl) ?_ (by assumption) ?_
          rotate_left
          · intro X hSX
            try dsimp only at hSX
            go_simp <;> with_reducible rfl
          simp only [Act.put, List.setIfInBounds_toArray, List.set_cons_zero, List.set_cons_succ]
          refine held_take (i := 7) (v := ?_) rfl (by kernel_rfl) (by kernel_rfl) (by kernel_rfl) (fun _ _ _ h => h) (by rfl) ?_ (by assumption) ?_
          rotate_left
          · intro X hSX
            try dsimp only at hSX
            go_simp <;> with_reducible rfl
          simp only [Act.put, List.setIfInBounds_toArray, List.set_cons_zero, List.set_cons_succ]
          refine held_take (i := 8) (v := ?_) rfl (by kernel_rfl) (by kernel_rfl) (by kernel_rfl) (fun _ _ _ h => h) (by rfl) ?_ (by assumption) ?_
          rotate_left
          · intro X hSX
            try dsimp only at hSX
            go_simp <;> with_reducible rfl
          simp only [Act.put, List.setIfInBounds_toArray, List.set_cons_zero, List.set_cons_succ]
          refine held_take (i := 9) (v := ?_) rfl (by kernel_rfl) (by kernel_rfl) (by kernel_rfl) (fun _ _ _ h => h) (by rfl) ?_ (by assumption) ?_
          rotate_left
          · intro X hSX
            try dsimp only at hSX
            go_simp <;> with_reducible rfl
          simp only [Act.put, List.setIfInBounds_toArray, List.set_cons_zero, List.set_cons_succ]
          refine held_call (i := 12) rfl (by kernel_rfl) (by rfl) (fun K' hK' => ?_)
          refine oper_store_dr (.tmp 9) (.tmp 31) rfl p rfl r.1 rfl drZ HPp.out ?_
          replace HT := Lib.hid (HT.out.far HNp.out (drK r.1))
          refine held_go hK' (HT.out) ?_
          try simp only [Act.put, List.setIfInBounds_toArray, List.set_cons_zero, List.set_cons_succ]
          replace HPq := Lib.hid (row_keep (cs := drK r.1) HPq.out (by have h1 := HNE.out; omega : q ≠ p))
          generalize World.setRow X4 p _ = Y at *
          clear hS0
          have hS0 := HT.out
          refine held_call (i := 13) rfl (by kernel_rfl) (by rfl) (fun K' hK' => ?_)
          refine oper_store_cq (.tmp 10) (.tmp 32) rfl q rfl r.2.1 ad2 cap2 rfl crZ none 0 HPq.out ?_
          replace HT := Lib.hid (HT.out.far HNq.out (crQ r.2.1 ad2 cap2))
          refine held_go hK' (HT.out) ?_
          try simp only [Act.put, List.setIfInBounds_toArray, List.set_cons_zero, List.set_cons_succ]
          generalize World.setRow Y q _ = Y2 at *
          clear hS0
          have hS0 := HT.out
          refine held_take (i := 14) (v := ?_) rfl (by kernel_rfl) (by kernel_rfl) (by kernel_rfl) (fun _ _ _ h => h) (by rfl) ?_ (by assumption) ?_
          rotate_left
          · intro X hSX
            try dsimp only at hSX
            go_simp <;> with_reducible rfl
          simp only [Act.put, List.setIfInBounds_toArray, List.set_cons_zero, List.set_cons_succ]
          refine held_take (i := 15) (v := ?_) rfl (by kernel_rfl) (by kernel_rfl) (by kernel_rfl) (fun _ _ _ h => h) (by rfl) ?_ (by assumption) ?_
          rotate_left
          · intro X hSX
            try dsimp only at hSX
            go_simp <;> with_reducible rfl
          simp only [Act.put, List.setIfInBounds_toArray, List.set_cons_zero, List.set_cons_succ]
          refine wpAnyH_done (by kernel_rfl) ?_ _
          refine NoPanic.normal ?_
          go_wp2_with fail
          go_meet
          exact ⟨rfl, HT⟩
      · skip
        go_simp
        have HPp := Lib.hid (heap_alloc_new X1 boxDz)
        have HNp := Lib.hid (show w.heap.size + 3 ≤ X1.heap.size from HT.out.size)
        have HNE := Lib.hid (show X1.heap.size ≠ q ∨ q ≠ X1.heap.size by have h1 := (Array.getElem?_eq_some_iff.1 HPq.out).1; omega)
        replace HPq := Lib.hid (row_next HPq.out (below_boxC X1 boxDz))
        replace HT := Lib.hid (HT.out.next (below_boxC X1 boxDz))
        refine held_go hK' (HT.out) ?_
        try simp only [Act.put, List.setIfInBounds_toArray, List.set_cons_zero, List.set_cons_succ]
        generalize World.alloc X1 _ = X2 at *
        generalize X1.heap.size = p at *
        clear hS0
        have hS0 := HT.out
        refine held_call (i := 3) rfl (by kernel_rfl) (by rfl) (fun K' hK' => ?_)
        go_simp
        refine (HCP.out X2 (HIN.out.below HT.out.b)).mono ?_
        rintro e X3 ⟨ad1, cap1, rfl, hi, hkf, hb⟩
        have HI1 := Lib.hid hi
        clear hi hkf
        replace HPq := Lib.hid (row_next HPq.out hb)
        replace HPp := Lib.hid (row_next HPp.out hb)
        replace HT := Lib.hid (HT.out.next hb)
        refine held_go hK' (HT.out) ?_
        try simp only [Act.put, List.setIfInBounds_toArray, List.set_cons_zero, List.set_cons_succ]
        clear hS0
        have hS0 := HT.out
        clear hb
        refine held_call (i := 4) rfl (by kernel_rfl) (by rfl) (fun K' hK' => ?_)
        go_simp
        refine (HLD.out X3 ad1 cap1 HI1.out).mono ?_
        rintro e X4 ⟨ad2, cap2, rfl, hi2, -, hb⟩
        clear HI1 hi2
        replace HPq := Lib.hid (row_next HPq.out hb)
        replace HPp := Lib.hid (row_next HPp.out hb)
        replace HT := Lib.hid (HT.out.next hb)
        refine held_go hK' (HT.out) ?_
        try simp only [Act.put, List.setIfInBounds_toArray, List.set_cons_zero, List.set_cons_succ]
        clear hS0
        have hS0 := HT.out
        clear hb
        refine held_take (i := 5) (v := ?_) rfl (by kernel_rfl) (by kernel_rfl) (by kernel_rfl) (fun _ _ _ h => h) (by rfl) ?_ (by assumption) ?_
        rotate_left
        · intro X hSX
          try dsimp only at hSX
          go_simp <;> with_reducible rfl
        simp only [Act.put, List.setIfInBounds_toArray, List.set_cons_zero, List.set_cons_succ]
        refine held_take (i := 6) (v := ?_) rfl (by kernel_rfl) (by kernel_rfl) (by kernel_rfl) (fun _ _ _ h => h) (by rfl) ?_ (by assumption) ?_
        rotate_left
        · intro X hSX
          try dsimp only at hSX
          go_simp <;> with_reducible rfl
        simp only [Act.put, List.setIfInBounds_toArray, List.set_cons_zero, List.set_cons_succ]
        refine held_take (i := 7) (v := ?_) rfl (by kernel_rfl) (by kernel_rfl) (by kernel_rfl) (fun _ _ _ h => h) (by rfl) ?_ (by assumption) ?_
        rotate_left
        · intro X hSX
          try dsimp only at hSX
          go_simp <;> with_reducible rfl
        simp only [Act.put, List.setIfInBounds_toArray, List.set_cons_zero, List.set_cons_succ]
        refine held_take (i := 8) (v := ?_) rfl (by kernel_rfl) (by kernel_rfl) (by kernel_rfl) (fun _ _ _ h => h) (by rfl) ?_ (by assumption) ?_
        rotate_left
        · intro X hSX
          try dsimp only at hSX
          go_simp <;> with_reducible rfl
        simp only [Act.put, List.setIfInBounds_toArray, List.set_cons_zero, List.set_cons_succ]
        refine held_take (i := 9) (v := ?_) rfl (by kernel_rfl) (by kernel_rfl) (by kernel_rfl) (fun _ _ _ h => h) (by rfl) ?_ (by assumption) ?_
        rotate_left
        · intro X hSX
          try dsimp only at hSX
          go_simp <;> with_reducible rfl
        simp only [Act.put, List.setIfInBounds_toArray, List.set_cons_zero, List.set_cons_succ]
        refine held_call (i := 12) rfl (by kernel_rfl) (by rfl) (fun K' hK' => ?_)
        refine oper_store_dr (.tmp 9) (.tmp 31) rfl p rfl r.1 rfl drZ HPp.out ?_
        replace HT := Lib.hid (HT.out.far HNp.out (drK r.1))
        refine held_go hK' (HT.out) ?_
        try simp only [Act.put, List.setIfInBounds_toArray, List.set_cons_zero, List.set_cons_succ]
        replace HPq := Lib.hid (row_keep (cs := drK r.1) HPq.out (by have h1 := HNE.out; omega : q ≠ p))
        generalize World.setRow X4 p _ = Y at *
        clear hS0
        have hS0 := HT.out
        refine held_call (i := 13) rfl (by kernel_rfl) (by rfl) (fun K' hK' => ?_)
        refine oper_store_cq (.tmp 10) (.tmp 32) rfl q rfl r.2.1 ad2 cap2 rfl crZ none 0 HPq.out ?_
        replace HT := Lib.hid (HT.out.far HNq.out (crQ r.2.1 ad2 cap2))
        refine held_go hK' (HT.out) ?_
        try simp only [Act.put, List.setIfInBounds_toArray, List.set_cons_zero, List.set_cons_succ]
        generalize World.setRow Y q _ = Y2 at *
        clear hS0
        have hS0 := HT.out
        refine held_take (i := 14) (v := ?_) rfl (by kernel_rfl) (by kernel_rfl) (by kernel_rfl) (fun _ _ _ h => h) (by rfl) ?_ (by assumption) ?_
        rotate_left
        · intro X hSX
          try dsimp only at hSX
          go_simp <;> with_reducible rfl
        simp only [Act.put, List.setIfInBounds_toArray, List.set_cons_zero, List.set_cons_succ]
        refine held_take (i := 15) (v := ?_) rfl (by kernel_rfl) (by kernel_rfl) (by kernel_rfl) (fun _ _ _ h => h) (by rfl) ?_ (by assumption) ?_
        rotate_left
        · intro X hSX
          try dsimp only at hSX
          go_simp <;> with_reducible rfl
        simp only [Act.put, List.setIfInBounds_toArray, List.set_cons_zero, List.set_cons_succ]
        refine wpAnyH_done (by kernel_rfl) ?_ _
        refine NoPanic.normal ?_
        go_wp2_with fail
        go_meet
        exact ⟨rfl, HT⟩
  case rest =>
    obtain ⟨rfl, ht⟩ := hcut
    replace HT := Lib.hid ht.out
    clear ht HLD
    generalize r.2.2.2 = re at *
    go_upto_region 6 with fail
    go_cut [46] (fun s46 wx => s46 = .bool false ∧ Hid (Bx w wx [(mdK m, 23), (drK d, 25), (crQ c ad cap, 30)]))
    case first =>
      by_cases hr : re = 0
      · subst hr
        obtain ⟨hdu, hst⟩ := HLO.out rfl
        have HDU := Lib.hid (fun X => due_any m d X)
        rw [hdu] at HDU
        have HST := Lib.hid hst
        clear hdu hst HLO
        obtain ⟨_, m0, m1, m2, m3, m4⟩ := HT.out.m
        obtain ⟨_, d0, d1, d2, d3, d4, d5⟩ := HT.out.d
        go_wp2_with fail
        clear m0 m1 m2 m3 m4 d0 d1 d2 d3 d4 d5
        refine (HDU.out wc).mono ?_
        rintro e X1 ⟨rfl, hb⟩
        replace HT := Lib.hid (HT.out.next hb)
        clear hb
        obtain ⟨_, d0, d1, d2, d3, d4, d5⟩ := HT.out.d
        rw [HST.out] at d0
        go_wp2_with fail
        go_meet
        exact ⟨rfl, HT⟩
      · have hne : (re == 0) = false := by simp [hr]
        clear HLO
        go_wp2_with fail
        go_meet
        exact ⟨rfl, HT⟩
    case rest =>
      obtain ⟨rfl, ht⟩ := hcut
      replace HT := Lib.hid ht.out
      clear ht HLO
      obtain ⟨_, m0, m1, m2, m3, m4⟩ := HT.out.m
      obtain ⟨_, d0, d1, d2, d3, d4, d5⟩ := HT.out.d
      go_wp2_with fail
      clear m0 m1 m2 m3 m4 d0 d1 d2 d3 d4 d5
      refine (due_any m d wc).mono ?_
      rintro e X1 ⟨rfl, hb⟩
      replace HT := Lib.hid (HT.out.next hb)
      clear hb
      generalize hdq : due m d = dq at *
      clear hdq
      go_upto_if 49 with fail
      go_cut [] (fun wx => Hid (Bx w wx [(mdK m, 23), (drK d, 25), (crQ c ad cap, 30)]))
      case first =>
        cases dq
        · go_wp2_with fail
          go_meet
          exact HT
        have HCL := Lib.hid (fun X => clean_any m d X)
        have HCO := Lib.hid (fun h => clU_ok (m := m) (d := d) h)
        generalize clU m d = q at *
        obtain ⟨qd, qt, qe⟩ := q
        simp only at HCO
        obtain ⟨_, m0, m1, m2, m3, m4⟩ := HT.out.m
        obtain ⟨_, d0, d1, d2, d3, d4, d5⟩ := HT.out.d
        go_wp2_with fail
        clear m0 m1 m2 m3 m4 d0 d1 d2 d3 d4 d5
        refine (HCL.out X1).mono ?_
        rintro e X2 ⟨rfl, hb⟩
        have R0 := Lib.hid (show (X2.alloc boxDz).heap[X2.heap.size]? = some (.cells (drK drZ) 25 (0, 0)) from heap_alloc_new X2 _)
        have hs2 := (HT.out.next hb).size
        have HT2 := Lib.hid (((HT.out.next hb).next (below_boxC X2 boxDz)).far (g := X2.heap.size) hs2 (drK qd))
        have R1 := Lib.hid (setRow_heap _ _ _ (drK qd) _ _ R0.out)
        clear hb hs2
        by_cases hq : qe = 0
        · subst hq
          obtain ⟨hdu, hsi⟩ := HCO.out rfl
          have HDU := Lib.hid (fun X => due_any m qd X)
          rw [hdu] at HDU
          have HSI := Lib.hid hsi
          clear hdu hsi HCO
          obtain ⟨_, m0, m1, m2, m3, m4⟩ := HT2.out.m
          obtain ⟨_, d0, d1, d2, d3, d4, d5⟩ := DrAt.of R1.out
          go_wp2_with (with_reducible refine wpList_store_dr rfl (.tmp 13) (.tmp 54) rfl X2.heap.size rfl _ _ _ _ _ _ rfl drZ R0.out ?_)
          clear m0 m1 m2 m3 m4 d0 d1 d2 d3 d4 d5
          generalize World.setRow (World.alloc X2 _) _ _ = X3 at *
          generalize X2.heap.size = p at *
          refine (HDU.out X3).mono ?_
          rintro e X4 ⟨rfl, hb⟩
          obtain ⟨_, d0, d1, d2, d3, d4, d5⟩ := DrAt.of (row_next R1.out hb)
          rw [HSI.out] at d5
          have HT3 := Lib.hid (HT2.out.next hb)
          clear hb HT
          go_wp2_with fail
          go_meet
          exact HT3
        · have hne : (qe == 0) = false := by simp [hq]
          go_wp2_with (with_reducible refine wpList_store_dr rfl (.tmp 13) (.tmp 54) rfl X2.heap.size rfl _ _ _ _ _ _ rfl drZ R0.out ?_)
          go_meet
          exact HT2
      case rest =>
        have HT2 := Lib.hid hcut.out
        clear hcut HT
        obtain ⟨_, d0, d1, d2, d3, d4, d5⟩ := HT2.out.d
        have f0 := froz_of (HT2.out.at_ 1 _ rfl) 0
        go_wp2_with fail
        clear d0 d1 d2 d3 d4 d5 f0
        have HT := Lib.hid (show Bx w (wc.setCell ⟨w.heap.size + 1, 0, none⟩ (.int .i64 2)) [(mdK m, 23), (drK ⟨2, d.bc, d.hd, d.lo, d.pa, d.si⟩, 25), (crQ c ad cap, 30)] from HT2.out.cell 1 0 (.int .i64 2) _ _ rfl)
        clear HT2
        generalize World.setCell wc _ _ = Y5 at *
        go_loopg [16] sn (fun gk v16 wx => ∃ k : Nat, v16 = .int .i64 k ∧ k + gk = sn ∧ Hid (Bx w wx [(mdK m, 23), (drK ⟨2, d.bc, d.hd, d.lo, d.pa, d.si⟩, 25), (crQ c ad cap, 30)]))
        case atStart => exact ⟨0, rfl, by omega, HT⟩
        case round =>
          clear HT
          obtain ⟨k, rfl, hk, ht⟩ := hrel
          have HT := Lib.hid ht.out
          clear ht
          cases gk with
          | zero =>
            obtain rfl : k = sn := by omega
            go_wp2
            go_ret
            exact ⟨rfl, HT.out.b⟩
          | succ gk0 =>
            have hks : k < sn := by omega
            have hkl : k < ls.length := by rw [← HSN.out]; exact hks
            obtain ⟨b, off, zd, zc, rfl, hbw, hcells, hsi⟩ := HKS.out.get hkl
            have c0 := hcells 0 (by omega)
            have c1 := hcells 1 (by omega)
            have c2 := hcells 2 (by omega)
            have c3 := hcells 3 (by omega)
            have hzl := HOS.out _ (List.getElem_mem hkl)
            generalize ls[k] = sk at *
            obtain ⟨kind, which, nn, z⟩ := sk
            have HC := Lib.hid (show w.cell? ⟨b, off + k * 4, none⟩ = some (.int .i64 kind) ∧ w.cell? ⟨b, off + k * 4 + 1, none⟩ = some (.int .i64 which) ∧ w.cell? ⟨b, off + k * 4 + 2, none⟩ = some (.int .i64 nn) ∧ w.cell? ⟨b, off + k * 4 + 3, none⟩ = some (.slice zd z.length zc) ∧ b < w.heap.size from ⟨c0, c1, c2, c3, hbw⟩)
            have HZI := Lib.hid hsi.ki
            simp only at hzl
            have HPG := Lib.hid (fun X ad1 cap1 (h : CrIn X c ad1 cap1) hz => program_any side_prog m ⟨2, d.bc, d.hd, d.lo, d.pa, d.si⟩ c ad1 cap1 kind which nn zd z.length zc z X h hz rfl (by omega) hsi.nn ⟨hsi.n0, hsi.n1⟩)
            have HE := Lib.hid (stU_fail m ⟨2, d.bc, d.hd, d.lo, d.pa, d.si⟩ c kind nn z rfl)
            generalize stU m ⟨2, d.bc, d.hd, d.lo, d.pa, d.si⟩ c kind nn z = r at *
            clear c0 c1 c2 c3 hbw hcells hsi hkl
            go_wp2_with fail
            replace HT := Lib.hid (HT.out.next (Below.refl wr.heap.size wr).drew)
            refine wp_region_noPanic ?_
            refine wp_region_held_drew (S := (fun X => Bx w X [(mdK m, 23), (drK ⟨2, d.bc, d.hd, d.lo, d.pa, d.si⟩, 25), (crQ c ad cap, 30)])) (by kernel_rfl) (HT.out) (fun hS0 => ?_)
            generalize World.drew wr = X0 at *
            refine held_take (i := 0) (v := ?_) rfl (by kernel_rfl) (by kernel_rfl) (by kernel_rfl) (fun _ _ _ h => h) (by rfl) ?_ (by assumption) ?_
            rotate_left
            · intro X hSX
              try dsimp only at hSX
              obtain ⟨_, m0, m1, m2, m3, m4⟩ := hSX.m
              go_simp <;> with_reducible rfl
            simp only [Act.put, List.setIfInBounds_toArray, List.set_cons_zero, List.set_cons_succ]
            refine held_take (i := 1) (v := ?_) rfl (by kernel_rfl) (by kernel_rfl) (by kernel_rfl) (fun _ _ _ h => h) (by rfl) ?_ (by assumption) ?_
            rotate_left
            · intro X hSX
              try dsimp only at hSX
              obtain ⟨_, d0, d1, d2, d3, d4, d5⟩ := hSX.d
              dsimp only at d0 d1 d2 d3 d4 d5
              go_simp <;> with_reducible rfl
            simp only [Act.put, List.setIfInBounds_toArray, List.set_cons_zero, List.set_cons_succ]
            refine held_take (i := 2) (v := ?_) rfl (by kernel_rfl) (by kernel_rfl) (by kernel_rfl) (fun _ _ _ h => h) (by rfl) ?_ (by assumption) ?_
            rotate_left
            · intro X hSX
              try dsimp only at hSX
              obtain ⟨_, k0, k1, k2, k3, k4, k5, k6, k7, k8, k9, k10, k11, k12⟩ := hSX.c
              go_simp <;> with_reducible rfl
            simp only [Act.put, List.setIfInBounds_toArray, List.set_cons_zero, List.set_cons_succ]
            refine held_take (i := 4) (v := ?_) rfl (by kernel_rfl) (by kernel_rfl) (by kernel_rfl) (fun _ _ _ h => h) (by rfl) ?_ (by assumption) ?_
            rotate_left
            · intro X hSX
              try dsimp only at hSX
              go_simp <;> with_reducible rfl
            simp only [Act.put, List.setIfInBounds_toArray, List.set_cons_zero, List.set_cons_succ]
            refine held_take (i := 5) (v := ?_) rfl (by kernel_rfl) (by kernel_rfl) (by kernel_rfl) (fun _ _ _ h => h) (by rfl) ?_ (by assumption) ?_
            rotate_left
            · intro X hSX
              try dsimp only at hSX
              go_simp <;> with_reducible rfl
            simp only [Act.put, List.setIfInBounds_toArray, List.set_cons_zero, List.set_cons_succ]
            refine held_take (i := 6) (v := ?_) rfl (by kernel_rfl) (by kernel_rfl) (by kernel_rfl) (fun _ _ _ h => h) (by rfl) ?_ (by assumption) ?_
            rotate_left
            · intro X hSX
              try dsimp only at hSX
              go_simp <;> with_reducible rfl
            simp only [Act.put, List.setIfInBounds_toArray, List.set_cons_zero, List.set_cons_succ]
            refine held_take (i := 7) (v := ?_) rfl (by kernel_rfl) (by kernel_rfl) (by kernel_rfl) (fun _ _ _ h => h) (by rfl) ?_ (by assumption) ?_
            rotate_left
            · intro X hSX
              try dsimp only at hSX
              have s0 := (hSX.b.cell (p := ⟨b, off + k * 4, none⟩) HC.out.2.2.2.2).trans HC.out.1
              have s1 := (hSX.b.cell (p := ⟨b, off + k * 4 + 1, none⟩) HC.out.2.2.2.2).trans HC.out.2.1
              have s2 := (hSX.b.cell (p := ⟨b, off + k * 4 + 2, none⟩) HC.out.2.2.2.2).trans HC.out.2.2.1
              have s3 := (hSX.b.cell (p := ⟨b, off + k * 4 + 3, none⟩) HC.out.2.2.2.2).trans HC.out.2.2.2.1
              go_simp <;> with_reducible rfl
            simp only [Act.put, List.setIfInBounds_toArray, List.set_cons_zero, List.set_cons_succ]
            refine held_two (i := 3) (j := 9) rfl rfl (by kernel_rfl) (by rfl) (by rfl) (fun K' hK' => ?_) (fun K' hK' => ?_)
            · skip
              go_simp
              refine (HCP.out X0 (HIN.out.below HT.out.b)).mono ?_
              rintro e X1 ⟨ad1, cap1, rfl, hi, hkf, hb⟩
              have HI1 := Lib.hid hi
              have HK1 := Lib.hid (show KnoS X1 (fun j : Nat => False) ad1 c.l from KnoS.of_fr hkf (fun k (hk : False) => hk.elim))
              clear hi hkf
              replace HT := Lib.hid (HT.out.next hb)
              refine held_go hK' (HT.out) ?_
              try simp only [Act.put, List.setIfInBounds_toArray, List.set_cons_zero, List.set_cons_succ]
              clear hS0
              have hS0 := HT.out
              clear hb
              refine held_two (i := 8) (j := 9) rfl rfl (by kernel_rfl) (by rfl) (by rfl) (fun K' hK' => ?_) (fun K' hK' => ?_)
              · skip
                go_simp
                refine (HPG.out X1 ad1 cap1 HI1.out (HZI.out.below HT.out.b)).mono ?_
                rintro e X2 hret
                obtain ⟨ad2, n2, cap2, zd2, zn2, zc2, rfl, -, hb⟩ := DnOk.of (S := (fun j : Nat => False)) hret HK1.out (fun k (hk : False) => hk.elim)
                clear hret HI1 HK1
                replace HT := Lib.hid (HT.out.next hb)
                refine held_go hK' (HT.out) ?_
                try simp only [Act.put, List.setIfInBounds_toArray, List.set_cons_zero, List.set_cons_succ]
                clear hS0
                have hS0 := HT.out
                clear hb
                refine held_call (i := 9) rfl (by kernel_rfl) (by rfl) (fun K' hK' => ?_)
                go_simp
                have HPp := Lib.hid (heap_alloc_new X2 boxDn)
                have HNp := Lib.hid (show w.heap.size + 3 ≤ X2.heap.size from HT.out.size)
                replace HT := Lib.hid (HT.out.next (below_boxC X2 boxDn))
                refine held_go hK' (HT.out) ?_
                try simp only [Act.put, List.setIfInBounds_toArray, List.set_cons_zero, List.set_cons_succ]
                generalize World.alloc X2 _ = X3 at *
                generalize X2.heap.size = p at *
                clear hS0
                have hS0 := HT.out
                refine held_call (i := 10) rfl (by kernel_rfl) (by rfl) (fun K' hK' => ?_)
                refine oper_store_dn (.tmp 17) (.tmp 84) rfl p rfl r.d r.c ad2 n2 cap2 zd2 zn2 zc2 r.t r.e rfl HPp.out ?_
                replace HT := Lib.hid (HT.out.far HNp.out (dnK r.d r.c ad2 n2 cap2 zd2 zn2 zc2 r.t r.e))
                refine held_go hK' (HT.out) ?_
                try simp only [Act.put, List.setIfInBounds_toArray, List.set_cons_zero, List.set_cons_succ]
                have HP2 := Lib.hid (setRow_heap _ _ _ (dnK r.d r.c ad2 n2 cap2 zd2 zn2 zc2 r.t r.e) _ _ HPp.out)
                generalize World.setRow X3 p _ = Y at *
                clear hS0
                refine wpAnyH_done (by kernel_rfl) ?_ _
                refine NoPanic.normal ?_
                obtain ⟨_, -, -, -, -, -, -, -, -, -, -, -, -, -, -, -, -, -, -, -, -, -, x21⟩ := DnAt.of HP2.out
                rcases HE.out with he | he
                all_goals
                  rw [he] at x21
                  go_wp2_with fail
                  go_roundg gk0
                  case rel => exact ⟨k + 1, by go_num, by omega, HT⟩
                  case measure => omega
              · skip
                go_simp
                have HPp := Lib.hid (heap_alloc_new X1 boxDn)
                have HNp := Lib.hid (show w.heap.size + 3 ≤ X1.heap.size from HT.out.size)
                replace HI1 := Lib.hid (HI1.out.below (below_boxC X1 boxDn))
                replace HK1 := Lib.hid (HK1.out.add (T := (fun j : Nat => j = X1.heap.size)) boxDn (fun k hk => .inr hk))
                replace HT := Lib.hid (HT.out.next (below_boxC X1 boxDn))
                refine held_go hK' (HT.out) ?_
                try simp only [Act.put, List.setIfInBounds_toArray, List.set_cons_zero, List.set_cons_succ]
                generalize World.alloc X1 _ = X2 at *
                generalize X1.heap.size = p at *
                clear hS0
                have hS0 := HT.out
                refine held_call (i := 8) rfl (by kernel_rfl) (by rfl) (fun K' hK' => ?_)
                go_simp
                refine (HPG.out X2 ad1 cap1 HI1.out (HZI.out.below HT.out.b)).mono ?_
                rintro e X3 hret
                obtain ⟨ad2, n2, cap2, zd2, zn2, zc2, rfl, -, hb⟩ := DnOk.of (S := (fun j : Nat => j = p)) hret HK1.out (fun k (hk : k = p) => by have h_p := (Array.getElem?_eq_some_iff.1 HPp.out).1; omega)
                clear hret HI1 HK1
                replace HPp := Lib.hid (row_next HPp.out hb)
                replace HT := Lib.hid (HT.out.next hb)
                refine held_go hK' (HT.out) ?_
                try simp only [Act.put, List.setIfInBounds_toArray, List.set_cons_zero, List.set_cons_succ]
                clear hS0
                have hS0 := HT.out
                clear hb
                refine held_call (i := 10) rfl (by kernel_rfl) (by rfl) (fun K' hK' => ?_)
                refine oper_store_dn (.tmp 17) (.tmp 84) rfl p rfl r.d r.c ad2 n2 cap2 zd2 zn2 zc2 r.t r.e rfl HPp.out ?_
                replace HT := Lib.hid (HT.out.far HNp.out (dnK r.d r.c ad2 n2 cap2 zd2 zn2 zc2 r.t r.e))
                refine held_go hK' (HT.out) ?_
                try simp only [Act.put, List.setIfInBounds_toArray, List.set_cons_zero, List.set_cons_succ]
                have HP2 := Lib.hid (setRow_heap _ _ _ (dnK r.d r.c ad2 n2 cap2 zd2 zn2 zc2 r.t r.e) _ _ HPp.out)
                generalize World.setRow X3 p _ = Y at *
                clear hS0
                refine wpAnyH_done (by kernel_rfl) ?_ _
                refine NoPanic.normal ?_
                obtain ⟨_, -, -, -, -, -, -, -, -, -, -, -, -, -, -, -, -, -, -, -, -, -, x21⟩ := DnAt.of HP2.out
                rcases HE.out with he | he
                all_goals
                  rw [he] at x21
                  go_wp2_with fail
                  go_roundg gk0
                  case rel => exact ⟨k + 1, by go_num, by omega, HT⟩
                  case measure => omega
            · skip
              go_simp
              have HPp := Lib.hid (heap_alloc_new X0 boxDn)
              have HNp := Lib.hid (show w.heap.size + 3 ≤ X0.heap.size from HT.out.size)
              replace HT := Lib.hid (HT.out.next (below_boxC X0 boxDn))
              refine held_go hK' (HT.out) ?_
              try simp only [Act.put, List.setIfInBounds_toArray, List.set_cons_zero, List.set_cons_succ]
              generalize World.alloc X0 _ = X1 at *
              generalize X0.heap.size = p at *
              clear hS0
              have hS0 := HT.out
              refine held_call (i := 3) rfl (by kernel_rfl) (by rfl) (fun K' hK' => ?_)
              go_simp
              refine (HCP.out X1 (HIN.out.below HT.out.b)).mono ?_
              rintro e X2 ⟨ad1, cap1, rfl, hi, hkf, hb⟩
              have HI1 := Lib.hid hi
              have HK1 := Lib.hid (show KnoS X2 (fun j : Nat => j = p) ad1 c.l from KnoS.of_fr hkf (fun k (hk : k = p) => by have h_p := (Array.getElem?_eq_some_iff.1 HPp.out).1; omega))
              clear hi hkf
              replace HPp := Lib.hid (row_next HPp.out hb)
              replace HT := Lib.hid (HT.out.next hb)
              refine held_go hK' (HT.out) ?_
              try simp only [Act.put, List.setIfInBounds_toArray, List.set_cons_zero, List.set_cons_succ]
              clear hS0
              have hS0 := HT.out
              clear hb
              refine held_call (i := 8) rfl (by kernel_rfl) (by rfl) (fun K' hK' => ?_)
              go_simp
              refine (HPG.out X2 ad1 cap1 HI1.out (HZI.out.below HT.out.b)).mono ?_
              rintro e X3 hret
              obtain ⟨ad2, n2, cap2, zd2, zn2, zc2, rfl, -, hb⟩ := DnOk.of (S := (fun j : Nat => j = p)) hret HK1.out (fun k (hk : k = p) => by have h_p := (Array.getElem?_eq_some_iff.1 HPp.out).1; omega)
              clear hret HI1 HK1
              replace HPp := Lib.hid (row_next HPp.out hb)
              replace HT := Lib.hid (HT.out.next hb)
              refine held_go hK' (HT.out) ?_
              try simp only [Act.put, List.setIfInBounds_toArray, List.set_cons_zero, List.set_cons_succ]
              clear hS0
              have hS0 := HT.out
              clear hb
              refine held_call (i := 10) rfl (by kernel_rfl) (by rfl) (fun K' hK' => ?_)
              refine oper_store_dn (.tmp 17) (.tmp 84) rfl p rfl r.d r.c ad2 n2 cap2 zd2 zn2 zc2 r.t r.e rfl HPp.out ?_
              replace HT := Lib.hid (HT.out.far HNp.out (dnK r.d r.c ad2 n2 cap2 zd2 zn2 zc2 r.t r.e))
              refine held_go hK' (HT.out) ?_
              try simp only [Act.put, List.setIfInBounds_toArray, List.set_cons_zero, List.set_cons_succ]
              have HP2 := Lib.hid (setRow_heap _ _ _ (dnK r.d r.c ad2 n2 cap2 zd2 zn2 zc2 r.t r.e) _ _ HPp.out)
              generalize World.setRow X3 p _ = Y at *
              clear hS0
              refine wpAnyH_done (by kernel_rfl) ?_ _
              refine NoPanic.normal ?_
              obtain ⟨_, -, -, -, -, -, -, -, -, -, -, -, -, -, -, -, -, -, -, -, -, -, x21⟩ := DnAt.of HP2.out
              rcases HE.out with he | he
              all_goals
                rw [he] at x21
                go_wp2_with fail
                go_roundg gk0
                case rel => exact ⟨k + 1, by go_num, by omega, HT⟩
                case measure => omega
end Go.Proofs.Ytogeenihpcbbcaa
