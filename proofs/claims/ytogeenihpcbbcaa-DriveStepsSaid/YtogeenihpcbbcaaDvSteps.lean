/-
  DriveSteps: one operation of the program and of the document, from the same drive and cartridge.
-/
import Derived.Test.YtogeenihpcbbcaaQBase
import Derived.Deep.DeepCutAuto
namespace Go.Proofs.Ytogeenihpcbbcaa
open Go.RowKit
set_option linter.unusedVariables false
set_option linter.unusedSimpArgs false
set_option maxRecDepth 100000
theorem stp_at {X : World} {g : Nat} {a b c : Int} {zd : Option Addr} {zn zc : Nat} (h : X.heap[g]? = some (.cells #[.int .i64 a, .int .i64 b, .int .i64 c, .slice zd zn zc] 32 (0, 0))) :
    X.cell? ⟨g, 0, none⟩ = some (.int .i64 a) ∧ X.cell? ⟨g, 1, none⟩ = some (.int .i64 b) ∧ X.cell? ⟨g, 2, none⟩ = some (.int .i64 c) ∧ X.cell? ⟨g, 3, none⟩ = some (.slice zd zn zc) := by
  refine ⟨?_, ?_, ?_, ?_⟩ <;> (rw [row_cell h]; rfl)
/-- both results, in their boxes -/
structure StB (w X : World) (L : List (Array Value × TypeId)) (p q : Nat) (r : Dn) (ad2 : Option Addr) (n2 cap2 : Nat) (zd2 : Option Addr) (zn2 zc2 : Nat) (ad4 : Option Addr) (n4 cap4 : Nat) (zd4 : Option Addr) (zn4 zc4 : Nat) : Prop where
  x : X.heap[p]? = some (.cells (dnK r.d r.c ad2 n2 cap2 zd2 zn2 zc2 r.t r.e) 39 (0, 0))
  y : X.heap[q]? = some (.cells (dnK r.d r.c ad4 n4 cap4 zd4 zn4 zc4 r.t r.e) 39 (0, 0))
  okx : DnOk X (fun j : Nat => j = p ∨ j = q) r ad2 n2 cap2 zd2 zn2 zc2
  oky : DnOk X (fun j : Nat => j = p ∨ j = q) r ad4 n4 cap4 zd4 zn4 zc4
  b : Bx w X L
theorem st_far {X : World} {p q : Nat} {C : Array Value} {t : TypeId} (h : X.heap[q]? = some (.cells C t (0, 0))) (hne : p ≠ q ∨ q ≠ p) (cs : Array Value) : (X.setRow p cs).heap[q]? = some (.cells C t (0, 0)) := by
  rw [setRow_other _ _ _ _ (by omega)]; exact h
theorem st_fin {w X : World} {L : List (Array Value × TypeId)} {p q : Nat} {r : Dn} {ad2 : Option Addr} {n2 cap2 : Nat} {zd2 : Option Addr} {zn2 zc2 : Nat} {ad4 : Option Addr} {n4 cap4 : Nat} {zd4 : Option Addr} {zn4 zc4 : Nat} (hp : X.heap[p]? = some (.cells dnZ 39 (0, 0))) (hq : X.heap[q]? = some (.cells dnZ 39 (0, 0))) (hne : p ≠ q ∨ q ≠ p)
    (h2 : DnOk X (fun j : Nat => j = p ∨ j = q) r ad2 n2 cap2 zd2 zn2 zc2) (h4 : DnOk X (fun j : Nat => j = p ∨ j = q) r ad4 n4 cap4 zd4 zn4 zc4) (hnp : w.heap.size + L.length ≤ p) (hnq : w.heap.size + L.length ≤ q) (hT : Bx w X L) :
    StB w ((X.setRow p (dnK r.d r.c ad2 n2 cap2 zd2 zn2 zc2 r.t r.e)).setRow q (dnK r.d r.c ad4 n4 cap4 zd4 zn4 zc4 r.t r.e)) L p q r ad2 n2 cap2 zd2 zn2 zc2 ad4 n4 cap4 zd4 zn4 zc4 := by
  refine ⟨?_, ?_, (h2.row (.inl rfl)).row (.inr rfl), (h4.row (.inl rfl)).row (.inr rfl), (hT.far hnp _).far hnq _⟩
  · rw [setRow_other _ _ _ _ (by omega)]; exact setRow_heap _ _ _ _ _ _ hp
  · exact setRow_heap _ _ _ _ _ _ (by rw [setRow_other _ _ _ _ (by omega)]; exact hq)
attribute [local irreducible] stU fewB due worn mdlU drvU vldC
set_option maxHeartbeats 16000000 in
theorem law_steps (m : Mdl) (d : Drv) (c : Crt) (ad : Option Addr) (cap : Nat) (kind which n : Int) (zd : Option Addr) (zn zc : Nat) (z : List Blk) (w : World) (hin : CrIn w c ad cap) (hz : Ki w zd z) (hzn : zn = z.length) (hzl : zn ≤ zc) (hzm : zc ≤ maxLen) (hznil : zd = none → zc = 0) (hn : -9223372036854775808 ≤ n ∧ n ≤ 9223372036854775807) :
    Calls Try.prog 3 #[mdV m, drV d, crV c ad cap, .agg #[.int .i64 kind, .int .i64 which, .int .i64 n, .slice zd zn zc]] w fun e w' => e = .returned (.bool true) ∧ Below w.heap.size w w' := by
  subst hzn
  have HIN := Lib.hid hin
  have HZI := Lib.hid hz
  have HST := Lib.hid (show St4.In w ⟨kind, which, n, z⟩ zd zc from ⟨hz, hzl, hzm, hznil, hn.1, hn.2⟩)
  have HT := Lib.hid (show Bx w ((((w.alloc (boxMx m)).alloc (boxDr d)).alloc (boxCx c ad cap)).alloc (.cells #[.int .i64 kind, .int .i64 which, .int .i64 n, .slice zd z.length zc] 32)) [(mdK m, 23), (drK d, 25), (crQ c ad cap, 30), (#[.int .i64 kind, .int .i64 which, .int .i64 n, .slice zd z.length zc], 32)] from Bx.start w [(mdK m, 23), (drK d, 25), (crQ c ad cap, 30), (#[.int .i64 kind, .int .i64 which, .int .i64 n, .slice zd z.length zc], 32)])
  clear hin hz
  go_enter Try.func3, Try.ntmps3
  go_wp2_with fail
  generalize World.alloc _ _ = Y0 at *
  refine (lives_any Y0).mono ?_
  rintro e Y1 ⟨rfl, hb⟩
  replace HT := Lib.hid (HT.out.next hb)
  clear hb
  obtain ⟨_, k0, k1, k2, k3, k4, k5, k6, k7, k8, k9, k10, k11, k12⟩ := HT.out.c
  obtain ⟨s0, s1, s2, s3⟩ := stp_at (HT.out.at_ 3 _ rfl)
  have hlt3 : w.heap.size + 3 < Y1.heap.size := (Array.getElem?_eq_some_iff.1 (HT.out.at_ 3 _ rfl)).1
  go_wp2_with fail
  clear hlt3 k0 k1 k2 k3 k4 k5 k6 k7 k8 k9 k10 k11 k12 s0 s1 s2 s3
  have HA := Lib.hid (heap_alloc_new Y1 (boxCx c ad cap))
  have HS1 := Lib.hid (show (Y1.alloc (boxCx c ad cap)).heap.size = Y1.heap.size + 1 by simp)
  have hb1 := below_boxC Y1 (boxCx c ad cap)
  have HA2 := Lib.hid (row_next HA.out (below_boxC (Y1.alloc (boxCx c ad cap)) (.cells #[.int .i64 kind, .int .i64 which, .int .i64 n, .slice zd z.length zc] 32)))
  have HB2 := Lib.hid (heap_alloc_new (Y1.alloc (boxCx c ad cap)) (.cells #[.int .i64 kind, .int .i64 which, .int .i64 n, .slice zd z.length zc] 32))
  rw [HS1.out] at HB2
  replace HT := Lib.hid ((HT.out.next hb1).next (below_boxC (Y1.alloc (boxCx c ad cap)) (.cells #[.int .i64 kind, .int .i64 which, .int .i64 n, .slice zd z.length zc] 32)))
  clear hb1
  generalize World.alloc (World.alloc Y1 _) _ = Y2 at HA2 HB2 HT ⊢
  generalize Y1.heap.size = ga at HA2 HB2 ⊢
  refine (few_any (some ⟨ga, 0, none⟩) 1 1 [c] (some ⟨ga + 1, 0, none⟩) 1 1 [⟨kind, which, n, z⟩] 1 Y2 (kcs_one HA2.out (HIN.out.below HT.out.b)) rfl (ks4_one HB2.out (HST.out.below HT.out.b)) rfl (by decide) (by decide)).mono ?_
  rintro e Y3 ⟨rfl, hY⟩
  obtain rfl := hY.symm
  clear HA HS1 HA2 HB2 HST
  cases hfew : fewB [c] [⟨kind, which, n, z⟩] 1
  · go_wp2
    go_ret
    exact ⟨rfl, HT.out.b⟩
  have hfw := fewB_iff.1 hfew
  have hoc := okC_iff.1 (hfw.2.1 c (by simp))
  have hos := okS_iff.1 (hfw.2.2 ⟨kind, which, n, z⟩ (by simp))
  have hzs : z.length ≤ 60 := hos.1
  have HCP := Lib.hid (fun X h => rdcopied_any c ad cap X h (by omega) (fun b hb => by have := hoc.2 b hb; omega))
  have HPG := Lib.hid (fun X ad1 cap1 (h : CrIn X c ad1 cap1) hz => program_any side_prog m d c ad1 cap1 kind which n zd z.length zc z X h hz rfl (by omega) hznil hn)
  have HDC := Lib.hid (fun X ad1 cap1 (h : CrIn X c ad1 cap1) hz => document_any m d c ad1 cap1 kind which n zd z.length zc z X h hz rfl (by omega) hznil hn)
  have HLN := Lib.hid (show (stU m d c kind n z).c.l.length ≤ 100000 ∧ (stU m d c kind n z).l.length ≤ 100000 by have := stU_len m d c kind n z; omega)
  generalize stU m d c kind n z = r at *
  clear hfew hfw hoc hos hzs
  go_upto_region 5 with fail
  go_cut [9, 10] (fun s9 s10 wx => ∃ p q ad2 n2 cap2 zd2 zn2 zc2 ad4 n4 cap4 zd4 zn4 zc4, s9 = .pointer (some ⟨p, 0, none⟩) ∧ s10 = .pointer (some ⟨q, 0, none⟩) ∧ Hid (StB w wx [(mdK m, 23), (drK d, 25), (crQ c ad cap, 30), (#[.int .i64 kind, .int .i64 which, .int .i64 n, .slice zd z.length zc], 32)] p q r ad2 n2 cap2 zd2 zn2 zc2 ad4 n4 cap4 zd4 zn4 zc4))
  case first =>
    replace HT := Lib.hid (HT.out.next (Below.refl Y2.heap.size Y2).drew)
    refine wp_region_noPanic ?_
    refine wp_region_held_drew (S := (fun X => Bx w X [(mdK m, 23), (drK d, 25), (crQ c ad cap, 30), (#[.int .i64 kind, .int .i64 which, .int .i64 n, .slice zd z.length zc], 32)])) (by kernel_rfl) (HT.out) (fun hS0 => ?_)
    generalize World.drew Y2 = X0 at *
    refine held_take (i := 0) (v := ?_) rfl (by kernel_rfl) (by kernel_rfl) (by kernel_rfl) (fun _ _ _ h => h) (by rfl) ?_ (by assumption) ?_
    rotate_left
    · intro X hSX
      try dsimp only at hSX
      obtain ⟨_, m0, m1, m2, m3, m4⟩ := hSX.m
      go_simp <;> with_reducible rfl
    simp only [Act.put, List.setIfInBounds_toArray, List.set_cons_zero, List.set_cons_succ]
    refine held_take (i := 6) (v := ?_) rfl (by kernel_rfl) (by kernel_rfl) (by kernel_rfl) (fun _ _ _ h => h) (by rfl) ?_ (by assumption) ?_
    rotate_left
    · intro X hSX
      try dsimp only at hSX
      obtain ⟨_, m0, m1, m2, m3, m4⟩ := hSX.m
      go_simp <;> with_reducible rfl
    simp only [Act.put, List.setIfInBounds_toArray, List.set_cons_zero, List.set_cons_succ]
    refine held_take (i := 1) (v := ?_) rfl (by kernel_rfl) (by kernel_rfl) (by kernel_rfl) (fun _ _ _ h => h) (by rfl) ?_ (by assumption) ?_
    rotate_left
    · intro X hSX
      try dsimp only at hSX
      obtain ⟨_, d0, d1, d2, d3, d4, d5⟩ := hSX.d
      go_simp <;> with_reducible rfl
    simp only [Act.put, List.setIfInBounds_toArray, List.set_cons_zero, List.set_cons_succ]
    refine held_take (i := 7) (v := ?_) rfl (by kernel_rfl) (by kernel_rfl) (by kernel_rfl) (fun _ _ _ h => h) (by rfl) ?_ (by assumption) ?_
    rotate_left
    · intro X hSX
      try dsimp only at hSX
      obtain ⟨_, d0, d1, d2, d3, d4, d5⟩ := hSX.d
      go_simp <;> with_reducible rfl
    simp only [Act.put, List.setIfInBounds_toArray, List.set_cons_zero, List.set_cons_succ]
    refine held_take (i := 2) (v := ?_) rfl (by kernel_rfl) (by kernel_rfl) (by kernel_rfl) (fun _ _ _ h => h) (by rfl) ?_ (by assumption) ?_
    rotate_left
    · intro X hSX
      try dsimp only at hSX
      obtain ⟨_, k0, k1, k2, k3, k4, k5, k6, k7, k8, k9, k10, k11, k12⟩ := hSX.c
      go_simp <;> with_reducible rfl
    simp only [Act.put, List.setIfInBounds_toArray, List.set_cons_zero, List.set_cons_succ]
    refine held_take (i := 8) (v := ?_) rfl (by kernel_rfl) (by kernel_rfl) (by kernel_rfl) (fun _ _ _ h => h) (by rfl) ?_ (by assumption) ?_
    rotate_left
    · intro X hSX
      try dsimp only at hSX
      obtain ⟨_, k0, k1, k2, k3, k4, k5, k6, k7, k8, k9, k10, k11, k12⟩ := hSX.c
      go_simp <;> with_reducible rfl
    simp only [Act.put, List.setIfInBounds_toArray, List.set_cons_zero, List.set_cons_succ]
    refine held_take (i := 4) (v := ?_) rfl (by kernel_rfl) (by kernel_rfl) (by kernel_rfl) (fun _ _ _ h => h) (by rfl) ?_ (by assumption) ?_
    rotate_left
    · intro X hSX
      try dsimp only at hSX
      obtain ⟨s0, s1, s2, s3⟩ := stp_at (hSX.at_ 3 _ rfl)
      go_simp <;> with_reducible rfl
    simp only [Act.put, List.setIfInBounds_toArray, List.set_cons_zero, List.set_cons_succ]
    refine held_take (i := 10) (v := ?_) rfl (by kernel_rfl) (by kernel_rfl) (by kernel_rfl) (fun _ _ _ h => h) (by rfl) ?_ (by assumption) ?_
    rotate_left
    · intro X hSX
      try dsimp only at hSX
      obtain ⟨s0, s1, s2, s3⟩ := stp_at (hSX.at_ 3 _ rfl)
      go_simp <;> with_reducible rfl
    simp only [Act.put, List.setIfInBounds_toArray, List.set_cons_zero, List.set_cons_succ]
    refine held_three (i := 3) (j := 12) (k := 13) rfl rfl rfl (by kernel_rfl) (by rfl) (by rfl) (by rfl) (fun K' hK' => ?_) (fun K' hK' => ?_) (fun K' hK' => ?_)
    · skip
      go_simp
      refine (HCP.out X0 (HIN.out.below HT.out.b)).mono ?_
      rintro e X1 ⟨ad1, cap1, rfl, hi, hkf, hb⟩
      have HI1 := Lib.hid hi
      have HK1 := Lib.hid (show KnoS X1 (fun j : Nat => False) ad1 c.l from KnoS.of_fr hkf (fun k (hk : False) => hk.elim))
      clear hi hkf
      replace HT := Lib.hid (HT.out.next hb)
      refine held_go hK' (HT.out) ?_
      try simp only [Act.put, List.setIfInBounds_toArray, List.set_cons_zero, List.set_cons_succ]
      clear hS0
      have hS0 := HT.out
      clear hb
      refine held_three (i := 5) (j := 12) (k := 13) rfl rfl rfl (by kernel_rfl) (by rfl) (by rfl) (by rfl) (fun K' hK' => ?_) (fun K' hK' => ?_) (fun K' hK' => ?_)
      · skip
        go_simp
        refine (HPG.out X1 ad1 cap1 HI1.out (HZI.out.below HT.out.b)).mono ?_
        rintro e X2 hret
        obtain ⟨ad2, n2, cap2, zd2, zn2, zc2, rfl, hok, hb⟩ := DnOk.of (S := (fun j : Nat => False)) hret HK1.out (fun k (hk : False) => hk.elim)
        have HOK2 := Lib.hid hok
        clear hret hok HI1 HK1
        replace HT := Lib.hid (HT.out.next hb)
        refine held_go hK' (HT.out) ?_
        try simp only [Act.put, List.setIfInBounds_toArray, List.set_cons_zero, List.set_cons_succ]
        clear hS0
        have hS0 := HT.out
        clear hb
        refine held_three (i := 9) (j := 12) (k := 13) rfl rfl rfl (by kernel_rfl) (by rfl) (by rfl) (by rfl) (fun K' hK' => ?_) (fun K' hK' => ?_) (fun K' hK' => ?_)
        · skip
          go_simp
          refine (HCP.out X2 (HIN.out.below HT.out.b)).mono ?_
          rintro e X3 ⟨ad3, cap3, rfl, hi, hkf, hb⟩
          have HI3 := Lib.hid hi
          have HK3 := Lib.hid (show KnoS X3 (fun j : Nat => False) ad3 c.l from KnoS.of_fr hkf (fun k (hk : False) => hk.elim))
          clear hi hkf
          replace HOK2 := Lib.hid (HOK2.out.below hb)
          replace HT := Lib.hid (HT.out.next hb)
          refine held_go hK' (HT.out) ?_
          try simp only [Act.put, List.setIfInBounds_toArray, List.set_cons_zero, List.set_cons_succ]
          clear hS0
          have hS0 := HT.out
          clear hb
          refine held_three (i := 11) (j := 12) (k := 13) rfl rfl rfl (by kernel_rfl) (by rfl) (by rfl) (by rfl) (fun K' hK' => ?_) (fun K' hK' => ?_) (fun K' hK' => ?_)
          · skip
            go_simp
            refine (HDC.out X3 ad3 cap3 HI3.out (HZI.out.below HT.out.b)).mono ?_
            rintro e X4 hret
            obtain ⟨ad4, n4, cap4, zd4, zn4, zc4, rfl, hok, hb⟩ := DnOk.of (S := (fun j : Nat => False)) hret HK3.out (fun k (hk : False) => hk.elim)
            have HOK4 := Lib.hid hok
            clear hret hok HI3 HK3
            replace HOK2 := Lib.hid (HOK2.out.below hb)
            replace HT := Lib.hid (HT.out.next hb)
            refine held_go hK' (HT.out) ?_
            try simp only [Act.put, List.setIfInBounds_toArray, List.set_cons_zero, List.set_cons_succ]
            clear hS0
            have hS0 := HT.out
            clear hb
            refine held_two (i := 12) (j := 13) rfl rfl (by kernel_rfl) (by rfl) (by rfl) (fun K' hK' => ?_) (fun K' hK' => ?_)
            · skip
              go_simp
              have HPp := Lib.hid (heap_alloc_new X4 boxDn)
              have HNp := Lib.hid (show w.heap.size + 4 ≤ X4.heap.size from HT.out.size)
              replace HOK2 := Lib.hid (HOK2.out.add (T := (fun j : Nat => j = X4.heap.size)) boxDn (fun k hk => .inr hk))
              replace HOK4 := Lib.hid (HOK4.out.add (T := (fun j : Nat => j = X4.heap.size)) boxDn (fun k hk => .inr hk))
              replace HT := Lib.hid (HT.out.next (below_boxC X4 boxDn))
              refine held_go hK' (HT.out) ?_
              try simp only [Act.put, List.setIfInBounds_toArray, List.set_cons_zero, List.set_cons_succ]
              generalize World.alloc X4 _ = X5 at *
              generalize X4.heap.size = p at *
              clear hS0
              have hS0 := HT.out
              refine held_call (i := 13) rfl (by kernel_rfl) (by rfl) (fun K' hK' => ?_)
              go_simp
              have HPq := Lib.hid (heap_alloc_new X5 boxDn)
              have HNq := Lib.hid (show w.heap.size + 4 ≤ X5.heap.size from HT.out.size)
              have HNE := Lib.hid (show p ≠ X5.heap.size ∨ X5.heap.size ≠ p by have h1 := (Array.getElem?_eq_some_iff.1 HPp.out).1; omega)
              replace HPp := Lib.hid (row_next HPp.out (below_boxC X5 boxDn))
              replace HOK2 := Lib.hid (HOK2.out.add (T := (fun j : Nat => j = p ∨ j = X5.heap.size)) boxDn (fun k hk => hk))
              replace HOK4 := Lib.hid (HOK4.out.add (T := (fun j : Nat => j = p ∨ j = X5.heap.size)) boxDn (fun k hk => hk))
              replace HT := Lib.hid (HT.out.next (below_boxC X5 boxDn))
              refine held_go hK' (HT.out) ?_
              try simp only [Act.put, List.setIfInBounds_toArray, List.set_cons_zero, List.set_cons_succ]
              generalize World.alloc X5 _ = X6 at *
              generalize X5.heap.size = q at *
              clear hS0
              have hS0 := HT.out
              refine held_call (i := 14) rfl (by kernel_rfl) (by rfl) (fun K' hK' => ?_)
              refine oper_store_dn (.tmp 9) (.tmp 24) rfl p rfl r.d r.c ad2 n2 cap2 zd2 zn2 zc2 r.t r.e rfl HPp.out ?_
              refine held_go hK' (HT.out.far HNp.out _) ?_
              try simp only [Act.put, List.setIfInBounds_toArray, List.set_cons_zero, List.set_cons_succ]
              have HSB := Lib.hid (st_fin HPp.out HPq.out HNE.out HOK2.out HOK4.out HNp.out HNq.out HT.out)
              clear hS0
              have hS0 := HT.out.far HNp.out (dnK r.d r.c ad2 n2 cap2 zd2 zn2 zc2 r.t r.e)
              replace HPq := Lib.hid (st_far HPq.out HNE.out (dnK r.d r.c ad2 n2 cap2 zd2 zn2 zc2 r.t r.e))
              refine held_call (i := 15) rfl (by kernel_rfl) (by rfl) (fun K' hK' => ?_)
              refine oper_store_dn (.tmp 10) (.tmp 30) rfl q rfl r.d r.c ad4 n4 cap4 zd4 zn4 zc4 r.t r.e rfl HPq.out ?_
              refine held_go hK' (HSB.out.b) ?_
              try simp only [Act.put, List.setIfInBounds_toArray, List.set_cons_zero, List.set_cons_succ]
              refine wpAnyH_done (by kernel_rfl) ?_ _
              refine NoPanic.normal ?_
              go_wp2_with fail
              go_meet
              exact ⟨p, q, ad2, n2, cap2, zd2, zn2, zc2, ad4, n4, cap4, zd4, zn4, zc4, rfl, rfl, HSB⟩
            · skip
              go_simp
              have HPq := Lib.hid (heap_alloc_new X4 boxDn)
              have HNq := Lib.hid (show w.heap.size + 4 ≤ X4.heap.size from HT.out.size)
              replace HOK2 := Lib.hid (HOK2.out.add (T := (fun j : Nat => j = X4.heap.size)) boxDn (fun k hk => .inr hk))
              replace HOK4 := Lib.hid (HOK4.out.add (T := (fun j : Nat => j = X4.heap.size)) boxDn (fun k hk => .inr hk))
              replace HT := Lib.hid (HT.out.next (below_boxC X4 boxDn))
              refine held_go hK' (HT.out) ?_
              try simp only [Act.put, List.setIfInBounds_toArray, List.set_cons_zero, List.set_cons_succ]
              generalize World.alloc X4 _ = X5 at *
              generalize X4.heap.size = q at *
              clear hS0
              have hS0 := HT.out
              refine held_call (i := 12) rfl (by kernel_rfl) (by rfl) (fun K' hK' => ?_)
              go_simp
              have HPp := Lib.hid (heap_alloc_new X5 boxDn)
              have HNp := Lib.hid (show w.heap.size + 4 ≤ X5.heap.size from HT.out.size)
              have HNE := Lib.hid (show X5.heap.size ≠ q ∨ q ≠ X5.heap.size by have h1 := (Array.getElem?_eq_some_iff.1 HPq.out).1; omega)
              replace HPq := Lib.hid (row_next HPq.out (below_boxC X5 boxDn))
              replace HOK2 := Lib.hid (HOK2.out.add (T := (fun j : Nat => j = X5.heap.size ∨ j = q)) boxDn (fun k hk => hk.symm))
              replace HOK4 := Lib.hid (HOK4.out.add (T := (fun j : Nat => j = X5.heap.size ∨ j = q)) boxDn (fun k hk => hk.symm))
              replace HT := Lib.hid (HT.out.next (below_boxC X5 boxDn))
              refine held_go hK' (HT.out) ?_
              try simp only [Act.put, List.setIfInBounds_toArray, List.set_cons_zero, List.set_cons_succ]
              generalize World.alloc X5 _ = X6 at *
              generalize X5.heap.size = p at *
              clear hS0
              have hS0 := HT.out
              refine held_call (i := 14) rfl (by kernel_rfl) (by rfl) (fun K' hK' => ?_)
              refine oper_store_dn (.tmp 9) (.tmp 24) rfl p rfl r.d r.c ad2 n2 cap2 zd2 zn2 zc2 r.t r.e rfl HPp.out ?_
              refine held_go hK' (HT.out.far HNp.out _) ?_
              try simp only [Act.put, List.setIfInBounds_toArray, List.set_cons_zero, List.set_cons_succ]
              have HSB := Lib.hid (st_fin HPp.out HPq.out HNE.out HOK2.out HOK4.out HNp.out HNq.out HT.out)
              clear hS0
              have hS0 := HT.out.far HNp.out (dnK r.d r.c ad2 n2 cap2 zd2 zn2 zc2 r.t r.e)
              replace HPq := Lib.hid (st_far HPq.out HNE.out (dnK r.d r.c ad2 n2 cap2 zd2 zn2 zc2 r.t r.e))
              refine held_call (i := 15) rfl (by kernel_rfl) (by rfl) (fun K' hK' => ?_)
              refine oper_store_dn (.tmp 10) (.tmp 30) rfl q rfl r.d r.c ad4 n4 cap4 zd4 zn4 zc4 r.t r.e rfl HPq.out ?_
              refine held_go hK' (HSB.out.b) ?_
              try simp only [Act.put, List.setIfInBounds_toArray, List.set_cons_zero, List.set_cons_succ]
              refine wpAnyH_done (by kernel_rfl) ?_ _
              refine NoPanic.normal ?_
              go_wp2_with fail
              go_meet
              exact ⟨p, q, ad2, n2, cap2, zd2, zn2, zc2, ad4, n4, cap4, zd4, zn4, zc4, rfl, rfl, HSB⟩
          · skip
            go_simp
            have HPp := Lib.hid (heap_alloc_new X3 boxDn)
            have HNp := Lib.hid (show w.heap.size + 4 ≤ X3.heap.size from HT.out.size)
            replace HOK2 := Lib.hid (HOK2.out.add (T := (fun j : Nat => j = X3.heap.size)) boxDn (fun k hk => .inr hk))
            replace HI3 := Lib.hid (HI3.out.below (below_boxC X3 boxDn))
            replace HK3 := Lib.hid (HK3.out.add (T := (fun j : Nat => j = X3.heap.size)) boxDn (fun k hk => .inr hk))
            replace HT := Lib.hid (HT.out.next (below_boxC X3 boxDn))
            refine held_go hK' (HT.out) ?_
            try simp only [Act.put, List.setIfInBounds_toArray, List.set_cons_zero, List.set_cons_succ]
            generalize World.alloc X3 _ = X4 at *
            generalize X3.heap.size = p at *
            clear hS0
            have hS0 := HT.out
            refine held_two (i := 11) (j := 13) rfl rfl (by kernel_rfl) (by rfl) (by rfl) (fun K' hK' => ?_) (fun K' hK' => ?_)
            · skip
              go_simp
              refine (HDC.out X4 ad3 cap3 HI3.out (HZI.out.below HT.out.b)).mono ?_
              rintro e X5 hret
              obtain ⟨ad4, n4, cap4, zd4, zn4, zc4, rfl, hok, hb⟩ := DnOk.of (S := (fun j : Nat => j = p)) hret HK3.out (fun k (hk : k = p) => by have h_p := (Array.getElem?_eq_some_iff.1 HPp.out).1; omega)
              have HOK4 := Lib.hid hok
              clear hret hok HI3 HK3
              replace HPp := Lib.hid (row_next HPp.out hb)
              replace HOK2 := Lib.hid (HOK2.out.below hb)
              replace HT := Lib.hid (HT.out.next hb)
              refine held_go hK' (HT.out) ?_
              try simp only [Act.put, List.setIfInBounds_toArray, List.set_cons_zero, List.set_cons_succ]
              clear hS0
              have hS0 := HT.out
              clear hb
              refine held_call (i := 13) rfl (by kernel_rfl) (by rfl) (fun K' hK' => ?_)
              go_simp
              have HPq := Lib.hid (heap_alloc_new X5 boxDn)
              have HNq := Lib.hid (show w.heap.size + 4 ≤ X5.heap.size from HT.out.size)
              have HNE := Lib.hid (show p ≠ X5.heap.size ∨ X5.heap.size ≠ p by have h1 := (Array.getElem?_eq_some_iff.1 HPp.out).1; omega)
              replace HPp := Lib.hid (row_next HPp.out (below_boxC X5 boxDn))
              replace HOK2 := Lib.hid (HOK2.out.add (T := (fun j : Nat => j = p ∨ j = X5.heap.size)) boxDn (fun k hk => hk))
              replace HOK4 := Lib.hid (HOK4.out.add (T := (fun j : Nat => j = p ∨ j = X5.heap.size)) boxDn (fun k hk => hk))
              replace HT := Lib.hid (HT.out.next (below_boxC X5 boxDn))
              refine held_go hK' (HT.out) ?_
              try simp only [Act.put, List.setIfInBounds_toArray, List.set_cons_zero, List.set_cons_succ]
              generalize World.alloc X5 _ = X6 at *
              generalize X5.heap.size = q at *
              clear hS0
              have hS0 := HT.out
              refine held_call (i := 14) rfl (by kernel_rfl) (by rfl) (fun K' hK' => ?_)
              refine oper_store_dn (.tmp 9) (.tmp 24) rfl p rfl r.d r.c ad2 n2 cap2 zd2 zn2 zc2 r.t r.e rfl HPp.out ?_
              refine held_go hK' (HT.out.far HNp.out _) ?_
              try simp only [Act.put, List.setIfInBounds_toArray, List.set_cons_zero, List.set_cons_succ]
              have HSB := Lib.hid (st_fin HPp.out HPq.out HNE.out HOK2.out HOK4.out HNp.out HNq.out HT.out)
              clear hS0
              have hS0 := HT.out.far HNp.out (dnK r.d r.c ad2 n2 cap2 zd2 zn2 zc2 r.t r.e)
              replace HPq := Lib.hid (st_far HPq.out HNE.out (dnK r.d r.c ad2 n2 cap2 zd2 zn2 zc2 r.t r.e))
              refine held_call (i := 15) rfl (by kernel_rfl) (by rfl) (fun K' hK' => ?_)
              refine oper_store_dn (.tmp 10) (.tmp 30) rfl q rfl r.d r.c ad4 n4 cap4 zd4 zn4 zc4 r.t r.e rfl HPq.out ?_
              refine held_go hK' (HSB.out.b) ?_
              try simp only [Act.put, List.setIfInBounds_toArray, List.set_cons_zero, List.set_cons_succ]
              refine wpAnyH_done (by kernel_rfl) ?_ _
              refine NoPanic.normal ?_
              go_wp2_with fail
              go_meet
              exact ⟨p, q, ad2, n2, cap2, zd2, zn2, zc2, ad4, n4, cap4, zd4, zn4, zc4, rfl, rfl, HSB⟩
            · skip
              go_simp
              have HPq := Lib.hid (heap_alloc_new X4 boxDn)
              have HNq := Lib.hid (show w.heap.size + 4 ≤ X4.heap.size from HT.out.size)
              have HNE := Lib.hid (show p ≠ X4.heap.size ∨ X4.heap.size ≠ p by have h1 := (Array.getElem?_eq_some_iff.1 HPp.out).1; omega)
              replace HPp := Lib.hid (row_next HPp.out (below_boxC X4 boxDn))
              replace HOK2 := Lib.hid (HOK2.out.add (T := (fun j : Nat => j = p ∨ j = X4.heap.size)) boxDn (fun k hk => hk))
              replace HI3 := Lib.hid (HI3.out.below (below_boxC X4 boxDn))
              replace HK3 := Lib.hid (HK3.out.add (T := (fun j : Nat => j = p ∨ j = X4.heap.size)) boxDn (fun k hk => hk))
              replace HT := Lib.hid (HT.out.next (below_boxC X4 boxDn))
              refine held_go hK' (HT.out) ?_
              try simp only [Act.put, List.setIfInBounds_toArray, List.set_cons_zero, List.set_cons_succ]
              generalize World.alloc X4 _ = X5 at *
              generalize X4.heap.size = q at *
              clear hS0
              have hS0 := HT.out
              refine held_call (i := 11) rfl (by kernel_rfl) (by rfl) (fun K' hK' => ?_)
              go_simp
              refine (HDC.out X5 ad3 cap3 HI3.out (HZI.out.below HT.out.b)).mono ?_
              rintro e X6 hret
              obtain ⟨ad4, n4, cap4, zd4, zn4, zc4, rfl, hok, hb⟩ := DnOk.of (S := (fun j : Nat => j = p ∨ j = q)) hret HK3.out (fun k (hk : k = p ∨ k = q) => by have h_p := (Array.getElem?_eq_some_iff.1 HPp.out).1; have h_q := (Array.getElem?_eq_some_iff.1 HPq.out).1; omega)
              have HOK4 := Lib.hid hok
              clear hret hok HI3 HK3
              replace HPp := Lib.hid (row_next HPp.out hb)
              replace HPq := Lib.hid (row_next HPq.out hb)
              replace HOK2 := Lib.hid (HOK2.out.below hb)
              replace HT := Lib.hid (HT.out.next hb)
              refine held_go hK' (HT.out) ?_
              try simp only [Act.put, List.setIfInBounds_toArray, List.set_cons_zero, List.set_cons_succ]
              clear hS0
              have hS0 := HT.out
              clear hb
              refine held_call (i := 14) rfl (by kernel_rfl) (by rfl) (fun K' hK' => ?_)
              refine oper_store_dn (.tmp 9) (.tmp 24) rfl p rfl r.d r.c ad2 n2 cap2 zd2 zn2 zc2 r.t r.e rfl HPp.out ?_
              refine held_go hK' (HT.out.far HNp.out _) ?_
              try simp only [Act.put, List.setIfInBounds_toArray, List.set_cons_zero, List.set_cons_succ]
              have HSB := Lib.hid (st_fin HPp.out HPq.out HNE.out HOK2.out HOK4.out HNp.out HNq.out HT.out)
              clear hS0
              have hS0 := HT.out.far HNp.out (dnK r.d r.c ad2 n2 cap2 zd2 zn2 zc2 r.t r.e)
              replace HPq := Lib.hid (st_far HPq.out HNE.out (dnK r.d r.c ad2 n2 cap2 zd2 zn2 zc2 r.t r.e))
              refine held_call (i := 15) rfl (by kernel_rfl) (by rfl) (fun K' hK' => ?_)
              refine oper_store_dn (.tmp 10) (.tmp 30) rfl q rfl r.d r.c ad4 n4 cap4 zd4 zn4 zc4 r.t r.e rfl HPq.out ?_
              refine held_go hK' (HSB.out.b) ?_
              try simp only [Act.put, List.setIfInBounds_toArray, List.set_cons_zero, List.set_cons_succ]
              refine wpAnyH_done (by kernel_rfl) ?_ _
              refine NoPanic.normal ?_
              go_wp2_with fail
              go_meet
              exact ⟨p, q, ad2, n2, cap2, zd2, zn2, zc2, ad4, n4, cap4, zd4, zn4, zc4, rfl, rfl, HSB⟩
          · skip
            go_simp
            have HPq := Lib.hid (heap_alloc_new X3 boxDn)
            have HNq := Lib.hid (show w.heap.size + 4 ≤ X3.heap.size from HT.out.size)
            replace HOK2 := Lib.hid (HOK2.out.add (T := (fun j : Nat => j = X3.heap.size)) boxDn (fun k hk => .inr hk))
            replace HI3 := Lib.hid (HI3.out.below (below_boxC X3 boxDn))
            replace HK3 := Lib.hid (HK3.out.add (T := (fun j : Nat => j = X3.heap.size)) boxDn (fun k hk => .inr hk))
            replace HT := Lib.hid (HT.out.next (below_boxC X3 boxDn))
            refine held_go hK' (HT.out) ?_
            try simp only [Act.put, List.setIfInBounds_toArray, List.set_cons_zero, List.set_cons_succ]
            generalize World.alloc X3 _ = X4 at *
            generalize X3.heap.size = q at *
            clear hS0
            have hS0 := HT.out
            refine held_two (i := 11) (j := 12) rfl rfl (by kernel_rfl) (by rfl) (by rfl) (fun K' hK' => ?_) (fun K' hK' => ?_)
            · skip
              go_simp
              refine (HDC.out X4 ad3 cap3 HI3.out (HZI.out.below HT.out.b)).mono ?_
              rintro e X5 hret
              obtain ⟨ad4, n4, cap4, zd4, zn4, zc4, rfl, hok, hb⟩ := DnOk.of (S := (fun j : Nat => j = q)) hret HK3.out (fun k (hk : k = q) => by have h_q := (Array.getElem?_eq_some_iff.1 HPq.out).1; omega)
              have HOK4 := Lib.hid hok
              clear hret hok HI3 HK3
              replace HPq := Lib.hid (row_next HPq.out hb)
              replace HOK2 := Lib.hid (HOK2.out.below hb)
              replace HT := Lib.hid (HT.out.next hb)
              refine held_go hK' (HT.out) ?_
              try simp only [Act.put, List.setIfInBounds_toArray, List.set_cons_zero, List.set_cons_succ]
              clear hS0
              have hS0 := HT.out
              clear hb
              refine held_call (i := 12) rfl (by kernel_rfl) (by rfl) (fun K' hK' => ?_)
              go_simp
              have HPp := Lib.hid (heap_alloc_new X5 boxDn)
              have HNp := Lib.hid (show w.heap.size + 4 ≤ X5.heap.size from HT.out.size)
              have HNE := Lib.hid (show X5.heap.size ≠ q ∨ q ≠ X5.heap.size by have h1 := (Array.getElem?_eq_some_iff.1 HPq.out).1; omega)
              replace HPq := Lib.hid (row_next HPq.out (below_boxC X5 boxDn))
              replace HOK2 := Lib.hid (HOK2.out.add (T := (fun j : Nat => j = X5.heap.size ∨ j = q)) boxDn (fun k hk => hk.symm))
              replace HOK4 := Lib.hid (HOK4.out.add (T := (fun j : Nat => j = X5.heap.size ∨ j = q)) boxDn (fun k hk => hk.symm))
              replace HT := Lib.hid (HT.out.next (below_boxC X5 boxDn))
              refine held_go hK' (HT.out) ?_
              try simp only [Act.put, List.setIfInBounds_toArray, List.set_cons_zero, List.set_cons_succ]
              generalize World.alloc X5 _ = X6 at *
              generalize X5.heap.size = p at *
              clear hS0
              have hS0 := HT.out
              refine held_call (i := 14) rfl (by kernel_rfl) (by rfl) (fun K' hK' => ?_)
              refine oper_store_dn (.tmp 9) (.tmp 24) rfl p rfl r.d r.c ad2 n2 cap2 zd2 zn2 zc2 r.t r.e rfl HPp.out ?_
              refine held_go hK' (HT.out.far HNp.out _) ?_
              try simp only [Act.put, List.setIfInBounds_toArray, List.set_cons_zero, List.set_cons_succ]
              have HSB := Lib.hid (st_fin HPp.out HPq.out HNE.out HOK2.out HOK4.out HNp.out HNq.out HT.out)
              clear hS0
              have hS0 := HT.out.far HNp.out (dnK r.d r.c ad2 n2 cap2 zd2 zn2 zc2 r.t r.e)
              replace HPq := Lib.hid (st_far HPq.out HNE.out (dnK r.d r.c ad2 n2 cap2 zd2 zn2 zc2 r.t r.e))
              refine held_call (i := 15) rfl (by kernel_rfl) (by rfl) (fun K' hK' => ?_)
              refine oper_store_dn (.tmp 10) (.tmp 30) rfl q rfl r.d r.c ad4 n4 cap4 zd4 zn4 zc4 r.t r.e rfl HPq.out ?_
              refine held_go hK' (HSB.out.b) ?_
              try simp only [Act.put, List.setIfInBounds_toArray, List.set_cons_zero, List.set_cons_succ]
              refine wpAnyH_done (by kernel_rfl) ?_ _
              refine NoPanic.normal ?_
              go_wp2_with fail
              go_meet
              exact ⟨p, q, ad2, n2, cap2, zd2, zn2, zc2, ad4, n4, cap4, zd4, zn4, zc4, rfl, rfl, HSB⟩
            · skip
              go_simp
              have HPp := Lib.hid (heap_alloc_new X4 boxDn)
              have HNp := Lib.hid (show w.heap.size + 4 ≤ X4.heap.size from HT.out.size)
              have HNE := Lib.hid (show X4.heap.size ≠ q ∨ q ≠ X4.heap.size by have h1 := (Array.getElem?_eq_some_iff.1 HPq.out).1; omega)
              replace HPq := Lib.hid (row_next HPq.out (below_boxC X4 boxDn))
              replace HOK2 := Lib.hid (HOK2.out.add (T := (fun j : Nat => j = X4.heap.size ∨ j = q)) boxDn (fun k hk => hk.symm))
              replace HI3 := Lib.hid (HI3.out.below (below_boxC X4 boxDn))
              replace HK3 := Lib.hid (HK3.out.add (T := (fun j : Nat => j = X4.heap.size ∨ j = q)) boxDn (fun k hk => hk.symm))
              replace HT := Lib.hid (HT.out.next (below_boxC X4 boxDn))
              refine held_go hK' (HT.out) ?_
              try simp only [Act.put, List.setIfInBounds_toArray, List.set_cons_zero, List.set_cons_succ]
              generalize World.alloc X4 _ = X5 at *
              generalize X4.heap.size = p at *
              clear hS0
              have hS0 := HT.out
              refine held_call (i := 11) rfl (by kernel_rfl) (by rfl) (fun K' hK' => ?_)
              go_simp
              refine (HDC.out X5 ad3 cap3 HI3.out (HZI.out.below HT.out.b)).mono ?_
              rintro e X6 hret
              obtain ⟨ad4, n4, cap4, zd4, zn4, zc4, rfl, hok, hb⟩ := DnOk.of (S := (fun j : Nat => j = p ∨ j = q)) hret HK3.out (fun k (hk : k = p ∨ k = q) => by have h_p := (Array.getElem?_eq_some_iff.1 HPp.out).1; have h_q := (Array.getElem?_eq_some_iff.1 HPq.out).1; omega)
              have HOK4 := Lib.hid hok
              clear hret hok HI3 HK3
              replace HPq := Lib.hid (row_next HPq.out hb)
              replace HPp := Lib.hid (row_next HPp.out hb)
              replace HOK2 := Lib.hid (HOK2.out.below hb)
              replace HT := Lib.hid (HT.out.next hb)
              refine held_go hK' (HT.out) ?_
              try simp only [Act.put, List.setIfInBounds_toArray, List.set_cons_zero, List.set_cons_succ]
              clear hS0
              have hS0 := HT.out
              clear hb
              refine held_call (i := 14) rfl (by kernel_rfl) (by rfl) (fun K' hK' => ?_)
              refine oper_store_dn (.tmp 9) (.tmp 24) rfl p rfl r.d r.c ad2 n2 cap2 zd2 zn2 zc2 r.t r.e rfl HPp.out ?_
              refine held_go hK' (HT.out.far HNp.out _) ?_
              try simp only [Act.put, List.setIfInBounds_toArray, List.set_cons_zero, List.set_cons_succ]
              have HSB := Lib.hid (st_fin HPp.out HPq.out HNE.out HOK2.out HOK4.out HNp.out HNq.out HT.out)
              clear hS0
              have hS0 := HT.out.far HNp.out (dnK r.d r.c ad2 n2 cap2 zd2 zn2 zc2 r.t r.e)
              replace HPq := Lib.hid (st_far HPq.out HNE.out (dnK r.d r.c ad2 n2 cap2 zd2 zn2 zc2 r.t r.e))
              refine held_call (i := 15) rfl (by kernel_rfl) (by rfl) (fun K' hK' => ?_)
              refine oper_store_dn (.tmp 10) (.tmp 30) rfl q rfl r.d r.c ad4 n4 cap4 zd4 zn4 zc4 r.t r.e rfl HPq.out ?_
              refine held_go hK' (HSB.out.b) ?_
              try simp only [Act.put, List.setIfInBounds_toArray, List.set_cons_zero, List.set_cons_succ]
              refine wpAnyH_done (by kernel_rfl) ?_ _
              refine NoPanic.normal ?_
              go_wp2_with fail
              go_meet
              exact ⟨p, q, ad2, n2, cap2, zd2, zn2, zc2, ad4, n4, cap4, zd4, zn4, zc4, rfl, rfl, HSB⟩
        · skip
          go_simp
          have HPp := Lib.hid (heap_alloc_new X2 boxDn)
          have HNp := Lib.hid (show w.heap.size + 4 ≤ X2.heap.size from HT.out.size)
          replace HOK2 := Lib.hid (HOK2.out.add (T := (fun j : Nat => j = X2.heap.size)) boxDn (fun k hk => .inr hk))
          replace HT := Lib.hid (HT.out.next (below_boxC X2 boxDn))
          refine held_go hK' (HT.out) ?_
          try simp only [Act.put, List.setIfInBounds_toArray, List.set_cons_zero, List.set_cons_succ]
          generalize World.alloc X2 _ = X3 at *
          generalize X2.heap.size = p at *
          clear hS0
          have hS0 := HT.out
          refine held_two (i := 9) (j := 13) rfl rfl (by kernel_rfl) (by rfl) (by rfl) (fun K' hK' => ?_) (fun K' hK' => ?_)
          · skip
            go_simp
            refine (HCP.out X3 (HIN.out.below HT.out.b)).mono ?_
            rintro e X4 ⟨ad3, cap3, rfl, hi, hkf, hb⟩
            have HI3 := Lib.hid hi
            have HK3 := Lib.hid (show KnoS X4 (fun j : Nat => j = p) ad3 c.l from KnoS.of_fr hkf (fun k (hk : k = p) => by have h_p := (Array.getElem?_eq_some_iff.1 HPp.out).1; omega))
            clear hi hkf
            replace HPp := Lib.hid (row_next HPp.out hb)
            replace HOK2 := Lib.hid (HOK2.out.below hb)
            replace HT := Lib.hid (HT.out.next hb)
            refine held_go hK' (HT.out) ?_
            try simp only [Act.put, List.setIfInBounds_toArray, List.set_cons_zero, List.set_cons_succ]
            clear hS0
            have hS0 := HT.out
            clear hb
            refine held_two (i := 11) (j := 13) rfl rfl (by kernel_rfl) (by rfl) (by rfl) (fun K' hK' => ?_) (fun K' hK' => ?_)
            · skip
              go_simp
              refine (HDC.out X4 ad3 cap3 HI3.out (HZI.out.below HT.out.b)).mono ?_
              rintro e X5 hret
              obtain ⟨ad4, n4, cap4, zd4, zn4, zc4, rfl, hok, hb⟩ := DnOk.of (S := (fun j : Nat => j = p)) hret HK3.out (fun k (hk : k = p) => by have h_p := (Array.getElem?_eq_some_iff.1 HPp.out).1; omega)
              have HOK4 := Lib.hid hok
              clear hret hok HI3 HK3
              replace HPp := Lib.hid (row_next HPp.out hb)
              replace HOK2 := Lib.hid (HOK2.out.below hb)
              replace HT := Lib.hid (HT.out.next hb)
              refine held_go hK' (HT.out) ?_
              try simp only [Act.put, List.setIfInBounds_toArray, List.set_cons_zero, List.set_cons_succ]
              clear hS0
              have hS0 := HT.out
              clear hb
              refine held_call (i := 13) rfl (by kernel_rfl) (by rfl) (fun K' hK' => ?_)
              go_simp
              have HPq := Lib.hid (heap_alloc_new X5 boxDn)
              have HNq := Lib.hid (show w.heap.size + 4 ≤ X5.heap.size from HT.out.size)
              have HNE := Lib.hid (show p ≠ X5.heap.size ∨ X5.heap.size ≠ p by have h1 := (Array.getElem?_eq_some_iff.1 HPp.out).1; omega)
              replace HPp := Lib.hid (row_next HPp.out (below_boxC X5 boxDn))
              replace HOK2 := Lib.hid (HOK2.out.add (T := (fun j : Nat => j = p ∨ j = X5.heap.size)) boxDn (fun k hk => hk))
              replace HOK4 := Lib.hid (HOK4.out.add (T := (fun j : Nat => j = p ∨ j = X5.heap.size)) boxDn (fun k hk => hk))
              replace HT := Lib.hid (HT.out.next (below_boxC X5 boxDn))
              refine held_go hK' (HT.out) ?_
              try simp only [Act.put, List.setIfInBounds_toArray, List.set_cons_zero, List.set_cons_succ]
              generalize World.alloc X5 _ = X6 at *
              generalize X5.heap.size = q at *
              clear hS0
              have hS0 := HT.out
              refine held_call (i := 14) rfl (by kernel_rfl) (by rfl) (fun K' hK' => ?_)
              refine oper_store_dn (.tmp 9) (.tmp 24) rfl p rfl r.d r.c ad2 n2 cap2 zd2 zn2 zc2 r.t r.e rfl HPp.out ?_
              refine held_go hK' (HT.out.far HNp.out _) ?_
              try simp only [Act.put, List.setIfInBounds_toArray, List.set_cons_zero, List.set_cons_succ]
              have HSB := Lib.hid (st_fin HPp.out HPq.out HNE.out HOK2.out HOK4.out HNp.out HNq.out HT.out)
              clear hS0
              have hS0 := HT.out.far HNp.out (dnK r.d r.c ad2 n2 cap2 zd2 zn2 zc2 r.t r.e)
              replace HPq := Lib.hid (st_far HPq.out HNE.out (dnK r.d r.c ad2 n2 cap2 zd2 zn2 zc2 r.t r.e))
              refine held_call (i := 15) rfl (by kernel_rfl) (by rfl) (fun K' hK' => ?_)
              refine oper_store_dn (.tmp 10) (.tmp 30) rfl q rfl r.d r.c ad4 n4 cap4 zd4 zn4 zc4 r.t r.e rfl HPq.out ?_
              refine held_go hK' (HSB.out.b) ?_
              try simp only [Act.put, List.setIfInBounds_toArray, List.set_cons_zero, List.set_cons_succ]
              refine wpAnyH_done (by kernel_rfl) ?_ _
              refine NoPanic.normal ?_
              go_wp2_with fail
              go_meet
              exact ⟨p, q, ad2, n2, cap2, zd2, zn2, zc2, ad4, n4, cap4, zd4, zn4, zc4, rfl, rfl, HSB⟩
            · skip
              go_simp
              have HPq := Lib.hid (heap_alloc_new X4 boxDn)
              have HNq := Lib.hid (show w.heap.size + 4 ≤ X4.heap.size from HT.out.size)
              have HNE := Lib.hid (show p ≠ X4.heap.size ∨ X4.heap.size ≠ p by have h1 := (Array.getElem?_eq_some_iff.1 HPp.out).1; omega)
              replace HPp := Lib.hid (row_next HPp.out (below_boxC X4 boxDn))
              replace HOK2 := Lib.hid (HOK2.out.add (T := (fun j : Nat => j = p ∨ j = X4.heap.size)) boxDn (fun k hk => hk))
              replace HI3 := Lib.hid (HI3.out.below (below_boxC X4 boxDn))
              replace HK3 := Lib.hid (HK3.out.add (T := (fun j : Nat => j = p ∨ j = X4.heap.size)) boxDn (fun k hk => hk))
              replace HT := Lib.hid (HT.out.next (below_boxC X4 boxDn))
              refine held_go hK' (HT.out) ?_
              try simp only [Act.put, List.setIfInBounds_toArray, List.set_cons_zero, List.set_cons_succ]
              generalize World.alloc X4 _ = X5 at *
              generalize X4.heap.size = q at *
              clear hS0
              have hS0 := HT.out
              refine held_call (i := 11) rfl (by kernel_rfl) (by rfl) (fun K' hK' => ?_)
              go_simp
              refine (HDC.out X5 ad3 cap3 HI3.out (HZI.out.below HT.out.b)).mono ?_
              rintro e X6 hret
              obtain ⟨ad4, n4, cap4, zd4, zn4, zc4, rfl, hok, hb⟩ := DnOk.of (S := (fun j : Nat => j = p ∨ j = q)) hret HK3.out (fun k (hk : k = p ∨ k = q) => by have h_p := (Array.getElem?_eq_some_iff.1 HPp.out).1; have h_q := (Array.getElem?_eq_some_iff.1 HPq.out).1; omega)
              have HOK4 := Lib.hid hok
              clear hret hok HI3 HK3
              replace HPp := Lib.hid (row_next HPp.out hb)
              replace HPq := Lib.hid (row_next HPq.out hb)
              replace HOK2 := Lib.hid (HOK2.out.below hb)
              replace HT := Lib.hid (HT.out.next hb)
              refine held_go hK' (HT.out) ?_
              try simp only [Act.put, List.setIfInBounds_toArray, List.set_cons_zero, List.set_cons_succ]
              clear hS0
              have hS0 := HT.out
              clear hb
              refine held_call (i := 14) rfl (by kernel_rfl) (by rfl) (fun K' hK' => ?_)
              refine oper_store_dn (.tmp 9) (.tmp 24) rfl p rfl r.d r.c ad2 n2 cap2 zd2 zn2 zc2 r.t r.e rfl HPp.out ?_
              refine held_go hK' (HT.out.far HNp.out _) ?_
              try simp only [Act.put, List.setIfInBounds_toArray, List.set_cons_zero, List.set_cons_succ]
              have HSB := Lib.hid (st_fin HPp.out HPq.out HNE.out HOK2.out HOK4.out HNp.out HNq.out HT.out)
              clear hS0
              have hS0 := HT.out.far HNp.out (dnK r.d r.c ad2 n2 cap2 zd2 zn2 zc2 r.t r.e)
              replace HPq := Lib.hid (st_far HPq.out HNE.out (dnK r.d r.c ad2 n2 cap2 zd2 zn2 zc2 r.t r.e))
              refine held_call (i := 15) rfl (by kernel_rfl) (by rfl) (fun K' hK' => ?_)
              refine oper_store_dn (.tmp 10) (.tmp 30) rfl q rfl r.d r.c ad4 n4 cap4 zd4 zn4 zc4 r.t r.e rfl HPq.out ?_
              refine held_go hK' (HSB.out.b) ?_
              try simp only [Act.put, List.setIfInBounds_toArray, List.set_cons_zero, List.set_cons_succ]
              refine wpAnyH_done (by kernel_rfl) ?_ _
              refine NoPanic.normal ?_
              go_wp2_with fail
              go_meet
              exact ⟨p, q, ad2, n2, cap2, zd2, zn2, zc2, ad4, n4, cap4, zd4, zn4, zc4, rfl, rfl, HSB⟩
          · skip
            go_simp
            have HPq := Lib.hid (heap_alloc_new X3 boxDn)
            have HNq := Lib.hid (show w.heap.size + 4 ≤ X3.heap.size from HT.out.size)
            have HNE := Lib.hid (show p ≠ X3.heap.size ∨ X3.heap.size ≠ p by have h1 := (Array.getElem?_eq_some_iff.1 HPp.out).1; omega)
            replace HPp := Lib.hid (row_next HPp.out (below_boxC X3 boxDn))
            replace HOK2 := Lib.hid (HOK2.out.add (T := (fun j : Nat => j = p ∨ j = X3.heap.size)) boxDn (fun k hk => hk))
            replace HT := Lib.hid (HT.out.next (below_boxC X3 boxDn))
            refine held_go hK' (HT.out) ?_
            try simp only [Act.put, List.setIfInBounds_toArray, List.set_cons_zero, List.set_cons_succ]
            generalize World.alloc X3 _ = X4 at *
            generalize X3.heap.size = q at *
            clear hS0
            have hS0 := HT.out
            refine held_call (i := 9) rfl (by kernel_rfl) (by rfl) (fun K' hK' => ?_)
            go_simp
            refine (HCP.out X4 (HIN.out.below HT.out.b)).mono ?_
            rintro e X5 ⟨ad3, cap3, rfl, hi, hkf, hb⟩
            have HI3 := Lib.hid hi
            have HK3 := Lib.hid (show KnoS X5 (fun j : Nat => j = p ∨ j = q) ad3 c.l from KnoS.of_fr hkf (fun k (hk : k = p ∨ k = q) => by have h_p := (Array.getElem?_eq_some_iff.1 HPp.out).1; have h_q := (Array.getElem?_eq_some_iff.1 HPq.out).1; omega))
            clear hi hkf
            replace HPp := Lib.hid (row_next HPp.out hb)
            replace HPq := Lib.hid (row_next HPq.out hb)
            replace HOK2 := Lib.hid (HOK2.out.below hb)
            replace HT := Lib.hid (HT.out.next hb)
            refine held_go hK' (HT.out) ?_
            try simp only [Act.put, List.setIfInBounds_toArray, List.set_cons_zero, List.set_cons_succ]
            clear hS0
            have hS0 := HT.out
            clear hb
            refine held_call (i := 11) rfl (by kernel_rfl) (by rfl) (fun K' hK' => ?_)
            go_simp
            refine (HDC.out X5 ad3 cap3 HI3.out (HZI.out.below HT.out.b)).mono ?_
            rintro e X6 hret
            obtain ⟨ad4, n4, cap4, zd4, zn4, zc4, rfl, hok, hb⟩ := DnOk.of (S := (fun j : Nat => j = p ∨ j = q)) hret HK3.out (fun k (hk : k = p ∨ k = q) => by have h_p := (Array.getElem?_eq_some_iff.1 HPp.out).1; have h_q := (Array.getElem?_eq_some_iff.1 HPq.out).1; omega)
            have HOK4 := Lib.hid hok
            clear hret hok HI3 HK3
            replace HPp := Lib.hid (row_next HPp.out hb)
            replace HPq := Lib.hid (row_next HPq.out hb)
            replace HOK2 := Lib.hid (HOK2.out.below hb)
            replace HT := Lib.hid (HT.out.next hb)
            refine held_go hK' (HT.out) ?_
            try simp only [Act.put, List.setIfInBounds_toArray, List.set_cons_zero, List.set_cons_succ]
            clear hS0
            have hS0 := HT.out
            clear hb
            refine held_call (i := 14) rfl (by kernel_rfl) (by rfl) (fun K' hK' => ?_)
            refine oper_store_dn (.tmp 9) (.tmp 24) rfl p rfl r.d r.c ad2 n2 cap2 zd2 zn2 zc2 r.t r.e rfl HPp.out ?_
            refine held_go hK' (HT.out.far HNp.out _) ?_
            try simp only [Act.put, List.setIfInBounds_toArray, List.set_cons_zero, List.set_cons_succ]
            have HSB := Lib.hid (st_fin HPp.out HPq.out HNE.out HOK2.out HOK4.out HNp.out HNq.out HT.out)
            clear hS0
            have hS0 := HT.out.far HNp.out (dnK r.d r.c ad2 n2 cap2 zd2 zn2 zc2 r.t r.e)
            replace HPq := Lib.hid (st_far HPq.out HNE.out (dnK r.d r.c ad2 n2 cap2 zd2 zn2 zc2 r.t r.e))
            refine held_call (i := 15) rfl (by kernel_rfl) (by rfl) (fun K' hK' => ?_)
            refine oper_store_dn (.tmp 10) (.tmp 30) rfl q rfl r.d r.c ad4 n4 cap4 zd4 zn4 zc4 r.t r.e rfl HPq.out ?_
            refine held_go hK' (HSB.out.b) ?_
            try simp only [Act.put, List.setIfInBounds_toArray, List.set_cons_zero, List.set_cons_succ]
            refine wpAnyH_done (by kernel_rfl) ?_ _
            refine NoPanic.normal ?_
            go_wp2_with fail
            go_meet
            exact ⟨p, q, ad2, n2, cap2, zd2, zn2, zc2, ad4, n4, cap4, zd4, zn4, zc4, rfl, rfl, HSB⟩
        · skip
          go_simp
          have HPq := Lib.hid (heap_alloc_new X2 boxDn)
          have HNq := Lib.hid (show w.heap.size + 4 ≤ X2.heap.size from HT.out.size)
          replace HOK2 := Lib.hid (HOK2.out.add (T := (fun j : Nat => j = X2.heap.size)) boxDn (fun k hk => .inr hk))
          replace HT := Lib.hid (HT.out.next (below_boxC X2 boxDn))
          refine held_go hK' (HT.out) ?_
          try simp only [Act.put, List.setIfInBounds_toArray, List.set_cons_zero, List.set_cons_succ]
          generalize World.alloc X2 _ = X3 at *
          generalize X2.heap.size = q at *
          clear hS0
          have hS0 := HT.out
          refine held_two (i := 9) (j := 12) rfl rfl (by kernel_rfl) (by rfl) (by rfl) (fun K' hK' => ?_) (fun K' hK' => ?_)
          · skip
            go_simp
            refine (HCP.out X3 (HIN.out.below HT.out.b)).mono ?_
            rintro e X4 ⟨ad3, cap3, rfl, hi, hkf, hb⟩
            have HI3 := Lib.hid hi
            have HK3 := Lib.hid (show KnoS X4 (fun j : Nat => j = q) ad3 c.l from KnoS.of_fr hkf (fun k (hk : k = q) => by have h_q := (Array.getElem?_eq_some_iff.1 HPq.out).1; omega))
            clear hi hkf
            replace HPq := Lib.hid (row_next HPq.out hb)
            replace HOK2 := Lib.hid (HOK2.out.below hb)
            replace HT := Lib.hid (HT.out.next hb)
            refine held_go hK' (HT.out) ?_
            try simp only [Act.put, List.setIfInBounds_toArray, List.set_cons_zero, List.set_cons_succ]
            clear hS0
            have hS0 := HT.out
            clear hb
            refine held_two (i := 11) (j := 12) rfl rfl (by kernel_rfl) (by rfl) (by rfl) (fun K' hK' => ?_) (fun K' hK' => ?_)
            · skip
              go_simp
              refine (HDC.out X4 ad3 cap3 HI3.out (HZI.out.below HT.out.b)).mono ?_
              rintro e X5 hret
              obtain ⟨ad4, n4, cap4, zd4, zn4, zc4, rfl, hok, hb⟩ := DnOk.of (S := (fun j : Nat => j = q)) hret HK3.out (fun k (hk : k = q) => by have h_q := (Array.getElem?_eq_some_iff.1 HPq.out).1; omega)
              have HOK4 := Lib.hid hok
              clear hret hok HI3 HK3
              replace HPq := Lib.hid (row_next HPq.out hb)
              replace HOK2 := Lib.hid (HOK2.out.below hb)
              replace HT := Lib.hid (HT.out.next hb)
              refine held_go hK' (HT.out) ?_
              try simp only [Act.put, List.setIfInBounds_toArray, List.set_cons_zero, List.set_cons_succ]
              clear hS0
              have hS0 := HT.out
              clear hb
              refine held_call (i := 12) rfl (by kernel_rfl) (by rfl) (fun K' hK' => ?_)
              go_simp
              have HPp := Lib.hid (heap_alloc_new X5 boxDn)
              have HNp := Lib.hid (show w.heap.size + 4 ≤ X5.heap.size from HT.out.size)
              have HNE := Lib.hid (show X5.heap.size ≠ q ∨ q ≠ X5.heap.size by have h1 := (Array.getElem?_eq_some_iff.1 HPq.out).1; omega)
              replace HPq := Lib.hid (row_next HPq.out (below_boxC X5 boxDn))
              replace HOK2 := Lib.hid (HOK2.out.add (T := (fun j : Nat => j = X5.heap.size ∨ j = q)) boxDn (fun k hk => hk.symm))
              replace HOK4 := Lib.hid (HOK4.out.add (T := (fun j : Nat => j = X5.heap.size ∨ j = q)) boxDn (fun k hk => hk.symm))
              replace HT := Lib.hid (HT.out.next (below_boxC X5 boxDn))
              refine held_go hK' (HT.out) ?_
              try simp only [Act.put, List.setIfInBounds_toArray, List.set_cons_zero, List.set_cons_succ]
              generalize World.alloc X5 _ = X6 at *
              generalize X5.heap.size = p at *
              clear hS0
              have hS0 := HT.out
              refine held_call (i := 14) rfl (by kernel_rfl) (by rfl) (fun K' hK' => ?_)
              refine oper_store_dn (.tmp 9) (.tmp 24) rfl p rfl r.d r.c ad2 n2 cap2 zd2 zn2 zc2 r.t r.e rfl HPp.out ?_
              refine held_go hK' (HT.out.far HNp.out _) ?_
              try simp only [Act.put, List.setIfInBounds_toArray, List.set_cons_zero, List.set_cons_succ]
              have HSB := Lib.hid (st_fin HPp.out HPq.out HNE.out HOK2.out HOK4.out HNp.out HNq.out HT.out)
              clear hS0
              have hS0 := HT.out.far HNp.out (dnK r.d r.c ad2 n2 cap2 zd2 zn2 zc2 r.t r.e)
              replace HPq := Lib.hid (st_far HPq.out HNE.out (dnK r.d r.c ad2 n2 cap2 zd2 zn2 zc2 r.t r.e))
              refine held_call (i := 15) rfl (by kernel_rfl) (by rfl) (fun K' hK' => ?_)
              refine oper_store_dn (.tmp 10) (.tmp 30) rfl q rfl r.d r.c ad4 n4 cap4 zd4 zn4 zc4 r.t r.e rfl HPq.out ?_
              refine held_go hK' (HSB.out.b) ?_
              try simp only [Act.put, List.setIfInBounds_toArray, List.set_cons_zero, List.set_cons_succ]
              refine wpAnyH_done (by kernel_rfl) ?_ _
              refine NoPanic.normal ?_
              go_wp2_with fail
              go_meet
              exact ⟨p, q, ad2, n2, cap2, zd2, zn2, zc2, ad4, n4, cap4, zd4, zn4, zc4, rfl, rfl, HSB⟩
            · skip
              go_simp
              have HPp := Lib.hid (heap_alloc_new X4 boxDn)
              have HNp := Lib.hid (show w.heap.size + 4 ≤ X4.heap.size from HT.out.size)
              have HNE := Lib.hid (show X4.heap.size ≠ q ∨ q ≠ X4.heap.size by have h1 := (Array.getElem?_eq_some_iff.1 HPq.out).1; omega)
              replace HPq := Lib.hid (row_next HPq.out (below_boxC X4 boxDn))
              replace HOK2 := Lib.hid (HOK2.out.add (T := (fun j : Nat => j = X4.heap.size ∨ j = q)) boxDn (fun k hk => hk.symm))
              replace HI3 := Lib.hid (HI3.out.below (below_boxC X4 boxDn))
              replace HK3 := Lib.hid (HK3.out.add (T := (fun j : Nat => j = X4.heap.size ∨ j = q)) boxDn (fun k hk => hk.symm))
              replace HT := Lib.hid (HT.out.next (below_boxC X4 boxDn))
              refine held_go hK' (HT.out) ?_
              try simp only [Act.put, List.setIfInBounds_toArray, List.set_cons_zero, List.set_cons_succ]
              generalize World.alloc X4 _ = X5 at *
              generalize X4.heap.size = p at *
              clear hS0
              have hS0 := HT.out
              refine held_call (i := 11) rfl (by kernel_rfl) (by rfl) (fun K' hK' => ?_)
              go_simp
              refine (HDC.out X5 ad3 cap3 HI3.out (HZI.out.below HT.out.b)).mono ?_
              rintro e X6 hret
              obtain ⟨ad4, n4, cap4, zd4, zn4, zc4, rfl, hok, hb⟩ := DnOk.of (S := (fun j : Nat => j = p ∨ j = q)) hret HK3.out (fun k (hk : k = p ∨ k = q) => by have h_p := (Array.getElem?_eq_some_iff.1 HPp.out).1; have h_q := (Array.getElem?_eq_some_iff.1 HPq.out).1; omega)
              have HOK4 := Lib.hid hok
              clear hret hok HI3 HK3
              replace HPq := Lib.hid (row_next HPq.out hb)
              replace HPp := Lib.hid (row_next HPp.out hb)
              replace HOK2 := Lib.hid (HOK2.out.below hb)
              replace HT := Lib.hid (HT.out.next hb)
              refine held_go hK' (HT.out) ?_
              try simp only [Act.put, List.setIfInBounds_toArray, List.set_cons_zero, List.set_cons_succ]
              clear hS0
              have hS0 := HT.out
              clear hb
              refine held_call (i := 14) rfl (by kernel_rfl) (by rfl) (fun K' hK' => ?_)
              refine oper_store_dn (.tmp 9) (.tmp 24) rfl p rfl r.d r.c ad2 n2 cap2 zd2 zn2 zc2 r.t r.e rfl HPp.out ?_
              refine held_go hK' (HT.out.far HNp.out _) ?_
              try simp only [Act.put, List.setIfInBounds_toArray, List.set_cons_zero, List.set_cons_succ]
              have HSB := Lib.hid (st_fin HPp.out HPq.out HNE.out HOK2.out HOK4.out HNp.out HNq.out HT.out)
              clear hS0
              have hS0 := HT.out.far HNp.out (dnK r.d r.c ad2 n2 cap2 zd2 zn2 zc2 r.t r.e)
              replace HPq := Lib.hid (st_far HPq.out HNE.out (dnK r.d r.c ad2 n2 cap2 zd2 zn2 zc2 r.t r.e))
              refine held_call (i := 15) rfl (by kernel_rfl) (by rfl) (fun K' hK' => ?_)
              refine oper_store_dn (.tmp 10) (.tmp 30) rfl q rfl r.d r.c ad4 n4 cap4 zd4 zn4 zc4 r.t r.e rfl HPq.out ?_
              refine held_go hK' (HSB.out.b) ?_
              try simp only [Act.put, List.setIfInBounds_toArray, List.set_cons_zero, List.set_cons_succ]
              refine wpAnyH_done (by kernel_rfl) ?_ _
              refine NoPanic.normal ?_
              go_wp2_with fail
              go_meet
              exact ⟨p, q, ad2, n2, cap2, zd2, zn2, zc2, ad4, n4, cap4, zd4, zn4, zc4, rfl, rfl, HSB⟩
          · skip
            go_simp
            have HPp := Lib.hid (heap_alloc_new X3 boxDn)
            have HNp := Lib.hid (show w.heap.size + 4 ≤ X3.heap.size from HT.out.size)
            have HNE := Lib.hid (show X3.heap.size ≠ q ∨ q ≠ X3.heap.size by have h1 := (Array.getElem?_eq_some_iff.1 HPq.out).1; omega)
            replace HPq := Lib.hid (row_next HPq.out (below_boxC X3 boxDn))
            replace HOK2 := Lib.hid (HOK2.out.add (T := (fun j : Nat => j = X3.heap.size ∨ j = q)) boxDn (fun k hk => hk.symm))
            replace HT := Lib.hid (HT.out.next (below_boxC X3 boxDn))
            refine held_go hK' (HT.out) ?_
            try simp only [Act.put, List.setIfInBounds_toArray, List.set_cons_zero, List.set_cons_succ]
            generalize World.alloc X3 _ = X4 at *
            generalize X3.heap.size = p at *
            clear hS0
            have hS0 := HT.out
            refine held_call (i := 9) rfl (by kernel_rfl) (by rfl) (fun K' hK' => ?_)
            go_simp
            refine (HCP.out X4 (HIN.out.below HT.out.b)).mono ?_
            rintro e X5 ⟨ad3, cap3, rfl, hi, hkf, hb⟩
            have HI3 := Lib.hid hi
            have HK3 := Lib.hid (show KnoS X5 (fun j : Nat => j = p ∨ j = q) ad3 c.l from KnoS.of_fr hkf (fun k (hk : k = p ∨ k = q) => by have h_p := (Array.getElem?_eq_some_iff.1 HPp.out).1; have h_q := (Array.getElem?_eq_some_iff.1 HPq.out).1; omega))
            clear hi hkf
            replace HPq := Lib.hid (row_next HPq.out hb)
            replace HPp := Lib.hid (row_next HPp.out hb)
            replace HOK2 := Lib.hid (HOK2.out.below hb)
            replace HT := Lib.hid (HT.out.next hb)
            refine held_go hK' (HT.out) ?_
            try simp only [Act.put, List.setIfInBounds_toArray, List.set_cons_zero, List.set_cons_succ]
            clear hS0
            have hS0 := HT.out
            clear hb
            refine held_call (i := 11) rfl (by kernel_rfl) (by rfl) (fun K' hK' => ?_)
            go_simp
            refine (HDC.out X5 ad3 cap3 HI3.out (HZI.out.below HT.out.b)).mono ?_
            rintro e X6 hret
            obtain ⟨ad4, n4, cap4, zd4, zn4, zc4, rfl, hok, hb⟩ := DnOk.of (S := (fun j : Nat => j = p ∨ j = q)) hret HK3.out (fun k (hk : k = p ∨ k = q) => by have h_p := (Array.getElem?_eq_some_iff.1 HPp.out).1; have h_q := (Array.getElem?_eq_some_iff.1 HPq.out).1; omega)
            have HOK4 := Lib.hid hok
            clear hret hok HI3 HK3
            replace HPq := Lib.hid (row_next HPq.out hb)
            replace HPp := Lib.hid (row_next HPp.out hb)
            replace HOK2 := Lib.hid (HOK2.out.below hb)
            replace HT := Lib.hid (HT.out.next hb)
            refine held_go hK' (HT.out) ?_
            try simp only [Act.put, List.setIfInBounds_toArray, List.set_cons_zero, List.set_cons_succ]
            clear hS0
            have hS0 := HT.out
            clear hb
            refine held_call (i := 14) rfl (by kernel_rfl) (by rfl) (fun K' hK' => ?_)
            refine oper_store_dn (.tmp 9) (.tmp 24) rfl p rfl r.d r.c ad2 n2 cap2 zd2 zn2 zc2 r.t r.e rfl HPp.out ?_
            refine held_go hK' (HT.out.far HNp.out _) ?_
            try simp only [Act.put, List.setIfInBounds_toArray, List.set_cons_zero, List.set_cons_succ]
            have HSB := Lib.hid (st_fin HPp.out HPq.out HNE.out HOK2.out HOK4.out HNp.out HNq.out HT.out)
            clear hS0
            have hS0 := HT.out.far HNp.out (dnK r.d r.c ad2 n2 cap2 zd2 zn2 zc2 r.t r.e)
            replace HPq := Lib.hid (st_far HPq.out HNE.out (dnK r.d r.c ad2 n2 cap2 zd2 zn2 zc2 r.t r.e))
            refine held_call (i := 15) rfl (by kernel_rfl) (by rfl) (fun K' hK' => ?_)
            refine oper_store_dn (.tmp 10) (.tmp 30) rfl q rfl r.d r.c ad4 n4 cap4 zd4 zn4 zc4 r.t r.e rfl HPq.out ?_
            refine held_go hK' (HSB.out.b) ?_
            try simp only [Act.put, List.setIfInBounds_toArray, List.set_cons_zero, List.set_cons_succ]
            refine wpAnyH_done (by kernel_rfl) ?_ _
            refine NoPanic.normal ?_
            go_wp2_with fail
            go_meet
            exact ⟨p, q, ad2, n2, cap2, zd2, zn2, zc2, ad4, n4, cap4, zd4, zn4, zc4, rfl, rfl, HSB⟩
      · skip
        go_simp
        have HPp := Lib.hid (heap_alloc_new X1 boxDn)
        have HNp := Lib.hid (show w.heap.size + 4 ≤ X1.heap.size from HT.out.size)
        replace HI1 := Lib.hid (HI1.out.below (below_boxC X1 boxDn))
        replace HK1 := Lib.hid (HK1.out.add (T := (fun j : Nat => j = X1.heap.size)) boxDn (fun k hk => .inr hk))
        replace HT := Lib.hid (HT.out.next (below_boxC X1 boxDn))
        refine held_go hK' (HT.out) ?_
        try simp only [Act.put, List.setIfInBounds_toArray, List.set_cons_zero, List.set_cons_succ]
        generalize World.alloc X1 _ = X2 at *
        generalize X1.heap.size = p at *
        clear hS0
        have hS0 := HT.out
        refine held_two (i := 5) (j := 13) rfl rfl (by kernel_rfl) (by rfl) (by rfl) (fun K' hK' => ?_) (fun K' hK' => ?_)
        · skip
          go_simp
          refine (HPG.out X2 ad1 cap1 HI1.out (HZI.out.below HT.out.b)).mono ?_
          rintro e X3 hret
          obtain ⟨ad2, n2, cap2, zd2, zn2, zc2, rfl, hok, hb⟩ := DnOk.of (S := (fun j : Nat => j = p)) hret HK1.out (fun k (hk : k = p) => by have h_p := (Array.getElem?_eq_some_iff.1 HPp.out).1; omega)
          have HOK2 := Lib.hid hok
          clear hret hok HI1 HK1
          replace HPp := Lib.hid (row_next HPp.out hb)
          replace HT := Lib.hid (HT.out.next hb)
          refine held_go hK' (HT.out) ?_
          try simp only [Act.put, List.setIfInBounds_toArray, List.set_cons_zero, List.set_cons_succ]
          clear hS0
          have hS0 := HT.out
          clear hb
          refine held_two (i := 9) (j := 13) rfl rfl (by kernel_rfl) (by rfl) (by rfl) (fun K' hK' => ?_) (fun K' hK' => ?_)
          · skip
            go_simp
            refine (HCP.out X3 (HIN.out.below HT.out.b)).mono ?_
            rintro e X4 ⟨ad3, cap3, rfl, hi, hkf, hb⟩
            have HI3 := Lib.hid hi
            have HK3 := Lib.hid (show KnoS X4 (fun j : Nat => j = p) ad3 c.l from KnoS.of_fr hkf (fun k (hk : k = p) => by have h_p := (Array.getElem?_eq_some_iff.1 HPp.out).1; omega))
            clear hi hkf
            replace HPp := Lib.hid (row_next HPp.out hb)
            replace HOK2 := Lib.hid (HOK2.out.below hb)
            replace HT := Lib.hid (HT.out.next hb)
            refine held_go hK' (HT.out) ?_
            try simp only [Act.put, List.setIfInBounds_toArray, List.set_cons_zero, List.set_cons_succ]
            clear hS0
            have hS0 := HT.out
            clear hb
            refine held_two (i := 11) (j := 13) rfl rfl (by kernel_rfl) (by rfl) (by rfl) (fun K' hK' => ?_) (fun K' hK' => ?_)
            · skip
              go_simp
              refine (HDC.out X4 ad3 cap3 HI3.out (HZI.out.below HT.out.b)).mono ?_
              rintro e X5 hret
              obtain ⟨ad4, n4, cap4, zd4, zn4, zc4, rfl, hok, hb⟩ := DnOk.of (S := (fun j : Nat => j = p)) hret HK3.out (fun k (hk : k = p) => by have h_p := (Array.getElem?_eq_some_iff.1 HPp.out).1; omega)
              have HOK4 := Lib.hid hok
              clear hret hok HI3 HK3
              replace HPp := Lib.hid (row_next HPp.out hb)
              replace HOK2 := Lib.hid (HOK2.out.below hb)
              replace HT := Lib.hid (HT.out.next hb)
              refine held_go hK' (HT.out) ?_
              try simp only [Act.put, List.setIfInBounds_toArray, List.set_cons_zero, List.set_cons_succ]
              clear hS0
              have hS0 := HT.out
              clear hb
              refine held_call (i := 13) rfl (by kernel_rfl) (by rfl) (fun K' hK' => ?_)
              go_simp
              have HPq := Lib.hid (heap_alloc_new X5 boxDn)
              have HNq := Lib.hid (show w.heap.size + 4 ≤ X5.heap.size from HT.out.size)
              have HNE := Lib.hid (show p ≠ X5.heap.size ∨ X5.heap.size ≠ p by have h1 := (Array.getElem?_eq_some_iff.1 HPp.out).1; omega)
              replace HPp := Lib.hid (row_next HPp.out (below_boxC X5 boxDn))
              replace HOK2 := Lib.hid (HOK2.out.add (T := (fun j : Nat => j = p ∨ j = X5.heap.size)) boxDn (fun k hk => hk))
              replace HOK4 := Lib.hid (HOK4.out.add (T := (fun j : Nat => j = p ∨ j = X5.heap.size)) boxDn (fun k hk => hk))
              replace HT := Lib.hid (HT.out.next (below_boxC X5 boxDn))
              refine held_go hK' (HT.out) ?_
              try simp only [Act.put, List.setIfInBounds_toArray, List.set_cons_zero, List.set_cons_succ]
              generalize World.alloc X5 _ = X6 at *
              generalize X5.heap.size = q at *
              clear hS0
              have hS0 := HT.out
              refine held_call (i := 14) rfl (by kernel_rfl) (by rfl) (fun K' hK' => ?_)
              refine oper_store_dn (.tmp 9) (.tmp 24) rfl p rfl r.d r.c ad2 n2 cap2 zd2 zn2 zc2 r.t r.e rfl HPp.out ?_
              refine held_go hK' (HT.out.far HNp.out _) ?_
              try simp only [Act.put, List.setIfInBounds_toArray, List.set_cons_zero, List.set_cons_succ]
              have HSB := Lib.hid (st_fin HPp.out HPq.out HNE.out HOK2.out HOK4.out HNp.out HNq.out HT.out)
              clear hS0
              have hS0 := HT.out.far HNp.out (dnK r.d r.c ad2 n2 cap2 zd2 zn2 zc2 r.t r.e)
              replace HPq := Lib.hid (st_far HPq.out HNE.out (dnK r.d r.c ad2 n2 cap2 zd2 zn2 zc2 r.t r.e))
              refine held_call (i := 15) rfl (by kernel_rfl) (by rfl) (fun K' hK' => ?_)
              refine oper_store_dn (.tmp 10) (.tmp 30) rfl q rfl r.d r.c ad4 n4 cap4 zd4 zn4 zc4 r.t r.e rfl HPq.out ?_
              refine held_go hK' (HSB.out.b) ?_
              try simp only [Act.put, List.setIfInBounds_toArray, List.set_cons_zero, List.set_cons_succ]
              refine wpAnyH_done (by kernel_rfl) ?_ _
              refine NoPanic.normal ?_
              go_wp2_with fail
              go_meet
              exact ⟨p, q, ad2, n2, cap2, zd2, zn2, zc2, ad4, n4, cap4, zd4, zn4, zc4, rfl, rfl, HSB⟩
            · skip
              go_simp
              have HPq := Lib.hid (heap_alloc_new X4 boxDn)
              have HNq := Lib.hid (show w.heap.size + 4 ≤ X4.heap.size from HT.out.size)
              have HNE := Lib.hid (show p ≠ X4.heap.size ∨ X4.heap.size ≠ p by have h1 := (Array.getElem?_eq_some_iff.1 HPp.out).1; omega)
              replace HPp := Lib.hid (row_next HPp.out (below_boxC X4 boxDn))
              replace HOK2 := Lib.hid (HOK2.out.add (T := (fun j : Nat => j = p ∨ j = X4.heap.size)) boxDn (fun k hk => hk))
              replace HI3 := Lib.hid (HI3.out.below (below_boxC X4 boxDn))
              replace HK3 := Lib.hid (HK3.out.add (T := (fun j : Nat => j = p ∨ j = X4.heap.size)) boxDn (fun k hk => hk))
              replace HT := Lib.hid (HT.out.next (below_boxC X4 boxDn))
              refine held_go hK' (HT.out) ?_
              try simp only [Act.put, List.setIfInBounds_toArray, List.set_cons_zero, List.set_cons_succ]
              generalize World.alloc X4 _ = X5 at *
              generalize X4.heap.size = q at *
              clear hS0
              have hS0 := HT.out
              refine held_call (i := 11) rfl (by kernel_rfl) (by rfl) (fun K' hK' => ?_)
              go_simp
              refine (HDC.out X5 ad3 cap3 HI3.out (HZI.out.below HT.out.b)).mono ?_
              rintro e X6 hret
              obtain ⟨ad4, n4, cap4, zd4, zn4, zc4, rfl, hok, hb⟩ := DnOk.of (S := (fun j : Nat => j = p ∨ j = q)) hret HK3.out (fun k (hk : k = p ∨ k = q) => by have h_p := (Array.getElem?_eq_some_iff.1 HPp.out).1; have h_q := (Array.getElem?_eq_some_iff.1 HPq.out).1; omega)
              have HOK4 := Lib.hid hok
              clear hret hok HI3 HK3
              replace HPp := Lib.hid (row_next HPp.out hb)
              replace HPq := Lib.hid (row_next HPq.out hb)
              replace HOK2 := Lib.hid (HOK2.out.below hb)
              replace HT := Lib.hid (HT.out.next hb)
              refine held_go hK' (HT.out) ?_
              try simp only [Act.put, List.setIfInBounds_toArray, List.set_cons_zero, List.set_cons_succ]
              clear hS0
              have hS0 := HT.out
              clear hb
              refine held_call (i := 14) rfl (by kernel_rfl) (by rfl) (fun K' hK' => ?_)
              refine oper_store_dn (.tmp 9) (.tmp 24) rfl p rfl r.d r.c ad2 n2 cap2 zd2 zn2 zc2 r.t r.e rfl HPp.out ?_
              refine held_go hK' (HT.out.far HNp.out _) ?_
              try simp only [Act.put, List.setIfInBounds_toArray, List.set_cons_zero, List.set_cons_succ]
              have HSB := Lib.hid (st_fin HPp.out HPq.out HNE.out HOK2.out HOK4.out HNp.out HNq.out HT.out)
              clear hS0
              have hS0 := HT.out.far HNp.out (dnK r.d r.c ad2 n2 cap2 zd2 zn2 zc2 r.t r.e)
              replace HPq := Lib.hid (st_far HPq.out HNE.out (dnK r.d r.c ad2 n2 cap2 zd2 zn2 zc2 r.t r.e))
              refine held_call (i := 15) rfl (by kernel_rfl) (by rfl) (fun K' hK' => ?_)
              refine oper_store_dn (.tmp 10) (.tmp 30) rfl q rfl r.d r.c ad4 n4 cap4 zd4 zn4 zc4 r.t r.e rfl HPq.out ?_
              refine held_go hK' (HSB.out.b) ?_
              try simp only [Act.put, List.setIfInBounds_toArray, List.set_cons_zero, List.set_cons_succ]
              refine wpAnyH_done (by kernel_rfl) ?_ _
              refine NoPanic.normal ?_
              go_wp2_with fail
              go_meet
              exact ⟨p, q, ad2, n2, cap2, zd2, zn2, zc2, ad4, n4, cap4, zd4, zn4, zc4, rfl, rfl, HSB⟩
          · skip
            go_simp
            have HPq := Lib.hid (heap_alloc_new X3 boxDn)
            have HNq := Lib.hid (show w.heap.size + 4 ≤ X3.heap.size from HT.out.size)
            have HNE := Lib.hid (show p ≠ X3.heap.size ∨ X3.heap.size ≠ p by have h1 := (Array.getElem?_eq_some_iff.1 HPp.out).1; omega)
            replace HPp := Lib.hid (row_next HPp.out (below_boxC X3 boxDn))
            replace HOK2 := Lib.hid (HOK2.out.add (T := (fun j : Nat => j = p ∨ j = X3.heap.size)) boxDn (fun k hk => hk))
            replace HT := Lib.hid (HT.out.next (below_boxC X3 boxDn))
            refine held_go hK' (HT.out) ?_
            try simp only [Act.put, List.setIfInBounds_toArray, List.set_cons_zero, List.set_cons_succ]
            generalize World.alloc X3 _ = X4 at *
            generalize X3.heap.size = q at *
            clear hS0
            have hS0 := HT.out
            refine held_call (i := 9) rfl (by kernel_rfl) (by rfl) (fun K' hK' => ?_)
            go_simp
            refine (HCP.out X4 (HIN.out.below HT.out.b)).mono ?_
            rintro e X5 ⟨ad3, cap3, rfl, hi, hkf, hb⟩
            have HI3 := Lib.hid hi
            have HK3 := Lib.hid (show KnoS X5 (fun j : Nat => j = p ∨ j = q) ad3 c.l from KnoS.of_fr hkf (fun k (hk : k = p ∨ k = q) => by have h_p := (Array.getElem?_eq_some_iff.1 HPp.out).1; have h_q := (Array.getElem?_eq_some_iff.1 HPq.out).1; omega))
            clear hi hkf
            replace HPp := Lib.hid (row_next HPp.out hb)
            replace HPq := Lib.hid (row_next HPq.out hb)
            replace HOK2 := Lib.hid (HOK2.out.below hb)
            replace HT := Lib.hid (HT.out.next hb)
            refine held_go hK' (HT.out) ?_
            try simp only [Act.put, List.setIfInBounds_toArray, List.set_cons_zero, List.set_cons_succ]
            clear hS0
            have hS0 := HT.out
            clear hb
            refine held_call (i := 11) rfl (by kernel_rfl) (by rfl) (fun K' hK' => ?_)
            go_simp
            refine (HDC.out X5 ad3 cap3 HI3.out (HZI.out.below HT.out.b)).mono ?_
            rintro e X6 hret
            obtain ⟨ad4, n4, cap4, zd4, zn4, zc4, rfl, hok, hb⟩ := DnOk.of (S := (fun j : Nat => j = p ∨ j = q)) hret HK3.out (fun k (hk : k = p ∨ k = q) => by have h_p := (Array.getElem?_eq_some_iff.1 HPp.out).1; have h_q := (Array.getElem?_eq_some_iff.1 HPq.out).1; omega)
            have HOK4 := Lib.hid hok
            clear hret hok HI3 HK3
            replace HPp := Lib.hid (row_next HPp.out hb)
            replace HPq := Lib.hid (row_next HPq.out hb)
            replace HOK2 := Lib.hid (HOK2.out.below hb)
            replace HT := Lib.hid (HT.out.next hb)
            refine held_go hK' (HT.out) ?_
            try simp only [Act.put, List.setIfInBounds_toArray, List.set_cons_zero, List.set_cons_succ]
            clear hS0
            have hS0 := HT.out
            clear hb
            refine held_call (i := 14) rfl (by kernel_rfl) (by rfl) (fun K' hK' => ?_)
            refine oper_store_dn (.tmp 9) (.tmp 24) rfl p rfl r.d r.c ad2 n2 cap2 zd2 zn2 zc2 r.t r.e rfl HPp.out ?_
            refine held_go hK' (HT.out.far HNp.out _) ?_
            try simp only [Act.put, List.setIfInBounds_toArray, List.set_cons_zero, List.set_cons_succ]
            have HSB := Lib.hid (st_fin HPp.out HPq.out HNE.out HOK2.out HOK4.out HNp.out HNq.out HT.out)
            clear hS0
            have hS0 := HT.out.far HNp.out (dnK r.d r.c ad2 n2 cap2 zd2 zn2 zc2 r.t r.e)
            replace HPq := Lib.hid (st_far HPq.out HNE.out (dnK r.d r.c ad2 n2 cap2 zd2 zn2 zc2 r.t r.e))
            refine held_call (i := 15) rfl (by kernel_rfl) (by rfl) (fun K' hK' => ?_)
            refine oper_store_dn (.tmp 10) (.tmp 30) rfl q rfl r.d r.c ad4 n4 cap4 zd4 zn4 zc4 r.t r.e rfl HPq.out ?_
            refine held_go hK' (HSB.out.b) ?_
            try simp only [Act.put, List.setIfInBounds_toArray, List.set_cons_zero, List.set_cons_succ]
            refine wpAnyH_done (by kernel_rfl) ?_ _
            refine NoPanic.normal ?_
            go_wp2_with fail
            go_meet
            exact ⟨p, q, ad2, n2, cap2, zd2, zn2, zc2, ad4, n4, cap4, zd4, zn4, zc4, rfl, rfl, HSB⟩
        · skip
          go_simp
          have HPq := Lib.hid (heap_alloc_new X2 boxDn)
          have HNq := Lib.hid (show w.heap.size + 4 ≤ X2.heap.size from HT.out.size)
          have HNE := Lib.hid (show p ≠ X2.heap.size ∨ X2.heap.size ≠ p by have h1 := (Array.getElem?_eq_some_iff.1 HPp.out).1; omega)
          replace HPp := Lib.hid (row_next HPp.out (below_boxC X2 boxDn))
          replace HI1 := Lib.hid (HI1.out.below (below_boxC X2 boxDn))
          replace HK1 := Lib.hid (HK1.out.add (T := (fun j : Nat => j = p ∨ j = X2.heap.size)) boxDn (fun k hk => hk))
          replace HT := Lib.hid (HT.out.next (below_boxC X2 boxDn))
          refine held_go hK' (HT.out) ?_
          try simp only [Act.put, List.setIfInBounds_toArray, List.set_cons_zero, List.set_cons_succ]
          generalize World.alloc X2 _ = X3 at *
          generalize X2.heap.size = q at *
          clear hS0
          have hS0 := HT.out
          refine held_call (i := 5) rfl (by kernel_rfl) (by rfl) (fun K' hK' => ?_)
          go_simp
          refine (HPG.out X3 ad1 cap1 HI1.out (HZI.out.below HT.out.b)).mono ?_
          rintro e X4 hret
          obtain ⟨ad2, n2, cap2, zd2, zn2, zc2, rfl, hok, hb⟩ := DnOk.of (S := (fun j : Nat => j = p ∨ j = q)) hret HK1.out (fun k (hk : k = p ∨ k = q) => by have h_p := (Array.getElem?_eq_some_iff.1 HPp.out).1; have h_q := (Array.getElem?_eq_some_iff.1 HPq.out).1; omega)
          have HOK2 := Lib.hid hok
          clear hret hok HI1 HK1
          replace HPp := Lib.hid (row_next HPp.out hb)
          replace HPq := Lib.hid (row_next HPq.out hb)
          replace HT := Lib.hid (HT.out.next hb)
          refine held_go hK' (HT.out) ?_
          try simp only [Act.put, List.setIfInBounds_toArray, List.set_cons_zero, List.set_cons_succ]
          clear hS0
          have hS0 := HT.out
          clear hb
          refine held_call (i := 9) rfl (by kernel_rfl) (by rfl) (fun K' hK' => ?_)
          go_simp
          refine (HCP.out X4 (HIN.out.below HT.out.b)).mono ?_
          rintro e X5 ⟨ad3, cap3, rfl, hi, hkf, hb⟩
          have HI3 := Lib.hid hi
          have HK3 := Lib.hid (show KnoS X5 (fun j : Nat => j = p ∨ j = q) ad3 c.l from KnoS.of_fr hkf (fun k (hk : k = p ∨ k = q) => by have h_p := (Array.getElem?_eq_some_iff.1 HPp.out).1; have h_q := (Array.getElem?_eq_some_iff.1 HPq.out).1; omega))
          clear hi hkf
          replace HPp := Lib.hid (row_next HPp.out hb)
          replace HPq := Lib.hid (row_next HPq.out hb)
          replace HOK2 := Lib.hid (HOK2.out.below hb)
          replace HT := Lib.hid (HT.out.next hb)
          refine held_go hK' (HT.out) ?_
          try simp only [Act.put, List.setIfInBounds_toArray, List.set_cons_zero, List.set_cons_succ]
          clear hS0
          have hS0 := HT.out
          clear hb
          refine held_call (i := 11) rfl (by kernel_rfl) (by rfl) (fun K' hK' => ?_)
          go_simp
          refine (HDC.out X5 ad3 cap3 HI3.out (HZI.out.below HT.out.b)).mono ?_
          rintro e X6 hret
          obtain ⟨ad4, n4, cap4, zd4, zn4, zc4, rfl, hok, hb⟩ := DnOk.of (S := (fun j : Nat => j = p ∨ j = q)) hret HK3.out (fun k (hk : k = p ∨ k = q) => by have h_p := (Array.getElem?_eq_some_iff.1 HPp.out).1; have h_q := (Array.getElem?_eq_some_iff.1 HPq.out).1; omega)
          have HOK4 := Lib.hid hok
          clear hret hok HI3 HK3
          replace HPp := Lib.hid (row_next HPp.out hb)
          replace HPq := Lib.hid (row_next HPq.out hb)
          replace HOK2 := Lib.hid (HOK2.out.below hb)
          replace HT := Lib.hid (HT.out.next hb)
          refine held_go hK' (HT.out) ?_
          try simp only [Act.put, List.setIfInBounds_toArray, List.set_cons_zero, List.set_cons_succ]
          clear hS0
          have hS0 := HT.out
          clear hb
          refine held_call (i := 14) rfl (by kernel_rfl) (by rfl) (fun K' hK' => ?_)
          refine oper_store_dn (.tmp 9) (.tmp 24) rfl p rfl r.d r.c ad2 n2 cap2 zd2 zn2 zc2 r.t r.e rfl HPp.out ?_
          refine held_go hK' (HT.out.far HNp.out _) ?_
          try simp only [Act.put, List.setIfInBounds_toArray, List.set_cons_zero, List.set_cons_succ]
          have HSB := Lib.hid (st_fin HPp.out HPq.out HNE.out HOK2.out HOK4.out HNp.out HNq.out HT.out)
          clear hS0
          have hS0 := HT.out.far HNp.out (dnK r.d r.c ad2 n2 cap2 zd2 zn2 zc2 r.t r.e)
          replace HPq := Lib.hid (st_far HPq.out HNE.out (dnK r.d r.c ad2 n2 cap2 zd2 zn2 zc2 r.t r.e))
          refine held_call (i := 15) rfl (by kernel_rfl) (by rfl) (fun K' hK' => ?_)
          refine oper_store_dn (.tmp 10) (.tmp 30) rfl q rfl r.d r.c ad4 n4 cap4 zd4 zn4 zc4 r.t r.e rfl HPq.out ?_
          refine held_go hK' (HSB.out.b) ?_
          try simp only [Act.put, List.setIfInBounds_toArray, List.set_cons_zero, List.set_cons_succ]
          refine wpAnyH_done (by kernel_rfl) ?_ _
          refine NoPanic.normal ?_
          go_wp2_with fail
          go_meet
          exact ⟨p, q, ad2, n2, cap2, zd2, zn2, zc2, ad4, n4, cap4, zd4, zn4, zc4, rfl, rfl, HSB⟩
      · skip
        go_simp
        have HPq := Lib.hid (heap_alloc_new X1 boxDn)
        have HNq := Lib.hid (show w.heap.size + 4 ≤ X1.heap.size from HT.out.size)
        replace HI1 := Lib.hid (HI1.out.below (below_boxC X1 boxDn))
        replace HK1 := Lib.hid (HK1.out.add (T := (fun j : Nat => j = X1.heap.size)) boxDn (fun k hk => .inr hk))
        replace HT := Lib.hid (HT.out.next (below_boxC X1 boxDn))
        refine held_go hK' (HT.out) ?_
        try simp only [Act.put, List.setIfInBounds_toArray, List.set_cons_zero, List.set_cons_succ]
        generalize World.alloc X1 _ = X2 at *
        generalize X1.heap.size = q at *
        clear hS0
        have hS0 := HT.out
        refine held_two (i := 5) (j := 12) rfl rfl (by kernel_rfl) (by rfl) (by rfl) (fun K' hK' => ?_) (fun K' hK' => ?_)
        · skip
          go_simp
          refine (HPG.out X2 ad1 cap1 HI1.out (HZI.out.below HT.out.b)).mono ?_
          rintro e X3 hret
          obtain ⟨ad2, n2, cap2, zd2, zn2, zc2, rfl, hok, hb⟩ := DnOk.of (S := (fun j : Nat => j = q)) hret HK1.out (fun k (hk : k = q) => by have h_q := (Array.getElem?_eq_some_iff.1 HPq.out).1; omega)
          have HOK2 := Lib.hid hok
          clear hret hok HI1 HK1
          replace HPq := Lib.hid (row_next HPq.out hb)
          replace HT := Lib.hid (HT.out.next hb)
          refine held_go hK' (HT.out) ?_
          try simp only [Act.put, List.setIfInBounds_toArray, List.set_cons_zero, List.set_cons_succ]
          clear hS0
          have hS0 := HT.out
          clear hb
          refine held_two (i := 9) (j := 12) rfl rfl (by kernel_rfl) (by rfl) (by rfl) (fun K' hK' => ?_) (fun K' hK' => ?_)
          · skip
            go_simp
            refine (HCP.out X3 (HIN.out.below HT.out.b)).mono ?_
            rintro e X4 ⟨ad3, cap3, rfl, hi, hkf, hb⟩
            have HI3 := Lib.hid hi
            have HK3 := Lib.hid (show KnoS X4 (fun j : Nat => j = q) ad3 c.l from KnoS.of_fr hkf (fun k (hk : k = q) => by have h_q := (Array.getElem?_eq_some_iff.1 HPq.out).1; omega))
            clear hi hkf
            replace HPq := Lib.hid (row_next HPq.out hb)
            replace HOK2 := Lib.hid (HOK2.out.below hb)
            replace HT := Lib.hid (HT.out.next hb)
            refine held_go hK' (HT.out) ?_
            try simp only [Act.put, List.setIfInBounds_toArray, List.set_cons_zero, List.set_cons_succ]
            clear hS0
            have hS0 := HT.out
            clear hb
            refine held_two (i := 11) (j := 12) rfl rfl (by kernel_rfl) (by rfl) (by rfl) (fun K' hK' => ?_) (fun K' hK' => ?_)
            · skip
              go_simp
              refine (HDC.out X4 ad3 cap3 HI3.out (HZI.out.below HT.out.b)).mono ?_
              rintro e X5 hret
              obtain ⟨ad4, n4, cap4, zd4, zn4, zc4, rfl, hok, hb⟩ := DnOk.of (S := (fun j : Nat => j = q)) hret HK3.out (fun k (hk : k = q) => by have h_q := (Array.getElem?_eq_some_iff.1 HPq.out).1; omega)
              have HOK4 := Lib.hid hok
              clear hret hok HI3 HK3
              replace HPq := Lib.hid (row_next HPq.out hb)
              replace HOK2 := Lib.hid (HOK2.out.below hb)
              replace HT := Lib.hid (HT.out.next hb)
              refine held_go hK' (HT.out) ?_
              try simp only [Act.put, List.setIfInBounds_toArray, List.set_cons_zero, List.set_cons_succ]
              clear hS0
              have hS0 := HT.out
              clear hb
              refine held_call (i := 12) rfl (by kernel_rfl) (by rfl) (fun K' hK' => ?_)
              go_simp
              have HPp := Lib.hid (heap_alloc_new X5 boxDn)
              have HNp := Lib.hid (show w.heap.size + 4 ≤ X5.heap.size from HT.out.size)
              have HNE := Lib.hid (show X5.heap.size ≠ q ∨ q ≠ X5.heap.size by have h1 := (Array.getElem?_eq_some_iff.1 HPq.out).1; omega)
              replace HPq := Lib.hid (row_next HPq.out (below_boxC X5 boxDn))
              replace HOK2 := Lib.hid (HOK2.out.add (T := (fun j : Nat => j = X5.heap.size ∨ j = q)) boxDn (fun k hk => hk.symm))
              replace HOK4 := Lib.hid (HOK4.out.add (T := (fun j : Nat => j = X5.heap.size ∨ j = q)) boxDn (fun k hk => hk.symm))
              replace HT := Lib.hid (HT.out.next (below_boxC X5 boxDn))
              refine held_go hK' (HT.out) ?_
              try simp only [Act.put, List.setIfInBounds_toArray, List.set_cons_zero, List.set_cons_succ]
              generalize World.alloc X5 _ = X6 at *
              generalize X5.heap.size = p at *
              clear hS0
              have hS0 := HT.out
              refine held_call (i := 14) rfl (by kernel_rfl) (by rfl) (fun K' hK' => ?_)
              refine oper_store_dn (.tmp 9) (.tmp 24) rfl p rfl r.d r.c ad2 n2 cap2 zd2 zn2 zc2 r.t r.e rfl HPp.out ?_
              refine held_go hK' (HT.out.far HNp.out _) ?_
              try simp only [Act.put, List.setIfInBounds_toArray, List.set_cons_zero, List.set_cons_succ]
              have HSB := Lib.hid (st_fin HPp.out HPq.out HNE.out HOK2.out HOK4.out HNp.out HNq.out HT.out)
              clear hS0
              have hS0 := HT.out.far HNp.out (dnK r.d r.c ad2 n2 cap2 zd2 zn2 zc2 r.t r.e)
              replace HPq := Lib.hid (st_far HPq.out HNE.out (dnK r.d r.c ad2 n2 cap2 zd2 zn2 zc2 r.t r.e))
              refine held_call (i := 15) rfl (by kernel_rfl) (by rfl) (fun K' hK' => ?_)
              refine oper_store_dn (.tmp 10) (.tmp 30) rfl q rfl r.d r.c ad4 n4 cap4 zd4 zn4 zc4 r.t r.e rfl HPq.out ?_
              refine held_go hK' (HSB.out.b) ?_
              try simp only [Act.put, List.setIfInBounds_toArray, List.set_cons_zero, List.set_cons_succ]
              refine wpAnyH_done (by kernel_rfl) ?_ _
              refine NoPanic.normal ?_
              go_wp2_with fail
              go_meet
              exact ⟨p, q, ad2, n2, cap2, zd2, zn2, zc2, ad4, n4, cap4, zd4, zn4, zc4, rfl, rfl, HSB⟩
            · skip
              go_simp
              have HPp := Lib.hid (heap_alloc_new X4 boxDn)
              have HNp := Lib.hid (show w.heap.size + 4 ≤ X4.heap.size from HT.out.size)
              have HNE := Lib.hid (show X4.heap.size ≠ q ∨ q ≠ X4.heap.size by have h1 := (Array.getElem?_eq_some_iff.1 HPq.out).1; omega)
              replace HPq := Lib.hid (row_next HPq.out (below_boxC X4 boxDn))
              replace HOK2 := Lib.hid (HOK2.out.add (T := (fun j : Nat => j = X4.heap.size ∨ j = q)) boxDn (fun k hk => hk.symm))
              replace HI3 := Lib.hid (HI3.out.below (below_boxC X4 boxDn))
              replace HK3 := Lib.hid (HK3.out.add (T := (fun j : Nat => j = X4.heap.size ∨ j = q)) boxDn (fun k hk => hk.symm))
              replace HT := Lib.hid (HT.out.next (below_boxC X4 boxDn))
              refine held_go hK' (HT.out) ?_
              try simp only [Act.put, List.setIfInBounds_toArray, List.set_cons_zero, List.set_cons_succ]
              generalize World.alloc X4 _ = X5 at *
              generalize X4.heap.size = p at *
              clear hS0
              have hS0 := HT.out
              refine held_call (i := 11) rfl (by kernel_rfl) (by rfl) (fun K' hK' => ?_)
              go_simp
              refine (HDC.out X5 ad3 cap3 HI3.out (HZI.out.below HT.out.b)).mono ?_
              rintro e X6 hret
              obtain ⟨ad4, n4, cap4, zd4, zn4, zc4, rfl, hok, hb⟩ := DnOk.of (S := (fun j : Nat => j = p ∨ j = q)) hret HK3.out (fun k (hk : k = p ∨ k = q) => by have h_p := (Array.getElem?_eq_some_iff.1 HPp.out).1; have h_q := (Array.getElem?_eq_some_iff.1 HPq.out).1; omega)
              have HOK4 := Lib.hid hok
              clear hret hok HI3 HK3
              replace HPq := Lib.hid (row_next HPq.out hb)
              replace HPp := Lib.hid (row_next HPp.out hb)
              replace HOK2 := Lib.hid (HOK2.out.below hb)
              replace HT := Lib.hid (HT.out.next hb)
              refine held_go hK' (HT.out) ?_
              try simp only [Act.put, List.setIfInBounds_toArray, List.set_cons_zero, List.set_cons_succ]
              clear hS0
              have hS0 := HT.out
              clear hb
              refine held_call (i := 14) rfl (by kernel_rfl) (by rfl) (fun K' hK' => ?_)
              refine oper_store_dn (.tmp 9) (.tmp 24) rfl p rfl r.d r.c ad2 n2 cap2 zd2 zn2 zc2 r.t r.e rfl HPp.out ?_
              refine held_go hK' (HT.out.far HNp.out _) ?_
              try simp only [Act.put, List.setIfInBounds_toArray, List.set_cons_zero, List.set_cons_succ]
              have HSB := Lib.hid (st_fin HPp.out HPq.out HNE.out HOK2.out HOK4.out HNp.out HNq.out HT.out)
              clear hS0
              have hS0 := HT.out.far HNp.out (dnK r.d r.c ad2 n2 cap2 zd2 zn2 zc2 r.t r.e)
              replace HPq := Lib.hid (st_far HPq.out HNE.out (dnK r.d r.c ad2 n2 cap2 zd2 zn2 zc2 r.t r.e))
              refine held_call (i := 15) rfl (by kernel_rfl) (by rfl) (fun K' hK' => ?_)
              refine oper_store_dn (.tmp 10) (.tmp 30) rfl q rfl r.d r.c ad4 n4 cap4 zd4 zn4 zc4 r.t r.e rfl HPq.out ?_
              refine held_go hK' (HSB.out.b) ?_
              try simp only [Act.put, List.setIfInBounds_toArray, List.set_cons_zero, List.set_cons_succ]
              refine wpAnyH_done (by kernel_rfl) ?_ _
              refine NoPanic.normal ?_
              go_wp2_with fail
              go_meet
              exact ⟨p, q, ad2, n2, cap2, zd2, zn2, zc2, ad4, n4, cap4, zd4, zn4, zc4, rfl, rfl, HSB⟩
          · skip
            go_simp
            have HPp := Lib.hid (heap_alloc_new X3 boxDn)
            have HNp := Lib.hid (show w.heap.size + 4 ≤ X3.heap.size from HT.out.size)
            have HNE := Lib.hid (show X3.heap.size ≠ q ∨ q ≠ X3.heap.size by have h1 := (Array.getElem?_eq_some_iff.1 HPq.out).1; omega)
            replace HPq := Lib.hid (row_next HPq.out (below_boxC X3 boxDn))
            replace HOK2 := Lib.hid (HOK2.out.add (T := (fun j : Nat => j = X3.heap.size ∨ j = q)) boxDn (fun k hk => hk.symm))
            replace HT := Lib.hid (HT.out.next (below_boxC X3 boxDn))
            refine held_go hK' (HT.out) ?_
            try simp only [Act.put, List.setIfInBounds_toArray, List.set_cons_zero, List.set_cons_succ]
            generalize World.alloc X3 _ = X4 at *
            generalize X3.heap.size = p at *
            clear hS0
            have hS0 := HT.out
            refine held_call (i := 9) rfl (by kernel_rfl) (by rfl) (fun K' hK' => ?_)
            go_simp
            refine (HCP.out X4 (HIN.out.below HT.out.b)).mono ?_
            rintro e X5 ⟨ad3, cap3, rfl, hi, hkf, hb⟩
            have HI3 := Lib.hid hi
            have HK3 := Lib.hid (show KnoS X5 (fun j : Nat => j = p ∨ j = q) ad3 c.l from KnoS.of_fr hkf (fun k (hk : k = p ∨ k = q) => by have h_p := (Array.getElem?_eq_some_iff.1 HPp.out).1; have h_q := (Array.getElem?_eq_some_iff.1 HPq.out).1; omega))
            clear hi hkf
            replace HPq := Lib.hid (row_next HPq.out hb)
            replace HPp := Lib.hid (row_next HPp.out hb)
            replace HOK2 := Lib.hid (HOK2.out.below hb)
            replace HT := Lib.hid (HT.out.next hb)
            refine held_go hK' (HT.out) ?_
            try simp only [Act.put, List.setIfInBounds_toArray, List.set_cons_zero, List.set_cons_succ]
            clear hS0
            have hS0 := HT.out
            clear hb
            refine held_call (i := 11) rfl (by kernel_rfl) (by rfl) (fun K' hK' => ?_)
            go_simp
            refine (HDC.out X5 ad3 cap3 HI3.out (HZI.out.below HT.out.b)).mono ?_
            rintro e X6 hret
            obtain ⟨ad4, n4, cap4, zd4, zn4, zc4, rfl, hok, hb⟩ := DnOk.of (S := (fun j : Nat => j = p ∨ j = q)) hret HK3.out (fun k (hk : k = p ∨ k = q) => by have h_p := (Array.getElem?_eq_some_iff.1 HPp.out).1; have h_q := (Array.getElem?_eq_some_iff.1 HPq.out).1; omega)
            have HOK4 := Lib.hid hok
            clear hret hok HI3 HK3
            replace HPq := Lib.hid (row_next HPq.out hb)
            replace HPp := Lib.hid (row_next HPp.out hb)
            replace HOK2 := Lib.hid (HOK2.out.below hb)
            replace HT := Lib.hid (HT.out.next hb)
            refine held_go hK' (HT.out) ?_
            try simp only [Act.put, List.setIfInBounds_toArray, List.set_cons_zero, List.set_cons_succ]
            clear hS0
            have hS0 := HT.out
            clear hb
            refine held_call (i := 14) rfl (by kernel_rfl) (by rfl) (fun K' hK' => ?_)
            refine oper_store_dn (.tmp 9) (.tmp 24) rfl p rfl r.d r.c ad2 n2 cap2 zd2 zn2 zc2 r.t r.e rfl HPp.out ?_
            refine held_go hK' (HT.out.far HNp.out _) ?_
            try simp only [Act.put, List.setIfInBounds_toArray, List.set_cons_zero, List.set_cons_succ]
            have HSB := Lib.hid (st_fin HPp.out HPq.out HNE.out HOK2.out HOK4.out HNp.out HNq.out HT.out)
            clear hS0
            have hS0 := HT.out.far HNp.out (dnK r.d r.c ad2 n2 cap2 zd2 zn2 zc2 r.t r.e)
            replace HPq := Lib.hid (st_far HPq.out HNE.out (dnK r.d r.c ad2 n2 cap2 zd2 zn2 zc2 r.t r.e))
            refine held_call (i := 15) rfl (by kernel_rfl) (by rfl) (fun K' hK' => ?_)
            refine oper_store_dn (.tmp 10) (.tmp 30) rfl q rfl r.d r.c ad4 n4 cap4 zd4 zn4 zc4 r.t r.e rfl HPq.out ?_
            refine held_go hK' (HSB.out.b) ?_
            try simp only [Act.put, List.setIfInBounds_toArray, List.set_cons_zero, List.set_cons_succ]
            refine wpAnyH_done (by kernel_rfl) ?_ _
            refine NoPanic.normal ?_
            go_wp2_with fail
            go_meet
            exact ⟨p, q, ad2, n2, cap2, zd2, zn2, zc2, ad4, n4, cap4, zd4, zn4, zc4, rfl, rfl, HSB⟩
        · skip
          go_simp
          have HPp := Lib.hid (heap_alloc_new X2 boxDn)
          have HNp := Lib.hid (show w.heap.size + 4 ≤ X2.heap.size from HT.out.size)
          have HNE := Lib.hid (show X2.heap.size ≠ q ∨ q ≠ X2.heap.size by have h1 := (Array.getElem?_eq_some_iff.1 HPq.out).1; omega)
          replace HPq := Lib.hid (row_next HPq.out (below_boxC X2 boxDn))
          replace HI1 := Lib.hid (HI1.out.below (below_boxC X2 boxDn))
          replace HK1 := Lib.hid (HK1.out.add (T := (fun j : Nat => j = X2.heap.size ∨ j = q)) boxDn (fun k hk => hk.symm))
          replace HT := Lib.hid (HT.out.next (below_boxC X2 boxDn))
          refine held_go hK' (HT.out) ?_
          try simp only [Act.put, List.setIfInBounds_toArray, List.set_cons_zero, List.set_cons_succ]
          generalize World.alloc X2 _ = X3 at *
          generalize X2.heap.size = p at *
          clear hS0
          have hS0 := HT.out
          refine held_call (i := 5) rfl (by kernel_rfl) (by rfl) (fun K' hK' => ?_)
          go_simp
          refine (HPG.out X3 ad1 cap1 HI1.out (HZI.out.below HT.out.b)).mono ?_
          rintro e X4 hret
          obtain ⟨ad2, n2, cap2, zd2, zn2, zc2, rfl, hok, hb⟩ := DnOk.of (S := (fun j : Nat => j = p ∨ j = q)) hret HK1.out (fun k (hk : k = p ∨ k = q) => by have h_p := (Array.getElem?_eq_some_iff.1 HPp.out).1; have h_q := (Array.getElem?_eq_some_iff.1 HPq.out).1; omega)
          have HOK2 := Lib.hid hok
          clear hret hok HI1 HK1
          replace HPq := Lib.hid (row_next HPq.out hb)
          replace HPp := Lib.hid (row_next HPp.out hb)
          replace HT := Lib.hid (HT.out.next hb)
          refine held_go hK' (HT.out) ?_
          try simp only [Act.put, List.setIfInBounds_toArray, List.set_cons_zero, List.set_cons_succ]
          clear hS0
          have hS0 := HT.out
          clear hb
          refine held_call (i := 9) rfl (by kernel_rfl) (by rfl) (fun K' hK' => ?_)
          go_simp
          refine (HCP.out X4 (HIN.out.below HT.out.b)).mono ?_
          rintro e X5 ⟨ad3, cap3, rfl, hi, hkf, hb⟩
          have HI3 := Lib.hid hi
          have HK3 := Lib.hid (show KnoS X5 (fun j : Nat => j = p ∨ j = q) ad3 c.l from KnoS.of_fr hkf (fun k (hk : k = p ∨ k = q) => by have h_p := (Array.getElem?_eq_some_iff.1 HPp.out).1; have h_q := (Array.getElem?_eq_some_iff.1 HPq.out).1; omega))
          clear hi hkf
          replace HPq := Lib.hid (row_next HPq.out hb)
          replace HPp := Lib.hid (row_next HPp.out hb)
          replace HOK2 := Lib.hid (HOK2.out.below hb)
          replace HT := Lib.hid (HT.out.next hb)
          refine held_go hK' (HT.out) ?_
          try simp only [Act.put, List.setIfInBounds_toArray, List.set_cons_zero, List.set_cons_succ]
          clear hS0
          have hS0 := HT.out
          clear hb
          refine held_call (i := 11) rfl (by kernel_rfl) (by rfl) (fun K' hK' => ?_)
          go_simp
          refine (HDC.out X5 ad3 cap3 HI3.out (HZI.out.below HT.out.b)).mono ?_
          rintro e X6 hret
          obtain ⟨ad4, n4, cap4, zd4, zn4, zc4, rfl, hok, hb⟩ := DnOk.of (S := (fun j : Nat => j = p ∨ j = q)) hret HK3.out (fun k (hk : k = p ∨ k = q) => by have h_p := (Array.getElem?_eq_some_iff.1 HPp.out).1; have h_q := (Array.getElem?_eq_some_iff.1 HPq.out).1; omega)
          have HOK4 := Lib.hid hok
          clear hret hok HI3 HK3
          replace HPq := Lib.hid (row_next HPq.out hb)
          replace HPp := Lib.hid (row_next HPp.out hb)
          replace HOK2 := Lib.hid (HOK2.out.below hb)
          replace HT := Lib.hid (HT.out.next hb)
          refine held_go hK' (HT.out) ?_
          try simp only [Act.put, List.setIfInBounds_toArray, List.set_cons_zero, List.set_cons_succ]
          clear hS0
          have hS0 := HT.out
          clear hb
          refine held_call (i := 14) rfl (by kernel_rfl) (by rfl) (fun K' hK' => ?_)
          refine oper_store_dn (.tmp 9) (.tmp 24) rfl p rfl r.d r.c ad2 n2 cap2 zd2 zn2 zc2 r.t r.e rfl HPp.out ?_
          refine held_go hK' (HT.out.far HNp.out _) ?_
          try simp only [Act.put, List.setIfInBounds_toArray, List.set_cons_zero, List.set_cons_succ]
          have HSB := Lib.hid (st_fin HPp.out HPq.out HNE.out HOK2.out HOK4.out HNp.out HNq.out HT.out)
          clear hS0
          have hS0 := HT.out.far HNp.out (dnK r.d r.c ad2 n2 cap2 zd2 zn2 zc2 r.t r.e)
          replace HPq := Lib.hid (st_far HPq.out HNE.out (dnK r.d r.c ad2 n2 cap2 zd2 zn2 zc2 r.t r.e))
          refine held_call (i := 15) rfl (by kernel_rfl) (by rfl) (fun K' hK' => ?_)
          refine oper_store_dn (.tmp 10) (.tmp 30) rfl q rfl r.d r.c ad4 n4 cap4 zd4 zn4 zc4 r.t r.e rfl HPq.out ?_
          refine held_go hK' (HSB.out.b) ?_
          try simp only [Act.put, List.setIfInBounds_toArray, List.set_cons_zero, List.set_cons_succ]
          refine wpAnyH_done (by kernel_rfl) ?_ _
          refine NoPanic.normal ?_
          go_wp2_with fail
          go_meet
          exact ⟨p, q, ad2, n2, cap2, zd2, zn2, zc2, ad4, n4, cap4, zd4, zn4, zc4, rfl, rfl, HSB⟩
    · skip
      go_simp
      have HPp := Lib.hid (heap_alloc_new X0 boxDn)
      have HNp := Lib.hid (show w.heap.size + 4 ≤ X0.heap.size from HT.out.size)
      replace HT := Lib.hid (HT.out.next (below_boxC X0 boxDn))
      refine held_go hK' (HT.out) ?_
      try simp only [Act.put, List.setIfInBounds_toArray, List.set_cons_zero, List.set_cons_succ]
      generalize World.alloc X0 _ = X1 at *
      generalize X0.heap.size = p at *
      clear hS0
      have hS0 := HT.out
      refine held_two (i := 3) (j := 13) rfl rfl (by kernel_rfl) (by rfl) (by rfl) (fun K' hK' => ?_) (fun K' hK' => ?_)
      · skip
        go_simp
        refine (HCP.out X1 (HIN.out.below HT.out.b)).mono ?_
        rintro e X2 ⟨ad1, cap1, rfl, hi, hkf, hb⟩
        have HI1 := Lib.hid hi
        have HK1 := Lib.hid (show KnoS X2 (fun j : Nat => j = p) ad1 c.l from KnoS.of_fr hkf (fun k (hk : k = p) => by have h_p := (Array.getElem?_eq_some_iff.1 HPp.out).1; omega))
        clear hi hkf
        replace HPp := Lib.hid (row_next HPp.out hb)
        replace HT := Lib.hid (HT.out.next hb)
        refine held_go hK' (HT.out) ?_
        try simp only [Act.put, List.setIfInBounds_toArray, List.set_cons_zero, List.set_cons_succ]
        clear hS0
        have hS0 := HT.out
        clear hb
        refine held_two (i := 5) (j := 13) rfl rfl (by kernel_rfl) (by rfl) (by rfl) (fun K' hK' => ?_) (fun K' hK' => ?_)
        · skip
          go_simp
          refine (HPG.out X2 ad1 cap1 HI1.out (HZI.out.below HT.out.b)).mono ?_
          rintro e X3 hret
          obtain ⟨ad2, n2, cap2, zd2, zn2, zc2, rfl, hok, hb⟩ := DnOk.of (S := (fun j : Nat => j = p)) hret HK1.out (fun k (hk : k = p) => by have h_p := (Array.getElem?_eq_some_iff.1 HPp.out).1; omega)
          have HOK2 := Lib.hid hok
          clear hret hok HI1 HK1
          replace HPp := Lib.hid (row_next HPp.out hb)
          replace HT := Lib.hid (HT.out.next hb)
          refine held_go hK' (HT.out) ?_
          try simp only [Act.put, List.setIfInBounds_toArray, List.set_cons_zero, List.set_cons_succ]
          clear hS0
          have hS0 := HT.out
          clear hb
          refine held_two (i := 9) (j := 13) rfl rfl (by kernel_rfl) (by rfl) (by rfl) (fun K' hK' => ?_) (fun K' hK' => ?_)
          · skip
            go_simp
            refine (HCP.out X3 (HIN.out.below HT.out.b)).mono ?_
            rintro e X4 ⟨ad3, cap3, rfl, hi, hkf, hb⟩
            have HI3 := Lib.hid hi
            have HK3 := Lib.hid (show KnoS X4 (fun j : Nat => j = p) ad3 c.l from KnoS.of_fr hkf (fun k (hk : k = p) => by have h_p := (Array.getElem?_eq_some_iff.1 HPp.out).1; omega))
            clear hi hkf
            replace HPp := Lib.hid (row_next HPp.out hb)
            replace HOK2 := Lib.hid (HOK2.out.below hb)
            replace HT := Lib.hid (HT.out.next hb)
            refine held_go hK' (HT.out) ?_
            try simp only [Act.put, List.setIfInBounds_toArray, List.set_cons_zero, List.set_cons_succ]
            clear hS0
            have hS0 := HT.out
            clear hb
            refine held_two (i := 11) (j := 13) rfl rfl (by kernel_rfl) (by rfl) (by rfl) (fun K' hK' => ?_) (fun K' hK' => ?_)
            · skip
              go_simp
              refine (HDC.out X4 ad3 cap3 HI3.out (HZI.out.below HT.out.b)).mono ?_
              rintro e X5 hret
              obtain ⟨ad4, n4, cap4, zd4, zn4, zc4, rfl, hok, hb⟩ := DnOk.of (S := (fun j : Nat => j = p)) hret HK3.out (fun k (hk : k = p) => by have h_p := (Array.getElem?_eq_some_iff.1 HPp.out).1; omega)
              have HOK4 := Lib.hid hok
              clear hret hok HI3 HK3
              replace HPp := Lib.hid (row_next HPp.out hb)
              replace HOK2 := Lib.hid (HOK2.out.below hb)
              replace HT := Lib.hid (HT.out.next hb)
              refine held_go hK' (HT.out) ?_
              try simp only [Act.put, List.setIfInBounds_toArray, List.set_cons_zero, List.set_cons_succ]
              clear hS0
              have hS0 := HT.out
              clear hb
              refine held_call (i := 13) rfl (by kernel_rfl) (by rfl) (fun K' hK' => ?_)
              go_simp
              have HPq := Lib.hid (heap_alloc_new X5 boxDn)
              have HNq := Lib.hid (show w.heap.size + 4 ≤ X5.heap.size from HT.out.size)
              have HNE := Lib.hid (show p ≠ X5.heap.size ∨ X5.heap.size ≠ p by have h1 := (Array.getElem?_eq_some_iff.1 HPp.out).1; omega)
              replace HPp := Lib.hid (row_next HPp.out (below_boxC X5 boxDn))
              replace HOK2 := Lib.hid (HOK2.out.add (T := (fun j : Nat => j = p ∨ j = X5.heap.size)) boxDn (fun k hk => hk))
              replace HOK4 := Lib.hid (HOK4.out.add (T := (fun j : Nat => j = p ∨ j = X5.heap.size)) boxDn (fun k hk => hk))
              replace HT := Lib.hid (HT.out.next (below_boxC X5 boxDn))
              refine held_go hK' (HT.out) ?_
              try simp only [Act.put, List.setIfInBounds_toArray, List.set_cons_zero, List.set_cons_succ]
              generalize World.alloc X5 _ = X6 at *
              generalize X5.heap.size = q at *
              clear hS0
              have hS0 := HT.out
              refine held_call (i := 14) rfl (by kernel_rfl) (by rfl) (fun K' hK' => ?_)
              refine oper_store_dn (.tmp 9) (.tmp 24) rfl p rfl r.d r.c ad2 n2 cap2 zd2 zn2 zc2 r.t r.e rfl HPp.out ?_
              refine held_go hK' (HT.out.far HNp.out _) ?_
              try simp only [Act.put, List.setIfInBounds_toArray, List.set_cons_zero, List.set_cons_succ]
              have HSB := Lib.hid (st_fin HPp.out HPq.out HNE.out HOK2.out HOK4.out HNp.out HNq.out HT.out)
              clear hS0
              have hS0 := HT.out.far HNp.out (dnK r.d r.c ad2 n2 cap2 zd2 zn2 zc2 r.t r.e)
              replace HPq := Lib.hid (st_far HPq.out HNE.out (dnK r.d r.c ad2 n2 cap2 zd2 zn2 zc2 r.t r.e))
              refine held_call (i := 15) rfl (by kernel_rfl) (by rfl) (fun K' hK' => ?_)
              refine oper_store_dn (.tmp 10) (.tmp 30) rfl q rfl r.d r.c ad4 n4 cap4 zd4 zn4 zc4 r.t r.e rfl HPq.out ?_
              refine held_go hK' (HSB.out.b) ?_
              try simp only [Act.put, List.setIfInBounds_toArray, List.set_cons_zero, List.set_cons_succ]
              refine wpAnyH_done (by kernel_rfl) ?_ _
              refine NoPanic.normal ?_
              go_wp2_with fail
              go_meet
              exact ⟨p, q, ad2, n2, cap2, zd2, zn2, zc2, ad4, n4, cap4, zd4, zn4, zc4, rfl, rfl, HSB⟩
            · skip
              go_simp
              have HPq := Lib.hid (heap_alloc_new X4 boxDn)
              have HNq := Lib.hid (show w.heap.size + 4 ≤ X4.heap.size from HT.out.size)
              have HNE := Lib.hid (show p ≠ X4.heap.size ∨ X4.heap.size ≠ p by have h1 := (Array.getElem?_eq_some_iff.1 HPp.out).1; omega)
              replace HPp := Lib.hid (row_next HPp.out (below_boxC X4 boxDn))
              replace HOK2 := Lib.hid (HOK2.out.add (T := (fun j : Nat => j = p ∨ j = X4.heap.size)) boxDn (fun k hk => hk))
              replace HI3 := Lib.hid (HI3.out.below (below_boxC X4 boxDn))
              replace HK3 := Lib.hid (HK3.out.add (T := (fun j : Nat => j = p ∨ j = X4.heap.size)) boxDn (fun k hk => hk))
              replace HT := Lib.hid (HT.out.next (below_boxC X4 boxDn))
              refine held_go hK' (HT.out) ?_
              try simp only [Act.put, List.setIfInBounds_toArray, List.set_cons_zero, List.set_cons_succ]
              generalize World.alloc X4 _ = X5 at *
              generalize X4.heap.size = q at *
              clear hS0
              have hS0 := HT.out
              refine held_call (i := 11) rfl (by kernel_rfl) (by rfl) (fun K' hK' => ?_)
              go_simp
              refine (HDC.out X5 ad3 cap3 HI3.out (HZI.out.below HT.out.b)).mono ?_
              rintro e X6 hret
              obtain ⟨ad4, n4, cap4, zd4, zn4, zc4, rfl, hok, hb⟩ := DnOk.of (S := (fun j : Nat => j = p ∨ j = q)) hret HK3.out (fun k (hk : k = p ∨ k = q) => by have h_p := (Array.getElem?_eq_some_iff.1 HPp.out).1; have h_q := (Array.getElem?_eq_some_iff.1 HPq.out).1; omega)
              have HOK4 := Lib.hid hok
              clear hret hok HI3 HK3
              replace HPp := Lib.hid (row_next HPp.out hb)
              replace HPq := Lib.hid (row_next HPq.out hb)
              replace HOK2 := Lib.hid (HOK2.out.below hb)
              replace HT := Lib.hid (HT.out.next hb)
              refine held_go hK' (HT.out) ?_
              try simp only [Act.put, List.setIfInBounds_toArray, List.set_cons_zero, List.set_cons_succ]
              clear hS0
              have hS0 := HT.out
              clear hb
              refine held_call (i := 14) rfl (by kernel_rfl) (by rfl) (fun K' hK' => ?_)
              refine oper_store_dn (.tmp 9) (.tmp 24) rfl p rfl r.d r.c ad2 n2 cap2 zd2 zn2 zc2 r.t r.e rfl HPp.out ?_
              refine held_go hK' (HT.out.far HNp.out _) ?_
              try simp only [Act.put, List.setIfInBounds_toArray, List.set_cons_zero, List.set_cons_succ]
              have HSB := Lib.hid (st_fin HPp.out HPq.out HNE.out HOK2.out HOK4.out HNp.out HNq.out HT.out)
              clear hS0
              have hS0 := HT.out.far HNp.out (dnK r.d r.c ad2 n2 cap2 zd2 zn2 zc2 r.t r.e)
              replace HPq := Lib.hid (st_far HPq.out HNE.out (dnK r.d r.c ad2 n2 cap2 zd2 zn2 zc2 r.t r.e))
              refine held_call (i := 15) rfl (by kernel_rfl) (by rfl) (fun K' hK' => ?_)
              refine oper_store_dn (.tmp 10) (.tmp 30) rfl q rfl r.d r.c ad4 n4 cap4 zd4 zn4 zc4 r.t r.e rfl HPq.out ?_
              refine held_go hK' (HSB.out.b) ?_
              try simp only [Act.put, List.setIfInBounds_toArray, List.set_cons_zero, List.set_cons_succ]
              refine wpAnyH_done (by kernel_rfl) ?_ _
              refine NoPanic.normal ?_
              go_wp2_with fail
              go_meet
              exact ⟨p, q, ad2, n2, cap2, zd2, zn2, zc2, ad4, n4, cap4, zd4, zn4, zc4, rfl, rfl, HSB⟩
          · skip
            go_simp
            have HPq := Lib.hid (heap_alloc_new X3 boxDn)
            have HNq := Lib.hid (show w.heap.size + 4 ≤ X3.heap.size from HT.out.size)
            have HNE := Lib.hid (show p ≠ X3.heap.size ∨ X3.heap.size ≠ p by have h1 := (Array.getElem?_eq_some_iff.1 HPp.out).1; omega)
            replace HPp := Lib.hid (row_next HPp.out (below_boxC X3 boxDn))
            replace HOK2 := Lib.hid (HOK2.out.add (T := (fun j : Nat => j = p ∨ j = X3.heap.size)) boxDn (fun k hk => hk))
            replace HT := Lib.hid (HT.out.next (below_boxC X3 boxDn))
            refine held_go hK' (HT.out) ?_
            try simp only [Act.put, List.setIfInBounds_toArray, List.set_cons_zero, List.set_cons_succ]
            generalize World.alloc X3 _ = X4 at *
            generalize X3.heap.size = q at *
            clear hS0
            have hS0 := HT.out
            refine held_call (i := 9) rfl (by kernel_rfl) (by rfl) (fun K' hK' => ?_)
            go_simp
            refine (HCP.out X4 (HIN.out.below HT.out.b)).mono ?_
            rintro e X5 ⟨ad3, cap3, rfl, hi, hkf, hb⟩
            have HI3 := Lib.hid hi
            have HK3 := Lib.hid (show KnoS X5 (fun j : Nat => j = p ∨ j = q) ad3 c.l from KnoS.of_fr hkf (fun k (hk : k = p ∨ k = q) => by have h_p := (Array.getElem?_eq_some_iff.1 HPp.out).1; have h_q := (Array.getElem?_eq_some_iff.1 HPq.out).1; omega))
            clear hi hkf
            replace HPp := Lib.hid (row_next HPp.out hb)
            replace HPq := Lib.hid (row_next HPq.out hb)
            replace HOK2 := Lib.hid (HOK2.out.below hb)
            replace HT := Lib.hid (HT.out.next hb)
            refine held_go hK' (HT.out) ?_
            try simp only [Act.put, List.setIfInBounds_toArray, List.set_cons_zero, List.set_cons_succ]
            clear hS0
            have hS0 := HT.out
            clear hb
            refine held_call (i := 11) rfl (by kernel_rfl) (by rfl) (fun K' hK' => ?_)
            go_simp
            refine (HDC.out X5 ad3 cap3 HI3.out (HZI.out.below HT.out.b)).mono ?_
            rintro e X6 hret
            obtain ⟨ad4, n4, cap4, zd4, zn4, zc4, rfl, hok, hb⟩ := DnOk.of (S := (fun j : Nat => j = p ∨ j = q)) hret HK3.out (fun k (hk : k = p ∨ k = q) => by have h_p := (Array.getElem?_eq_some_iff.1 HPp.out).1; have h_q := (Array.getElem?_eq_some_iff.1 HPq.out).1; omega)
            have HOK4 := Lib.hid hok
            clear hret hok HI3 HK3
            replace HPp := Lib.hid (row_next HPp.out hb)
            replace HPq := Lib.hid (row_next HPq.out hb)
            replace HOK2 := Lib.hid (HOK2.out.below hb)
            replace HT := Lib.hid (HT.out.next hb)
            refine held_go hK' (HT.out) ?_
            try simp only [Act.put, List.setIfInBounds_toArray, List.set_cons_zero, List.set_cons_succ]
            clear hS0
            have hS0 := HT.out
            clear hb
            refine held_call (i := 14) rfl (by kernel_rfl) (by rfl) (fun K' hK' => ?_)
            refine oper_store_dn (.tmp 9) (.tmp 24) rfl p rfl r.d r.c ad2 n2 cap2 zd2 zn2 zc2 r.t r.e rfl HPp.out ?_
            refine held_go hK' (HT.out.far HNp.out _) ?_
            try simp only [Act.put, List.setIfInBounds_toArray, List.set_cons_zero, List.set_cons_succ]
            have HSB := Lib.hid (st_fin HPp.out HPq.out HNE.out HOK2.out HOK4.out HNp.out HNq.out HT.out)
            clear hS0
            have hS0 := HT.out.far HNp.out (dnK r.d r.c ad2 n2 cap2 zd2 zn2 zc2 r.t r.e)
            replace HPq := Lib.hid (st_far HPq.out HNE.out (dnK r.d r.c ad2 n2 cap2 zd2 zn2 zc2 r.t r.e))
            refine held_call (i := 15) rfl (by kernel_rfl) (by rfl) (fun K' hK' => ?_)
            refine oper_store_dn (.tmp 10) (.tmp 30) rfl q rfl r.d r.c ad4 n4 cap4 zd4 zn4 zc4 r.t r.e rfl HPq.out ?_
            refine held_go hK' (HSB.out.b) ?_
            try simp only [Act.put, List.setIfInBounds_toArray, List.set_cons_zero, List.set_cons_succ]
            refine wpAnyH_done (by kernel_rfl) ?_ _
            refine NoPanic.normal ?_
            go_wp2_with fail
            go_meet
            exact ⟨p, q, ad2, n2, cap2, zd2, zn2, zc2, ad4, n4, cap4, zd4, zn4, zc4, rfl, rfl, HSB⟩
        · skip
          go_simp
          have HPq := Lib.hid (heap_alloc_new X2 boxDn)
          have HNq := Lib.hid (show w.heap.size + 4 ≤ X2.heap.size from HT.out.size)
          have HNE := Lib.hid (show p ≠ X2.heap.size ∨ X2.heap.size ≠ p by have h1 := (Array.getElem?_eq_some_iff.1 HPp.out).1; omega)
          replace HPp := Lib.hid (row_next HPp.out (below_boxC X2 boxDn))
          replace HI1 := Lib.hid (HI1.out.below (below_boxC X2 boxDn))
          replace HK1 := Lib.hid (HK1.out.add (T := (fun j : Nat => j = p ∨ j = X2.heap.size)) boxDn (fun k hk => hk))
          replace HT := Lib.hid (HT.out.next (below_boxC X2 boxDn))
          refine held_go hK' (HT.out) ?_
          try simp only [Act.put, List.setIfInBounds_toArray, List.set_cons_zero, List.set_cons_succ]
          generalize World.alloc X2 _ = X3 at *
          generalize X2.heap.size = q at *
          clear hS0
          have hS0 := HT.out
          refine held_call (i := 5) rfl (by kernel_rfl) (by rfl) (fun K' hK' => ?_)
          go_simp
          refine (HPG.out X3 ad1 cap1 HI1.out (HZI.out.below HT.out.b)).mono ?_
          rintro e X4 hret
          obtain ⟨ad2, n2, cap2, zd2, zn2, zc2, rfl, hok, hb⟩ := DnOk.of (S := (fun j : Nat => j = p ∨ j = q)) hret HK1.out (fun k (hk : k = p ∨ k = q) => by have h_p := (Array.getElem?_eq_some_iff.1 HPp.out).1; have h_q := (Array.getElem?_eq_some_iff.1 HPq.out).1; omega)
          have HOK2 := Lib.hid hok
          clear hret hok HI1 HK1
          replace HPp := Lib.hid (row_next HPp.out hb)
          replace HPq := Lib.hid (row_next HPq.out hb)
          replace HT := Lib.hid (HT.out.next hb)
          refine held_go hK' (HT.out) ?_
          try simp only [Act.put, List.setIfInBounds_toArray, List.set_cons_zero, List.set_cons_succ]
          clear hS0
          have hS0 := HT.out
          clear hb
          refine held_call (i := 9) rfl (by kernel_rfl) (by rfl) (fun K' hK' => ?_)
          go_simp
          refine (HCP.out X4 (HIN.out.below HT.out.b)).mono ?_
          rintro e X5 ⟨ad3, cap3, rfl, hi, hkf, hb⟩
          have HI3 := Lib.hid hi
          have HK3 := Lib.hid (show KnoS X5 (fun j : Nat => j = p ∨ j = q) ad3 c.l from KnoS.of_fr hkf (fun k (hk : k = p ∨ k = q) => by have h_p := (Array.getElem?_eq_some_iff.1 HPp.out).1; have h_q := (Array.getElem?_eq_some_iff.1 HPq.out).1; omega))
          clear hi hkf
          replace HPp := Lib.hid (row_next HPp.out hb)
          replace HPq := Lib.hid (row_next HPq.out hb)
          replace HOK2 := Lib.hid (HOK2.out.below hb)
          replace HT := Lib.hid (HT.out.next hb)
          refine held_go hK' (HT.out) ?_
          try simp only [Act.put, List.setIfInBounds_toArray, List.set_cons_zero, List.set_cons_succ]
          clear hS0
          have hS0 := HT.out
          clear hb
          refine held_call (i := 11) rfl (by kernel_rfl) (by rfl) (fun K' hK' => ?_)
          go_simp
          refine (HDC.out X5 ad3 cap3 HI3.out (HZI.out.below HT.out.b)).mono ?_
          rintro e X6 hret
          obtain ⟨ad4, n4, cap4, zd4, zn4, zc4, rfl, hok, hb⟩ := DnOk.of (S := (fun j : Nat => j = p ∨ j = q)) hret HK3.out (fun k (hk : k = p ∨ k = q) => by have h_p := (Array.getElem?_eq_some_iff.1 HPp.out).1; have h_q := (Array.getElem?_eq_some_iff.1 HPq.out).1; omega)
          have HOK4 := Lib.hid hok
          clear hret hok HI3 HK3
          replace HPp := Lib.hid (row_next HPp.out hb)
          replace HPq := Lib.hid (row_next HPq.out hb)
          replace HOK2 := Lib.hid (HOK2.out.below hb)
          replace HT := Lib.hid (HT.out.next hb)
          refine held_go hK' (HT.out) ?_
          try simp only [Act.put, List.setIfInBounds_toArray, List.set_cons_zero, List.set_cons_succ]
          clear hS0
          have hS0 := HT.out
          clear hb
          refine held_call (i := 14) rfl (by kernel_rfl) (by rfl) (fun K' hK' => ?_)
          refine oper_store_dn (.tmp 9) (.tmp 24) rfl p rfl r.d r.c ad2 n2 cap2 zd2 zn2 zc2 r.t r.e rfl HPp.out ?_
          refine held_go hK' (HT.out.far HNp.out _) ?_
          try simp only [Act.put, List.setIfInBounds_toArray, List.set_cons_zero, List.set_cons_succ]
          have HSB := Lib.hid (st_fin HPp.out HPq.out HNE.out HOK2.out HOK4.out HNp.out HNq.out HT.out)
          clear hS0
          have hS0 := HT.out.far HNp.out (dnK r.d r.c ad2 n2 cap2 zd2 zn2 zc2 r.t r.e)
          replace HPq := Lib.hid (st_far HPq.out HNE.out (dnK r.d r.c ad2 n2 cap2 zd2 zn2 zc2 r.t r.e))
          refine held_call (i := 15) rfl (by kernel_rfl) (by rfl) (fun K' hK' => ?_)
          refine oper_store_dn (.tmp 10) (.tmp 30) rfl q rfl r.d r.c ad4 n4 cap4 zd4 zn4 zc4 r.t r.e rfl HPq.out ?_
          refine held_go hK' (HSB.out.b) ?_
          try simp only [Act.put, List.setIfInBounds_toArray, List.set_cons_zero, List.set_cons_succ]
          refine wpAnyH_done (by kernel_rfl) ?_ _
          refine NoPanic.normal ?_
          go_wp2_with fail
          go_meet
          exact ⟨p, q, ad2, n2, cap2, zd2, zn2, zc2, ad4, n4, cap4, zd4, zn4, zc4, rfl, rfl, HSB⟩
      · skip
        go_simp
        have HPq := Lib.hid (heap_alloc_new X1 boxDn)
        have HNq := Lib.hid (show w.heap.size + 4 ≤ X1.heap.size from HT.out.size)
        have HNE := Lib.hid (show p ≠ X1.heap.size ∨ X1.heap.size ≠ p by have h1 := (Array.getElem?_eq_some_iff.1 HPp.out).1; omega)
        replace HPp := Lib.hid (row_next HPp.out (below_boxC X1 boxDn))
        replace HT := Lib.hid (HT.out.next (below_boxC X1 boxDn))
        refine held_go hK' (HT.out) ?_
        try simp only [Act.put, List.setIfInBounds_toArray, List.set_cons_zero, List.set_cons_succ]
        generalize World.alloc X1 _ = X2 at *
        generalize X1.heap.size = q at *
        clear hS0
        have hS0 := HT.out
        refine held_call (i := 3) rfl (by kernel_rfl) (by rfl) (fun K' hK' => ?_)
        go_simp
        refine (HCP.out X2 (HIN.out.below HT.out.b)).mono ?_
        rintro e X3 ⟨ad1, cap1, rfl, hi, hkf, hb⟩
        have HI1 := Lib.hid hi
        have HK1 := Lib.hid (show KnoS X3 (fun j : Nat => j = p ∨ j = q) ad1 c.l from KnoS.of_fr hkf (fun k (hk : k = p ∨ k = q) => by have h_p := (Array.getElem?_eq_some_iff.1 HPp.out).1; have h_q := (Array.getElem?_eq_some_iff.1 HPq.out).1; omega))
        clear hi hkf
        replace HPp := Lib.hid (row_next HPp.out hb)
        replace HPq := Lib.hid (row_next HPq.out hb)
        replace HT := Lib.hid (HT.out.next hb)
        refine held_go hK' (HT.out) ?_
        try simp only [Act.put, List.setIfInBounds_toArray, List.set_cons_zero, List.set_cons_succ]
        clear hS0
        have hS0 := HT.out
        clear hb
        refine held_call (i := 5) rfl (by kernel_rfl) (by rfl) (fun K' hK' => ?_)
        go_simp
        refine (HPG.out X3 ad1 cap1 HI1.out (HZI.out.below HT.out.b)).mono ?_
        rintro e X4 hret
        obtain ⟨ad2, n2, cap2, zd2, zn2, zc2, rfl, hok, hb⟩ := DnOk.of (S := (fun j : Nat => j = p ∨ j = q)) hret HK1.out (fun k (hk : k = p ∨ k = q) => by have h_p := (Array.getElem?_eq_some_iff.1 HPp.out).1; have h_q := (Array.getElem?_eq_some_iff.1 HPq.out).1; omega)
        have HOK2 := Lib.hid hok
        clear hret hok HI1 HK1
        replace HPp := Lib.hid (row_next HPp.out hb)
        replace HPq := Lib.hid (row_next HPq.out hb)
        replace HT := Lib.hid (HT.out.next hb)
        refine held_go hK' (HT.out) ?_
        try simp only [Act.put, List.setIfInBounds_toArray, List.set_cons_zero, List.set_cons_succ]
        clear hS0
        have hS0 := HT.out
        clear hb
        refine held_call (i := 9) rfl (by kernel_rfl) (by rfl) (fun K' hK' => ?_)
        go_simp
        refine (HCP.out X4 (HIN.out.below HT.out.b)).mono ?_
        rintro e X5 ⟨ad3, cap3, rfl, hi, hkf, hb⟩
        have HI3 := Lib.hid hi
        have HK3 := Lib.hid (show KnoS X5 (fun j : Nat => j = p ∨ j = q) ad3 c.l from KnoS.of_fr hkf (fun k (hk : k = p ∨ k = q) => by have h_p := (Array.getElem?_eq_some_iff.1 HPp.out).1; have h_q := (Array.getElem?_eq_some_iff.1 HPq.out).1; omega))
        clear hi hkf
        replace HPp := Lib.hid (row_next HPp.out hb)
        replace HPq := Lib.hid (row_next HPq.out hb)
        replace HOK2 := Lib.hid (HOK2.out.below hb)
        replace HT := Lib.hid (HT.out.next hb)
        refine held_go hK' (HT.out) ?_
        try simp only [Act.put, List.setIfInBounds_toArray, List.set_cons_zero, List.set_cons_succ]
        clear hS0
        have hS0 := HT.out
        clear hb
        refine held_call (i := 11) rfl (by kernel_rfl) (by rfl) (fun K' hK' => ?_)
        go_simp
        refine (HDC.out X5 ad3 cap3 HI3.out (HZI.out.below HT.out.b)).mono ?_
        rintro e X6 hret
        obtain ⟨ad4, n4, cap4, zd4, zn4, zc4, rfl, hok, hb⟩ := DnOk.of (S := (fun j : Nat => j = p ∨ j = q)) hret HK3.out (fun k (hk : k = p ∨ k = q) => by have h_p := (Array.getElem?_eq_some_iff.1 HPp.out).1; have h_q := (Array.getElem?_eq_some_iff.1 HPq.out).1; omega)
        have HOK4 := Lib.hid hok
        clear hret hok HI3 HK3
        replace HPp := Lib.hid (row_next HPp.out hb)
        replace HPq := Lib.hid (row_next HPq.out hb)
        replace HOK2 := Lib.hid (HOK2.out.below hb)
        replace HT := Lib.hid (HT.out.next hb)
        refine held_go hK' (HT.out) ?_
        try simp only [Act.put, List.setIfInBounds_toArray, List.set_cons_zero, List.set_cons_succ]
        clear hS0
        have hS0 := HT.out
        clear hb
        refine held_call (i := 14) rfl (by kernel_rfl) (by rfl) (fun K' hK' => ?_)
        refine oper_store_dn (.tmp 9) (.tmp 24) rfl p rfl r.d r.c ad2 n2 cap2 zd2 zn2 zc2 r.t r.e rfl HPp.out ?_
        refine held_go hK' (HT.out.far HNp.out _) ?_
        try simp only [Act.put, List.setIfInBounds_toArray, List.set_cons_zero, List.set_cons_succ]
        have HSB := Lib.hid (st_fin HPp.out HPq.out HNE.out HOK2.out HOK4.out HNp.out HNq.out HT.out)
        clear hS0
        have hS0 := HT.out.far HNp.out (dnK r.d r.c ad2 n2 cap2 zd2 zn2 zc2 r.t r.e)
        replace HPq := Lib.hid (st_far HPq.out HNE.out (dnK r.d r.c ad2 n2 cap2 zd2 zn2 zc2 r.t r.e))
        refine held_call (i := 15) rfl (by kernel_rfl) (by rfl) (fun K' hK' => ?_)
        refine oper_store_dn (.tmp 10) (.tmp 30) rfl q rfl r.d r.c ad4 n4 cap4 zd4 zn4 zc4 r.t r.e rfl HPq.out ?_
        refine held_go hK' (HSB.out.b) ?_
        try simp only [Act.put, List.setIfInBounds_toArray, List.set_cons_zero, List.set_cons_succ]
        refine wpAnyH_done (by kernel_rfl) ?_ _
        refine NoPanic.normal ?_
        go_wp2_with fail
        go_meet
        exact ⟨p, q, ad2, n2, cap2, zd2, zn2, zc2, ad4, n4, cap4, zd4, zn4, zc4, rfl, rfl, HSB⟩
    · skip
      go_simp
      have HPq := Lib.hid (heap_alloc_new X0 boxDn)
      have HNq := Lib.hid (show w.heap.size + 4 ≤ X0.heap.size from HT.out.size)
      replace HT := Lib.hid (HT.out.next (below_boxC X0 boxDn))
      refine held_go hK' (HT.out) ?_
      try simp only [Act.put, List.setIfInBounds_toArray, List.set_cons_zero, List.set_cons_succ]
      generalize World.alloc X0 _ = X1 at *
      generalize X0.heap.size = q at *
      clear hS0
      have hS0 := HT.out
      refine held_two (i := 3) (j := 12) rfl rfl (by kernel_rfl) (by rfl) (by rfl) (fun K' hK' => ?_) (fun K' hK' => ?_)
      · skip
        go_simp
        refine (HCP.out X1 (HIN.out.below HT.out.b)).mono ?_
        rintro e X2 ⟨ad1, cap1, rfl, hi, hkf, hb⟩
        have HI1 := Lib.hid hi
        have HK1 := Lib.hid (show KnoS X2 (fun j : Nat => j = q) ad1 c.l from KnoS.of_fr hkf (fun k (hk : k = q) => by have h_q := (Array.getElem?_eq_some_iff.1 HPq.out).1; omega))
        clear hi hkf
        replace HPq := Lib.hid (row_next HPq.out hb)
        replace HT := Lib.hid (HT.out.next hb)
        refine held_go hK' (HT.out) ?_
        try simp only [Act.put, List.setIfInBounds_toArray, List.set_cons_zero, List.set_cons_succ]
        clear hS0
        have hS0 := HT.out
        clear hb
        refine held_two (i := 5) (j := 12) rfl rfl (by kernel_rfl) (by rfl) (by rfl) (fun K' hK' => ?_) (fun K' hK' => ?_)
        · skip
          go_simp
          refine (HPG.out X2 ad1 cap1 HI1.out (HZI.out.below HT.out.b)).mono ?_
          rintro e X3 hret
          obtain ⟨ad2, n2, cap2, zd2, zn2, zc2, rfl, hok, hb⟩ := DnOk.of (S := (fun j : Nat => j = q)) hret HK1.out (fun k (hk : k = q) => by have h_q := (Array.getElem?_eq_some_iff.1 HPq.out).1; omega)
          have HOK2 := Lib.hid hok
          clear hret hok HI1 HK1
          replace HPq := Lib.hid (row_next HPq.out hb)
          replace HT := Lib.hid (HT.out.next hb)
          refine held_go hK' (HT.out) ?_
          try simp only [Act.put, List.setIfInBounds_toArray, List.set_cons_zero, List.set_cons_succ]
          clear hS0
          have hS0 := HT.out
          clear hb
          refine held_two (i := 9) (j := 12) rfl rfl (by kernel_rfl) (by rfl) (by rfl) (fun K' hK' => ?_) (fun K' hK' => ?_)
          · skip
            go_simp
            refine (HCP.out X3 (HIN.out.below HT.out.b)).mono ?_
            rintro e X4 ⟨ad3, cap3, rfl, hi, hkf, hb⟩
            have HI3 := Lib.hid hi
            have HK3 := Lib.hid (show KnoS X4 (fun j : Nat => j = q) ad3 c.l from KnoS.of_fr hkf (fun k (hk : k = q) => by have h_q := (Array.getElem?_eq_some_iff.1 HPq.out).1; omega))
            clear hi hkf
            replace HPq := Lib.hid (row_next HPq.out hb)
            replace HOK2 := Lib.hid (HOK2.out.below hb)
            replace HT := Lib.hid (HT.out.next hb)
            refine held_go hK' (HT.out) ?_
            try simp only [Act.put, List.setIfInBounds_toArray, List.set_cons_zero, List.set_cons_succ]
            clear hS0
            have hS0 := HT.out
            clear hb
            refine held_two (i := 11) (j := 12) rfl rfl (by kernel_rfl) (by rfl) (by rfl) (fun K' hK' => ?_) (fun K' hK' => ?_)
            · skip
              go_simp
              refine (HDC.out X4 ad3 cap3 HI3.out (HZI.out.below HT.out.b)).mono ?_
              rintro e X5 hret
              obtain ⟨ad4, n4, cap4, zd4, zn4, zc4, rfl, hok, hb⟩ := DnOk.of (S := (fun j : Nat => j = q)) hret HK3.out (fun k (hk : k = q) => by have h_q := (Array.getElem?_eq_some_iff.1 HPq.out).1; omega)
              have HOK4 := Lib.hid hok
              clear hret hok HI3 HK3
              replace HPq := Lib.hid (row_next HPq.out hb)
              replace HOK2 := Lib.hid (HOK2.out.below hb)
              replace HT := Lib.hid (HT.out.next hb)
              refine held_go hK' (HT.out) ?_
              try simp only [Act.put, List.setIfInBounds_toArray, List.set_cons_zero, List.set_cons_succ]
              clear hS0
              have hS0 := HT.out
              clear hb
              refine held_call (i := 12) rfl (by kernel_rfl) (by rfl) (fun K' hK' => ?_)
              go_simp
              have HPp := Lib.hid (heap_alloc_new X5 boxDn)
              have HNp := Lib.hid (show w.heap.size + 4 ≤ X5.heap.size from HT.out.size)
              have HNE := Lib.hid (show X5.heap.size ≠ q ∨ q ≠ X5.heap.size by have h1 := (Array.getElem?_eq_some_iff.1 HPq.out).1; omega)
              replace HPq := Lib.hid (row_next HPq.out (below_boxC X5 boxDn))
              replace HOK2 := Lib.hid (HOK2.out.add (T := (fun j : Nat => j = X5.heap.size ∨ j = q)) boxDn (fun k hk => hk.symm))
              replace HOK4 := Lib.hid (HOK4.out.add (T := (fun j : Nat => j = X5.heap.size ∨ j = q)) boxDn (fun k hk => hk.symm))
              replace HT := Lib.hid (HT.out.next (below_boxC X5 boxDn))
              refine held_go hK' (HT.out) ?_
              try simp only [Act.put, List.setIfInBounds_toArray, List.set_cons_zero, List.set_cons_succ]
              generalize World.alloc X5 _ = X6 at *
              generalize X5.heap.size = p at *
              clear hS0
              have hS0 := HT.out
              refine held_call (i := 14) rfl (by kernel_rfl) (by rfl) (fun K' hK' => ?_)
              refine oper_store_dn (.tmp 9) (.tmp 24) rfl p rfl r.d r.c ad2 n2 cap2 zd2 zn2 zc2 r.t r.e rfl HPp.out ?_
              refine held_go hK' (HT.out.far HNp.out _) ?_
              try simp only [Act.put, List.setIfInBounds_toArray, List.set_cons_zero, List.set_cons_succ]
              have HSB := Lib.hid (st_fin HPp.out HPq.out HNE.out HOK2.out HOK4.out HNp.out HNq.out HT.out)
              clear hS0
              have hS0 := HT.out.far HNp.out (dnK r.d r.c ad2 n2 cap2 zd2 zn2 zc2 r.t r.e)
              replace HPq := Lib.hid (st_far HPq.out HNE.out (dnK r.d r.c ad2 n2 cap2 zd2 zn2 zc2 r.t r.e))
              refine held_call (i := 15) rfl (by kernel_rfl) (by rfl) (fun K' hK' => ?_)
              refine oper_store_dn (.tmp 10) (.tmp 30) rfl q rfl r.d r.c ad4 n4 cap4 zd4 zn4 zc4 r.t r.e rfl HPq.out ?_
              refine held_go hK' (HSB.out.b) ?_
              try simp only [Act.put, List.setIfInBounds_toArray, List.set_cons_zero, List.set_cons_succ]
              refine wpAnyH_done (by kernel_rfl) ?_ _
              refine NoPanic.normal ?_
              go_wp2_with fail
              go_meet
              exact ⟨p, q, ad2, n2, cap2, zd2, zn2, zc2, ad4, n4, cap4, zd4, zn4, zc4, rfl, rfl, HSB⟩
            · skip
              go_simp
              have HPp := Lib.hid (heap_alloc_new X4 boxDn)
              have HNp := Lib.hid (show w.heap.size + 4 ≤ X4.heap.size from HT.out.size)
              have HNE := Lib.hid (show X4.heap.size ≠ q ∨ q ≠ X4.heap.size by have h1 := (Array.getElem?_eq_some_iff.1 HPq.out).1; omega)
              replace HPq := Lib.hid (row_next HPq.out (below_boxC X4 boxDn))
              replace HOK2 := Lib.hid (HOK2.out.add (T := (fun j : Nat => j = X4.heap.size ∨ j = q)) boxDn (fun k hk => hk.symm))
              replace HI3 := Lib.hid (HI3.out.below (below_boxC X4 boxDn))
              replace HK3 := Lib.hid (HK3.out.add (T := (fun j : Nat => j = X4.heap.size ∨ j = q)) boxDn (fun k hk => hk.symm))
              replace HT := Lib.hid (HT.out.next (below_boxC X4 boxDn))
              refine held_go hK' (HT.out) ?_
              try simp only [Act.put, List.setIfInBounds_toArray, List.set_cons_zero, List.set_cons_succ]
              generalize World.alloc X4 _ = X5 at *
              generalize X4.heap.size = p at *
              clear hS0
              have hS0 := HT.out
              refine held_call (i := 11) rfl (by kernel_rfl) (by rfl) (fun K' hK' => ?_)
              go_simp
              refine (HDC.out X5 ad3 cap3 HI3.out (HZI.out.below HT.out.b)).mono ?_
              rintro e X6 hret
              obtain ⟨ad4, n4, cap4, zd4, zn4, zc4, rfl, hok, hb⟩ := DnOk.of (S := (fun j : Nat => j = p ∨ j = q)) hret HK3.out (fun k (hk : k = p ∨ k = q) => by have h_p := (Array.getElem?_eq_some_iff.1 HPp.out).1; have h_q := (Array.getElem?_eq_some_iff.1 HPq.out).1; omega)
              have HOK4 := Lib.hid hok
              clear hret hok HI3 HK3
              replace HPq := Lib.hid (row_next HPq.out hb)
              replace HPp := Lib.hid (row_next HPp.out hb)
              replace HOK2 := Lib.hid (HOK2.out.below hb)
              replace HT := Lib.hid (HT.out.next hb)
              refine held_go hK' (HT.out) ?_
              try simp only [Act.put, List.setIfInBounds_toArray, List.set_cons_zero, List.set_cons_succ]
              clear hS0
              have hS0 := HT.out
              clear hb
              refine held_call (i := 14) rfl (by kernel_rfl) (by rfl) (fun K' hK' => ?_)
              refine oper_store_dn (.tmp 9) (.tmp 24) rfl p rfl r.d r.c ad2 n2 cap2 zd2 zn2 zc2 r.t r.e rfl HPp.out ?_
              refine held_go hK' (HT.out.far HNp.out _) ?_
              try simp only [Act.put, List.setIfInBounds_toArray, List.set_cons_zero, List.set_cons_succ]
              have HSB := Lib.hid (st_fin HPp.out HPq.out HNE.out HOK2.out HOK4.out HNp.out HNq.out HT.out)
              clear hS0
              have hS0 := HT.out.far HNp.out (dnK r.d r.c ad2 n2 cap2 zd2 zn2 zc2 r.t r.e)
              replace HPq := Lib.hid (st_far HPq.out HNE.out (dnK r.d r.c ad2 n2 cap2 zd2 zn2 zc2 r.t r.e))
              refine held_call (i := 15) rfl (by kernel_rfl) (by rfl) (fun K' hK' => ?_)
              refine oper_store_dn (.tmp 10) (.tmp 30) rfl q rfl r.d r.c ad4 n4 cap4 zd4 zn4 zc4 r.t r.e rfl HPq.out ?_
              refine held_go hK' (HSB.out.b) ?_
              try simp only [Act.put, List.setIfInBounds_toArray, List.set_cons_zero, List.set_cons_succ]
              refine wpAnyH_done (by kernel_rfl) ?_ _
              refine NoPanic.normal ?_
              go_wp2_with fail
              go_meet
              exact ⟨p, q, ad2, n2, cap2, zd2, zn2, zc2, ad4, n4, cap4, zd4, zn4, zc4, rfl, rfl, HSB⟩
          · skip
            go_simp
            have HPp := Lib.hid (heap_alloc_new X3 boxDn)
            have HNp := Lib.hid (show w.heap.size + 4 ≤ X3.heap.size from HT.out.size)
            have HNE := Lib.hid (show X3.heap.size ≠ q ∨ q ≠ X3.heap.size by have h1 := (Array.getElem?_eq_some_iff.1 HPq.out).1; omega)
            replace HPq := Lib.hid (row_next HPq.out (below_boxC X3 boxDn))
            replace HOK2 := Lib.hid (HOK2.out.add (T := (fun j : Nat => j = X3.heap.size ∨ j = q)) boxDn (fun k hk => hk.symm))
            replace HT := Lib.hid (HT.out.next (below_boxC X3 boxDn))
            refine held_go hK' (HT.out) ?_
            try simp only [Act.put, List.setIfInBounds_toArray, List.set_cons_zero, List.set_cons_succ]
            generalize World.alloc X3 _ = X4 at *
            generalize X3.heap.size = p at *
            clear hS0
            have hS0 := HT.out
            refine held_call (i := 9) rfl (by kernel_rfl) (by rfl) (fun K' hK' => ?_)
            go_simp
            refine (HCP.out X4 (HIN.out.below HT.out.b)).mono ?_
            rintro e X5 ⟨ad3, cap3, rfl, hi, hkf, hb⟩
            have HI3 := Lib.hid hi
            have HK3 := Lib.hid (show KnoS X5 (fun j : Nat => j = p ∨ j = q) ad3 c.l from KnoS.of_fr hkf (fun k (hk : k = p ∨ k = q) => by have h_p := (Array.getElem?_eq_some_iff.1 HPp.out).1; have h_q := (Array.getElem?_eq_some_iff.1 HPq.out).1; omega))
            clear hi hkf
            replace HPq := Lib.hid (row_next HPq.out hb)
            replace HPp := Lib.hid (row_next HPp.out hb)
            replace HOK2 := Lib.hid (HOK2.out.below hb)
            replace HT := Lib.hid (HT.out.next hb)
            refine held_go hK' (HT.out) ?_
            try simp only [Act.put, List.setIfInBounds_toArray, List.set_cons_zero, List.set_cons_succ]
            clear hS0
            have hS0 := HT.out
            clear hb
            refine held_call (i := 11) rfl (by kernel_rfl) (by rfl) (fun K' hK' => ?_)
            go_simp
            refine (HDC.out X5 ad3 cap3 HI3.out (HZI.out.below HT.out.b)).mono ?_
            rintro e X6 hret
            obtain ⟨ad4, n4, cap4, zd4, zn4, zc4, rfl, hok, hb⟩ := DnOk.of (S := (fun j : Nat => j = p ∨ j = q)) hret HK3.out (fun k (hk : k = p ∨ k = q) => by have h_p := (Array.getElem?_eq_some_iff.1 HPp.out).1; have h_q := (Array.getElem?_eq_some_iff.1 HPq.out).1; omega)
            have HOK4 := Lib.hid hok
            clear hret hok HI3 HK3
            replace HPq := Lib.hid (row_next HPq.out hb)
            replace HPp := Lib.hid (row_next HPp.out hb)
            replace HOK2 := Lib.hid (HOK2.out.below hb)
            replace HT := Lib.hid (HT.out.next hb)
            refine held_go hK' (HT.out) ?_
            try simp only [Act.put, List.setIfInBounds_toArray, List.set_cons_zero, List.set_cons_succ]
            clear hS0
            have hS0 := HT.out
            clear hb
            refine held_call (i := 14) rfl (by kernel_rfl) (by rfl) (fun K' hK' => ?_)
            refine oper_store_dn (.tmp 9) (.tmp 24) rfl p rfl r.d r.c ad2 n2 cap2 zd2 zn2 zc2 r.t r.e rfl HPp.out ?_
            refine held_go hK' (HT.out.far HNp.out _) ?_
            try simp only [Act.put, List.setIfInBounds_toArray, List.set_cons_zero, List.set_cons_succ]
            have HSB := Lib.hid (st_fin HPp.out HPq.out HNE.out HOK2.out HOK4.out HNp.out HNq.out HT.out)
            clear hS0
            have hS0 := HT.out.far HNp.out (dnK r.d r.c ad2 n2 cap2 zd2 zn2 zc2 r.t r.e)
            replace HPq := Lib.hid (st_far HPq.out HNE.out (dnK r.d r.c ad2 n2 cap2 zd2 zn2 zc2 r.t r.e))
            refine held_call (i := 15) rfl (by kernel_rfl) (by rfl) (fun K' hK' => ?_)
            refine oper_store_dn (.tmp 10) (.tmp 30) rfl q rfl r.d r.c ad4 n4 cap4 zd4 zn4 zc4 r.t r.e rfl HPq.out ?_
            refine held_go hK' (HSB.out.b) ?_
            try simp only [Act.put, List.setIfInBounds_toArray, List.set_cons_zero, List.set_cons_succ]
            refine wpAnyH_done (by kernel_rfl) ?_ _
            refine NoPanic.normal ?_
            go_wp2_with fail
            go_meet
            exact ⟨p, q, ad2, n2, cap2, zd2, zn2, zc2, ad4, n4, cap4, zd4, zn4, zc4, rfl, rfl, HSB⟩
        · skip
          go_simp
          have HPp := Lib.hid (heap_alloc_new X2 boxDn)
          have HNp := Lib.hid (show w.heap.size + 4 ≤ X2.heap.size from HT.out.size)
          have HNE := Lib.hid (show X2.heap.size ≠ q ∨ q ≠ X2.heap.size by have h1 := (Array.getElem?_eq_some_iff.1 HPq.out).1; omega)
          replace HPq := Lib.hid (row_next HPq.out (below_boxC X2 boxDn))
          replace HI1 := Lib.hid (HI1.out.below (below_boxC X2 boxDn))
          replace HK1 := Lib.hid (HK1.out.add (T := (fun j : Nat => j = X2.heap.size ∨ j = q)) boxDn (fun k hk => hk.symm))
          replace HT := Lib.hid (HT.out.next (below_boxC X2 boxDn))
          refine held_go hK' (HT.out) ?_
          try simp only [Act.put, List.setIfInBounds_toArray, List.set_cons_zero, List.set_cons_succ]
          generalize World.alloc X2 _ = X3 at *
          generalize X2.heap.size = p at *
          clear hS0
          have hS0 := HT.out
          refine held_call (i := 5) rfl (by kernel_rfl) (by rfl) (fun K' hK' => ?_)
          go_simp
          refine (HPG.out X3 ad1 cap1 HI1.out (HZI.out.below HT.out.b)).mono ?_
          rintro e X4 hret
          obtain ⟨ad2, n2, cap2, zd2, zn2, zc2, rfl, hok, hb⟩ := DnOk.of (S := (fun j : Nat => j = p ∨ j = q)) hret HK1.out (fun k (hk : k = p ∨ k = q) => by have h_p := (Array.getElem?_eq_some_iff.1 HPp.out).1; have h_q := (Array.getElem?_eq_some_iff.1 HPq.out).1; omega)
          have HOK2 := Lib.hid hok
          clear hret hok HI1 HK1
          replace HPq := Lib.hid (row_next HPq.out hb)
          replace HPp := Lib.hid (row_next HPp.out hb)
          replace HT := Lib.hid (HT.out.next hb)
          refine held_go hK' (HT.out) ?_
          try simp only [Act.put, List.setIfInBounds_toArray, List.set_cons_zero, List.set_cons_succ]
          clear hS0
          have hS0 := HT.out
          clear hb
          refine held_call (i := 9) rfl (by kernel_rfl) (by rfl) (fun K' hK' => ?_)
          go_simp
          refine (HCP.out X4 (HIN.out.below HT.out.b)).mono ?_
          rintro e X5 ⟨ad3, cap3, rfl, hi, hkf, hb⟩
          have HI3 := Lib.hid hi
          have HK3 := Lib.hid (show KnoS X5 (fun j : Nat => j = p ∨ j = q) ad3 c.l from KnoS.of_fr hkf (fun k (hk : k = p ∨ k = q) => by have h_p := (Array.getElem?_eq_some_iff.1 HPp.out).1; have h_q := (Array.getElem?_eq_some_iff.1 HPq.out).1; omega))
          clear hi hkf
          replace HPq := Lib.hid (row_next HPq.out hb)
          replace HPp := Lib.hid (row_next HPp.out hb)
          replace HOK2 := Lib.hid (HOK2.out.below hb)
          replace HT := Lib.hid (HT.out.next hb)
          refine held_go hK' (HT.out) ?_
          try simp only [Act.put, List.setIfInBounds_toArray, List.set_cons_zero, List.set_cons_succ]
          clear hS0
          have hS0 := HT.out
          clear hb
          refine held_call (i := 11) rfl (by kernel_rfl) (by rfl) (fun K' hK' => ?_)
          go_simp
          refine (HDC.out X5 ad3 cap3 HI3.out (HZI.out.below HT.out.b)).mono ?_
          rintro e X6 hret
          obtain ⟨ad4, n4, cap4, zd4, zn4, zc4, rfl, hok, hb⟩ := DnOk.of (S := (fun j : Nat => j = p ∨ j = q)) hret HK3.out (fun k (hk : k = p ∨ k = q) => by have h_p := (Array.getElem?_eq_some_iff.1 HPp.out).1; have h_q := (Array.getElem?_eq_some_iff.1 HPq.out).1; omega)
          have HOK4 := Lib.hid hok
          clear hret hok HI3 HK3
          replace HPq := Lib.hid (row_next HPq.out hb)
          replace HPp := Lib.hid (row_next HPp.out hb)
          replace HOK2 := Lib.hid (HOK2.out.below hb)
          replace HT := Lib.hid (HT.out.next hb)
          refine held_go hK' (HT.out) ?_
          try simp only [Act.put, List.setIfInBounds_toArray, List.set_cons_zero, List.set_cons_succ]
          clear hS0
          have hS0 := HT.out
          clear hb
          refine held_call (i := 14) rfl (by kernel_rfl) (by rfl) (fun K' hK' => ?_)
          refine oper_store_dn (.tmp 9) (.tmp 24) rfl p rfl r.d r.c ad2 n2 cap2 zd2 zn2 zc2 r.t r.e rfl HPp.out ?_
          refine held_go hK' (HT.out.far HNp.out _) ?_
          try simp only [Act.put, List.setIfInBounds_toArray, List.set_cons_zero, List.set_cons_succ]
          have HSB := Lib.hid (st_fin HPp.out HPq.out HNE.out HOK2.out HOK4.out HNp.out HNq.out HT.out)
          clear hS0
          have hS0 := HT.out.far HNp.out (dnK r.d r.c ad2 n2 cap2 zd2 zn2 zc2 r.t r.e)
          replace HPq := Lib.hid (st_far HPq.out HNE.out (dnK r.d r.c ad2 n2 cap2 zd2 zn2 zc2 r.t r.e))
          refine held_call (i := 15) rfl (by kernel_rfl) (by rfl) (fun K' hK' => ?_)
          refine oper_store_dn (.tmp 10) (.tmp 30) rfl q rfl r.d r.c ad4 n4 cap4 zd4 zn4 zc4 r.t r.e rfl HPq.out ?_
          refine held_go hK' (HSB.out.b) ?_
          try simp only [Act.put, List.setIfInBounds_toArray, List.set_cons_zero, List.set_cons_succ]
          refine wpAnyH_done (by kernel_rfl) ?_ _
          refine NoPanic.normal ?_
          go_wp2_with fail
          go_meet
          exact ⟨p, q, ad2, n2, cap2, zd2, zn2, zc2, ad4, n4, cap4, zd4, zn4, zc4, rfl, rfl, HSB⟩
      · skip
        go_simp
        have HPp := Lib.hid (heap_alloc_new X1 boxDn)
        have HNp := Lib.hid (show w.heap.size + 4 ≤ X1.heap.size from HT.out.size)
        have HNE := Lib.hid (show X1.heap.size ≠ q ∨ q ≠ X1.heap.size by have h1 := (Array.getElem?_eq_some_iff.1 HPq.out).1; omega)
        replace HPq := Lib.hid (row_next HPq.out (below_boxC X1 boxDn))
        replace HT := Lib.hid (HT.out.next (below_boxC X1 boxDn))
        refine held_go hK' (HT.out) ?_
        try simp only [Act.put, List.setIfInBounds_toArray, List.set_cons_zero, List.set_cons_succ]
        generalize World.alloc X1 _ = X2 at *
        generalize X1.heap.size = p at *
        clear hS0
        have hS0 := HT.out
        refine held_call (i := 3) rfl (by kernel_rfl) (by rfl) (fun K' hK' => ?_)
        go_simp
        refine (HCP.out X2 (HIN.out.below HT.out.b)).mono ?_
        rintro e X3 ⟨ad1, cap1, rfl, hi, hkf, hb⟩
        have HI1 := Lib.hid hi
        have HK1 := Lib.hid (show KnoS X3 (fun j : Nat => j = p ∨ j = q) ad1 c.l from KnoS.of_fr hkf (fun k (hk : k = p ∨ k = q) => by have h_p := (Array.getElem?_eq_some_iff.1 HPp.out).1; have h_q := (Array.getElem?_eq_some_iff.1 HPq.out).1; omega))
        clear hi hkf
        replace HPq := Lib.hid (row_next HPq.out hb)
        replace HPp := Lib.hid (row_next HPp.out hb)
        replace HT := Lib.hid (HT.out.next hb)
        refine held_go hK' (HT.out) ?_
        try simp only [Act.put, List.setIfInBounds_toArray, List.set_cons_zero, List.set_cons_succ]
        clear hS0
        have hS0 := HT.out
        clear hb
        refine held_call (i := 5) rfl (by kernel_rfl) (by rfl) (fun K' hK' => ?_)
        go_simp
        refine (HPG.out X3 ad1 cap1 HI1.out (HZI.out.below HT.out.b)).mono ?_
        rintro e X4 hret
        obtain ⟨ad2, n2, cap2, zd2, zn2, zc2, rfl, hok, hb⟩ := DnOk.of (S := (fun j : Nat => j = p ∨ j = q)) hret HK1.out (fun k (hk : k = p ∨ k = q) => by have h_p := (Array.getElem?_eq_some_iff.1 HPp.out).1; have h_q := (Array.getElem?_eq_some_iff.1 HPq.out).1; omega)
        have HOK2 := Lib.hid hok
        clear hret hok HI1 HK1
        replace HPq := Lib.hid (row_next HPq.out hb)
        replace HPp := Lib.hid (row_next HPp.out hb)
        replace HT := Lib.hid (HT.out.next hb)
        refine held_go hK' (HT.out) ?_
        try simp only [Act.put, List.setIfInBounds_toArray, List.set_cons_zero, List.set_cons_succ]
        clear hS0
        have hS0 := HT.out
        clear hb
        refine held_call (i := 9) rfl (by kernel_rfl) (by rfl) (fun K' hK' => ?_)
        go_simp
        refine (HCP.out X4 (HIN.out.below HT.out.b)).mono ?_
        rintro e X5 ⟨ad3, cap3, rfl, hi, hkf, hb⟩
        have HI3 := Lib.hid hi
        have HK3 := Lib.hid (show KnoS X5 (fun j : Nat => j = p ∨ j = q) ad3 c.l from KnoS.of_fr hkf (fun k (hk : k = p ∨ k = q) => by have h_p := (Array.getElem?_eq_some_iff.1 HPp.out).1; have h_q := (Array.getElem?_eq_some_iff.1 HPq.out).1; omega))
        clear hi hkf
        replace HPq := Lib.hid (row_next HPq.out hb)
        replace HPp := Lib.hid (row_next HPp.out hb)
        replace HOK2 := Lib.hid (HOK2.out.below hb)
        replace HT := Lib.hid (HT.out.next hb)
        refine held_go hK' (HT.out) ?_
        try simp only [Act.put, List.setIfInBounds_toArray, List.set_cons_zero, List.set_cons_succ]
        clear hS0
        have hS0 := HT.out
        clear hb
        refine held_call (i := 11) rfl (by kernel_rfl) (by rfl) (fun K' hK' => ?_)
        go_simp
        refine (HDC.out X5 ad3 cap3 HI3.out (HZI.out.below HT.out.b)).mono ?_
        rintro e X6 hret
        obtain ⟨ad4, n4, cap4, zd4, zn4, zc4, rfl, hok, hb⟩ := DnOk.of (S := (fun j : Nat => j = p ∨ j = q)) hret HK3.out (fun k (hk : k = p ∨ k = q) => by have h_p := (Array.getElem?_eq_some_iff.1 HPp.out).1; have h_q := (Array.getElem?_eq_some_iff.1 HPq.out).1; omega)
        have HOK4 := Lib.hid hok
        clear hret hok HI3 HK3
        replace HPq := Lib.hid (row_next HPq.out hb)
        replace HPp := Lib.hid (row_next HPp.out hb)
        replace HOK2 := Lib.hid (HOK2.out.below hb)
        replace HT := Lib.hid (HT.out.next hb)
        refine held_go hK' (HT.out) ?_
        try simp only [Act.put, List.setIfInBounds_toArray, List.set_cons_zero, List.set_cons_succ]
        clear hS0
        have hS0 := HT.out
        clear hb
        refine held_call (i := 14) rfl (by kernel_rfl) (by rfl) (fun K' hK' => ?_)
        refine oper_store_dn (.tmp 9) (.tmp 24) rfl p rfl r.d r.c ad2 n2 cap2 zd2 zn2 zc2 r.t r.e rfl HPp.out ?_
        refine held_go hK' (HT.out.far HNp.out _) ?_
        try simp only [Act.put, List.setIfInBounds_toArray, List.set_cons_zero, List.set_cons_succ]
        have HSB := Lib.hid (st_fin HPp.out HPq.out HNE.out HOK2.out HOK4.out HNp.out HNq.out HT.out)
        clear hS0
        have hS0 := HT.out.far HNp.out (dnK r.d r.c ad2 n2 cap2 zd2 zn2 zc2 r.t r.e)
        replace HPq := Lib.hid (st_far HPq.out HNE.out (dnK r.d r.c ad2 n2 cap2 zd2 zn2 zc2 r.t r.e))
        refine held_call (i := 15) rfl (by kernel_rfl) (by rfl) (fun K' hK' => ?_)
        refine oper_store_dn (.tmp 10) (.tmp 30) rfl q rfl r.d r.c ad4 n4 cap4 zd4 zn4 zc4 r.t r.e rfl HPq.out ?_
        refine held_go hK' (HSB.out.b) ?_
        try simp only [Act.put, List.setIfInBounds_toArray, List.set_cons_zero, List.set_cons_succ]
        refine wpAnyH_done (by kernel_rfl) ?_ _
        refine NoPanic.normal ?_
        go_wp2_with fail
        go_meet
        exact ⟨p, q, ad2, n2, cap2, zd2, zn2, zc2, ad4, n4, cap4, zd4, zn4, zc4, rfl, rfl, HSB⟩
  case rest =>
    obtain ⟨p, q, ad2, n2, cap2, zd2, zn2, zc2, ad4, n4, cap4, zd4, zn4, zc4, rfl, rfl, hst⟩ := hcut
    have HST := Lib.hid hst.out.b
    have HX := Lib.hid hst.out.x
    have HY := Lib.hid hst.out.y
    have HOX := Lib.hid hst.out.okx
    have HOY := Lib.hid hst.out.oky
    clear hst HT HCP HPG HDC HIN HZI
    have HSC := Lib.hid (fun X (h : Below wc.heap.size wc X) => same_n (cap := cap2) (cap2 := cap4) HOX.out.nl HOY.out.nl X (HOX.out.k.below h).ki (HOY.out.k.below h).ki HLN.out.1)
    have HSL := Lib.hid (fun X (h : Below wc.heap.size wc X) => same_l (cap := zc2) (cap2 := zc4) HOX.out.zl HOY.out.zl X (HOX.out.z.below h).ki (HOY.out.z.below h).ki (by rw [HOX.out.zl]; exact HLN.out.2))
    have HDU := Lib.hid (fun X => due_any m d X)
    have HRDU := Lib.hid (fun X => rdue_any m d X)
    have HWO := Lib.hid (fun X => worn_any m c ad cap X)
    have HRWO := Lib.hid (fun X => rworn_any m c ad cap X)
    clear HOX HOY HLN
    generalize r.d = rdv at *
    generalize r.c = rcv at *
    generalize r.t = rt at *
    generalize r.e = re at *
    generalize r.l = rl at *
    go_wp2_with fail
    have HB1 := Lib.hid (Below.refl wc.heap.size wc).drew
    refine wp_region_noPanic ?_
    refine wp_region_held_drew (S := (fun X => Below wc.heap.size wc X)) (by kernel_rfl) (HB1.out) (fun hS0 => ?_)
    generalize World.drew wc = X0 at *
    refine held_take (i := 0) (v := ?_) rfl (by kernel_rfl) (by kernel_rfl) (by kernel_rfl) (fun _ _ _ h => h) (by rfl) ?_ (by assumption) ?_
    rotate_left
    · intro X hSX
      try dsimp only at hSX
      go_simp <;> with_reducible rfl
    simp only [Act.put, List.setIfInBounds_toArray, List.set_cons_zero, List.set_cons_succ]
    refine held_take (i := 2) (v := ?_) rfl (by kernel_rfl) (by kernel_rfl) (by kernel_rfl) (fun _ _ _ h => h) (by rfl) ?_ (by assumption) ?_
    rotate_left
    · intro X hSX
      try dsimp only at hSX
      go_simp <;> with_reducible rfl
    simp only [Act.put, List.setIfInBounds_toArray, List.set_cons_zero, List.set_cons_succ]
    refine held_take (i := 1) (v := ?_) rfl (by kernel_rfl) (by kernel_rfl) (by kernel_rfl) (fun _ _ _ h => h) (by rfl) ?_ (by assumption) ?_
    rotate_left
    · intro X hSX
      try dsimp only at hSX
      obtain ⟨_, -, -, -, -, -, -, -, -, -, -, -, -, -, -, -, -, -, -, -, -, -, x21⟩ := DnAt.of (row_next HX.out hSX)
      go_simp <;> with_reducible rfl
    simp only [Act.put, List.setIfInBounds_toArray, List.set_cons_zero, List.set_cons_succ]
    refine held_take (i := 3) (v := ?_) rfl (by kernel_rfl) (by kernel_rfl) (by kernel_rfl) (fun _ _ _ h => h) (by rfl) ?_ (by assumption) ?_
    rotate_left
    · intro X hSX
      try dsimp only at hSX
      obtain ⟨_, -, -, -, -, -, -, -, -, -, -, -, -, -, -, -, -, -, -, -, -, -, y21⟩ := DnAt.of (row_next HY.out hSX)
      go_simp <;> with_reducible rfl
    simp only [Act.put, List.setIfInBounds_toArray, List.set_cons_zero, List.set_cons_succ]
    refine held_take (i := 4) (v := ?_) rfl (by kernel_rfl) (by kernel_rfl) (by kernel_rfl) (fun _ _ _ h => h) (by rfl) ?_ (by assumption) ?_
    rotate_left
    · intro X hSX
      try dsimp only at hSX
      go_simp <;> with_reducible rfl
    simp only [Act.put, List.setIfInBounds_toArray, List.set_cons_zero, List.set_cons_succ]
    refine held_take (i := 5) (v := ?_) rfl (by kernel_rfl) (by kernel_rfl) (by kernel_rfl) (fun _ _ _ h => h) (by rfl) ?_ (by assumption) ?_
    rotate_left
    · intro X hSX
      try dsimp only at hSX
      go_simp <;> with_reducible rfl
    simp only [Act.put, List.setIfInBounds_toArray, List.set_cons_zero, List.set_cons_succ]
    refine held_take (i := 6) (v := ?_) rfl (by kernel_rfl) (by kernel_rfl) (by kernel_rfl) (fun _ _ _ h => h) (by rfl) ?_ (by assumption) ?_
    rotate_left
    · intro X hSX
      try dsimp only at hSX
      go_simp <;> with_reducible rfl
    simp only [Act.put, List.setIfInBounds_toArray, List.set_cons_zero, List.set_cons_succ]
    refine held_take (i := 8) (v := ?_) rfl (by kernel_rfl) (by kernel_rfl) (by kernel_rfl) (fun _ _ _ h => h) (by rfl) ?_ (by assumption) ?_
    rotate_left
    · intro X hSX
      try dsimp only at hSX
      go_simp <;> with_reducible rfl
    simp only [Act.put, List.setIfInBounds_toArray, List.set_cons_zero, List.set_cons_succ]
    refine held_take (i := 7) (v := ?_) rfl (by kernel_rfl) (by kernel_rfl) (by kernel_rfl) (fun _ _ _ h => h) (by rfl) ?_ (by assumption) ?_
    rotate_left
    · intro X hSX
      try dsimp only at hSX
      obtain ⟨_, x0, x1, x2, x3, x4, x5, -, -, -, -, -, -, -, -, -, -, -, -, -, -, -, -⟩ := DnAt.of (row_next HX.out hSX)
      go_simp <;> with_reducible rfl
    simp only [Act.put, List.setIfInBounds_toArray, List.set_cons_zero, List.set_cons_succ]
    refine held_take (i := 9) (v := ?_) rfl (by kernel_rfl) (by kernel_rfl) (by kernel_rfl) (fun _ _ _ h => h) (by rfl) ?_ (by assumption) ?_
    rotate_left
    · intro X hSX
      try dsimp only at hSX
      obtain ⟨_, y0, y1, y2, y3, y4, y5, -, -, -, -, -, -, -, -, -, -, -, -, -, -, -, -⟩ := DnAt.of (row_next HY.out hSX)
      go_simp <;> with_reducible rfl
    simp only [Act.put, List.setIfInBounds_toArray, List.set_cons_zero, List.set_cons_succ]
    refine held_take (i := 10) (v := ?_) rfl (by kernel_rfl) (by kernel_rfl) (by kernel_rfl) (fun _ _ _ h => h) (by rfl) ?_ (by assumption) ?_
    rotate_left
    · intro X hSX
      try dsimp only at hSX
      go_simp <;> with_reducible rfl
    simp only [Act.put, List.setIfInBounds_toArray, List.set_cons_zero, List.set_cons_succ]
    refine held_take (i := 11) (v := ?_) rfl (by kernel_rfl) (by kernel_rfl) (by kernel_rfl) (fun _ _ _ h => h) (by rfl) ?_ (by assumption) ?_
    rotate_left
    · intro X hSX
      try dsimp only at hSX
      go_simp <;> with_reducible rfl
    simp only [Act.put, List.setIfInBounds_toArray, List.set_cons_zero, List.set_cons_succ]
    refine held_take (i := 12) (v := ?_) rfl (by kernel_rfl) (by kernel_rfl) (by kernel_rfl) (fun _ _ _ h => h) (by rfl) ?_ (by assumption) ?_
    rotate_left
    · intro X hSX
      try dsimp only at hSX
      go_simp <;> with_reducible rfl
    simp only [Act.put, List.setIfInBounds_toArray, List.set_cons_zero, List.set_cons_succ]
    refine held_take (i := 13) (v := ?_) rfl (by kernel_rfl) (by kernel_rfl) (by kernel_rfl) (fun _ _ _ h => h) (by rfl) ?_ (by assumption) ?_
    rotate_left
    · intro X hSX
      try dsimp only at hSX
      go_simp <;> with_reducible rfl
    simp only [Act.put, List.setIfInBounds_toArray, List.set_cons_zero, List.set_cons_succ]
    refine held_take (i := 15) (v := ?_) rfl (by kernel_rfl) (by kernel_rfl) (by kernel_rfl) (fun _ _ _ h => h) (by rfl) ?_ (by assumption) ?_
    rotate_left
    · intro X hSX
      try dsimp only at hSX
      go_simp <;> with_reducible rfl
    simp only [Act.put, List.setIfInBounds_toArray, List.set_cons_zero, List.set_cons_succ]
    refine held_take (i := 14) (v := ?_) rfl (by kernel_rfl) (by kernel_rfl) (by kernel_rfl) (fun _ _ _ h => h) (by rfl) ?_ (by assumption) ?_
    rotate_left
    · intro X hSX
      try dsimp only at hSX
      obtain ⟨_, -, -, -, -, -, -, x6, x7, x8, x9, x10, x11, x12, x13, x14, x15, x16, x17, x18, -, -, -⟩ := DnAt.of (row_next HX.out hSX)
      go_simp <;> with_reducible rfl
    simp only [Act.put, List.setIfInBounds_toArray, List.set_cons_zero, List.set_cons_succ]
    refine held_take (i := 16) (v := ?_) rfl (by kernel_rfl) (by kernel_rfl) (by kernel_rfl) (fun _ _ _ h => h) (by rfl) ?_ (by assumption) ?_
    rotate_left
    · intro X hSX
      try dsimp only at hSX
      obtain ⟨_, -, -, -, -, -, -, y6, y7, y8, y9, y10, y11, y12, y13, y14, y15, y16, y17, y18, -, -, -⟩ := DnAt.of (row_next HY.out hSX)
      go_simp <;> with_reducible rfl
    simp only [Act.put, List.setIfInBounds_toArray, List.set_cons_zero, List.set_cons_succ]
    refine held_call (i := 17) rfl (by kernel_rfl) (by rfl) (fun K' hK' => ?_)
    go_simp
    refine (HSC.out X0 HB1.out).mono ?_
    rintro e X1 ⟨rfl, hb⟩
    have HB2 := Lib.hid (HB1.out.trans (hb.mono HB1.out.size))
    refine held_go hK' (HB2.out) ?_
    try simp only [Act.put, List.setIfInBounds_toArray, List.set_cons_zero, List.set_cons_succ]
    clear hb hS0 HB1 HSC
    have hS0 := HB2.out
    refine held_take (i := 18) (v := ?_) rfl (by kernel_rfl) (by kernel_rfl) (by kernel_rfl) (fun _ _ _ h => h) (by rfl) ?_ (by assumption) ?_
    rotate_left
    · intro X hSX
      try dsimp only at hSX
      go_simp <;> with_reducible rfl
    simp only [Act.put, List.setIfInBounds_toArray, List.set_cons_zero, List.set_cons_succ]
    refine held_take (i := 19) (v := ?_) rfl (by kernel_rfl) (by kernel_rfl) (by kernel_rfl) (fun _ _ _ h => h) (by rfl) ?_ (by assumption) ?_
    rotate_left
    · intro X hSX
      try dsimp only at hSX
      go_simp <;> with_reducible rfl
    simp only [Act.put, List.setIfInBounds_toArray, List.set_cons_zero, List.set_cons_succ]
    refine held_take (i := 20) (v := ?_) rfl (by kernel_rfl) (by kernel_rfl) (by kernel_rfl) (fun _ _ _ h => h) (by rfl) ?_ (by assumption) ?_
    rotate_left
    · intro X hSX
      try dsimp only at hSX
      go_simp <;> with_reducible rfl
    simp only [Act.put, List.setIfInBounds_toArray, List.set_cons_zero, List.set_cons_succ]
    refine held_take (i := 22) (v := ?_) rfl (by kernel_rfl) (by kernel_rfl) (by kernel_rfl) (fun _ _ _ h => h) (by rfl) ?_ (by assumption) ?_
    rotate_left
    · intro X hSX
      try dsimp only at hSX
      go_simp <;> with_reducible rfl
    simp only [Act.put, List.setIfInBounds_toArray, List.set_cons_zero, List.set_cons_succ]
    refine held_take (i := 21) (v := ?_) rfl (by kernel_rfl) (by kernel_rfl) (by kernel_rfl) (fun _ _ _ h => h) (by rfl) ?_ (by assumption) ?_
    rotate_left
    · intro X hSX
      try dsimp only at hSX
      obtain ⟨_, -, -, -, -, -, -, -, -, -, -, -, -, -, -, -, -, -, -, -, -, x20, -⟩ := DnAt.of (row_next HX.out hSX)
      go_simp <;> with_reducible rfl
    simp only [Act.put, List.setIfInBounds_toArray, List.set_cons_zero, List.set_cons_succ]
    refine held_take (i := 23) (v := ?_) rfl (by kernel_rfl) (by kernel_rfl) (by kernel_rfl) (fun _ _ _ h => h) (by rfl) ?_ (by assumption) ?_
    rotate_left
    · intro X hSX
      try dsimp only at hSX
      obtain ⟨_, -, -, -, -, -, -, -, -, -, -, -, -, -, -, -, -, -, -, -, -, y20, -⟩ := DnAt.of (row_next HY.out hSX)
      go_simp <;> with_reducible rfl
    simp only [Act.put, List.setIfInBounds_toArray, List.set_cons_zero, List.set_cons_succ]
    refine held_take (i := 24) (v := ?_) rfl (by kernel_rfl) (by kernel_rfl) (by kernel_rfl) (fun _ _ _ h => h) (by rfl) ?_ (by assumption) ?_
    rotate_left
    · intro X hSX
      try dsimp only at hSX
      go_simp <;> with_reducible rfl
    simp only [Act.put, List.setIfInBounds_toArray, List.set_cons_zero, List.set_cons_succ]
    refine held_take (i := 25) (v := ?_) rfl (by kernel_rfl) (by kernel_rfl) (by kernel_rfl) (fun _ _ _ h => h) (by rfl) ?_ (by assumption) ?_
    rotate_left
    · intro X hSX
      try dsimp only at hSX
      go_simp <;> with_reducible rfl
    simp only [Act.put, List.setIfInBounds_toArray, List.set_cons_zero, List.set_cons_succ]
    refine held_take (i := 26) (v := ?_) rfl (by kernel_rfl) (by kernel_rfl) (by kernel_rfl) (fun _ _ _ h => h) (by rfl) ?_ (by assumption) ?_
    rotate_left
    · intro X hSX
      try dsimp only at hSX
      go_simp <;> with_reducible rfl
    simp only [Act.put, List.setIfInBounds_toArray, List.set_cons_zero, List.set_cons_succ]
    refine held_take (i := 27) (v := ?_) rfl (by kernel_rfl) (by kernel_rfl) (by kernel_rfl) (fun _ _ _ h => h) (by rfl) ?_ (by assumption) ?_
    rotate_left
    · intro X hSX
      try dsimp only at hSX
      go_simp <;> with_reducible rfl
    simp only [Act.put, List.setIfInBounds_toArray, List.set_cons_zero, List.set_cons_succ]
    refine held_take (i := 29) (v := ?_) rfl (by kernel_rfl) (by kernel_rfl) (by kernel_rfl) (fun _ _ _ h => h) (by rfl) ?_ (by assumption) ?_
    rotate_left
    · intro X hSX
      try dsimp only at hSX
      go_simp <;> with_reducible rfl
    simp only [Act.put, List.setIfInBounds_toArray, List.set_cons_zero, List.set_cons_succ]
    refine held_take (i := 28) (v := ?_) rfl (by kernel_rfl) (by kernel_rfl) (by kernel_rfl) (fun _ _ _ h => h) (by rfl) ?_ (by assumption) ?_
    rotate_left
    · intro X hSX
      try dsimp only at hSX
      obtain ⟨_, -, -, -, -, -, -, -, -, -, -, -, -, -, -, -, -, -, -, -, x19, -, -⟩ := DnAt.of (row_next HX.out hSX)
      go_simp <;> with_reducible rfl
    simp only [Act.put, List.setIfInBounds_toArray, List.set_cons_zero, List.set_cons_succ]
    refine held_take (i := 30) (v := ?_) rfl (by kernel_rfl) (by kernel_rfl) (by kernel_rfl) (fun _ _ _ h => h) (by rfl) ?_ (by assumption) ?_
    rotate_left
    · intro X hSX
      try dsimp only at hSX
      obtain ⟨_, -, -, -, -, -, -, -, -, -, -, -, -, -, -, -, -, -, -, -, y19, -, -⟩ := DnAt.of (row_next HY.out hSX)
      go_simp <;> with_reducible rfl
    simp only [Act.put, List.setIfInBounds_toArray, List.set_cons_zero, List.set_cons_succ]
    refine held_call (i := 31) rfl (by kernel_rfl) (by rfl) (fun K' hK' => ?_)
    go_simp
    refine (HSL.out X1 HB2.out).mono ?_
    rintro e X2 ⟨rfl, hb⟩
    have HB3 := Lib.hid (HB2.out.trans (hb.mono HB2.out.size))
    refine held_go hK' (HB3.out) ?_
    try simp only [Act.put, List.setIfInBounds_toArray, List.set_cons_zero, List.set_cons_succ]
    clear hb hS0 HB2 HSL
    have hS0 := HB3.out
    refine held_take (i := 32) (v := ?_) rfl (by kernel_rfl) (by kernel_rfl) (by kernel_rfl) (fun _ _ _ h => h) (by rfl) ?_ (by assumption) ?_
    rotate_left
    · intro X hSX
      try dsimp only at hSX
      go_simp <;> with_reducible rfl
    simp only [Act.put, List.setIfInBounds_toArray, List.set_cons_zero, List.set_cons_succ]
    refine held_take (i := 33) (v := ?_) rfl (by kernel_rfl) (by kernel_rfl) (by kernel_rfl) (fun _ _ _ h => h) (by rfl) ?_ (by assumption) ?_
    rotate_left
    · intro X hSX
      try dsimp only at hSX
      go_simp <;> with_reducible rfl
    simp only [Act.put, List.setIfInBounds_toArray, List.set_cons_zero, List.set_cons_succ]
    refine held_take (i := 34) (v := ?_) rfl (by kernel_rfl) (by kernel_rfl) (by kernel_rfl) (fun _ _ _ h => h) (by rfl) ?_ (by assumption) ?_
    rotate_left
    · intro X hSX
      try dsimp only at hSX
      obtain ⟨_, m0, m1, m2, m3, m4⟩ := (HST.out.next hSX).m
      go_simp <;> with_reducible rfl
    simp only [Act.put, List.setIfInBounds_toArray, List.set_cons_zero, List.set_cons_succ]
    refine held_take (i := 37) (v := ?_) rfl (by kernel_rfl) (by kernel_rfl) (by kernel_rfl) (fun _ _ _ h => h) (by rfl) ?_ (by assumption) ?_
    rotate_left
    · intro X hSX
      try dsimp only at hSX
      obtain ⟨_, m0, m1, m2, m3, m4⟩ := (HST.out.next hSX).m
      go_simp <;> with_reducible rfl
    simp only [Act.put, List.setIfInBounds_toArray, List.set_cons_zero, List.set_cons_succ]
    refine held_take (i := 35) (v := ?_) rfl (by kernel_rfl) (by kernel_rfl) (by kernel_rfl) (fun _ _ _ h => h) (by rfl) ?_ (by assumption) ?_
    rotate_left
    · intro X hSX
      try dsimp only at hSX
      obtain ⟨_, d0, d1, d2, d3, d4, d5⟩ := (HST.out.next hSX).d
      go_simp <;> with_reducible rfl
    simp only [Act.put, List.setIfInBounds_toArray, List.set_cons_zero, List.set_cons_succ]
    refine held_take (i := 38) (v := ?_) rfl (by kernel_rfl) (by kernel_rfl) (by kernel_rfl) (fun _ _ _ h => h) (by rfl) ?_ (by assumption) ?_
    rotate_left
    · intro X hSX
      try dsimp only at hSX
      obtain ⟨_, d0, d1, d2, d3, d4, d5⟩ := (HST.out.next hSX).d
      go_simp <;> with_reducible rfl
    simp only [Act.put, List.setIfInBounds_toArray, List.set_cons_zero, List.set_cons_succ]
    refine held_call (i := 36) rfl (by kernel_rfl) (by rfl) (fun K' hK' => ?_)
    go_simp
    refine (HDU.out X2).mono ?_
    rintro e X3 ⟨rfl, hb⟩
    have HB4 := Lib.hid (HB3.out.trans (hb.mono HB3.out.size))
    refine held_go hK' (HB4.out) ?_
    try simp only [Act.put, List.setIfInBounds_toArray, List.set_cons_zero, List.set_cons_succ]
    clear hb hS0 HB3 HDU
    have hS0 := HB4.out
    refine held_call (i := 39) rfl (by kernel_rfl) (by rfl) (fun K' hK' => ?_)
    go_simp
    refine (HRDU.out X3).mono ?_
    rintro e X4 ⟨rfl, hb⟩
    have HB5 := Lib.hid (HB4.out.trans (hb.mono HB4.out.size))
    refine held_go hK' (HB5.out) ?_
    try simp only [Act.put, List.setIfInBounds_toArray, List.set_cons_zero, List.set_cons_succ]
    clear hb hS0 HB4 HRDU
    have hS0 := HB5.out
    refine held_take (i := 40) (v := ?_) rfl (by kernel_rfl) (by kernel_rfl) (by kernel_rfl) (fun _ _ _ h => h) (by rfl) ?_ (by assumption) ?_
    rotate_left
    · intro X hSX
      try dsimp only at hSX
      go_simp <;> with_reducible rfl
    simp only [Act.put, List.setIfInBounds_toArray, List.set_cons_zero, List.set_cons_succ]
    refine held_take (i := 41) (v := ?_) rfl (by kernel_rfl) (by kernel_rfl) (by kernel_rfl) (fun _ _ _ h => h) (by rfl) ?_ (by assumption) ?_
    rotate_left
    · intro X hSX
      try dsimp only at hSX
      go_simp <;> with_reducible rfl
    simp only [Act.put, List.setIfInBounds_toArray, List.set_cons_zero, List.set_cons_succ]
    refine held_take (i := 42) (v := ?_) rfl (by kernel_rfl) (by kernel_rfl) (by kernel_rfl) (fun _ _ _ h => h) (by rfl) ?_ (by assumption) ?_
    rotate_left
    · intro X hSX
      try dsimp only at hSX
      go_simp <;> with_reducible rfl
    simp only [Act.put, List.setIfInBounds_toArray, List.set_cons_zero, List.set_cons_succ]
    refine held_take (i := 43) (v := ?_) rfl (by kernel_rfl) (by kernel_rfl) (by kernel_rfl) (fun _ _ _ h => h) (by rfl) ?_ (by assumption) ?_
    rotate_left
    · intro X hSX
      try dsimp only at hSX
      obtain ⟨_, m0, m1, m2, m3, m4⟩ := (HST.out.next hSX).m
      go_simp <;> with_reducible rfl
    simp only [Act.put, List.setIfInBounds_toArray, List.set_cons_zero, List.set_cons_succ]
    refine held_take (i := 46) (v := ?_) rfl (by kernel_rfl) (by kernel_rfl) (by kernel_rfl) (fun _ _ _ h => h) (by rfl) ?_ (by assumption) ?_
    rotate_left
    · intro X hSX
      try dsimp only at hSX
      obtain ⟨_, m0, m1, m2, m3, m4⟩ := (HST.out.next hSX).m
      go_simp <;> with_reducible rfl
    simp only [Act.put, List.setIfInBounds_toArray, List.set_cons_zero, List.set_cons_succ]
    refine held_take (i := 44) (v := ?_) rfl (by kernel_rfl) (by kernel_rfl) (by kernel_rfl) (fun _ _ _ h => h) (by rfl) ?_ (by assumption) ?_
    rotate_left
    · intro X hSX
      try dsimp only at hSX
      obtain ⟨_, k0, k1, k2, k3, k4, k5, k6, k7, k8, k9, k10, k11, k12⟩ := (HST.out.next hSX).c
      go_simp <;> with_reducible rfl
    simp only [Act.put, List.setIfInBounds_toArray, List.set_cons_zero, List.set_cons_succ]
    refine held_take (i := 47) (v := ?_) rfl (by kernel_rfl) (by kernel_rfl) (by kernel_rfl) (fun _ _ _ h => h) (by rfl) ?_ (by assumption) ?_
    rotate_left
    · intro X hSX
      try dsimp only at hSX
      obtain ⟨_, k0, k1, k2, k3, k4, k5, k6, k7, k8, k9, k10, k11, k12⟩ := (HST.out.next hSX).c
      go_simp <;> with_reducible rfl
    simp only [Act.put, List.setIfInBounds_toArray, List.set_cons_zero, List.set_cons_succ]
    refine held_call (i := 45) rfl (by kernel_rfl) (by rfl) (fun K' hK' => ?_)
    go_simp
    refine (HWO.out X4).mono ?_
    rintro e X5 ⟨rfl, hb⟩
    have HB6 := Lib.hid (HB5.out.trans (hb.mono HB5.out.size))
    refine held_go hK' (HB6.out) ?_
    try simp only [Act.put, List.setIfInBounds_toArray, List.set_cons_zero, List.set_cons_succ]
    clear hb hS0 HB5 HWO
    have hS0 := HB6.out
    refine held_call (i := 48) rfl (by kernel_rfl) (by rfl) (fun K' hK' => ?_)
    go_simp
    refine (HRWO.out X5).mono ?_
    rintro e X6 ⟨rfl, hb⟩
    have HB7 := Lib.hid (HB6.out.trans (hb.mono HB6.out.size))
    refine held_go hK' (HB7.out) ?_
    try simp only [Act.put, List.setIfInBounds_toArray, List.set_cons_zero, List.set_cons_succ]
    clear hb hS0 HB6 HRWO
    have hS0 := HB7.out
    refine held_take (i := 49) (v := ?_) rfl (by kernel_rfl) (by kernel_rfl) (by kernel_rfl) (fun _ _ _ h => h) (by rfl) ?_ (by assumption) ?_
    rotate_left
    · intro X hSX
      try dsimp only at hSX
      go_simp <;> with_reducible rfl
    simp only [Act.put, List.setIfInBounds_toArray, List.set_cons_zero, List.set_cons_succ]
    refine held_take (i := 50) (v := ?_) rfl (by kernel_rfl) (by kernel_rfl) (by kernel_rfl) (fun _ _ _ h => h) (by rfl) ?_ (by assumption) ?_
    rotate_left
    · intro X hSX
      try dsimp only at hSX
      go_simp <;> with_reducible rfl
    simp only [Act.put, List.setIfInBounds_toArray, List.set_cons_zero, List.set_cons_succ]
    refine held_take (i := 51) (v := ?_) rfl (by kernel_rfl) (by kernel_rfl) (by kernel_rfl) (fun _ _ _ h => h) (by rfl) ?_ (by assumption) ?_
    rotate_left
    · intro X hSX
      try dsimp only at hSX
      go_simp <;> with_reducible rfl
    simp only [Act.put, List.setIfInBounds_toArray, List.set_cons_zero, List.set_cons_succ]
    refine wpAnyH_done (by kernel_rfl) ?_ _
    refine NoPanic.normal ?_
    clear hS0
    go_wp2_with fail
    go_ret
    exact ⟨rfl, HST.out.b.trans (HB7.out.mono HST.out.b.size)⟩
end Go.Proofs.Ytogeenihpcbbcaa
