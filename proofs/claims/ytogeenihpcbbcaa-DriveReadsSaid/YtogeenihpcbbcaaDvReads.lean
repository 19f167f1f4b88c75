/-
  DriveReads: what is written at the head is read again.
-/
import Derived.Test.YtogeenihpcbbcaaQBase
import Derived.Test.YtogeenihpcbbcaaDvMath
import Derived.Deep.DeepCutAuto
import Derived.Deep.LoopGhost
namespace Go.Proofs.Ytogeenihpcbbcaa
open Go.RowKit
set_option linter.unusedVariables false
set_option linter.unusedSimpArgs false
set_option maxRecDepth 100000
abbrev boxDy : Obj := .cells #[.int .i64 0, .string ⟨#[]⟩, .int .i64 0, .int .i64 0, .int .i64 0, .int .i64 0] 25
abbrev boxKy : Obj := .cells #[.string ⟨#[]⟩, .int .i64 0, .int .i64 0, .int .i64 0, .int .i64 0, .int .i64 0, .int .i64 0, .bool false, .bool false, .slice none 0 0, .int .i64 0, .int .i64 0, .int .i64 0] 30
/-- the boxes of the drive and of the cartridge, and where its blocks lie -/
structure Rs (w X : World) (L : List (Array Value × TypeId)) (p q : Nat) (d : Drv) (c : Crt) (ad : Option Addr) (cap : Nat) : Prop where
  x : X.heap[p]? = some (.cells (drK d) 25 (0, 0))
  y : X.heap[q]? = some (.cells (crQ c ad cap) 30 (0, 0))
  ne : p ≠ q ∨ q ≠ p
  k : KnoS X (fun j : Nat => j = p ∨ j = q) ad c.l
  e : c.l.length ≤ cap ∧ cap ≤ maxLen ∧ (ad = none → cap = 0) ∧ c.bc.size ≤ maxLen
  np : w.heap.size + L.length ≤ p
  nq : w.heap.size + L.length ≤ q
  b : Bx w X L
section
variable {w X Y : World} {L : List (Array Value × TypeId)} {p q : Nat} {d d2 : Drv} {c c2 : Crt} {ad ad2 : Option Addr} {cap cap2 : Nat}
theorem Rs.i (h : Rs w X L p q d c ad cap) : CrIn X c ad cap := ⟨h.k.ki, h.e.1, h.e.2.1, h.e.2.2.1, h.e.2.2.2⟩
theorem Rs.next (h : Rs w X L p q d c ad cap) (hb : Below X.heap.size X Y) : Rs w Y L p q d c ad cap := ⟨row_next h.x hb, row_next h.y hb, h.ne, h.k.below hb, h.e, h.np, h.nq, h.b.next hb⟩
theorem Rs.lt (h : Rs w X L p q d c ad cap) : ∀ k, (fun j : Nat => j = p ∨ j = q) k → k < X.heap.size := fun k hk => by
  rcases hk with h1 | h1
  · rw [h1]; exact (Array.getElem?_eq_some_iff.1 h.x).1
  · rw [h1]; exact (Array.getElem?_eq_some_iff.1 h.y).1
/-- a call has handed back a drive and a cartridge -/
theorem Rs.call (h : Rs w X L p q d c ad cap) (hb : Below X.heap.size X Y) (hk : KpS X ad c.l Y ad2 c2.l) (hi : CrIn Y c2 ad2 cap2) : Rs w ((Y.setRow p (drK d2)).setRow q (crQ c2 ad2 cap2)) L p q d2 c2 ad2 cap2 := by
  have h2 := h.next hb
  have hne := h.ne
  refine ⟨?_, ?_, h.ne, ((hk _ h.lt h.k).row (.inl rfl)).row (.inr rfl), ⟨hi.le, hi.mx, hi.nn, hi.bs⟩, h.np, h.nq, (h2.b.far h.np _).far h.nq _⟩
  · rw [setRow_other _ _ _ _ (by omega)]; exact setRow_heap _ _ _ _ _ _ h2.x
  · exact setRow_heap _ _ _ _ _ _ (by rw [setRow_other _ _ _ _ (by omega)]; exact h2.y)
theorem Rs.r3 (h : Rs w X L p q d c ad cap) (hb : Below X.heap.size X Y) : Y.heap[p]? = some (.cells (drK d) 25 (0, 0)) := row_next h.x hb
theorem Rs.r4 (h : Rs w X L p q d c ad cap) (hb : Below X.heap.size X Y) (cs : Array Value) : (Y.setRow p cs).heap[q]? = some (.cells (crQ c ad cap) 30 (0, 0)) := by
  have hne := h.ne
  rw [setRow_other _ _ _ _ (by omega)]; exact row_next h.y hb
/-- a read's results: the drive over the old one, the cartridge in a new box, the blocks that were read -/
theorem Rs.rd {bd : Option Addr} {z : List Blk} {cs : Array Value} (h : Rs w X L p q d c ad cap) (hb : Below X.heap.size X Y) (hk : Kfr Y X.heap.size bd z) :
    (((Y.alloc (.cells (crK ⟨#[]⟩ 0 0 0 0 0 0 false false none 0 0 0 0 0) 30)).setRow p (drK d2)).setRow Y.heap.size cs).heap[p]? = some (.cells (drK d2) 25 (0, 0)) ∧
    Bx w (((Y.alloc (.cells (crK ⟨#[]⟩ 0 0 0 0 0 0 false false none 0 0 0 0 0) 30)).setRow p (drK d2)).setRow Y.heap.size cs) L ∧
    Ki (((Y.alloc (.cells (crK ⟨#[]⟩ 0 0 0 0 0 0 false false none 0 0 0 0 0) 30)).setRow p (drK d2)).setRow Y.heap.size cs) bd z := by
  have hp := (Array.getElem?_eq_some_iff.1 h.x).1
  have hs := hb.size
  have h2 := (h.next hb).next (below_boxC Y (.cells (crK ⟨#[]⟩ 0 0 0 0 0 0 false false none 0 0 0 0 0) 30))
  refine ⟨?_, (h2.b.far h.np _).far (by have := h.np; omega) _, ?_⟩
  · rw [setRow_other _ _ _ _ (by omega)]; exact setRow_heap _ _ _ _ _ _ h2.x
  · have h3 := (KnoS.of_fr (S := fun j : Nat => j = p) hk (fun k hk => by rw [hk]; exact hp)).add (.cells (crK ⟨#[]⟩ 0 0 0 0 0 0 false false none 0 0 0 0 0) 30) (T := fun k => k = p ∨ k = Y.heap.size) (fun k hk => hk)
    exact ((h3.row (g := p) (.inl rfl)).row (g := Y.heap.size) (.inr rfl)).ki
theorem rs_fin {r : Drv × Crt × Int × Int} (hp : X.heap[p]? = some (.cells (drK drZ) 25 (0, 0))) (hq : X.heap[q]? = some (.cells (crQ crZ none 0) 30 (0, 0))) (hne : p ≠ q ∨ q ≠ p) (hk : KnoS X (fun j : Nat => j = p ∨ j = q) ad2 r.2.1.l)
    (he : r.2.1.l.length ≤ cap2 ∧ cap2 ≤ maxLen ∧ (ad2 = none → cap2 = 0) ∧ r.2.1.bc.size ≤ maxLen) (hnp : w.heap.size + L.length ≤ p) (hnq : w.heap.size + L.length ≤ q) (hT : Bx w X L) : Rs w ((X.setRow p (drK r.1)).setRow q (crQ r.2.1 ad2 cap2)) L p q r.1 r.2.1 ad2 cap2 := by
  refine ⟨?_, ?_, hne, (hk.row (.inl rfl)).row (.inr rfl), he, hnp, hnq, (hT.far hnp _).far hnq _⟩
  · rw [setRow_other _ _ _ _ (by omega)]; exact setRow_heap _ _ _ _ _ _ hp
  · exact setRow_heap _ _ _ _ _ _ (by rw [setRow_other _ _ _ _ (by omega)]; exact hq)
theorem Bx.c1 {a : Array Value × TypeId} {L' : List (Array Value × TypeId)} {e : Crt} (h : Bx w X (a :: (crQ e ad cap, 30) :: L')) : CrAt X (w.heap.size + 1) e.bc e.W e.L e.S e.T e.J e.R e.wo e.lk ad e.l.length cap e.ep e.lo e.pa := CrAt.of (h.at_ 1 _ rfl)
end
attribute [local irreducible] fewB due worn mdlU drvU vldC ldU skU wrU rdU mvD mvC
set_option maxHeartbeats 16000000 in
theorem law_reads (m : Mdl) (c : Crt) (ad : Option Addr) (cap : Nat) (t : Int) (zd : Option Addr) (zn zc : Nat) (z : List Blk) (w : World) (hin : CrIn w c ad cap) (hz : Ki w zd z) (hzn : zn = z.length) (hzl : zn ≤ zc) (hzm : zc ≤ maxLen) (hznil : zd = none → zc = 0) (ht : -9223372036854775808 ≤ t ∧ t ≤ 9223372036854775807) :
    Calls Try.prog 6 #[mdV m, crV c ad cap, .int .i64 t, .slice zd zn zc] w fun e w' => e = .returned (.bool true) ∧ Below w.heap.size w w' := by
  subst hzn
  have HIN := Lib.hid hin
  have HZI := Lib.hid hz
  have HST := Lib.hid (show St4.In w ⟨0, 0, 0, z⟩ zd zc from ⟨hz, hzl, hzm, hznil, by show (-9223372036854775808 : Int) ≤ 0; omega, by show (0 : Int) ≤ 9223372036854775807; omega⟩)
  have HT := Lib.hid (show Bx w ((w.alloc (boxMx m)).alloc (boxCx c ad cap)) [(mdK m, 23), (crQ c ad cap, 30)] from Bx.start w [(mdK m, 23), (crQ c ad cap, 30)])
  clear hin hz
  go_enter Try.func6, Try.ntmps6
  go_wp2_with fail
  generalize World.alloc _ _ = Y0 at *
  refine (lives_any Y0).mono ?_
  rintro e Y1 ⟨rfl, hb⟩
  replace HT := Lib.hid (HT.out.next hb)
  clear hb
  obtain ⟨_, k0, k1, k2, k3, k4, k5, k6, k7, k8, k9, k10, k11, k12⟩ := HT.out.c1
  go_wp2_with fail
  clear k0 k1 k2 k3 k4 k5 k6 k7 k8 k9 k10 k11 k12
  have HA := Lib.hid (heap_alloc_new Y1 (boxCx c ad cap))
  have HS1 := Lib.hid (show (Y1.alloc (boxCx c ad cap)).heap.size = Y1.heap.size + 1 by simp)
  have hb1 := below_boxC Y1 (boxCx c ad cap)
  have HA2 := Lib.hid (row_next HA.out (below_boxC (Y1.alloc (boxCx c ad cap)) (.cells #[.int .i64 0, .int .i64 0, .int .i64 0, .slice zd z.length zc] 32)))
  have HB2 := Lib.hid (heap_alloc_new (Y1.alloc (boxCx c ad cap)) (.cells #[.int .i64 0, .int .i64 0, .int .i64 0, .slice zd z.length zc] 32))
  rw [HS1.out] at HB2
  replace HT := Lib.hid ((HT.out.next hb1).next (below_boxC (Y1.alloc (boxCx c ad cap)) (.cells #[.int .i64 0, .int .i64 0, .int .i64 0, .slice zd z.length zc] 32)))
  clear hb1
  generalize World.alloc (World.alloc Y1 _) _ = Y2 at HA2 HB2 HT ⊢
  generalize Y1.heap.size = ga at HA2 HB2 ⊢
  refine (few_any (some ⟨ga, 0, none⟩) 1 1 [c] (some ⟨ga + 1, 0, none⟩) 1 1 [⟨0, 0, 0, z⟩] 1 Y2 (kcs_one HA2.out (HIN.out.below HT.out.b)) rfl (ks4_one HB2.out (HST.out.below HT.out.b)) rfl (by decide) (by decide)).mono ?_
  rintro e Y3 ⟨rfl, hY⟩
  obtain rfl := hY.symm
  clear HA HS1 HA2 HB2 HST
  cases hfew : fewB [c] [⟨0, 0, 0, z⟩] 1
  · go_wp2
    go_ret
    exact ⟨rfl, HT.out.b⟩
  have hfw := fewB_iff.1 hfew
  have hoc := okC_iff.1 (hfw.2.1 c (by simp))
  have hzs : z.length ≤ 60 := (okS_iff.1 (hfw.2.2 ⟨0, 0, 0, z⟩ (by simp))).1
  have hcl : c.l.length ≤ 200 := hoc.1
  have HCP := Lib.hid (fun X h => rdcopied_any c ad cap X h (by omega) (fun b hb => by have := hoc.2 b hb; omega))
  have HLD := Lib.hid (fun X ad1 cap1 (h : CrIn X c ad1 cap1) => load_any m drZ c ad1 cap1 X h)
  have HLL := Lib.hid (fun h => ldU_l (m := m) (d := drZ) (c := c) h)
  clear hfew hfw hoc
  generalize ldU m drZ c = r at *
  go_upto_region 5 with fail
  go_cut [9, 10, 12] (fun s9 s10 s12 wx => ∃ p q ad2 cap2, s9 = .pointer (some ⟨p, 0, none⟩) ∧ s10 = .pointer (some ⟨q, 0, none⟩) ∧ s12 = .int .i64 r.2.2.2 ∧ Hid (Rs w wx [(mdK m, 23), (crQ c ad cap, 30)] p q r.1 r.2.1 ad2 cap2))
  case first =>
    replace HT := Lib.hid (HT.out.next (Below.refl Y2.heap.size Y2).drew)
    refine wp_region_noPanic ?_
    refine wp_region_held_drew (S := (fun X => Bx w X [(mdK m, 23), (crQ c ad cap, 30)])) (by kernel_rfl) (HT.out) (fun hS0 => ?_)
    generalize World.drew Y2 = X0 at *
    refine held_take (i := 0) (v := ?_) rfl (by kernel_rfl) (by kernel_rfl) (by kernel_rfl) (fun _ _ _ h => h) (by rfl) ?_ (by assumption) ?_
    rotate_left
    · intro X hSX
      try dsimp only at hSX
      obtain ⟨_, m0, m1, m2, m3, m4⟩ := hSX.m
      go_simp <;> with_reducible rfl
    simp only [Act.put, List.setIfInBounds_toArray, List.set_cons_zero, List.set_cons_succ]
    refine held_take (i := 1) (v := ?_) rfl (by kernel_rfl) (by kernel_rfl) (by kernel_rfl) (fun _ _ _ h => h) (by rfl) ?_ (by assumption) ?_
    rotate_left
    · intro X hSX
      try dsimp only at hSX
      go_simp <;> with_reducible rfl
    simp only [Act.put, List.setIfInBounds_toArray, List.set_cons_zero, List.set_cons_succ]
    refine held_take (i := 2) (v := ?_) rfl (by kernel_rfl) (by kernel_rfl) (by kernel_rfl) (fun _ _ _ h => h) (by rfl) ?_ (by assumption) ?_
    rotate_left
    · intro X hSX
      try dsimp only at hSX
      obtain ⟨_, k0, k1, k2, k3, k4, k5, k6, k7, k8, k9, k10, k11, k12⟩ := hSX.c1
      go_simp <;> with_reducible rfl
    simp only [Act.put, List.setIfInBounds_toArray, List.set_cons_zero, List.set_cons_succ]
    refine held_three (i := 3) (j := 10) (k := 11) rfl rfl rfl (by kernel_rfl) (by rfl) (by rfl) (by rfl) (fun K' hK' => ?_) (fun K' hK' => ?_) (fun K' hK' => ?_)
    · skip
      go_simp
      refine (HCP.out X0 (HIN.out.below HT.out.b)).mono ?_
      rintro e X1 ⟨ad1, cap1, rfl, hi, hkf, hb⟩
      have HI1 := Lib.hid hi
      have HK1 := Lib.hid (show KnoS X1 (fun j : Nat => False) ad1 c.l from KnoS.of_fr hkf (fun k (hk : False) => hk.elim))
      clear hi hkf
      replace HT := Lib.hid (HT.out.next hb)
      refine held_go hK' (HT.out) ?_
      try simp only [Act.put, List.setIfInBounds_toArray, List.set_cons_zero, List.set_cons_succ]
      clear hS0
      have hS0 := HT.out
      clear hb
      refine held_three (i := 4) (j := 10) (k := 11) rfl rfl rfl (by kernel_rfl) (by rfl) (by rfl) (by rfl) (fun K' hK' => ?_) (fun K' hK' => ?_) (fun K' hK' => ?_)
      · skip
        go_simp
        refine (HLD.out X1 ad1 cap1 HI1.out).mono ?_
        rintro e X2 ⟨ad2, cap2, rfl, hi2, hkp, hb⟩
        have HK2 := Lib.hid (show KnoS X2 (fun j : Nat => False) ad2 r.2.1.l from hkp _ (fun k (hk : False) => hk.elim) HK1.out)
        have HI2 := Lib.hid (show r.2.1.l.length ≤ cap2 ∧ cap2 ≤ maxLen ∧ (ad2 = none → cap2 = 0) ∧ r.2.1.bc.size ≤ maxLen from ⟨hi2.le, hi2.mx, hi2.nn, hi2.bs⟩)
        clear HI1 HK1 hi2 hkp
        replace HT := Lib.hid (HT.out.next hb)
        refine held_go hK' (HT.out) ?_
        try simp only [Act.put, List.setIfInBounds_toArray, List.set_cons_zero, List.set_cons_succ]
        clear hS0
        have hS0 := HT.out
        clear hb
        refine held_take (i := 5) (v := ?_) rfl (by kernel_rfl) (by kernel_rfl) (by kernel_rfl) (fun _ _ _ h => h) (by rfl) ?_ (by assumption) ?_
        rotate_left
        · intro X hSX
          try dsimp only at hSX
          go_simp <;> with_reducible rfl
        simp only [Act.put, List.setIfInBounds_toArray, List.set_cons_zero, List.set_cons_succ]
        refine held_take (i := 6) (v := ?_) rfl (by kernel_rfl) (by kernel_rfl) (by kernel_rfl) (fun _ _ _ h => h) (by rfl) ?_ (by assumption) ?_
        rotate_left
        · intro X hSX
          try dsimp only at hSX
          go_simp <;> with_reducible rfl
        simp only [Act.put, List.setIfInBounds_toArray, List.set_cons_zero, List.set_cons_succ]
        refine held_take (i := 7) (v := ?_) rfl (by kernel_rfl) (by kernel_rfl) (by kernel_rfl) (fun _ _ _ h => h) (by rfl) ?_ (by assumption) ?_
        rotate_left
        · intro X hSX
          try dsimp only at hSX
          go_simp <;> with_reducible rfl
        simp only [Act.put, List.setIfInBounds_toArray, List.set_cons_zero, List.set_cons_succ]
        refine held_take (i := 8) (v := ?_) rfl (by kernel_rfl) (by kernel_rfl) (by kernel_rfl) (fun _ _ _ h => h) (by rfl) ?_ (by assumption) ?_
        rotate_left
        · intro X hSX
          try dsimp only at hSX
          go_simp <;> with_reducible rfl
        simp only [Act.put, List.setIfInBounds_toArray, List.set_cons_zero, List.set_cons_succ]
        refine held_take (i := 9) (v := ?_) rfl (by kernel_rfl) (by kernel_rfl) (by kernel_rfl) (fun _ _ _ h => h) (by rfl) ?_ (by assumption) ?_
        rotate_left
        · intro X hSX
          try dsimp only at hSX
          go_simp <;> with_reducible rfl
        simp only [Act.put, List.setIfInBounds_toArray, List.set_cons_zero, List.set_cons_succ]
        refine held_two (i := 10) (j := 11) rfl rfl (by kernel_rfl) (by rfl) (by rfl) (fun K' hK' => ?_) (fun K' hK' => ?_)
        · skip
          go_simp
          have HPp := Lib.hid (heap_alloc_new X2 boxDy)
          have HNp := Lib.hid (show w.heap.size + 2 ≤ X2.heap.size from HT.out.size)
          replace HK2 := Lib.hid (HK2.out.add (T := (fun j : Nat => j = X2.heap.size)) boxDy (fun k hk => .inr hk))
          replace HT := Lib.hid (HT.out.next (below_boxC X2 boxDy))
          refine held_go hK' (HT.out) ?_
          try simp only [Act.put, List.setIfInBounds_toArray, List.set_cons_zero, List.set_cons_succ]
          generalize World.alloc X2 _ = X3 at *
          generalize X2.heap.size = p at *
          clear hS0
          have hS0 := HT.out
          refine held_call (i := 11) rfl (by kernel_rfl) (by rfl) (fun K' hK' => ?_)
          go_simp
          have HPq := Lib.hid (heap_alloc_new X3 boxKy)
          have HNq := Lib.hid (show w.heap.size + 2 ≤ X3.heap.size from HT.out.size)
          have HNE := Lib.hid (show p ≠ X3.heap.size ∨ X3.heap.size ≠ p by have h1 := (Array.getElem?_eq_some_iff.1 HPp.out).1; omega)
          replace HPp := Lib.hid (row_next HPp.out (below_boxC X3 boxKy))
          replace HK2 := Lib.hid (HK2.out.add (T := (fun j : Nat => j = p ∨ j = X3.heap.size)) boxKy (fun k hk => hk))
          replace HT := Lib.hid (HT.out.next (below_boxC X3 boxKy))
          refine held_go hK' (HT.out) ?_
          try simp only [Act.put, List.setIfInBounds_toArray, List.set_cons_zero, List.set_cons_succ]
          generalize World.alloc X3 _ = X4 at *
          generalize X3.heap.size = q at *
          clear hS0
          have hS0 := HT.out
          refine held_call (i := 12) rfl (by kernel_rfl) (by rfl) (fun K' hK' => ?_)
          refine oper_store_dr (.tmp 9) (.tmp 31) rfl p rfl r.1 rfl drZ HPp.out ?_
          refine held_go hK' (HT.out.far HNp.out _) ?_
          try simp only [Act.put, List.setIfInBounds_toArray, List.set_cons_zero, List.set_cons_succ]
          have HRS := Lib.hid (rs_fin HPp.out HPq.out HNE.out HK2.out HI2.out HNp.out HNq.out HT.out)
          replace HPq := Lib.hid (row_keep (cs := drK r.1) HPq.out (by have h1 := HNE.out; omega : q ≠ p))
          clear hS0
          have hS0 := HT.out.far HNp.out (drK r.1)
          refine held_call (i := 13) rfl (by kernel_rfl) (by rfl) (fun K' hK' => ?_)
          refine oper_store_cq (.tmp 10) (.tmp 32) rfl q rfl r.2.1 ad2 cap2 rfl crZ none 0 HPq.out ?_
          refine held_go hK' (HRS.out.b) ?_
          try simp only [Act.put, List.setIfInBounds_toArray, List.set_cons_zero, List.set_cons_succ]
          clear hS0
          have hS0 := HRS.out.b
          refine held_take (i := 14) (v := ?_) rfl (by kernel_rfl) (by kernel_rfl) (by kernel_rfl) (fun _ _ _ h => h) (by rfl) ?_ (by assumption) ?_
          rotate_left
          · intro X hSX
            try dsimp only at hSX
            go_simp <;> with_reducible rfl
          simp only [Act.put, List.setIfInBounds_toArray, List.set_cons_zero, List.set_cons_succ]
          refine held_take (i := 15) (v := ?_) rfl (by kernel_rfl) (by kernel_rfl) (by kernel_rfl) (fun _ _ _ h => h) (by rfl) ?_ (by assumption) ?_
          rotate_left
          · intro X hSX
            try dsimp only at hSX
            go_simp <;> with_reducible rfl
          simp only [Act.put, List.setIfInBounds_toArray, List.set_cons_zero, List.set_cons_succ]
          refine wpAnyH_done (by kernel_rfl) ?_ _
          refine NoPanic.normal ?_
          go_wp2_with fail
          go_meet
          exact ⟨p, q, ad2, cap2, rfl, rfl, rfl, HRS⟩
        · skip
          go_simp
          have HPq := Lib.hid (heap_alloc_new X2 boxKy)
          have HNq := Lib.hid (show w.heap.size + 2 ≤ X2.heap.size from HT.out.size)
          replace HK2 := Lib.hid (HK2.out.add (T := (fun j : Nat => j = X2.heap.size)) boxKy (fun k hk => .inr hk))
          replace HT := Lib.hid (HT.out.next (below_boxC X2 boxKy))
          refine held_go hK' (HT.out) ?_
          try simp only [Act.put, List.setIfInBounds_toArray, List.set_cons_zero, List.set_cons_succ]
          generalize World.alloc X2 _ = X3 at *
          generalize X2.heap.size = q at *
          clear hS0
          have hS0 := HT.out
          refine held_call (i := 10) rfl (by kernel_rfl) (by rfl) (fun K' hK' => ?_)
          go_simp
          have HPp := Lib.hid (heap_alloc_new X3 boxDy)
          have HNp := Lib.hid (show w.heap.size + 2 ≤ X3.heap.size from HT.out.size)
          have HNE := Lib.hid (show X3.heap.size ≠ q ∨ q ≠ X3.heap.size by have h1 := (Array.getElem?_eq_some_iff.1 HPq.out).1; omega)
          replace HPq := Lib.hid (row_next HPq.out (below_boxC X3 boxDy))
          replace HK2 := Lib.hid (HK2.out.add (T := (fun j : Nat => j = X3.heap.size ∨ j = q)) boxDy (fun k hk => hk.symm))
          replace HT := Lib.hid (HT.out.next (below_boxC X3 boxDy))
          refine held_go hK' (HT.out) ?_
          try simp only [Act.put, List.setIfInBounds_toArray, List.set_cons_zero, List.set_cons_succ]
          generalize World.alloc X3 _ = X4 at *
          generalize X3.heap.size = p at *
          clear hS0
          have hS0 := HT.out
          refine held_call (i := 12) rfl (by kernel_rfl) (by rfl) (fun K' hK' => ?_)
          refine oper_store_dr (.tmp 9) (.tmp 31) rfl p rfl r.1 rfl drZ HPp.out ?_
          refine held_go hK' (HT.out.far HNp.out _) ?_
          try simp only [Act.put, List.setIfInBounds_toArray, List.set_cons_zero, List.set_cons_succ]
          have HRS := Lib.hid (rs_fin HPp.out HPq.out HNE.out HK2.out HI2.out HNp.out HNq.out HT.out)
          replace HPq := Lib.hid (row_keep (cs := drK r.1) HPq.out (by have h1 := HNE.out; omega : q ≠ p))
          clear hS0
          have hS0 := HT.out.far HNp.out (drK r.1)
          refine held_call (i := 13) rfl (by kernel_rfl) (by rfl) (fun K' hK' => ?_)
          refine oper_store_cq (.tmp 10) (.tmp 32) rfl q rfl r.2.1 ad2 cap2 rfl crZ none 0 HPq.out ?_
          refine held_go hK' (HRS.out.b) ?_
          try simp only [Act.put, List.setIfInBounds_toArray, List.set_cons_zero, List.set_cons_succ]
          clear hS0
          have hS0 := HRS.out.b
          refine held_take (i := 14) (v := ?_) rfl (by kernel_rfl) (by kernel_rfl) (by kernel_rfl) (fun _ _ _ h => h) (by rfl) ?_ (by assumption) ?_
          rotate_left
          · intro X hSX
            try dsimp only at hSX
            go_simp <;> with_reducible rfl
          simp only [Act.put, List.setIfInBounds_toArray, List.set_cons_zero, List.set_cons_succ]
          refine held_take (i := 15) (v := ?_) rfl (by kernel_rfl) (by kernel_rfl) (by kernel_rfl) (fun _ _ _ h => h) (by rfl) ?_ (by assumption) ?_
          rotate_left
          · intro X hSX
            try dsimp only at hSX
            go_simp <;> with_reducible rfl
          simp only [Act.put, List.setIfInBounds_toArray, List.set_cons_zero, List.set_cons_succ]
          refine wpAnyH_done (by kernel_rfl) ?_ _
          refine NoPanic.normal ?_
          go_wp2_with fail
          go_meet
          exact ⟨p, q, ad2, cap2, rfl, rfl, rfl, HRS⟩
      · skip
        go_simp
        have HPp := Lib.hid (heap_alloc_new X1 boxDy)
        have HNp := Lib.hid (show w.heap.size + 2 ≤ X1.heap.size from HT.out.size)
        replace HI1 := Lib.hid (HI1.out.below (below_boxC X1 boxDy))
        replace HK1 := Lib.hid (HK1.out.add (T := (fun j : Nat => j = X1.heap.size)) boxDy (fun k hk => .inr hk))
        replace HT := Lib.hid (HT.out.next (below_boxC X1 boxDy))
        refine held_go hK' (HT.out) ?_
        try simp only [Act.put, List.setIfInBounds_toArray, List.set_cons_zero, List.set_cons_succ]
        generalize World.alloc X1 _ = X2 at *
        generalize X1.heap.size = p at *
        clear hS0
        have hS0 := HT.out
        refine held_two (i := 4) (j := 11) rfl rfl (by kernel_rfl) (by rfl) (by rfl) (fun K' hK' => ?_) (fun K' hK' => ?_)
        · skip
          go_simp
          refine (HLD.out X2 ad1 cap1 HI1.out).mono ?_
          rintro e X3 ⟨ad2, cap2, rfl, hi2, hkp, hb⟩
          have HK2 := Lib.hid (show KnoS X3 (fun j : Nat => j = p) ad2 r.2.1.l from hkp _ (fun k (hk : k = p) => by have h_p := (Array.getElem?_eq_some_iff.1 HPp.out).1; omega) HK1.out)
          have HI2 := Lib.hid (show r.2.1.l.length ≤ cap2 ∧ cap2 ≤ maxLen ∧ (ad2 = none → cap2 = 0) ∧ r.2.1.bc.size ≤ maxLen from ⟨hi2.le, hi2.mx, hi2.nn, hi2.bs⟩)
          clear HI1 HK1 hi2 hkp
          replace HPp := Lib.hid (row_next HPp.out hb)
          replace HT := Lib.hid (HT.out.next hb)
          refine held_go hK' (HT.out) ?_
          try simp only [Act.put, List.setIfInBounds_toArray, List.set_cons_zero, List.set_cons_succ]
          clear hS0
          have hS0 := HT.out
          clear hb
          refine held_take (i := 5) (v := ?_) rfl (by kernel_rfl) (by kernel_rfl) (by kernel_rfl) (fun _ _ _ h => h) (by rfl) ?_ (by assumption) ?_
          rotate_left
          · intro X hSX
            try dsimp only at hSX
            go_simp <;> with_reducible rfl
          simp only [Act.put, List.setIfInBounds_toArray, List.set_cons_zero, List.set_cons_succ]
          refine held_take (i := 6) (v := ?_) rfl (by kernel_rfl) (by kernel_rfl) (by kernel_rfl) (fun _ _ _ h => h) (by rfl) ?_ (by assumption) ?_
          rotate_left
          · intro X hSX
            try dsimp only at hSX
            go_simp <;> with_reducible rfl
          simp only [Act.put, List.setIfInBounds_toArray, List.set_cons_zero, List.set_cons_succ]
          refine held_take (i := 7) (v := ?_) rfl (by kernel_rfl) (by kernel_rfl) (by kernel_rfl) (fun _ _ _ h => h) (by rfl) ?_ (by assumption) ?_
          rotate_left
          · intro X hSX
            try dsimp only at hSX
            go_simp <;> with_reducible rfl
          simp only [Act.put, List.setIfInBounds_toArray, List.set_cons_zero, List.set_cons_succ]
          refine held_take (i := 8) (v := ?_) rfl (by kernel_rfl) (by kernel_rfl) (by kernel_rfl) (fun _ _ _ h => h) (by rfl) ?_ (by assumption) ?_
          rotate_left
          · intro X hSX
            try dsimp only at hSX
            go_simp <;> with_reducible rfl
          simp only [Act.put, List.setIfInBounds_toArray, List.set_cons_zero, List.set_cons_succ]
          refine held_take (i := 9) (v := ?_) rfl (by kernel_rfl) (by kernel_rfl) (by kernel_rfl) (fun _ _ _ h => h) (by rfl) ?_ (by assumption) ?_
          rotate_left
          · intro X hSX
            try dsimp only at hSX
            go_simp <;> with_reducible rfl
          simp only [Act.put, List.setIfInBounds_toArray, List.set_cons_zero, List.set_cons_succ]
          refine held_call (i := 11) rfl (by kernel_rfl) (by rfl) (fun K' hK' => ?_)
          go_simp
          have HPq := Lib.hid (heap_alloc_new X3 boxKy)
          have HNq := Lib.hid (show w.heap.size + 2 ≤ X3.heap.size from HT.out.size)
          have HNE := Lib.hid (show p ≠ X3.heap.size ∨ X3.heap.size ≠ p by have h1 := (Array.getElem?_eq_some_iff.1 HPp.out).1; omega)
          replace HPp := Lib.hid (row_next HPp.out (below_boxC X3 boxKy))
          replace HK2 := Lib.hid (HK2.out.add (T := (fun j : Nat => j = p ∨ j = X3.heap.size)) boxKy (fun k hk => hk))
          replace HT := Lib.hid (HT.out.next (below_boxC X3 boxKy))
          refine held_go hK' (HT.out) ?_
          try simp only [Act.put, List.setIfInBounds_toArray, List.set_cons_zero, List.set_cons_succ]
          generalize World.alloc X3 _ = X4 at *
          generalize X3.heap.size = q at *
          clear hS0
          have hS0 := HT.out
          refine held_call (i := 12) rfl (by kernel_rfl) (by rfl) (fun K' hK' => ?_)
          refine oper_store_dr (.tmp 9) (.tmp 31) rfl p rfl r.1 rfl drZ HPp.out ?_
          refine held_go hK' (HT.out.far HNp.out _) ?_
          try simp only [Act.put, List.setIfInBounds_toArray, List.set_cons_zero, List.set_cons_succ]
          have HRS := Lib.hid (rs_fin HPp.out HPq.out HNE.out HK2.out HI2.out HNp.out HNq.out HT.out)
          replace HPq := Lib.hid (row_keep (cs := drK r.1) HPq.out (by have h1 := HNE.out; omega : q ≠ p))
          clear hS0
          have hS0 := HT.out.far HNp.out (drK r.1)
          refine held_call (i := 13) rfl (by kernel_rfl) (by rfl) (fun K' hK' => ?_)
          refine oper_store_cq (.tmp 10) (.tmp 32) rfl q rfl r.2.1 ad2 cap2 rfl crZ none 0 HPq.out ?_
          refine held_go hK' (HRS.out.b) ?_
          try simp only [Act.put, List.setIfInBounds_toArray, List.set_cons_zero, List.set_cons_succ]
          clear hS0
          have hS0 := HRS.out.b
          refine held_take (i := 14) (v := ?_) rfl (by kernel_rfl) (by kernel_rfl) (by kernel_rfl) (fun _ _ _ h => h) (by rfl) ?_ (by assumption) ?_
          rotate_left
          · intro X hSX
            try dsimp only at hSX
            go_simp <;> with_reducible rfl
          simp only [Act.put, List.setIfInBounds_toArray, List.set_cons_zero, List.set_cons_succ]
          refine held_take (i := 15) (v := ?_) rfl (by kernel_rfl) (by kernel_rfl) (by kernel_rfl) (fun _ _ _ h => h) (by rfl) ?_ (by assumption) ?_
          rotate_left
          · intro X hSX
            try dsimp only at hSX
            go_simp <;> with_reducible rfl
          simp only [Act.put, List.setIfInBounds_toArray, List.set_cons_zero, List.set_cons_succ]
          refine wpAnyH_done (by kernel_rfl) ?_ _
          refine NoPanic.normal ?_
          go_wp2_with fail
          go_meet
          exact ⟨p, q, ad2, cap2, rfl, rfl, rfl, HRS⟩
        · skip
          go_simp
          have HPq := Lib.hid (heap_alloc_new X2 boxKy)
          have HNq := Lib.hid (show w.heap.size + 2 ≤ X2.heap.size from HT.out.size)
          have HNE := Lib.hid (show p ≠ X2.heap.size ∨ X2.heap.size ≠ p by have h1 := (Array.getElem?_eq_some_iff.1 HPp.out).1; omega)
          replace HPp := Lib.hid (row_next HPp.out (below_boxC X2 boxKy))
          replace HI1 := Lib.hid (HI1.out.below (below_boxC X2 boxKy))
          replace HK1 := Lib.hid (HK1.out.add (T := (fun j : Nat => j = p ∨ j = X2.heap.size)) boxKy (fun k hk => hk))
          replace HT := Lib.hid (HT.out.next (below_boxC X2 boxKy))
          refine held_go hK' (HT.out) ?_
          try simp only [Act.put, List.setIfInBounds_toArray, List.set_cons_zero, List.set_cons_succ]
          generalize World.alloc X2 _ = X3 at *
          generalize X2.heap.size = q at *
          clear hS0
          have hS0 := HT.out
          refine held_call (i := 4) rfl (by kernel_rfl) (by rfl) (fun K' hK' => ?_)
          go_simp
          refine (HLD.out X3 ad1 cap1 HI1.out).mono ?_
          rintro e X4 ⟨ad2, cap2, rfl, hi2, hkp, hb⟩
          have HK2 := Lib.hid (show KnoS X4 (fun j : Nat => j = p ∨ j = q) ad2 r.2.1.l from hkp _ (fun k (hk : k = p ∨ k = q) => by have h_p := (Array.getElem?_eq_some_iff.1 HPp.out).1; have h_q := (Array.getElem?_eq_some_iff.1 HPq.out).1; omega) HK1.out)
          have HI2 := Lib.hid (show r.2.1.l.length ≤ cap2 ∧ cap2 ≤ maxLen ∧ (ad2 = none → cap2 = 0) ∧ r.2.1.bc.size ≤ maxLen from ⟨hi2.le, hi2.mx, hi2.nn, hi2.bs⟩)
          clear HI1 HK1 hi2 hkp
          replace HPp := Lib.hid (row_next HPp.out hb)
          replace HPq := Lib.hid (row_next HPq.out hb)
          replace HT := Lib.hid (HT.out.next hb)
          refine held_go hK' (HT.out) ?_
          try simp only [Act.put, List.setIfInBounds_toArray, List.set_cons_zero, List.set_cons_succ]
          clear hS0
          have hS0 := HT.out
          clear hb
          refine held_take (i := 5) (v := ?_) rfl (by kernel_rfl) (by kernel_rfl) (by kernel_rfl) (fun _ _ _ h => h) (by rfl) ?_ (by assumption) ?_
          rotate_left
          · intro X hSX
            try dsimp only at hSX
            go_simp <;> with_reducible rfl
          simp only [Act.put, List.setIfInBounds_toArray, List.set_cons_zero, List.set_cons_succ]
          refine held_take (i := 6) (v := ?_) rfl (by kernel_rfl) (by kernel_rfl) (by kernel_rfl) (fun _ _ _ h => h) (by rfl) ?_ (by assumption) ?_
          rotate_left
          · intro X hSX
            try dsimp only at hSX
            go_simp <;> with_reducible rfl
          simp only [Act.put, List.setIfInBounds_toArray, List.set_cons_zero, List.set_cons_succ]
          refine held_take (i := 7) (v := ?_) rfl (by kernel_rfl) (by kernel_rfl) (by kernel_rfl) (fun _ _ _ h => h) (by rfl) ?_ (by assumption) ?_
          rotate_left
          · intro X hSX
            try dsimp only at hSX
            go_simp <;> with_reducible rfl
          simp only [Act.put, List.setIfInBounds_toArray, List.set_cons_zero, List.set_cons_succ]
          refine held_take (i := 8) (v := ?_) rfl (by kernel_rfl) (by kernel_rfl) (by kernel_rfl) (fun _ _ _ h => h) (by rfl) ?_ (by assumption) ?_
          rotate_left
          · intro X hSX
            try dsimp only at hSX
            go_simp <;> with_reducible rfl
          simp only [Act.put, List.setIfInBounds_toArray, List.set_cons_zero, List.set_cons_succ]
          refine held_take (i := 9) (v := ?_) rfl (by kernel_rfl) (by kernel_rfl) (by kernel_rfl) (fun _ _ _ h => h) (by rfl) ?_ (by assumption) ?_
          rotate_left
          · intro X hSX
            try dsimp only at hSX
            go_simp <;> with_reducible rfl
          simp only [Act.put, List.setIfInBounds_toArray, List.set_cons_zero, List.set_cons_succ]
          refine held_call (i := 12) rfl (by kernel_rfl) (by rfl) (fun K' hK' => ?_)
          refine oper_store_dr (.tmp 9) (.tmp 31) rfl p rfl r.1 rfl drZ HPp.out ?_
          refine held_go hK' (HT.out.far HNp.out _) ?_
          try simp only [Act.put, List.setIfInBounds_toArray, List.set_cons_zero, List.set_cons_succ]
          have HRS := Lib.hid (rs_fin HPp.out HPq.out HNE.out HK2.out HI2.out HNp.out HNq.out HT.out)
          replace HPq := Lib.hid (row_keep (cs := drK r.1) HPq.out (by have h1 := HNE.out; omega : q ≠ p))
          clear hS0
          have hS0 := HT.out.far HNp.out (drK r.1)
          refine held_call (i := 13) rfl (by kernel_rfl) (by rfl) (fun K' hK' => ?_)
          refine oper_store_cq (.tmp 10) (.tmp 32) rfl q rfl r.2.1 ad2 cap2 rfl crZ none 0 HPq.out ?_
          refine held_go hK' (HRS.out.b) ?_
          try simp only [Act.put, List.setIfInBounds_toArray, List.set_cons_zero, List.set_cons_succ]
          clear hS0
          have hS0 := HRS.out.b
          refine held_take (i := 14) (v := ?_) rfl (by kernel_rfl) (by kernel_rfl) (by kernel_rfl) (fun _ _ _ h => h) (by rfl) ?_ (by assumption) ?_
          rotate_left
          · intro X hSX
            try dsimp only at hSX
            go_simp <;> with_reducible rfl
          simp only [Act.put, List.setIfInBounds_toArray, List.set_cons_zero, List.set_cons_succ]
          refine held_take (i := 15) (v := ?_) rfl (by kernel_rfl) (by kernel_rfl) (by kernel_rfl) (fun _ _ _ h => h) (by rfl) ?_ (by assumption) ?_
          rotate_left
          · intro X hSX
            try dsimp only at hSX
            go_simp <;> with_reducible rfl
          simp only [Act.put, List.setIfInBounds_toArray, List.set_cons_zero, List.set_cons_succ]
          refine wpAnyH_done (by kernel_rfl) ?_ _
          refine NoPanic.normal ?_
          go_wp2_with fail
          go_meet
          exact ⟨p, q, ad2, cap2, rfl, rfl, rfl, HRS⟩
      · skip
        go_simp
        have HPq := Lib.hid (heap_alloc_new X1 boxKy)
        have HNq := Lib.hid (show w.heap.size + 2 ≤ X1.heap.size from HT.out.size)
        replace HI1 := Lib.hid (HI1.out.below (below_boxC X1 boxKy))
        replace HK1 := Lib.hid (HK1.out.add (T := (fun j : Nat => j = X1.heap.size)) boxKy (fun k hk => .inr hk))
        replace HT := Lib.hid (HT.out.next (below_boxC X1 boxKy))
        refine held_go hK' (HT.out) ?_
        try simp only [Act.put, List.setIfInBounds_toArray, List.set_cons_zero, List.set_cons_succ]
        generalize World.alloc X1 _ = X2 at *
        generalize X1.heap.size = q at *
        clear hS0
        have hS0 := HT.out
        refine held_two (i := 4) (j := 10) rfl rfl (by kernel_rfl) (by rfl) (by rfl) (fun K' hK' => ?_) (fun K' hK' => ?_)
        · skip
          go_simp
          refine (HLD.out X2 ad1 cap1 HI1.out).mono ?_
          rintro e X3 ⟨ad2, cap2, rfl, hi2, hkp, hb⟩
          have HK2 := Lib.hid (show KnoS X3 (fun j : Nat => j = q) ad2 r.2.1.l from hkp _ (fun k (hk : k = q) => by have h_q := (Array.getElem?_eq_some_iff.1 HPq.out).1; omega) HK1.out)
          have HI2 := Lib.hid (show r.2.1.l.length ≤ cap2 ∧ cap2 ≤ maxLen ∧ (ad2 = none → cap2 = 0) ∧ r.2.1.bc.size ≤ maxLen from ⟨hi2.le, hi2.mx, hi2.nn, hi2.bs⟩)
          clear HI1 HK1 hi2 hkp
          replace HPq := Lib.hid (row_next HPq.out hb)
          replace HT := Lib.hid (HT.out.next hb)
          refine held_go hK' (HT.out) ?_
          try simp only [Act.put, List.setIfInBounds_toArray, List.set_cons_zero, List.set_cons_succ]
          clear hS0
          have hS0 := HT.out
          clear hb
          refine held_take (i := 5) (v := ?_) rfl (by kernel_rfl) (by kernel_rfl) (by kernel_rfl) (fun _ _ _ h => h) (by rfl) ?_ (by assumption) ?_
          rotate_left
          · intro X hSX
            try dsimp only at hSX
            go_simp <;> with_reducible rfl
          simp only [Act.put, List.setIfInBounds_toArray, List.set_cons_zero, List.set_cons_succ]
          refine held_take (i := 6) (v := ?_) rfl (by kernel_rfl) (by kernel_rfl) (by kernel_rfl) (fun _ _ _ h => h) (by rfl) ?_ (by assumption) ?_
          rotate_left
          · intro X hSX
            try dsimp only at hSX
            go_simp <;> with_reducible rfl
          simp only [Act.put, List.setIfInBounds_toArray, List.set_cons_zero, List.set_cons_succ]
          refine held_take (i := 7) (v := ?_) rfl (by kernel_rfl) (by kernel_rfl) (by kernel_rfl) (fun _ _ _ h => h) (by rfl) ?_ (by assumption) ?_
          rotate_left
          · intro X hSX
            try dsimp only at hSX
            go_simp <;> with_reducible rfl
          simp only [Act.put, List.setIfInBounds_toArray, List.set_cons_zero, List.set_cons_succ]
          refine held_take (i := 8) (v := ?_) rfl (by kernel_rfl) (by kernel_rfl) (by kernel_rfl) (fun _ _ _ h => h) (by rfl) ?_ (by assumption) ?_
          rotate_left
          · intro X hSX
            try dsimp only at hSX
            go_simp <;> with_reducible rfl
          simp only [Act.put, List.setIfInBounds_toArray, List.set_cons_zero, List.set_cons_succ]
          refine held_take (i := 9) (v := ?_) rfl (by kernel_rfl) (by kernel_rfl) (by kernel_rfl) (fun _ _ _ h => h) (by rfl) ?_ (by assumption) ?_
          rotate_left
          · intro X hSX
            try dsimp only at hSX
            go_simp <;> with_reducible rfl
          simp only [Act.put, List.setIfInBounds_toArray, List.set_cons_zero, List.set_cons_succ]
          refine held_call (i := 10) rfl (by kernel_rfl) (by rfl) (fun K' hK' => ?_)
          go_simp
          have HPp := Lib.hid (heap_alloc_new X3 boxDy)
          have HNp := Lib.hid (show w.heap.size + 2 ≤ X3.heap.size from HT.out.size)
          have HNE := Lib.hid (show X3.heap.size ≠ q ∨ q ≠ X3.heap.size by have h1 := (Array.getElem?_eq_some_iff.1 HPq.out).1; omega)
          replace HPq := Lib.hid (row_next HPq.out (below_boxC X3 boxDy))
          replace HK2 := Lib.hid (HK2.out.add (T := (fun j : Nat => j = X3.heap.size ∨ j = q)) boxDy (fun k hk => hk.symm))
          replace HT := Lib.hid (HT.out.next (below_boxC X3 boxDy))
          refine held_go hK' (HT.out) ?_
          try simp only [Act.put, List.setIfInBounds_toArray, List.set_cons_zero, List.set_cons_succ]
          generalize World.alloc X3 _ = X4 at *
          generalize X3.heap.size = p at *
          clear hS0
          have hS0 := HT.out
          refine held_call (i := 12) rfl (by kernel_rfl) (by rfl) (fun K' hK' => ?_)
          refine oper_store_dr (.tmp 9) (.tmp 31) rfl p rfl r.1 rfl drZ HPp.out ?_
          refine held_go hK' (HT.out.far HNp.out _) ?_
          try simp only [Act.put, List.setIfInBounds_toArray, List.set_cons_zero, List.set_cons_succ]
          have HRS := Lib.hid (rs_fin HPp.out HPq.out HNE.out HK2.out HI2.out HNp.out HNq.out HT.out)
          replace HPq := Lib.hid (row_keep (cs := drK r.1) HPq.out (by have h1 := HNE.out; omega : q ≠ p))
          clear hS0
          have hS0 := HT.out.far HNp.out (drK r.1)
          refine held_call (i := 13) rfl (by kernel_rfl) (by rfl) (fun K' hK' => ?_)
          refine oper_store_cq (.tmp 10) (.tmp 32) rfl q rfl r.2.1 ad2 cap2 rfl crZ none 0 HPq.out ?_
          refine held_go hK' (HRS.out.b) ?_
          try simp only [Act.put, List.setIfInBounds_toArray, List.set_cons_zero, List.set_cons_succ]
          clear hS0
          have hS0 := HRS.out.b
          refine held_take (i := 14) (v := ?_) rfl (by kernel_rfl) (by kernel_rfl) (by kernel_rfl) (fun _ _ _ h => h) (by rfl) ?_ (by assumption) ?_
          rotate_left
          · intro X hSX
            try dsimp only at hSX
            go_simp <;> with_reducible rfl
          simp only [Act.put, List.setIfInBounds_toArray, List.set_cons_zero, List.set_cons_succ]
          refine held_take (i := 15) (v := ?_) rfl (by kernel_rfl) (by kernel_rfl) (by kernel_rfl) (fun _ _ _ h => h) (by rfl) ?_ (by assumption) ?_
          rotate_left
          · intro X hSX
            try dsimp only at hSX
            go_simp <;> with_reducible rfl
          simp only [Act.put, List.setIfInBounds_toArray, List.set_cons_zero, List.set_cons_succ]
          refine wpAnyH_done (by kernel_rfl) ?_ _
          refine NoPanic.normal ?_
          go_wp2_with fail
          go_meet
          exact ⟨p, q, ad2, cap2, rfl, rfl, rfl, HRS⟩
        · skip
          go_simp
          have HPp := Lib.hid (heap_alloc_new X2 boxDy)
          have HNp := Lib.hid (show w.heap.size + 2 ≤ X2.heap.size from HT.out.size)
          have HNE := Lib.hid (show X2.heap.size ≠ q ∨ q ≠ X2.heap.size by have h1 := (Array.getElem?_eq_some_iff.1 HPq.out).1; omega)
          replace HPq := Lib.hid (row_next HPq.out (below_boxC X2 boxDy))
          replace HI1 := Lib.hid (HI1.out.below (below_boxC X2 boxDy))
          replace HK1 := Lib.hid (HK1.out.add (T := (fun j : Nat => j = X2.heap.size ∨ j = q)) boxDy (fun k hk => hk.symm))
          replace HT := Lib.hid (HT.out.next (below_boxC X2 boxDy))
          refine held_go hK' (HT.out) ?_
          try simp only [Act.put, List.setIfInBounds_toArray, List.set_cons_zero, List.set_cons_succ]
          generalize World.alloc X2 _ = X3 at *
          generalize X2.heap.size = p at *
          clear hS0
          have hS0 := HT.out
          refine held_call (i := 4) rfl (by kernel_rfl) (by rfl) (fun K' hK' => ?_)
          go_simp
          refine (HLD.out X3 ad1 cap1 HI1.out).mono ?_
          rintro e X4 ⟨ad2, cap2, rfl, hi2, hkp, hb⟩
          have HK2 := Lib.hid (show KnoS X4 (fun j : Nat => j = p ∨ j = q) ad2 r.2.1.l from hkp _ (fun k (hk : k = p ∨ k = q) => by have h_p := (Array.getElem?_eq_some_iff.1 HPp.out).1; have h_q := (Array.getElem?_eq_some_iff.1 HPq.out).1; omega) HK1.out)
          have HI2 := Lib.hid (show r.2.1.l.length ≤ cap2 ∧ cap2 ≤ maxLen ∧ (ad2 = none → cap2 = 0) ∧ r.2.1.bc.size ≤ maxLen from ⟨hi2.le, hi2.mx, hi2.nn, hi2.bs⟩)
          clear HI1 HK1 hi2 hkp
          replace HPq := Lib.hid (row_next HPq.out hb)
          replace HPp := Lib.hid (row_next HPp.out hb)
          replace HT := Lib.hid (HT.out.next hb)
          refine held_go hK' (HT.out) ?_
          try simp only [Act.put, List.setIfInBounds_toArray, List.set_cons_zero, List.set_cons_succ]
          clear hS0
          have hS0 := HT.out
          clear hb
          refine held_take (i := 5) (v := ?_) rfl (by kernel_rfl) (by kernel_rfl) (by kernel_rfl) (fun _ _ _ h => h) (by rfl) ?_ (by assumption) ?_
          rotate_left
          · intro X hSX
            try dsimp only at hSX
            go_simp <;> with_reducible rfl
          simp only [Act.put, List.setIfInBounds_toArray, List.set_cons_zero, List.set_cons_succ]
          refine held_take (i := 6) (v := ?_) rfl (by kernel_rfl) (by kernel_rfl) (by kernel_rfl) (fun _ _ _ h => h) (by rfl) ?_ (by assumption) ?_
          rotate_left
          · intro X hSX
            try dsimp only at hSX
            go_simp <;> with_reducible rfl
          simp only [Act.put, List.setIfInBounds_toArray, List.set_cons_zero, List.set_cons_succ]
          refine held_take (i := 7) (v := ?_) rfl (by kernel_rfl) (by kernel_rfl) (by kernel_rfl) (fun _ _ _ h => h) (by rfl) ?_ (by assumption) ?_
          rotate_left
          · intro X hSX
            try dsimp only at hSX
            go_simp <;> with_reducible rfl
          simp only [Act.put, List.setIfInBounds_toArray, List.set_cons_zero, List.set_cons_succ]
          refine held_take (i := 8) (v := ?_) rfl (by kernel_rfl) (by kernel_rfl) (by kernel_rfl) (fun _ _ _ h => h) (by rfl) ?_ (by assumption) ?_
          rotate_left
          · intro X hSX
            try dsimp only at hSX
            go_simp <;> with_reducible rfl
          simp only [Act.put, List.setIfInBounds_toArray, List.set_cons_zero, List.set_cons_succ]
          refine held_take (i := 9) (v := ?_) rfl (by kernel_rfl) (by kernel_rfl) (by kernel_rfl) (fun _ _ _ h => h) (by rfl) ?_ (by assumption) ?_
          rotate_left
          · intro X hSX
            try dsimp only at hSX
            go_simp <;> with_reducible rfl
          simp only [Act.put, List.setIfInBounds_toArray, List.set_cons_zero, List.set_cons_succ]
          refine held_call (i := 12) rfl (by kernel_rfl) (by rfl) (fun K' hK' => ?_)
          refine oper_store_dr (.tmp 9) (.tmp 31) rfl p rfl r.1 rfl drZ HPp.out ?_
          refine held_go hK' (HT.out.far HNp.out _) ?_
          try simp only [Act.put, List.setIfInBounds_toArray, List.set_cons_zero, List.set_cons_succ]
          have HRS := Lib.hid (rs_fin HPp.out HPq.out HNE.out HK2.out HI2.out HNp.out HNq.out HT.out)
          replace HPq := Lib.hid (row_keep (cs := drK r.1) HPq.out (by have h1 := HNE.out; omega : q ≠ p))
          clear hS0
          have hS0 := HT.out.far HNp.out (drK r.1)
          refine held_call (i := 13) rfl (by kernel_rfl) (by rfl) (fun K' hK' => ?_)
          refine oper_store_cq (.tmp 10) (.tmp 32) rfl q rfl r.2.1 ad2 cap2 rfl crZ none 0 HPq.out ?_
          refine held_go hK' (HRS.out.b) ?_
          try simp only [Act.put, List.setIfInBounds_toArray, List.set_cons_zero, List.set_cons_succ]
          clear hS0
          have hS0 := HRS.out.b
          refine held_take (i := 14) (v := ?_) rfl (by kernel_rfl) (by kernel_rfl) (by kernel_rfl) (fun _ _ _ h => h) (by rfl) ?_ (by assumption) ?_
          rotate_left
          · intro X hSX
            try dsimp only at hSX
            go_simp <;> with_reducible rfl
          simp only [Act.put, List.setIfInBounds_toArray, List.set_cons_zero, List.set_cons_succ]
          refine held_take (i := 15) (v := ?_) rfl (by kernel_rfl) (by kernel_rfl) (by kernel_rfl) (fun _ _ _ h => h) (by rfl) ?_ (by assumption) ?_
          rotate_left
          · intro X hSX
            try dsimp only at hSX
            go_simp <;> with_reducible rfl
          simp only [Act.put, List.setIfInBounds_toArray, List.set_cons_zero, List.set_cons_succ]
          refine wpAnyH_done (by kernel_rfl) ?_ _
          refine NoPanic.normal ?_
          go_wp2_with fail
          go_meet
          exact ⟨p, q, ad2, cap2, rfl, rfl, rfl, HRS⟩
    · skip
      go_simp
      have HPp := Lib.hid (heap_alloc_new X0 boxDy)
      have HNp := Lib.hid (show w.heap.size + 2 ≤ X0.heap.size from HT.out.size)
      replace HT := Lib.hid (HT.out.next (below_boxC X0 boxDy))
      refine held_go hK' (HT.out) ?_
      try simp only [Act.put, List.setIfInBounds_toArray, List.set_cons_zero, List.set_cons_succ]
      generalize World.alloc X0 _ = X1 at *
      generalize X0.heap.size = p at *
      clear hS0
      have hS0 := HT.out
      refine held_two (i := 3) (j := 11) rfl rfl (by kernel_rfl) (by rfl) (by rfl) (fun K' hK' => ?_) (fun K' hK' => ?_)
      · skip
        go_simp
        refine (HCP.out X1 (HIN.out.below HT.out.b)).mono ?_
        rintro e X2 ⟨ad1, cap1, rfl, hi, hkf, hb⟩
        have HI1 := Lib.hid hi
        have HK1 := Lib.hid (show KnoS X2 (fun j : Nat => j = p) ad1 c.l from KnoS.of_fr hkf (fun k (hk : k = p) => by have h_p := (Array.getElem?_eq_some_iff.1 HPp.out).1; omega))
        clear hi hkf
        replace HPp := Lib.hid (row_next HPp.out hb)
        replace HT := Lib.hid (HT.out.next hb)
        refine held_go hK' (HT.out) ?_
        try simp only [Act.put, List.setIfInBounds_toArray, List.set_cons_zero, List.set_cons_succ]
        clear hS0
        have hS0 := HT.out
        clear hb
        refine held_two (i := 4) (j := 11) rfl rfl (by kernel_rfl) (by rfl) (by rfl) (fun K' hK' => ?_) (fun K' hK' => ?_)
        · skip
          go_simp
          refine (HLD.out X2 ad1 cap1 HI1.out).mono ?_
          rintro e X3 ⟨ad2, cap2, rfl, hi2, hkp, hb⟩
          have HK2 := Lib.hid (show KnoS X3 (fun j : Nat => j = p) ad2 r.2.1.l from hkp _ (fun k (hk : k = p) => by have h_p := (Array.getElem?_eq_some_iff.1 HPp.out).1; omega) HK1.out)
          have HI2 := Lib.hid (show r.2.1.l.length ≤ cap2 ∧ cap2 ≤ maxLen ∧ (ad2 = none → cap2 = 0) ∧ r.2.1.bc.size ≤ maxLen from ⟨hi2.le, hi2.mx, hi2.nn, hi2.bs⟩)
          clear HI1 HK1 hi2 hkp
          replace HPp := Lib.hid (row_next HPp.out hb)
          replace HT := Lib.hid (HT.out.next hb)
          refine held_go hK' (HT.out) ?_
          try simp only [Act.put, List.setIfInBounds_toArray, List.set_cons_zero, List.set_cons_succ]
          clear hS0
          have hS0 := HT.out
          clear hb
          refine held_take (i := 5) (v := ?_) rfl (by kernel_rfl) (by kernel_rfl) (by kernel_rfl) (fun _ _ _ h => h) (by rfl) ?_ (by assumption) ?_
          rotate_left
          · intro X hSX
            try dsimp only at hSX
            go_simp <;> with_reducible rfl
          simp only [Act.put, List.setIfInBounds_toArray, List.set_cons_zero, List.set_cons_succ]
          refine held_take (i := 6) (v := ?_) rfl (by kernel_rfl) (by kernel_rfl) (by kernel_rfl) (fun _ _ _ h => h) (by rfl) ?_ (by assumption) ?_
          rotate_left
          · intro X hSX
            try dsimp only at hSX
            go_simp <;> with_reducible rfl
          simp only [Act.put, List.setIfInBounds_toArray, List.set_cons_zero, List.set_cons_succ]
          refine held_take (i := 7) (v := ?_) rfl (by kernel_rfl) (by kernel_rfl) (by kernel_rfl) (fun _ _ _ h => h) (by rfl) ?_ (by assumption) ?_
          rotate_left
          · intro X hSX
            try dsimp only at hSX
            go_simp <;> with_reducible rfl
          simp only [Act.put, List.setIfInBounds_toArray, List.set_cons_zero, List.set_cons_succ]
          refine held_take (i := 8) (v := ?_) rfl (by kernel_rfl) (by kernel_rfl) (by kernel_rfl) (fun _ _ _ h => h) (by rfl) ?_ (by assumption) ?_
          rotate_left
          · intro X hSX
            try dsimp only at hSX
            go_simp <;> with_reducible rfl
          simp only [Act.put, List.setIfInBounds_toArray, List.set_cons_zero, List.set_cons_succ]
          refine held_take (i := 9) (v := ?_) rfl (by kernel_rfl) (by kernel_rfl) (by kernel_rfl) (fun _ _ _ h => h) (by rfl) ?_ (by assumption) ?_
          rotate_left
          · intro X hSX
            try dsimp only at hSX
            go_simp <;> with_reducible rfl
          simp only [Act.put, List.setIfInBounds_toArray, List.set_cons_zero, List.set_cons_succ]
          refine held_call (i := 11) rfl (by kernel_rfl) (by rfl) (fun K' hK' => ?_)
          go_simp
          have HPq := Lib.hid (heap_alloc_new X3 boxKy)
          have HNq := Lib.hid (show w.heap.size + 2 ≤ X3.heap.size from HT.out.size)
          have HNE := Lib.hid (show p ≠ X3.heap.size ∨ X3.heap.size ≠ p by have h1 := (Array.getElem?_eq_some_iff.1 HPp.out).1; omega)
          replace HPp := Lib.hid (row_next HPp.out (below_boxC X3 boxKy))
          replace HK2 := Lib.hid (HK2.out.add (T := (fun j : Nat => j = p ∨ j = X3.heap.size)) boxKy (fun k hk => hk))
          replace HT := Lib.hid (HT.out.next (below_boxC X3 boxKy))
          refine held_go hK' (HT.out) ?_
          try simp only [Act.put, List.setIfInBounds_toArray, List.set_cons_zero, List.set_cons_succ]
          generalize World.alloc X3 _ = X4 at *
          generalize X3.heap.size = q at *
          clear hS0
          have hS0 := HT.out
          refine held_call (i := 12) rfl (by kernel_rfl) (by rfl) (fun K' hK' => ?_)
          refine oper_store_dr (.tmp 9) (.tmp 31) rfl p rfl r.1 rfl drZ HPp.out ?_
          refine held_go hK' (HT.out.far HNp.out _) ?_
          try simp only [Act.put, List.setIfInBounds_toArray, List.set_cons_zero, List.set_cons_succ]
          have HRS := Lib.hid (rs_fin HPp.out HPq.out HNE.out HK2.out HI2.out HNp.out HNq.out HT.out)
          replace HPq := Lib.hid (row_keep (cs := drK r.1) HPq.out (by have h1 := HNE.out; omega : q ≠ p))
          clear hS0
          have hS0 := HT.out.far HNp.out (drK r.1)
          refine held_call (i := 13) rfl (by kernel_rfl) (by rfl) (fun K' hK' => ?_)
          refine oper_store_cq (.tmp 10) (.tmp 32) rfl q rfl r.2.1 ad2 cap2 rfl crZ none 0 HPq.out ?_
          refine held_go hK' (HRS.out.b) ?_
          try simp only [Act.put, List.setIfInBounds_toArray, List.set_cons_zero, List.set_cons_succ]
          clear hS0
          have hS0 := HRS.out.b
          refine held_take (i := 14) (v := ?_) rfl (by kernel_rfl) (by kernel_rfl) (by kernel_rfl) (fun _ _ _ h => h) (by rfl) ?_ (by assumption) ?_
          rotate_left
          · intro X hSX
            try dsimp only at hSX
            go_simp <;> with_reducible rfl
          simp only [Act.put, List.setIfInBounds_toArray, List.set_cons_zero, List.set_cons_succ]
          refine held_take (i := 15) (v := ?_) rfl (by kernel_rfl) (by kernel_rfl) (by kernel_rfl) (fun _ _ _ h => h) (by rfl) ?_ (by assumption) ?_
          rotate_left
          · intro X hSX
            try dsimp only at hSX
            go_simp <;> with_reducible rfl
          simp only [Act.put, List.setIfInBounds_toArray, List.set_cons_zero, List.set_cons_succ]
          refine wpAnyH_done (by kernel_rfl) ?_ _
          refine NoPanic.normal ?_
          go_wp2_with fail
          go_meet
          exact ⟨p, q, ad2, cap2, rfl, rfl, rfl, HRS⟩
        · skip
          go_simp
          have HPq := Lib.hid (heap_alloc_new X2 boxKy)
          have HNq := Lib.hid (show w.heap.size + 2 ≤ X2.heap.size from HT.out.size)
          have HNE := Lib.hid (show p ≠ X2.heap.size ∨ X2.heap.size ≠ p by have h1 := (Array.getElem?_eq_some_iff.1 HPp.out).1; omega)
          replace HPp := Lib.hid (row_next HPp.out (below_boxC X2 boxKy))
          replace HI1 := Lib.hid (HI1.out.below (below_boxC X2 boxKy))
          replace HK1 := Lib.hid (HK1.out.add (T := (fun j : Nat => j = p ∨ j = X2.heap.size)) boxKy (fun k hk => hk))
          replace HT := Lib.hid (HT.out.next (below_boxC X2 boxKy))
          refine held_go hK' (HT.out) ?_
          try simp only [Act.put, List.setIfInBounds_toArray, List.set_cons_zero, List.set_cons_succ]
          generalize World.alloc X2 _ = X3 at *
          generalize X2.heap.size = q at *
          clear hS0
          have hS0 := HT.out
          refine held_call (i := 4) rfl (by kernel_rfl) (by rfl) (fun K' hK' => ?_)
          go_simp
          refine (HLD.out X3 ad1 cap1 HI1.out).mono ?_
          rintro e X4 ⟨ad2, cap2, rfl, hi2, hkp, hb⟩
          have HK2 := Lib.hid (show KnoS X4 (fun j : Nat => j = p ∨ j = q) ad2 r.2.1.l from hkp _ (fun k (hk : k = p ∨ k = q) => by have h_p := (Array.getElem?_eq_some_iff.1 HPp.out).1; have h_q := (Array.getElem?_eq_some_iff.1 HPq.out).1; omega) HK1.out)
          have HI2 := Lib.hid (show r.2.1.l.length ≤ cap2 ∧ cap2 ≤ maxLen ∧ (ad2 = none → cap2 = 0) ∧ r.2.1.bc.size ≤ maxLen from ⟨hi2.le, hi2.mx, hi2.nn, hi2.bs⟩)
          clear HI1 HK1 hi2 hkp
          replace HPp := Lib.hid (row_next HPp.out hb)
          replace HPq := Lib.hid (row_next HPq.out hb)
          replace HT := Lib.hid (HT.out.next hb)
          refine held_go hK' (HT.out) ?_
          try simp only [Act.put, List.setIfInBounds_toArray, List.set_cons_zero, List.set_cons_succ]
          clear hS0
          have hS0 := HT.out
          clear hb
          refine held_take (i := 5) (v := ?_) rfl (by kernel_rfl) (by kernel_rfl) (by kernel_rfl) (fun _ _ _ h => h) (by rfl) ?_ (by assumption) ?_
          rotate_left
          · intro X hSX
            try dsimp only at hSX
            go_simp <;> with_reducible rfl
          simp only [Act.put, List.setIfInBounds_toArray, List.set_cons_zero, List.set_cons_succ]
          refine held_take (i := 6) (v := ?_) rfl (by kernel_rfl) (by kernel_rfl) (by kernel_rfl) (fun _ _ _ h => h) (by rfl) ?_ (by assumption) ?_
          rotate_left
          · intro X hSX
            try dsimp only at hSX
            go_simp <;> with_reducible rfl
          simp only [Act.put, List.setIfInBounds_toArray, List.set_cons_zero, List.set_cons_succ]
          refine held_take (i := 7) (v := ?_) rfl (by kernel_rfl) (by kernel_rfl) (by kernel_rfl) (fun _ _ _ h => h) (by rfl) ?_ (by assumption) ?_
          rotate_left
          · intro X hSX
            try dsimp only at hSX
            go_simp <;> with_reducible rfl
          simp only [Act.put, List.setIfInBounds_toArray, List.set_cons_zero, List.set_cons_succ]
          refine held_take (i := 8) (v := ?_) rfl (by kernel_rfl) (by kernel_rfl) (by kernel_rfl) (fun _ _ _ h => h) (by rfl) ?_ (by assumption) ?_
          rotate_left
          · intro X hSX
            try dsimp only at hSX
            go_simp <;> with_reducible rfl
          simp only [Act.put, List.setIfInBounds_toArray, List.set_cons_zero, List.set_cons_succ]
          refine held_take (i := 9) (v := ?_) rfl (by kernel_rfl) (by kernel_rfl) (by kernel_rfl) (fun _ _ _ h => h) (by rfl) ?_ (by assumption) ?_
          rotate_left
          · intro X hSX
            try dsimp only at hSX
            go_simp <;> with_reducible rfl
          simp only [Act.put, List.setIfInBounds_toArray, List.set_cons_zero, List.set_cons_succ]
          refine held_call (i := 12) rfl (by kernel_rfl) (by rfl) (fun K' hK' => ?_)
          refine oper_store_dr (.tmp 9) (.tmp 31) rfl p rfl r.1 rfl drZ HPp.out ?_
          refine held_go hK' (HT.out.far HNp.out _) ?_
          try simp only [Act.put, List.setIfInBounds_toArray, List.set_cons_zero, List.set_cons_succ]
          have HRS := Lib.hid (rs_fin HPp.out HPq.out HNE.out HK2.out HI2.out HNp.out HNq.out HT.out)
          replace HPq := Lib.hid (row_keep (cs := drK r.1) HPq.out (by have h1 := HNE.out; omega : q ≠ p))
          clear hS0
          have hS0 := HT.out.far HNp.out (drK r.1)
          refine held_call (i := 13) rfl (by kernel_rfl) (by rfl) (fun K' hK' => ?_)
          refine oper_store_cq (.tmp 10) (.tmp 32) rfl q rfl r.2.1 ad2 cap2 rfl crZ none 0 HPq.out ?_
          refine held_go hK' (HRS.out.b) ?_
          try simp only [Act.put, List.setIfInBounds_toArray, List.set_cons_zero, List.set_cons_succ]
          clear hS0
          have hS0 := HRS.out.b
          refine held_take (i := 14) (v := ?_) rfl (by kernel_rfl) (by kernel_rfl) (by kernel_rfl) (fun _ _ _ h => h) (by rfl) ?_ (by assumption) ?_
          rotate_left
          · intro X hSX
            try dsimp only at hSX
            go_simp <;> with_reducible rfl
          simp only [Act.put, List.setIfInBounds_toArray, List.set_cons_zero, List.set_cons_succ]
          refine held_take (i := 15) (v := ?_) rfl (by kernel_rfl) (by kernel_rfl) (by kernel_rfl) (fun _ _ _ h => h) (by rfl) ?_ (by assumption) ?_
          rotate_left
          · intro X hSX
            try dsimp only at hSX
            go_simp <;> with_reducible rfl
          simp only [Act.put, List.setIfInBounds_toArray, List.set_cons_zero, List.set_cons_succ]
          refine wpAnyH_done (by kernel_rfl) ?_ _
          refine NoPanic.normal ?_
          go_wp2_with fail
          go_meet
          exact ⟨p, q, ad2, cap2, rfl, rfl, rfl, HRS⟩
      · skip
        go_simp
        have HPq := Lib.hid (heap_alloc_new X1 boxKy)
        have HNq := Lib.hid (show w.heap.size + 2 ≤ X1.heap.size from HT.out.size)
        have HNE := Lib.hid (show p ≠ X1.heap.size ∨ X1.heap.size ≠ p by have h1 := (Array.getElem?_eq_some_iff.1 HPp.out).1; omega)
        replace HPp := Lib.hid (row_next HPp.out (below_boxC X1 boxKy))
        replace HT := Lib.hid (HT.out.next (below_boxC X1 boxKy))
        refine held_go hK' (HT.out) ?_
        try simp only [Act.put, List.setIfInBounds_toArray, List.set_cons_zero, List.set_cons_succ]
        generalize World.alloc X1 _ = X2 at *
        generalize X1.heap.size = q at *
        clear hS0
        have hS0 := HT.out
        refine held_call (i := 3) rfl (by kernel_rfl) (by rfl) (fun K' hK' => ?_)
        go_simp
        refine (HCP.out X2 (HIN.out.below HT.out.b)).mono ?_
        rintro e X3 ⟨ad1, cap1, rfl, hi, hkf, hb⟩
        have HI1 := Lib.hid hi
        have HK1 := Lib.hid (show KnoS X3 (fun j : Nat => j = p ∨ j = q) ad1 c.l from KnoS.of_fr hkf (fun k (hk : k = p ∨ k = q) => by have h_p := (Array.getElem?_eq_some_iff.1 HPp.out).1; have h_q := (Array.getElem?_eq_some_iff.1 HPq.out).1; omega))
        clear hi hkf
        replace HPp := Lib.hid (row_next HPp.out hb)
        replace HPq := Lib.hid (row_next HPq.out hb)
        replace HT := Lib.hid (HT.out.next hb)
        refine held_go hK' (HT.out) ?_
        try simp only [Act.put, List.setIfInBounds_toArray, List.set_cons_zero, List.set_cons_succ]
        clear hS0
        have hS0 := HT.out
        clear hb
        refine held_call (i := 4) rfl (by kernel_rfl) (by rfl) (fun K' hK' => ?_)
        go_simp
        refine (HLD.out X3 ad1 cap1 HI1.out).mono ?_
        rintro e X4 ⟨ad2, cap2, rfl, hi2, hkp, hb⟩
        have HK2 := Lib.hid (show KnoS X4 (fun j : Nat => j = p ∨ j = q) ad2 r.2.1.l from hkp _ (fun k (hk : k = p ∨ k = q) => by have h_p := (Array.getElem?_eq_some_iff.1 HPp.out).1; have h_q := (Array.getElem?_eq_some_iff.1 HPq.out).1; omega) HK1.out)
        have HI2 := Lib.hid (show r.2.1.l.length ≤ cap2 ∧ cap2 ≤ maxLen ∧ (ad2 = none → cap2 = 0) ∧ r.2.1.bc.size ≤ maxLen from ⟨hi2.le, hi2.mx, hi2.nn, hi2.bs⟩)
        clear HI1 HK1 hi2 hkp
        replace HPp := Lib.hid (row_next HPp.out hb)
        replace HPq := Lib.hid (row_next HPq.out hb)
        replace HT := Lib.hid (HT.out.next hb)
        refine held_go hK' (HT.out) ?_
        try simp only [Act.put, List.setIfInBounds_toArray, List.set_cons_zero, List.set_cons_succ]
        clear hS0
        have hS0 := HT.out
        clear hb
        refine held_take (i := 5) (v := ?_) rfl (by kernel_rfl) (by kernel_rfl) (by kernel_rfl) (fun _ _ _ h => h) (by rfl) ?_ (by assumption) ?_
        rotate_left
        · intro X hSX
          try dsimp only at hSX
          go_simp <;> with_reducible rfl
        simp only [Act.put, List.setIfInBounds_toArray, List.set_cons_zero, List.set_cons_succ]
        refine held_take (i := 6) (v := ?_) rfl (by kernel_rfl) (by kernel_rfl) (by kernel_rfl) (fun _ _ _ h => h) (by rfl) ?_ (by assumption) ?_
        rotate_left
        · intro X hSX
          try dsimp only at hSX
          go_simp <;> with_reducible rfl
        simp only [Act.put, List.setIfInBounds_toArray, List.set_cons_zero, List.set_cons_succ]
        refine held_take (i := 7) (v := ?_) rfl (by kernel_rfl) (by kernel_rfl) (by kernel_rfl) (fun _ _ _ h => h) (by rfl) ?_ (by assumption) ?_
        rotate_left
        · intro X hSX
          try dsimp only at hSX
          go_simp <;> with_reducible rfl
        simp only [Act.put, List.setIfInBounds_toArray, List.set_cons_zero, List.set_cons_succ]
        refine held_take (i := 8) (v := ?_) rfl (by kernel_rfl) (by kernel_rfl) (by kernel_rfl) (fun _ _ _ h => h) (by rfl) ?_ (by assumption) ?_
        rotate_left
        · intro X hSX
          try dsimp only at hSX
          go_simp <;> with_reducible rfl
        simp only [Act.put, List.setIfInBounds_toArray, List.set_cons_zero, List.set_cons_succ]
        refine held_take (i := 9) (v := ?_) rfl (by kernel_rfl) (by kernel_rfl) (by kernel_rfl) (fun _ _ _ h => h) (by rfl) ?_ (by assumption) ?_
        rotate_left
        · intro X hSX
          try dsimp only at hSX
          go_simp <;> with_reducible rfl
        simp only [Act.put, List.setIfInBounds_toArray, List.set_cons_zero, List.set_cons_succ]
        refine held_call (i := 12) rfl (by kernel_rfl) (by rfl) (fun K' hK' => ?_)
        refine oper_store_dr (.tmp 9) (.tmp 31) rfl p rfl r.1 rfl drZ HPp.out ?_
        refine held_go hK' (HT.out.far HNp.out _) ?_
        try simp only [Act.put, List.setIfInBounds_toArray, List.set_cons_zero, List.set_cons_succ]
        have HRS := Lib.hid (rs_fin HPp.out HPq.out HNE.out HK2.out HI2.out HNp.out HNq.out HT.out)
        replace HPq := Lib.hid (row_keep (cs := drK r.1) HPq.out (by have h1 := HNE.out; omega : q ≠ p))
        clear hS0
        have hS0 := HT.out.far HNp.out (drK r.1)
        refine held_call (i := 13) rfl (by kernel_rfl) (by rfl) (fun K' hK' => ?_)
        refine oper_store_cq (.tmp 10) (.tmp 32) rfl q rfl r.2.1 ad2 cap2 rfl crZ none 0 HPq.out ?_
        refine held_go hK' (HRS.out.b) ?_
        try simp only [Act.put, List.setIfInBounds_toArray, List.set_cons_zero, List.set_cons_succ]
        clear hS0
        have hS0 := HRS.out.b
        refine held_take (i := 14) (v := ?_) rfl (by kernel_rfl) (by kernel_rfl) (by kernel_rfl) (fun _ _ _ h => h) (by rfl) ?_ (by assumption) ?_
        rotate_left
        · intro X hSX
          try dsimp only at hSX
          go_simp <;> with_reducible rfl
        simp only [Act.put, List.setIfInBounds_toArray, List.set_cons_zero, List.set_cons_succ]
        refine held_take (i := 15) (v := ?_) rfl (by kernel_rfl) (by kernel_rfl) (by kernel_rfl) (fun _ _ _ h => h) (by rfl) ?_ (by assumption) ?_
        rotate_left
        · intro X hSX
          try dsimp only at hSX
          go_simp <;> with_reducible rfl
        simp only [Act.put, List.setIfInBounds_toArray, List.set_cons_zero, List.set_cons_succ]
        refine wpAnyH_done (by kernel_rfl) ?_ _
        refine NoPanic.normal ?_
        go_wp2_with fail
        go_meet
        exact ⟨p, q, ad2, cap2, rfl, rfl, rfl, HRS⟩
    · skip
      go_simp
      have HPq := Lib.hid (heap_alloc_new X0 boxKy)
      have HNq := Lib.hid (show w.heap.size + 2 ≤ X0.heap.size from HT.out.size)
      replace HT := Lib.hid (HT.out.next (below_boxC X0 boxKy))
      refine held_go hK' (HT.out) ?_
      try simp only [Act.put, List.setIfInBounds_toArray, List.set_cons_zero, List.set_cons_succ]
      generalize World.alloc X0 _ = X1 at *
      generalize X0.heap.size = q at *
      clear hS0
      have hS0 := HT.out
      refine held_two (i := 3) (j := 10) rfl rfl (by kernel_rfl) (by rfl) (by rfl) (fun K' hK' => ?_) (fun K' hK' => ?_)
      · skip
        go_simp
        refine (HCP.out X1 (HIN.out.below HT.out.b)).mono ?_
        rintro e X2 ⟨ad1, cap1, rfl, hi, hkf, hb⟩
        have HI1 := Lib.hid hi
        have HK1 := Lib.hid (show KnoS X2 (fun j : Nat => j = q) ad1 c.l from KnoS.of_fr hkf (fun k (hk : k = q) => by have h_q := (Array.getElem?_eq_some_iff.1 HPq.out).1; omega))
        clear hi hkf
        replace HPq := Lib.hid (row_next HPq.out hb)
        replace HT := Lib.hid (HT.out.next hb)
        refine held_go hK' (HT.out) ?_
        try simp only [Act.put, List.setIfInBounds_toArray, List.set_cons_zero, List.set_cons_succ]
        clear hS0
        have hS0 := HT.out
        clear hb
        refine held_two (i := 4) (j := 10) rfl rfl (by kernel_rfl) (by rfl) (by rfl) (fun K' hK' => ?_) (fun K' hK' => ?_)
        · skip
          go_simp
          refine (HLD.out X2 ad1 cap1 HI1.out).mono ?_
          rintro e X3 ⟨ad2, cap2, rfl, hi2, hkp, hb⟩
          have HK2 := Lib.hid (show KnoS X3 (fun j : Nat => j = q) ad2 r.2.1.l from hkp _ (fun k (hk : k = q) => by have h_q := (Array.getElem?_eq_some_iff.1 HPq.out).1; omega) HK1.out)
          have HI2 := Lib.hid (show r.2.1.l.length ≤ cap2 ∧ cap2 ≤ maxLen ∧ (ad2 = none → cap2 = 0) ∧ r.2.1.bc.size ≤ maxLen from ⟨hi2.le, hi2.mx, hi2.nn, hi2.bs⟩)
          clear HI1 HK1 hi2 hkp
          replace HPq := Lib.hid (row_next HPq.out hb)
          replace HT := Lib.hid (HT.out.next hb)
          refine held_go hK' (HT.out) ?_
          try simp only [Act.put, List.setIfInBounds_toArray, List.set_cons_zero, List.set_cons_succ]
          clear hS0
          have hS0 := HT.out
          clear hb
          refine held_take (i := 5) (v := ?_) rfl (by kernel_rfl) (by kernel_rfl) (by kernel_rfl) (fun _ _ _ h => h) (by rfl) ?_ (by assumption) ?_
          rotate_left
          · intro X hSX
            try dsimp only at hSX
            go_simp <;> with_reducible rfl
          simp only [Act.put, List.setIfInBounds_toArray, List.set_cons_zero, List.set_cons_succ]
          refine held_take (i := 6) (v := ?_) rfl (by kernel_rfl) (by kernel_rfl) (by kernel_rfl) (fun _ _ _ h => h) (by rfl) ?_ (by assumption) ?_
          rotate_left
          · intro X hSX
            try dsimp only at hSX
            go_simp <;> with_reducible rfl
          simp only [Act.put, List.setIfInBounds_toArray, List.set_cons_zero, List.set_cons_succ]
          refine held_take (i := 7) (v := ?_) rfl (by kernel_rfl) (by kernel_rfl) (by kernel_rfl) (fun _ _ _ h => h) (by rfl) ?_ (by assumption) ?_
          rotate_left
          · intro X hSX
            try dsimp only at hSX
            go_simp <;> with_reducible rfl
          simp only [Act.put, List.setIfInBounds_toArray, List.set_cons_zero, List.set_cons_succ]
          refine held_take (i := 8) (v := ?_) rfl (by kernel_rfl) (by kernel_rfl) (by kernel_rfl) (fun _ _ _ h => h) (by rfl) ?_ (by assumption) ?_
          rotate_left
          · intro X hSX
            try dsimp only at hSX
            go_simp <;> with_reducible rfl
          simp only [Act.put, List.setIfInBounds_toArray, List.set_cons_zero, List.set_cons_succ]
          refine held_take (i := 9) (v := ?_) rfl (by kernel_rfl) (by kernel_rfl) (by kernel_rfl) (fun _ _ _ h => h) (by rfl) ?_ (by assumption) ?_
          rotate_left
          · intro X hSX
            try dsimp only at hSX
            go_simp <;> with_reducible rfl
          simp only [Act.put, List.setIfInBounds_toArray, List.set_cons_zero, List.set_cons_succ]
          refine held_call (i := 10) rfl (by kernel_rfl) (by rfl) (fun K' hK' => ?_)
          go_simp
          have HPp := Lib.hid (heap_alloc_new X3 boxDy)
          have HNp := Lib.hid (show w.heap.size + 2 ≤ X3.heap.size from HT.out.size)
          have HNE := Lib.hid (show X3.heap.size ≠ q ∨ q ≠ X3.heap.size by have h1 := (Array.getElem?_eq_some_iff.1 HPq.out).1; omega)
          replace HPq := Lib.hid (row_next HPq.out (below_boxC X3 boxDy))
          replace HK2 := Lib.hid (HK2.out.add (T := (fun j : Nat => j = X3.heap.size ∨ j = q)) boxDy (fun k hk => hk.symm))
          replace HT := Lib.hid (HT.out.next (below_boxC X3 boxDy))
          refine held_go hK' (HT.out) ?_
          try simp only [Act.put, List.setIfInBounds_toArray, List.set_cons_zero, List.set_cons_succ]
          generalize World.alloc X3 _ = X4 at *
          generalize X3.heap.size = p at *
          clear hS0
          have hS0 := HT.out
          refine held_call (i := 12) rfl (by kernel_rfl) (by rfl) (fun K' hK' => ?_)
          refine oper_store_dr (.tmp 9) (.tmp 31) rfl p rfl r.1 rfl drZ HPp.out ?_
          refine held_go hK' (HT.out.far HNp.out _) ?_
          try simp only [Act.put, List.setIfInBounds_toArray, List.set_cons_zero, List.set_cons_succ]
          have HRS := Lib.hid (rs_fin HPp.out HPq.out HNE.out HK2.out HI2.out HNp.out HNq.out HT.out)
          replace HPq := Lib.hid (row_keep (cs := drK r.1) HPq.out (by have h1 := HNE.out; omega : q ≠ p))
          clear hS0
          have hS0 := HT.out.far HNp.out (drK r.1)
          refine held_call (i := 13) rfl (by kernel_rfl) (by rfl) (fun K' hK' => ?_)
          refine oper_store_cq (.tmp 10) (.tmp 32) rfl q rfl r.2.1 ad2 cap2 rfl crZ none 0 HPq.out ?_
          refine held_go hK' (HRS.out.b) ?_
          try simp only [Act.put, List.setIfInBounds_toArray, List.set_cons_zero, List.set_cons_succ]
          clear hS0
          have hS0 := HRS.out.b
          refine held_take (i := 14) (v := ?_) rfl (by kernel_rfl) (by kernel_rfl) (by kernel_rfl) (fun _ _ _ h => h) (by rfl) ?_ (by assumption) ?_
          rotate_left
          · intro X hSX
            try dsimp only at hSX
            go_simp <;> with_reducible rfl
          simp only [Act.put, List.setIfInBounds_toArray, List.set_cons_zero, List.set_cons_succ]
          refine held_take (i := 15) (v := ?_) rfl (by kernel_rfl) (by kernel_rfl) (by kernel_rfl) (fun _ _ _ h => h) (by rfl) ?_ (by assumption) ?_
          rotate_left
          · intro X hSX
            try dsimp only at hSX
            go_simp <;> with_reducible rfl
          simp only [Act.put, List.setIfInBounds_toArray, List.set_cons_zero, List.set_cons_succ]
          refine wpAnyH_done (by kernel_rfl) ?_ _
          refine NoPanic.normal ?_
          go_wp2_with fail
          go_meet
          exact ⟨p, q, ad2, cap2, rfl, rfl, rfl, HRS⟩
        · skip
          go_simp
          have HPp := Lib.hid (heap_alloc_new X2 boxDy)
          have HNp := Lib.hid (show w.heap.size + 2 ≤ X2.heap.size from HT.out.size)
          have HNE := Lib.hid (show X2.heap.size ≠ q ∨ q ≠ X2.heap.size by have h1 := (Array.getElem?_eq_some_iff.1 HPq.out).1; omega)
          replace HPq := Lib.hid (row_next HPq.out (below_boxC X2 boxDy))
          replace HI1 := Lib.hid (HI1.out.below (below_boxC X2 boxDy))
          replace HK1 := Lib.hid (HK1.out.add (T := (fun j : Nat => j = X2.heap.size ∨ j = q)) boxDy (fun k hk => hk.symm))
          replace HT := Lib.hid (HT.out.next (below_boxC X2 boxDy))
          refine held_go hK' (HT.out) ?_
          try simp only [Act.put, List.setIfInBounds_toArray, List.set_cons_zero, List.set_cons_succ]
          generalize World.alloc X2 _ = X3 at *
          generalize X2.heap.size = p at *
          clear hS0
          have hS0 := HT.out
          refine held_call (i := 4) rfl (by kernel_rfl) (by rfl) (fun K' hK' => ?_)
          go_simp
          refine (HLD.out X3 ad1 cap1 HI1.out).mono ?_
          rintro e X4 ⟨ad2, cap2, rfl, hi2, hkp, hb⟩
          have HK2 := Lib.hid (show KnoS X4 (fun j : Nat => j = p ∨ j = q) ad2 r.2.1.l from hkp _ (fun k (hk : k = p ∨ k = q) => by have h_p := (Array.getElem?_eq_some_iff.1 HPp.out).1; have h_q := (Array.getElem?_eq_some_iff.1 HPq.out).1; omega) HK1.out)
          have HI2 := Lib.hid (show r.2.1.l.length ≤ cap2 ∧ cap2 ≤ maxLen ∧ (ad2 = none → cap2 = 0) ∧ r.2.1.bc.size ≤ maxLen from ⟨hi2.le, hi2.mx, hi2.nn, hi2.bs⟩)
          clear HI1 HK1 hi2 hkp
          replace HPq := Lib.hid (row_next HPq.out hb)
          replace HPp := Lib.hid (row_next HPp.out hb)
          replace HT := Lib.hid (HT.out.next hb)
          refine held_go hK' (HT.out) ?_
          try simp only [Act.put, List.setIfInBounds_toArray, List.set_cons_zero, List.set_cons_succ]
          clear hS0
          have hS0 := HT.out
          clear hb
          refine held_take (i := 5) (v := ?_) rfl (by kernel_rfl) (by kernel_rfl) (by kernel_rfl) (fun _ _ _ h => h) (by rfl) ?_ (by assumption) ?_
          rotate_left
          · intro X hSX
            try dsimp only at hSX
            go_simp <;> with_reducible rfl
          simp only [Act.put, List.setIfInBounds_toArray, List.set_cons_zero, List.set_cons_succ]
          refine held_take (i := 6) (v := ?_) rfl (by kernel_rfl) (by kernel_rfl) (by kernel_rfl) (fun _ _ _ h => h) (by rfl) ?_ (by assumption) ?_
          rotate_left
          · intro X hSX
            try dsimp only at hSX
            go_simp <;> with_reducible rfl
          simp only [Act.put, List.setIfInBounds_toArray, List.set_cons_zero, List.set_cons_succ]
          refine held_take (i := 7) (v := ?_) rfl (by kernel_rfl) (by kernel_rfl) (by kernel_rfl) (fun _ _ _ h => h) (by rfl) ?_ (by assumption) ?_
          rotate_left
          · intro X hSX
            try dsimp only at hSX
            go_simp <;> with_reducible rfl
          simp only [Act.put, List.setIfInBounds_toArray, List.set_cons_zero, List.set_cons_succ]
          refine held_take (i := 8) (v := ?_) rfl (by kernel_rfl) (by kernel_rfl) (by kernel_rfl) (fun _ _ _ h => h) (by rfl) ?_ (by assumption) ?_
          rotate_left
          · intro X hSX
            try dsimp only at hSX
            go_simp <;> with_reducible rfl
          simp only [Act.put, List.setIfInBounds_toArray, List.set_cons_zero, List.set_cons_succ]
          refine held_take (i := 9) (v := ?_) rfl (by kernel_rfl) (by kernel_rfl) (by kernel_rfl) (fun _ _ _ h => h) (by rfl) ?_ (by assumption) ?_
          rotate_left
          · intro X hSX
            try dsimp only at hSX
            go_simp <;> with_reducible rfl
          simp only [Act.put, List.setIfInBounds_toArray, List.set_cons_zero, List.set_cons_succ]
          refine held_call (i := 12) rfl (by kernel_rfl) (by rfl) (fun K' hK' => ?_)
          refine oper_store_dr (.tmp 9) (.tmp 31) rfl p rfl r.1 rfl drZ HPp.out ?_
          refine held_go hK' (HT.out.far HNp.out _) ?_
          try simp only [Act.put, List.setIfInBounds_toArray, List.set_cons_zero, List.set_cons_succ]
          have HRS := Lib.hid (rs_fin HPp.out HPq.out HNE.out HK2.out HI2.out HNp.out HNq.out HT.out)
          replace HPq := Lib.hid (row_keep (cs := drK r.1) HPq.out (by have h1 := HNE.out; omega : q ≠ p))
          clear hS0
          have hS0 := HT.out.far HNp.out (drK r.1)
          refine held_call (i := 13) rfl (by kernel_rfl) (by rfl) (fun K' hK' => ?_)
          refine oper_store_cq (.tmp 10) (.tmp 32) rfl q rfl r.2.1 ad2 cap2 rfl crZ none 0 HPq.out ?_
          refine held_go hK' (HRS.out.b) ?_
          try simp only [Act.put, List.setIfInBounds_toArray, List.set_cons_zero, List.set_cons_succ]
          clear hS0
          have hS0 := HRS.out.b
          refine held_take (i := 14) (v := ?_) rfl (by kernel_rfl) (by kernel_rfl) (by kernel_rfl) (fun _ _ _ h => h) (by rfl) ?_ (by assumption) ?_
          rotate_left
          · intro X hSX
            try dsimp only at hSX
            go_simp <;> with_reducible rfl
          simp only [Act.put, List.setIfInBounds_toArray, List.set_cons_zero, List.set_cons_succ]
          refine held_take (i := 15) (v := ?_) rfl (by kernel_rfl) (by kernel_rfl) (by kernel_rfl) (fun _ _ _ h => h) (by rfl) ?_ (by assumption) ?_
          rotate_left
          · intro X hSX
            try dsimp only at hSX
            go_simp <;> with_reducible rfl
          simp only [Act.put, List.setIfInBounds_toArray, List.set_cons_zero, List.set_cons_succ]
          refine wpAnyH_done (by kernel_rfl) ?_ _
          refine NoPanic.normal ?_
          go_wp2_with fail
          go_meet
          exact ⟨p, q, ad2, cap2, rfl, rfl, rfl, HRS⟩
      · skip
        go_simp
        have HPp := Lib.hid (heap_alloc_new X1 boxDy)
        have HNp := Lib.hid (show w.heap.size + 2 ≤ X1.heap.size from HT.out.size)
        have HNE := Lib.hid (show X1.heap.size ≠ q ∨ q ≠ X1.heap.size by have h1 := (Array.getElem?_eq_some_iff.1 HPq.out).1; omega)
        replace HPq := Lib.hid (row_next HPq.out (below_boxC X1 boxDy))
        replace HT := Lib.hid (HT.out.next (below_boxC X1 boxDy))
        refine held_go hK' (HT.out) ?_
        try simp only [Act.put, List.setIfInBounds_toArray, List.set_cons_zero, List.set_cons_succ]
        generalize World.alloc X1 _ = X2 at *
        generalize X1.heap.size = p at *
        clear hS0
        have hS0 := HT.out
        refine held_call (i := 3) rfl (by kernel_rfl) (by rfl) (fun K' hK' => ?_)
        go_simp
        refine (HCP.out X2 (HIN.out.below HT.out.b)).mono ?_
        rintro e X3 ⟨ad1, cap1, rfl, hi, hkf, hb⟩
        have HI1 := Lib.hid hi
        have HK1 := Lib.hid (show KnoS X3 (fun j : Nat => j = p ∨ j = q) ad1 c.l from KnoS.of_fr hkf (fun k (hk : k = p ∨ k = q) => by have h_p := (Array.getElem?_eq_some_iff.1 HPp.out).1; have h_q := (Array.getElem?_eq_some_iff.1 HPq.out).1; omega))
        clear hi hkf
        replace HPq := Lib.hid (row_next HPq.out hb)
        replace HPp := Lib.hid (row_next HPp.out hb)
        replace HT := Lib.hid (HT.out.next hb)
        refine held_go hK' (HT.out) ?_
        try simp only [Act.put, List.setIfInBounds_toArray, List.set_cons_zero, List.set_cons_succ]
        clear hS0
        have hS0 := HT.out
        clear hb
        refine held_call (i := 4) rfl (by kernel_rfl) (by rfl) (fun K' hK' => ?_)
        go_simp
        refine (HLD.out X3 ad1 cap1 HI1.out).mono ?_
        rintro e X4 ⟨ad2, cap2, rfl, hi2, hkp, hb⟩
        have HK2 := Lib.hid (show KnoS X4 (fun j : Nat => j = p ∨ j = q) ad2 r.2.1.l from hkp _ (fun k (hk : k = p ∨ k = q) => by have h_p := (Array.getElem?_eq_some_iff.1 HPp.out).1; have h_q := (Array.getElem?_eq_some_iff.1 HPq.out).1; omega) HK1.out)
        have HI2 := Lib.hid (show r.2.1.l.length ≤ cap2 ∧ cap2 ≤ maxLen ∧ (ad2 = none → cap2 = 0) ∧ r.2.1.bc.size ≤ maxLen from ⟨hi2.le, hi2.mx, hi2.nn, hi2.bs⟩)
        clear HI1 HK1 hi2 hkp
        replace HPq := Lib.hid (row_next HPq.out hb)
        replace HPp := Lib.hid (row_next HPp.out hb)
        replace HT := Lib.hid (HT.out.next hb)
        refine held_go hK' (HT.out) ?_
        try simp only [Act.put, List.setIfInBounds_toArray, List.set_cons_zero, List.set_cons_succ]
        clear hS0
        have hS0 := HT.out
        clear hb
        refine held_take (i := 5) (v := ?_) rfl (by kernel_rfl) (by kernel_rfl) (by kernel_rfl) (fun _ _ _ h => h) (by rfl) ?_ (by assumption) ?_
        rotate_left
        · intro X hSX
          try dsimp only at hSX
          go_simp <;> with_reducible rfl
        simp only [Act.put, List.setIfInBounds_toArray, List.set_cons_zero, List.set_cons_succ]
        refine held_take (i := 6) (v := ?_) rfl (by kernel_rfl) (by kernel_rfl) (by kernel_rfl) (fun _ _ _ h => h) (by rfl) ?_ (by assumption) ?_
        rotate_left
        · intro X hSX
          try dsimp only at hSX
          go_simp <;> with_reducible rfl
        simp only [Act.put, List.setIfInBounds_toArray, List.set_cons_zero, List.set_cons_succ]
        refine held_take (i := 7) (v := ?_) rfl (by kernel_rfl) (by kernel_rfl) (by kernel_rfl) (fun _ _ _ h => h) (by rfl) ?_ (by assumption) ?_
        rotate_left
        · intro X hSX
          try dsimp only at hSX
          go_simp <;> with_reducible rfl
        simp only [Act.put, List.setIfInBounds_toArray, List.set_cons_zero, List.set_cons_succ]
        refine held_take (i := 8) (v := ?_) rfl (by kernel_rfl) (by kernel_rfl) (by kernel_rfl) (fun _ _ _ h => h) (by rfl) ?_ (by assumption) ?_
        rotate_left
        · intro X hSX
          try dsimp only at hSX
          go_simp <;> with_reducible rfl
        simp only [Act.put, List.setIfInBounds_toArray, List.set_cons_zero, List.set_cons_succ]
        refine held_take (i := 9) (v := ?_) rfl (by kernel_rfl) (by kernel_rfl) (by kernel_rfl) (fun _ _ _ h => h) (by rfl) ?_ (by assumption) ?_
        rotate_left
        · intro X hSX
          try dsimp only at hSX
          go_simp <;> with_reducible rfl
        simp only [Act.put, List.setIfInBounds_toArray, List.set_cons_zero, List.set_cons_succ]
        refine held_call (i := 12) rfl (by kernel_rfl) (by rfl) (fun K' hK' => ?_)
        refine oper_store_dr (.tmp 9) (.tmp 31) rfl p rfl r.1 rfl drZ HPp.out ?_
        refine held_go hK' (HT.out.far HNp.out _) ?_
        try simp only [Act.put, List.setIfInBounds_toArray, List.set_cons_zero, List.set_cons_succ]
        have HRS := Lib.hid (rs_fin HPp.out HPq.out HNE.out HK2.out HI2.out HNp.out HNq.out HT.out)
        replace HPq := Lib.hid (row_keep (cs := drK r.1) HPq.out (by have h1 := HNE.out; omega : q ≠ p))
        clear hS0
        have hS0 := HT.out.far HNp.out (drK r.1)
        refine held_call (i := 13) rfl (by kernel_rfl) (by rfl) (fun K' hK' => ?_)
        refine oper_store_cq (.tmp 10) (.tmp 32) rfl q rfl r.2.1 ad2 cap2 rfl crZ none 0 HPq.out ?_
        refine held_go hK' (HRS.out.b) ?_
        try simp only [Act.put, List.setIfInBounds_toArray, List.set_cons_zero, List.set_cons_succ]
        clear hS0
        have hS0 := HRS.out.b
        refine held_take (i := 14) (v := ?_) rfl (by kernel_rfl) (by kernel_rfl) (by kernel_rfl) (fun _ _ _ h => h) (by rfl) ?_ (by assumption) ?_
        rotate_left
        · intro X hSX
          try dsimp only at hSX
          go_simp <;> with_reducible rfl
        simp only [Act.put, List.setIfInBounds_toArray, List.set_cons_zero, List.set_cons_succ]
        refine held_take (i := 15) (v := ?_) rfl (by kernel_rfl) (by kernel_rfl) (by kernel_rfl) (fun _ _ _ h => h) (by rfl) ?_ (by assumption) ?_
        rotate_left
        · intro X hSX
          try dsimp only at hSX
          go_simp <;> with_reducible rfl
        simp only [Act.put, List.setIfInBounds_toArray, List.set_cons_zero, List.set_cons_succ]
        refine wpAnyH_done (by kernel_rfl) ?_ _
        refine NoPanic.normal ?_
        go_wp2_with fail
        go_meet
        exact ⟨p, q, ad2, cap2, rfl, rfl, rfl, HRS⟩
  case rest =>
    obtain ⟨p, q, ad2, cap2, rfl, rfl, rfl, hr⟩ := hcut
    have HR := Lib.hid hr.out
    clear hr HT HLD HCP
    obtain ⟨d1, c1, t1, e1⟩ := r
    simp only at HLL HR
    by_cases he : e1 = 0
    rotate_left
    · have hne : (e1 != 0) = true := by simp [he]
      go_wp2_with fail
      go_ret
      exact ⟨rfl, HR.out.b.b⟩
    subst he
    have HL1 := Lib.hid (HLL.out rfl)
    have HSK := Lib.hid (fun X ad1 cap1 (h : CrIn X c1 ad1 cap1) => seek_any m d1 c1 ad1 cap1 t X h)
    have HOK := Lib.hid (fun h => sk_ok (m := m) (d := d1) (c := c1) (t := t) h)
    clear HLL
    have hzs60 := hzs
    obtain ⟨_, m0, m1, m2, m3, m4⟩ := HR.out.b.m
    obtain ⟨_, f0, f1, f2, f3, f4, f5⟩ := DrAt.of HR.out.x
    obtain ⟨_, k0, k1, k2, k3, k4, k5, k6, k7, k8, k9, k10, k11, k12⟩ := CrAt.of HR.out.y
    go_wp2_with fail
    clear m0 m1 m2 m3 m4 f0 f1 f2 f3 f4 f5 k0 k1 k2 k3 k4 k5 k6 k7 k8 k9 k10 k11 k12
    by_cases hs : (skU m d1 c1 t).2.2.2 = 0
    rotate_left
    · clear HOK
      generalize skU m d1 c1 t = sq at *
      obtain ⟨d2, c2, t2, e2⟩ := sq
      simp only at hs HSK
      have hne : (e2 != 0) = true := by simp [hs]
      clear hs
      refine (HSK.out wc ad2 cap2 HR.out.i).mono ?_
      rintro e w3 ⟨ad3, cap3, rfl, hi, hkp, hb⟩
      have R3 := Lib.hid (HR.out.r3 hb)
      have R4 := Lib.hid (HR.out.r4 hb (drK d2))
      replace HR := Lib.hid (HR.out.call (d2 := d2) hb hkp hi)
      clear hi hkp hb
      obtain ⟨_, m0, m1, m2, m3, m4⟩ := HR.out.b.m
      obtain ⟨_, f0, f1, f2, f3, f4, f5⟩ := DrAt.of HR.out.x
      obtain ⟨_, k0, k1, k2, k3, k4, k5, k6, k7, k8, k9, k10, k11, k12⟩ := CrAt.of HR.out.y
      go_wp2_with (first
        | (with_reducible refine wpList_store_dr rfl (.tmp 9) (.tmp 43) rfl p rfl _ _ _ _ _ _ rfl d1 R3.out ?_)
        | (with_reducible refine wpList_store_cr rfl (.tmp 10) (.tmp 44) rfl q rfl _ _ _ _ _ _ _ _ _ _ _ _ _ _ _ rfl _ _ _ _ _ _ _ _ _ _ _ _ _ _ _ R4.out ?_)
        | fail)
      clear R3 R4
      clear m0 m1 m2 m3 m4 f0 f1 f2 f3 f4 f5 k0 k1 k2 k3 k4 k5 k6 k7 k8 k9 k10 k11 k12
      go_ret
      exact ⟨rfl, HR.out.b.b⟩
    obtain ⟨d2, c2, t2, hsq, htl, hh2, hl2, hf2⟩ := HOK.out hs
    rw [hsq] at HSK
    have HH2 := Lib.hid hh2
    have HL2 := Lib.hid hl2
    have HF2 := Lib.hid hf2
    clear hsq hs HOK hh2 hl2 hf2
    obtain ⟨A, hA⟩ : ∃ A : Nat, t = (A : Int) := ⟨t.toNat, by omega⟩
    subst hA
    have hAl : A ≤ c1.l.length := by omega
    have hA2 : A ≤ 200 := by have := HL1.out; rw [this] at hAl; omega
    clear htl
    refine (HSK.out wc ad2 cap2 HR.out.i).mono ?_
    rintro e w3 ⟨ad3, cap3, rfl, hi, hkp, hb⟩
    have R3 := Lib.hid (HR.out.r3 hb)
    have R4 := Lib.hid (HR.out.r4 hb (drK d2))
    replace HR := Lib.hid (HR.out.call (d2 := d2) hb hkp hi)
    clear hi hkp hb
    obtain ⟨_, m0, m1, m2, m3, m4⟩ := HR.out.b.m
    obtain ⟨_, f0, f1, f2, f3, f4, f5⟩ := DrAt.of HR.out.x
    obtain ⟨_, k0, k1, k2, k3, k4, k5, k6, k7, k8, k9, k10, k11, k12⟩ := CrAt.of HR.out.y
    go_wp2_with (first
      | (with_reducible refine wpList_store_dr rfl (.tmp 9) (.tmp 43) rfl p rfl _ _ _ _ _ _ rfl d1 R3.out ?_)
      | (with_reducible refine wpList_store_cr rfl (.tmp 10) (.tmp 44) rfl q rfl _ _ _ _ _ _ _ _ _ _ _ _ _ _ _ rfl _ _ _ _ _ _ _ _ _ _ _ _ _ _ _ R4.out ?_)
      | fail)
    clear R3 R4
    clear m0 m1 m2 m3 m4 f0 f1 f2 f3 f4 f5 k0 k1 k2 k3 k4 k5 k6 k7 k8 k9 k10 k11 k12
    generalize World.setRow (World.setRow w3 _ _) _ _ = Z3 at *
    replace HSK := Lib.hid (fun X ad1 cap1 (h : CrIn X c2 ad1 cap1) (hz : Ki X zd z) => dwrite_any m d2 c2 ad1 cap1 zd z.length zc z X h hz rfl (by omega) hznil)
    have HOK := Lib.hid (fun h => wr_ok (m := m) (d := d2) (c := c2) (z := z) HF2.out h)
    by_cases hs : (wrU m d2 c2 z).2.2.2 = 0
    rotate_left
    · clear HOK
      generalize wrU m d2 c2 z = sq at *
      obtain ⟨d3, c3, t3, e3⟩ := sq
      simp only at hs HSK
      have hne : (e3 != 0) = true := by simp [hs]
      clear hs
      refine (HSK.out Z3 ad3 cap3 HR.out.i (HZI.out.below HR.out.b.b)).mono ?_
      rintro e w4 ⟨ad4, cap4, rfl, hi, hkp, hb⟩
      have R3 := Lib.hid (HR.out.r3 hb)
      have R4 := Lib.hid (HR.out.r4 hb (drK d3))
      replace HR := Lib.hid (HR.out.call (d2 := d3) hb hkp hi)
      clear hi hkp hb
      obtain ⟨_, m0, m1, m2, m3, m4⟩ := HR.out.b.m
      obtain ⟨_, f0, f1, f2, f3, f4, f5⟩ := DrAt.of HR.out.x
      obtain ⟨_, k0, k1, k2, k3, k4, k5, k6, k7, k8, k9, k10, k11, k12⟩ := CrAt.of HR.out.y
      go_wp2_with (first
        | (with_reducible refine wpList_store_dr rfl (.tmp 9) (.tmp 55) rfl p rfl _ _ _ _ _ _ rfl d2 R3.out ?_)
        | (with_reducible refine wpList_store_cr rfl (.tmp 10) (.tmp 56) rfl q rfl _ _ _ _ _ _ _ _ _ _ _ _ _ _ _ rfl _ _ _ _ _ _ _ _ _ _ _ _ _ _ _ R4.out ?_)
        | fail)
      clear R3 R4
      clear m0 m1 m2 m3 m4 f0 f1 f2 f3 f4 f5 k0 k1 k2 k3 k4 k5 k6 k7 k8 k9 k10 k11 k12
      go_ret
      exact ⟨rfl, HR.out.b.b⟩
    obtain ⟨d3, c3, t3, hsq, hz1, hh3, hl3, hzw, hf3⟩ := HOK.out hs
    rw [hsq] at HSK
    rw [HH2.out] at hh3 hl3
    rw [HL2.out] at hl3
    have HH3 := Lib.hid (show d3.hd = (A : Int) + (z.length : Int) from hh3)
    have HL3 := Lib.hid (show c3.l = c1.l.take A ++ z from hl3)
    have HF3 := Lib.hid hf3
    have HZW := Lib.hid hzw
    have HZ1 := Lib.hid hz1
    have HLN := Lib.hid (show c3.l.length = A + z.length by rw [HL3.out, List.length_append, List.length_take]; omega)
    clear hsq hs HOK hh3 hl3 hf3 hzw hz1 HH2 HL2 HF2
    refine (HSK.out Z3 ad3 cap3 HR.out.i (HZI.out.below HR.out.b.b)).mono ?_
    rintro e w4 ⟨ad4, cap4, rfl, hi, hkp, hb⟩
    have R3 := Lib.hid (HR.out.r3 hb)
    have R4 := Lib.hid (HR.out.r4 hb (drK d3))
    replace HR := Lib.hid (HR.out.call (d2 := d3) hb hkp hi)
    clear hi hkp hb
    obtain ⟨_, m0, m1, m2, m3, m4⟩ := HR.out.b.m
    obtain ⟨_, f0, f1, f2, f3, f4, f5⟩ := DrAt.of HR.out.x
    obtain ⟨_, k0, k1, k2, k3, k4, k5, k6, k7, k8, k9, k10, k11, k12⟩ := CrAt.of HR.out.y
    go_wp2_with (first
      | (with_reducible refine wpList_store_dr rfl (.tmp 9) (.tmp 55) rfl p rfl _ _ _ _ _ _ rfl d2 R3.out ?_)
      | (with_reducible refine wpList_store_cr rfl (.tmp 10) (.tmp 56) rfl q rfl _ _ _ _ _ _ _ _ _ _ _ _ _ _ _ rfl _ _ _ _ _ _ _ _ _ _ _ _ _ _ _ R4.out ?_)
      | fail)
    clear R3 R4
    clear m0 m1 m2 m3 m4 f0 f1 f2 f3 f4 f5 k0 k1 k2 k3 k4 k5 k6 k7 k8 k9 k10 k11 k12
    generalize World.setRow (World.setRow w4 _ _) _ _ = Z4 at *
    clear HSK
    have hq1 : (d3.hd != (A : Int) + (z.length : Int)) = false := by rw [HH3.out]; simp
    have hq2 : ((c3.l.length : Int) != (A : Int) + (z.length : Int)) = false := by rw [HLN.out]; simp
    have hw1 : IntKind.i64.wrap ((A : Int) + (z.length : Int)) = (A : Int) + (z.length : Int) := by rw [IntKind.wrap_i64]; omega
    have hac : A ≤ cap4 := by have h1 := HR.out.e.1; have h2 := HLN.out; omega
    have hac0 : A ≤ cap := by have h1 := HIN.out.le; have h2 := HL1.out; rw [h2] at hAl; omega
    have HSL := Lib.hid (fun X (h : Below Z4.heap.size Z4 X) => same_l (l := c1.l.take A) (n1 := A) (n2 := A) (cap := cap4) (cap2 := cap) (by rw [List.length_take]; omega) (by rw [List.length_take]; omega) X (ad := ad4) (bd := ad)
      (by have h1 := ((HR.out.k.below h).ki).pre A; rw [HL3.out, List.take_left' (by rw [List.length_take]; omega)] at h1; exact h1)
      (by have h1 := ((HIN.out.below (HR.out.b.next h).b).ki).pre A; rw [← HL1.out] at h1; exact h1) (by omega))
    have HB1 := Lib.hid (Below.refl Z4.heap.size Z4).drew
    refine wp_region_noPanic ?_
    refine wp_region_held_drew (S := (fun X => Below Z4.heap.size Z4 X)) (by kernel_rfl) (HB1.out) (fun hS0 => ?_)
    generalize World.drew Z4 = X0 at *
    refine held_take (i := 0) (v := ?_) rfl (by kernel_rfl) (by kernel_rfl) (by kernel_rfl) (fun _ _ _ h => h) (by rfl) ?_ (by assumption) ?_
    rotate_left
    · intro X hSX
      try dsimp only at hSX
      go_simp <;> with_reducible rfl
    simp only [Act.put, List.setIfInBounds_toArray, List.set_cons_zero, List.set_cons_succ]
    refine held_take (i := 1) (v := ?_) rfl (by kernel_rfl) (by kernel_rfl) (by kernel_rfl) (fun _ _ _ h => h) (by rfl) ?_ (by assumption) ?_
    rotate_left
    · intro X hSX
      try dsimp only at hSX
      obtain ⟨_, f0, f1, f2, f3, f4, f5⟩ := DrAt.of (row_next HR.out.x hSX)
      rw [HH3.out] at f2
      go_simp <;> with_reducible rfl
    simp only [Act.put, List.setIfInBounds_toArray, List.set_cons_zero, List.set_cons_succ]
    refine held_take (i := 2) (v := ?_) rfl (by kernel_rfl) (by kernel_rfl) (by kernel_rfl) (fun _ _ _ h => h) (by rfl) ?_ (by assumption) ?_
    rotate_left
    · intro X hSX
      try dsimp only at hSX
      go_simp <;> with_reducible rfl
    simp only [Act.put, List.setIfInBounds_toArray, List.set_cons_zero, List.set_cons_succ]
    refine held_take (i := 3) (v := ?_) rfl (by kernel_rfl) (by kernel_rfl) (by kernel_rfl) (fun _ _ _ h => h) (by rfl) ?_ (by assumption) ?_
    rotate_left
    · intro X hSX
      try dsimp only at hSX
      go_simp <;> with_reducible rfl
    simp only [Act.put, List.setIfInBounds_toArray, List.set_cons_zero, List.set_cons_succ]
    refine held_take (i := 4) (v := ?_) rfl (by kernel_rfl) (by kernel_rfl) (by kernel_rfl) (fun _ _ _ h => h) (by rfl) ?_ (by assumption) ?_
    rotate_left
    · intro X hSX
      try dsimp only at hSX
      go_simp <;> with_reducible rfl
    simp only [Act.put, List.setIfInBounds_toArray, List.set_cons_zero, List.set_cons_succ]
    refine held_take (i := 5) (v := ?_) rfl (by kernel_rfl) (by kernel_rfl) (by kernel_rfl) (fun _ _ _ h => h) (by rfl) ?_ (by assumption) ?_
    rotate_left
    · intro X hSX
      try dsimp only at hSX
      go_simp <;> with_reducible rfl
    simp only [Act.put, List.setIfInBounds_toArray, List.set_cons_zero, List.set_cons_succ]
    refine held_take (i := 6) (v := ?_) rfl (by kernel_rfl) (by kernel_rfl) (by kernel_rfl) (fun _ _ _ h => h) (by rfl) ?_ (by assumption) ?_
    rotate_left
    · intro X hSX
      try dsimp only at hSX
      go_simp <;> with_reducible rfl
    simp only [Act.put, List.setIfInBounds_toArray, List.set_cons_zero, List.set_cons_succ]
    refine held_take (i := 7) (v := ?_) rfl (by kernel_rfl) (by kernel_rfl) (by kernel_rfl) (fun _ _ _ h => h) (by rfl) ?_ (by assumption) ?_
    rotate_left
    · intro X hSX
      try dsimp only at hSX
      go_simp <;> with_reducible rfl
    simp only [Act.put, List.setIfInBounds_toArray, List.set_cons_zero, List.set_cons_succ]
    refine held_take (i := 8) (v := ?_) rfl (by kernel_rfl) (by kernel_rfl) (by kernel_rfl) (fun _ _ _ h => h) (by rfl) ?_ (by assumption) ?_
    rotate_left
    · intro X hSX
      try dsimp only at hSX
      go_simp <;> with_reducible rfl
    simp only [Act.put, List.setIfInBounds_toArray, List.set_cons_zero, List.set_cons_succ]
    refine held_take (i := 9) (v := ?_) rfl (by kernel_rfl) (by kernel_rfl) (by kernel_rfl) (fun _ _ _ h => h) (by rfl) ?_ (by assumption) ?_
    rotate_left
    · intro X hSX
      try dsimp only at hSX
      obtain ⟨_, k0, k1, k2, k3, k4, k5, k6, k7, k8, k9, k10, k11, k12⟩ := CrAt.of (row_next HR.out.y hSX)
      rw [HLN.out] at k9
      go_simp <;> with_reducible rfl
    simp only [Act.put, List.setIfInBounds_toArray, List.set_cons_zero, List.set_cons_succ]
    refine held_take (i := 10) (v := ?_) rfl (by kernel_rfl) (by kernel_rfl) (by kernel_rfl) (fun _ _ _ h => h) (by rfl) ?_ (by assumption) ?_
    rotate_left
    · intro X hSX
      try dsimp only at hSX
      go_simp <;> with_reducible rfl
    simp only [Act.put, List.setIfInBounds_toArray, List.set_cons_zero, List.set_cons_succ]
    refine held_take (i := 11) (v := ?_) rfl (by kernel_rfl) (by kernel_rfl) (by kernel_rfl) (fun _ _ _ h => h) (by rfl) ?_ (by assumption) ?_
    rotate_left
    · intro X hSX
      try dsimp only at hSX
      go_simp <;> with_reducible rfl
    simp only [Act.put, List.setIfInBounds_toArray, List.set_cons_zero, List.set_cons_succ]
    refine held_take (i := 12) (v := ?_) rfl (by kernel_rfl) (by kernel_rfl) (by kernel_rfl) (fun _ _ _ h => h) (by rfl) ?_ (by assumption) ?_
    rotate_left
    · intro X hSX
      try dsimp only at hSX
      go_simp <;> with_reducible rfl
    simp only [Act.put, List.setIfInBounds_toArray, List.set_cons_zero, List.set_cons_succ]
    refine held_take (i := 13) (v := ?_) rfl (by kernel_rfl) (by kernel_rfl) (by kernel_rfl) (fun _ _ _ h => h) (by rfl) ?_ (by assumption) ?_
    rotate_left
    · intro X hSX
      try dsimp only at hSX
      go_simp <;> with_reducible rfl
    simp only [Act.put, List.setIfInBounds_toArray, List.set_cons_zero, List.set_cons_succ]
    refine held_take (i := 14) (v := ?_) rfl (by kernel_rfl) (by kernel_rfl) (by kernel_rfl) (fun _ _ _ h => h) (by rfl) ?_ (by assumption) ?_
    rotate_left
    · intro X hSX
      try dsimp only at hSX
      go_simp <;> with_reducible rfl
    simp only [Act.put, List.setIfInBounds_toArray, List.set_cons_zero, List.set_cons_succ]
    refine held_take (i := 15) (v := ?_) rfl (by kernel_rfl) (by kernel_rfl) (by kernel_rfl) (fun _ _ _ h => h) (by rfl) ?_ (by assumption) ?_
    rotate_left
    · intro X hSX
      try dsimp only at hSX
      go_simp <;> with_reducible rfl
    simp only [Act.put, List.setIfInBounds_toArray, List.set_cons_zero, List.set_cons_succ]
    refine held_take (i := 16) (v := ?_) rfl (by kernel_rfl) (by kernel_rfl) (by kernel_rfl) (fun _ _ _ h => h) (by rfl) ?_ (by assumption) ?_
    rotate_left
    · intro X hSX
      try dsimp only at hSX
      go_simp <;> with_reducible rfl
    simp only [Act.put, List.setIfInBounds_toArray, List.set_cons_zero, List.set_cons_succ]
    refine held_take (i := 17) (v := ?_) rfl (by kernel_rfl) (by kernel_rfl) (by kernel_rfl) (fun _ _ _ h => h) (by rfl) ?_ (by assumption) ?_
    rotate_left
    · intro X hSX
      try dsimp only at hSX
      go_simp <;> with_reducible rfl
    simp only [Act.put, List.setIfInBounds_toArray, List.set_cons_zero, List.set_cons_succ]
    refine held_take (i := 18) (v := ?_) rfl (by kernel_rfl) (by kernel_rfl) (by kernel_rfl) (fun _ _ _ h => h) (by rfl) ?_ (by assumption) ?_
    rotate_left
    · intro X hSX
      try dsimp only at hSX
      go_simp <;> with_reducible rfl
    simp only [Act.put, List.setIfInBounds_toArray, List.set_cons_zero, List.set_cons_succ]
    refine held_take (i := 19) (v := ?_) rfl (by kernel_rfl) (by kernel_rfl) (by kernel_rfl) (fun _ _ _ h => h) (by rfl) ?_ (by assumption) ?_
    rotate_left
    · intro X hSX
      try dsimp only at hSX
      obtain ⟨_, k0, k1, k2, k3, k4, k5, k6, k7, k8, k9, k10, k11, k12⟩ := CrAt.of (row_next HR.out.y hSX)
      go_simp <;> with_reducible rfl
    simp only [Act.put, List.setIfInBounds_toArray, List.set_cons_zero, List.set_cons_succ]
    refine held_take (i := 20) (v := ?_) rfl (by kernel_rfl) (by kernel_rfl) (by kernel_rfl) (fun _ _ _ h => h) (by rfl) ?_ (by assumption) ?_
    rotate_left
    · intro X hSX
      try dsimp only at hSX
      go_simp <;> with_reducible rfl
    simp only [Act.put, List.setIfInBounds_toArray, List.set_cons_zero, List.set_cons_succ]
    refine held_take (i := 21) (v := ?_) rfl (by kernel_rfl) (by kernel_rfl) (by kernel_rfl) (fun _ _ _ h => h) (by rfl) ?_ (by assumption) ?_
    rotate_left
    · intro X hSX
      try dsimp only at hSX
      go_simp <;> with_reducible rfl
    simp only [Act.put, List.setIfInBounds_toArray, List.set_cons_zero, List.set_cons_succ]
    refine held_take (i := 22) (v := ?_) rfl (by kernel_rfl) (by kernel_rfl) (by kernel_rfl) (fun _ _ _ h => h) (by rfl) ?_ (by assumption) ?_
    rotate_left
    · intro X hSX
      try dsimp only at hSX
      go_simp <;> with_reducible rfl
    simp only [Act.put, List.setIfInBounds_toArray, List.set_cons_zero, List.set_cons_succ]
    refine held_take (i := 23) (v := ?_) rfl (by kernel_rfl) (by kernel_rfl) (by kernel_rfl) (fun _ _ _ h => h) (by rfl) ?_ (by assumption) ?_
    rotate_left
    · intro X hSX
      try dsimp only at hSX
      obtain ⟨_, k0, k1, k2, k3, k4, k5, k6, k7, k8, k9, k10, k11, k12⟩ := (HR.out.b.next hSX).c1
      go_simp <;> with_reducible rfl
    simp only [Act.put, List.setIfInBounds_toArray, List.set_cons_zero, List.set_cons_succ]
    refine held_take (i := 24) (v := ?_) rfl (by kernel_rfl) (by kernel_rfl) (by kernel_rfl) (fun _ _ _ h => h) (by rfl) ?_ (by assumption) ?_
    rotate_left
    · intro X hSX
      try dsimp only at hSX
      go_simp <;> with_reducible rfl
    simp only [Act.put, List.setIfInBounds_toArray, List.set_cons_zero, List.set_cons_succ]
    refine held_take (i := 25) (v := ?_) rfl (by kernel_rfl) (by kernel_rfl) (by kernel_rfl) (fun _ _ _ h => h) (by rfl) ?_ (by assumption) ?_
    rotate_left
    · intro X hSX
      try dsimp only at hSX
      go_simp <;> with_reducible rfl
    simp only [Act.put, List.setIfInBounds_toArray, List.set_cons_zero, List.set_cons_succ]
    refine held_call (i := 26) rfl (by kernel_rfl) (by rfl) (fun K' hK' => ?_)
    go_simp
    refine (HSL.out X0 HB1.out).mono ?_
    rintro e X1 ⟨rfl, hb⟩
    have HB2 := Lib.hid (HB1.out.trans (hb.mono HB1.out.size))
    refine held_go hK' (HB2.out) ?_
    try simp only [Act.put, List.setIfInBounds_toArray, List.set_cons_zero, List.set_cons_succ]
    clear hb hS0 HB1 HSL
    have hS0 := HB2.out
    refine held_take (i := 27) (v := ?_) rfl (by kernel_rfl) (by kernel_rfl) (by kernel_rfl) (fun _ _ _ h => h) (by rfl) ?_ (by assumption) ?_
    rotate_left
    · intro X hSX
      try dsimp only at hSX
      go_simp <;> with_reducible rfl
    simp only [Act.put, List.setIfInBounds_toArray, List.set_cons_zero, List.set_cons_succ]
    refine held_take (i := 28) (v := ?_) rfl (by kernel_rfl) (by kernel_rfl) (by kernel_rfl) (fun _ _ _ h => h) (by rfl) ?_ (by assumption) ?_
    rotate_left
    · intro X hSX
      try dsimp only at hSX
      go_simp <;> with_reducible rfl
    simp only [Act.put, List.setIfInBounds_toArray, List.set_cons_zero, List.set_cons_succ]
    refine wpAnyH_done (by kernel_rfl) ?_ _
    refine NoPanic.normal ?_
    clear hS0 hq1 hq2 hac hac0
    replace HR := Lib.hid (HR.out.next HB2.out)
    clear HB2
    have HSK := Lib.hid (fun X ad1 cap1 (h : CrIn X c3 ad1 cap1) => seek_any m d3 c3 ad1 cap1 (A : Int) X h)
    obtain ⟨d4, c4, t4, hsq, htl, hh4, hl4, hf4⟩ := sk_ok (sk_do (m := m) (d := d3) (c := c3) (t := (A : Int)) HF3.out ⟨by omega, by have := HLN.out; omega⟩)
    rw [hsq] at HSK
    have HH4 := Lib.hid hh4
    have HL4 := Lib.hid (show c4.l = c1.l.take A ++ z by rw [hl4]; exact HL3.out)
    have HF4 := Lib.hid hf4
    clear hsq htl hh4 hl4 hf4 HF3 HH3 HL3 HLN
    obtain ⟨_, m0, m1, m2, m3, m4⟩ := HR.out.b.m
    obtain ⟨_, f0, f1, f2, f3, f4, f5⟩ := DrAt.of HR.out.x
    obtain ⟨_, k0, k1, k2, k3, k4, k5, k6, k7, k8, k9, k10, k11, k12⟩ := CrAt.of HR.out.y
    go_wp2_with fail
    clear m0 m1 m2 m3 m4 f0 f1 f2 f3 f4 f5 k0 k1 k2 k3 k4 k5 k6 k7 k8 k9 k10 k11 k12
    refine (HSK.out X1 ad4 cap4 HR.out.i).mono ?_
    rintro e w5 ⟨ad5, cap5, rfl, hi, hkp, hb⟩
    have R3 := Lib.hid (HR.out.r3 hb)
    have R4 := Lib.hid (HR.out.r4 hb (drK d4))
    replace HR := Lib.hid (HR.out.call (d2 := d4) hb hkp hi)
    clear hi hkp hb
    obtain ⟨_, m0, m1, m2, m3, m4⟩ := HR.out.b.m
    obtain ⟨_, f0, f1, f2, f3, f4, f5⟩ := DrAt.of HR.out.x
    obtain ⟨_, k0, k1, k2, k3, k4, k5, k6, k7, k8, k9, k10, k11, k12⟩ := CrAt.of HR.out.y
    go_wp2_with (first
      | (with_reducible refine wpList_store_dr rfl (.tmp 9) (.tmp 96) rfl p rfl _ _ _ _ _ _ rfl d3 R3.out ?_)
      | (with_reducible refine wpList_store_cr rfl (.tmp 10) (.tmp 97) rfl q rfl _ _ _ _ _ _ _ _ _ _ _ _ _ _ _ rfl _ _ _ _ _ _ _ _ _ _ _ _ _ _ _ R4.out ?_)
      | fail)
    clear R3 R4
    clear m0 m1 m2 m3 m4 f0 f1 f2 f3 f4 f5 k0 k1 k2 k3 k4 k5 k6 k7 k8 k9 k10 k11 k12
    generalize World.setRow (World.setRow w5 _ _) _ _ = Z5 at *
    clear HSK
    obtain ⟨d5, c5, t5, hsq, hh5⟩ := rd_do (m := m) (d := d4) (c := c4) (z := z) HF4.out (by rw [HL4.out, HH4.out, Int.toNat_natCast, List.drop_left' (by rw [List.length_take]; omega)]) HZ1.out (by rw [HL4.out, HH4.out, List.length_append, List.length_take]; omega) HZW.out
    rw [HH4.out] at hh5
    have HRD := Lib.hid (fun X ad1 cap1 (h : CrIn X c4 ad1 cap1) => dread_any m d4 c4 ad1 cap1 (z.length : Int) X h (by omega))
    rw [hsq] at HRD
    have hq3 : (d5.hd == (A : Int) + (z.length : Int)) = true := by rw [hh5]; simp
    clear hsq hh5 HF4 HH4 HL4 HZW HZ1
    refine (HRD.out Z5 ad5 cap5 HR.out.i).mono ?_
    rintro e w6 ⟨ad6, cap6, bd, bn, bc, rfl, hbn, hi, hkp, hkz, hbl, hbm, hbnil, hb⟩
    obtain rfl : bn = z.length := hbn
    have hne5 := (Array.getElem?_eq_some_iff.1 HR.out.x).1
    have R3 := Lib.hid (show (w6.alloc (.cells (crK ⟨#[]⟩ 0 0 0 0 0 0 false false none 0 0 0 0 0) 30)).heap[p]? = some (.cells (drK d4) 25 (0, 0)) from row_next (row_next HR.out.x hb) (below_boxC w6 _))
    have R4 := Lib.hid (show ((w6.alloc (.cells (crK ⟨#[]⟩ 0 0 0 0 0 0 false false none 0 0 0 0 0) 30)).setRow p (drK d5)).heap[w6.heap.size]? = some (.cells (crK ⟨#[]⟩ 0 0 0 0 0 0 false false none 0 0 0 0 0) 30 (0, 0)) by rw [setRow_other _ _ _ _ (by have := hb.size; omega)]; exact heap_alloc_new w6 _)
    obtain ⟨HX6, HB6, HK6⟩ := HR.out.rd (d2 := d5) (cs := crQ c5 ad6 cap6) hb hkz
    clear hi hkp hkz hb hne5 HR
    obtain ⟨_, f0, f1, f2, f3, f4, f5⟩ := DrAt.of HX6
    go_wp2_with (first
      | (with_reducible refine wpList_store_dr rfl (.tmp 9) (.tmp 109) rfl p rfl _ _ _ _ _ _ rfl d4 R3.out ?_)
      | (with_reducible refine wpList_store_cr rfl (.tmp 13) (.tmp 110) rfl w6.heap.size rfl _ _ _ _ _ _ _ _ _ _ _ _ _ _ _ rfl _ _ _ _ _ _ _ _ _ _ _ _ _ _ _ R4.out ?_)
      | fail)
    refine (same_l (l := z) rfl rfl _ HK6 (HZI.out.below HB6.b) (by omega)).mono ?_
    rintro e w7 ⟨rfl, hb⟩
    replace HB6 := HB6.next hb
    obtain ⟨_, f0, f1, f2, f3, f4, f5⟩ := DrAt.of (row_next HX6 hb)
    go_wp2_with fail
    go_ret
    exact ⟨rfl, HB6.b⟩
end Go.Proofs.Ytogeenihpcbbcaa
