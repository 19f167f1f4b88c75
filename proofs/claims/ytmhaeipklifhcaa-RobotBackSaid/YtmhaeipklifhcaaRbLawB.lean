/-
  The laws RobotBack and RobotMoves.
-/
import Derived.Test.YtmhaeipklifhcaaRbLawA
import Derived.Test.YtmhaeipklifhcaaRbMove
namespace Go.Proofs.Ytmhaeipklifhcaa
open Go.RowKit
set_option linter.unusedVariables false
attribute [local irreducible] inn mdlR rail dst vldR trvR finR locR picR putR perR farR posR empR
theorem ro_eq {r r2 : Rbt} {p : Int} (h : { r2 with p := p } = r) : r2.f = r.f ∧ r2.l = r.l ∧ r2.po = r.po ∧ r2.ha = r.ha ∧ p = r.p := by
  subst h
  exact ⟨rfl, rfl, rfl, rfl, rfl⟩
set_option maxRecDepth 100000 in
set_option maxHeartbeats 4000000 in
theorem law_back (m : Rmd) (r : Rbt) (ad : Option Addr) (n cap : Nat) (k i : Int) (w : World) (ha : RoArg w r ad n cap) :
    Calls Try.prog 7 #[rmV m, roV r ad n cap, elV k i] w fun e w' => e = .returned (.bool true) ∧ Below w.heap.size w w' := by
  obtain ⟨hB, hM, hR, hE, hS⟩ := box_mre w m r ad n cap k i
  have HB := Lib.hid hB
  have HM := Lib.hid hM
  have HR := Lib.hid hR
  have HE := Lib.hid (ElAt.of hE)
  have HS := Lib.hid (Nat.le_of_eq hS.symm)
  have HA := Lib.hid ha
  have HF := Lib.hid (fun X (h : Below w.heap.size w X) => few_any r ad n cap X (ha.l.below h rfl) ha.len ha.c ha.mx)
  clear hB hM hR hE hS ha
  go_enter Try.func7, Try.ntmps7
  go_wp2_with fail
  generalize World.alloc _ _ = X0 at *
  refine (HF.out X0 HB.out).mono ?_
  rintro e w1 ⟨n1, rfl, hn1, h70, hb1⟩
  have HR1 := Lib.hid (row_step HR.out hb1)
  have HX := Lib.hid (Lw.start HA.out (HB.out.trans (hb1.mono HB.out.size)) (Nat.le_trans HS.out hb1.size) (HM.out.step hb1) HR1.out (HE.out.step hb1) hn1 h70)
  clear hn1 h70 hb1
  go_upto_region 2 with (with_reducible refine wpList_store_ro rfl (.tmp 4) (.tmp 16) rfl (w.heap.size + 1) rfl _ _ _ _ _ _ _ rfl r ad n cap HR1.out ?_)
  have HX1 := Lib.hid HX.out
  generalize World.setRow _ _ _ = X1 at *
  clear HX HR1 HF HM HR HE HB
  obtain ⟨f, hf⟩ : ∃ f, f = fewR r := ⟨_, rfl⟩
  rw [← hf] at HX1 ⊢
  clear hf
  obtain ⟨_, g0, g1, g2, g3, g4, g5, g6⟩ := HX1.out.md
  obtain ⟨_, k0, k1, k2, k3, k4⟩ := RoAt.of HX1.out.row
  obtain ⟨_, e0, e1⟩ := HX1.out.el
  have HBK := Lib.hid (fun h => @pic_ok m f k i emp h)
  have HBQ := Lib.hid (fun c h => @back m f k i c h)
  obtain ⟨x, hx⟩ : ∃ x, x = picR m f k i emp := ⟨_, rfl⟩
  have HP := Lib.hid (fun X h => pick_any m f ad n1 cap k i emp X h)
  have HZ := Lib.hid (show Sz 70 x.1 from by rw [hx]; exact sz_pick ⟨HX1.out.ri.z, by rw [← HX1.out.ri.len]; exact HX1.out.h⟩ emp_le)
  rw [← hx] at HP HBK HBQ
  clear hx
  go_wp2_with fail
  refine (HP.out X1 HX1.out.ri).mono ?_
  rintro e w2 ⟨a2, n2, c2, rfl, hn2, hs2, hb2⟩
  have HX2 := Lib.hid ((HX1.out.next hb2).next (below_box1 w2 (boxR x.1 a2 n2 c2)))
  have HA := Lib.hid (show RoB (w2.alloc (boxR x.1 a2 n2 c2)) w2.heap.size x.1 a2 n2 c2 from ⟨heap_new _ _, (HZ.out.in_ (by decide) hn2 hs2).below (below_box1 _ _)⟩)
  clear hb2 hn2 hs2 g0 g1 g2 g3 g4 g5 g6 k0 k1 k2 k3 k4 e0 e1
  obtain ⟨x1, x2, x3⟩ := x
  simp only at HBK HBQ HZ HX2 HA ⊢
  by_cases h0 : x3 = 0
  rotate_left
  · have hne : (x3 != 0) = true := by simpa using h0
    clear h0
    go_wp2_with fail
    generalize World.alloc _ _ = X2 at *
    refine (awake_any _).mono ?_
    rintro e w5 ⟨rfl, hb5⟩
    have HB5 := Lib.hid (HX2.out.next hb5).b
    clear hb5
    go_wp2
    go_ret
    exact ⟨rfl, HB5.out⟩
  subst h0
  obtain ⟨c, hc⟩ := HBK.out rfl
  obtain ⟨q1, q2, q3, q4⟩ := HBQ.out c hc
  have HQ2 := Lib.hid q2
  have HQE := Lib.hid (show ∃ y1, putR m x1 k i = (y1, m.pt, 0) ∧ { y1 with p := f.p } = f from by
    have e := q1.eq
    refine ⟨(putR m x1 k i).1, ?_, q3⟩
    rw [e] at q4 ⊢
    simp only at q4 ⊢
    rw [q4])
  clear hc q1 q2 q3 q4 HBK HBQ
  obtain ⟨y1, hy, hyf⟩ := HQE.out
  have HZ2 := Lib.hid (show Sz 70 y1 from by have h := sz_put (m := m) (k := k) (i := i) HZ.out; rw [hy] at h; exact h)
  have HP2 := Lib.hid (fun X h => put_any m x1 a2 n2 c2 k i X h)
  rw [hy] at HP2
  have HYF := Lib.hid hyf
  clear hy hyf HQE
  obtain ⟨_, g0, g1, g2, g3, g4, g5, g6⟩ := HX2.out.md
  obtain ⟨_, k0, k1, k2, k3, k4⟩ := RoAt.of HX2.out.row
  obtain ⟨_, e0, e1⟩ := HX2.out.el
  obtain ⟨_, j0, j1, j2, j3, j4⟩ := RoAt.of HA.out.row
  go_wp2_with fail
  clear j0 j1 j2 j3 j4 g0 g1 g2 g3 g4 g5 g6 k0 k1 k2 k3 k4 e0 e1
  generalize w2.heap.size = p1 at *
  generalize World.alloc _ _ = X2 at *
  refine (HP2.out X2 HA.out.i).mono ?_
  rintro e w3 ⟨a3, n3, c3, rfl, hn3, hs3, hb3⟩
  have HX3 := Lib.hid (HX2.out.next hb3)
  have HA3 := Lib.hid (HA.out.next hb3)
  have HS3 := Lib.hid hs3
  have HN3 := Lib.hid hn3
  have HP1 := Lib.hid (show p1 < w3.heap.size from (Array.getElem?_eq_some_iff.1 HA3.out.row).1)
  have HBB := Lib.hid (below_box1 w3 (boxR y1 a3 n3 c3))
  have HXA := Lib.hid (HX3.out.next HBB.out)
  have HRW := Lib.hid (heap_new w3 (boxR y1 a3 n3 c3))
  clear hb3 hn3 hs3
  obtain ⟨_, g0, g1, g2, g3, g4, g5, g6⟩ := HXA.out.md
  obtain ⟨_, k0, k1, k2, k3, k4⟩ := RoAt.of HXA.out.row
  obtain ⟨_, e0, e1⟩ := HXA.out.el
  have HPO := Lib.hid (fun X h => position_any m f ad n1 cap k i X h)
  rw [HQ2.out] at HPO
  go_wp2_with fail
  clear g0 g1 g2 g3 g4 g5 g6 k0 k1 k2 k3 k4 e0 e1
  obtain ⟨p2, hp2⟩ : ∃ p2, p2 = w3.heap.size := ⟨_, rfl⟩
  rw [← hp2] at HRW ⊢
  have HPE := Lib.hid hp2
  clear hp2
  generalize World.alloc _ _ = X3 at *
  refine (HPO.out X3 HXA.out.ri).mono ?_
  rintro e w4 ⟨rfl, hb4⟩
  have HX4 := Lib.hid (HXA.out.next hb4)
  have HB4 := Lib.hid (HBB.out.trans (hb4.mono HBB.out.size))
  have HR4 := Lib.hid (row_step HRW.out hb4)
  clear hb4
  obtain ⟨_, g0, g1, g2, g3, g4, g5, g6⟩ := HX4.out.md
  obtain ⟨_, k0, k1, k2, k3, k4⟩ := RoAt.of HX4.out.row
  obtain ⟨_, e0, e1⟩ := HX4.out.el
  have f0 := froz_of HR4.out 0
  obtain ⟨_, j0, j1, j2, j3, j4⟩ := RoAt.of HR4.out
  go_upto_region 8 with fail
  have HB9 := Lib.hid (show Below w3.heap.size w3 (w4.setCell ⟨p2, 0, none⟩ (.int .i64 f.p)) from HB4.out.setCell (p := ⟨p2, 0, none⟩) (by show w3.heap.size ≤ p2; rw [HPE.out]; exact Nat.le_refl _) _)
  have HR9 := Lib.hid (show (w4.setCell ⟨p2, 0, none⟩ (.int .i64 f.p)).heap[p2]? = some (boxR f a3 n3 c3) from by
    have h := ro_set (r2 := { y1 with p := f.p }) HR4.out 0 (.int .i64 f.p) rfl
    rw [HYF.out] at h
    exact h)
  have HL9 := Lib.hid (HX3.out.next HB9.out)
  have HA9 := Lib.hid (HA3.out.next HB9.out)
  have HS9 := Lib.hid (HS3.out.below HB9.out)
  clear j0 j1 j2 j3 j4 f0 g0 g1 g2 g3 g4 g5 g6 k0 k1 k2 k3 k4 e0 e1
  generalize World.setCell _ _ _ = X9 at *
  have HFL := Lib.hid (ro_eq HYF.out)
  have HNE := Lib.hid (show n3 = n1 from by rw [HN3.out, HL9.out.ri.len]; exact congrArg List.length HFL.out.2.1)
  obtain rfl := HNE.out
  have HSX := Lib.hid (show RoSx X9 f a3 n3 c3 from by
    obtain ⟨ad9, cap9, h9, hx, _⟩ := HS9.out.read
    rw [← HN3.out] at h9
    cases h9
    have e := HFL.out.2.1
    rw [e] at hx
    exact ⟨hx, HL9.out.ri.len, HL9.out.ri.le⟩)
  obtain ⟨_, g0, g1, g2, g3, g4, g5, g6⟩ := HL9.out.md
  obtain ⟨_, k0, k1, k2, k3, k4⟩ := RoAt.of HL9.out.row
  obtain ⟨_, e0, e1⟩ := HL9.out.el
  obtain ⟨_, j0, j1, j2, j3, j4⟩ := RoAt.of HR9.out
  obtain ⟨_, l0, l1, l2, l3, l4⟩ := RoAt.of HA9.out.row
  go_wp2_with fail
  clear j0 j1 j2 j3 j4 l0 l1 l2 l3 l4 g0 g1 g2 g3 g4 g5 g6 k0 k1 k2 k3 k4 e0 e1
  refine (same_any f a3 ad n3 c3 cap X9 HSX.out HL9.out.ri.sx).mono ?_
  rintro e w5 ⟨rfl, hb5⟩
  have HX5 := Lib.hid (HL9.out.next hb5)
  clear hb5
  go_wp2_with fail
  refine (awake_any _).mono ?_
  rintro e w6 ⟨rfl, hb6⟩
  have HB6 := Lib.hid (HX5.out.next hb6).b
  clear hb6
  go_wp2
  go_ret
  exact ⟨rfl, HB6.out⟩
/-- the boxes of a law with two elements -/
theorem box_mree (w : World) (m : Rmd) (r : Rbt) (ad : Option Addr) (n cap : Nat) (k i k' i' : Int) :
    Below w.heap.size w ((((w.alloc (boxM m)).alloc (boxR r ad n cap)).alloc (boxE k i)).alloc (boxE k' i')) ∧ RmAt ((((w.alloc (boxM m)).alloc (boxR r ad n cap)).alloc (boxE k i)).alloc (boxE k' i')) w.heap.size m ∧ ((((w.alloc (boxM m)).alloc (boxR r ad n cap)).alloc (boxE k i)).alloc (boxE k' i')).heap[w.heap.size + 1]? = some (boxR r ad n cap) ∧
      ElAt ((((w.alloc (boxM m)).alloc (boxR r ad n cap)).alloc (boxE k i)).alloc (boxE k' i')) (w.heap.size + 2) k i ∧ ElAt ((((w.alloc (boxM m)).alloc (boxR r ad n cap)).alloc (boxE k i)).alloc (boxE k' i')) (w.heap.size + 3) k' i' ∧ ((((w.alloc (boxM m)).alloc (boxR r ad n cap)).alloc (boxE k i)).alloc (boxE k' i')).heap.size = w.heap.size + 4 := by
  obtain ⟨h1, h2, h3, h4, h5⟩ := box_mre w m r ad n cap k i
  have hb := below_box1 (((w.alloc (boxM m)).alloc (boxR r ad n cap)).alloc (boxE k i)) (boxE k' i')
  have n1 := heap_new (((w.alloc (boxM m)).alloc (boxR r ad n cap)).alloc (boxE k i)) (boxE k' i')
  rw [h5] at n1
  exact ⟨h1.trans (hb.mono h1.size), h2.step hb, row_step h3 hb, (ElAt.of h4).step hb, ElAt.of n1, by rw [World.size_alloc, h5]⟩
/-- strings in a slice of the call's own, to be read -/
structure Rd (X : World) (v : Value) (l : List ByteArray) : Prop where
  ex : ∃ ad cap, v = .slice ad l.length cap ∧ Sx X ad l
theorem Rd.of {X : World} {B : Nat} {v : Value} {l : List ByteArray} (h : Sq X B v l) : Rd X v l := by
  obtain ⟨ad, cap, e, hx, _⟩ := h.read
  exact ⟨ad, cap, e, hx⟩
set_option maxRecDepth 100000 in
set_option maxHeartbeats 4000000 in
theorem law_moves (m : Rmd) (r : Rbt) (ad : Option Addr) (n cap : Nat) (k i k' i' : Int) (b : ByteArray) (w : World) (ha : RoArg w r ad n cap) (hbz : b.size ≤ maxLen) :
    Calls Try.prog 6 #[rmV m, roV r ad n cap, elV k i, elV k' i', .string b] w fun e w' => e = .returned (.bool true) ∧ Below w.heap.size w w' := by
  have HBZ := Lib.hid hbz
  clear hbz
  obtain ⟨hB, hM, hR, hE, hT, hS⟩ := box_mree w m r ad n cap k i k' i'
  have HB := Lib.hid hB
  have HM := Lib.hid hM
  have HR := Lib.hid hR
  have HE := Lib.hid hE
  have HT := Lib.hid hT
  have HS := Lib.hid (show w.heap.size + 3 ≤ ((((w.alloc (boxM m)).alloc (boxR r ad n cap)).alloc (boxE k i)).alloc (boxE k' i')).heap.size from by rw [hS]; omega)
  have HA := Lib.hid ha
  have HF := Lib.hid (fun X (h : Below w.heap.size w X) => few_any r ad n cap X (ha.l.below h rfl) ha.len ha.c ha.mx)
  clear hB hM hR hE hT hS ha
  go_enter Try.func6, Try.ntmps6
  go_wp2_with fail
  generalize World.alloc _ _ = X0 at *
  refine (HF.out X0 HB.out).mono ?_
  rintro e w1 ⟨n1, rfl, hn1, h70, hb1⟩
  have HR1 := Lib.hid (row_step HR.out hb1)
  have HX := Lib.hid (Lw.start HA.out (HB.out.trans (hb1.mono HB.out.size)) (Nat.le_trans HS.out hb1.size) (HM.out.step hb1) HR1.out (HE.out.step hb1) hn1 h70)
  have HTX := Lib.hid ((HT.out.step hb1).row (b := w.heap.size + 1) (by omega) (roK (fewR r) ad n1 cap))
  clear hn1 h70 hb1
  go_upto_region 2 with (with_reducible refine wpList_store_ro rfl (.tmp 6) (.tmp 23) rfl (w.heap.size + 1) rfl _ _ _ _ _ _ _ rfl r ad n cap HR1.out ?_)
  have HX1 := Lib.hid HX.out
  generalize World.setRow _ _ _ = X1 at *
  clear HX HR1 HF HM HR HE HB HT
  obtain ⟨f, hf⟩ : ∃ f, f = fewR r := ⟨_, rfl⟩
  rw [← hf] at HX1 ⊢
  clear hf
  have HT1 := Lib.hid HTX.out
  clear HTX
  obtain ⟨_, g0, g1, g2, g3, g4, g5, g6⟩ := HX1.out.md
  obtain ⟨_, k0, k1, k2, k3, k4⟩ := RoAt.of HX1.out.row
  obtain ⟨_, e0, e1⟩ := HX1.out.el
  have HPK := Lib.hid (fun h => @pic_ok m f k i b h)
  have HPE := Lib.hid (fun h => @pic_err m f k i b h)
  have HPV := Lib.hid (fun c h => @PicOk.vld m f k i b c h)
  have HMC := Lib.hid (fun c h g => @move_cn m f k i k' i' b c h g)
  obtain ⟨x, hx⟩ : ∃ x, x = picR m f k i b := ⟨_, rfl⟩
  have HP := Lib.hid (fun X h => pick_any m f ad n1 cap k i b X h)
  have HZ := Lib.hid (show Sz 70 x.1 from by rw [hx]; exact sz_pick ⟨HX1.out.ri.z, by rw [← HX1.out.ri.len]; exact HX1.out.h⟩ HBZ.out)
  rw [← hx] at HP HPK HPE HPV HMC
  have HXE := Lib.hid hx
  clear hx
  go_wp2_with fail
  refine (HP.out X1 HX1.out.ri).mono ?_
  rintro e w2 ⟨a2, n2, c2, rfl, hn2, hs2, hb2⟩
  have HX2 := Lib.hid ((HX1.out.next hb2).next (below_box1 w2 (boxR x.1 a2 n2 c2)))
  have HT2 := Lib.hid ((HT1.out.step hb2).step (below_box1 w2 (boxR x.1 a2 n2 c2)))
  have HA := Lib.hid (show RoB (w2.alloc (boxR x.1 a2 n2 c2)) w2.heap.size x.1 a2 n2 c2 from ⟨heap_new _ _, (HZ.out.in_ (by decide) hn2 hs2).below (below_box1 _ _)⟩)
  have HN2 := Lib.hid hn2
  clear hb2 hn2 hs2 g0 g1 g2 g3 g4 g5 g6 k0 k1 k2 k3 k4 e0 e1
  obtain ⟨x1, x2, x3⟩ := x
  simp only at HPK HPE HPV HMC HZ HX2 HT2 HA HN2 HXE ⊢
  by_cases h0 : x3 = 0
  rotate_left
  · have hne : (x3 != 0) = true := by simpa using h0
    obtain ⟨z1, z2⟩ := HPE.out h0
    have hn0 : n2 = 0 := by rw [HN2.out, z1]; rfl
    have HQ := Lib.hid HA.out.row
    subst hn0
    clear h0 z1
    subst z2
    obtain ⟨_, j0, j1, j2, j3, j4⟩ := RoAt.of HQ.out
    go_wp2_with fail
    generalize World.alloc _ _ = X2 at *
    refine (awake_any _).mono ?_
    rintro e w5 ⟨rfl, hb5⟩
    have HB5 := Lib.hid (HX2.out.next hb5).b
    clear hb5 j0 j1 j2 j3 j4
    go_wp2
    go_ret
    exact ⟨rfl, HB5.out⟩
  subst h0
  obtain ⟨c, hc⟩ := HPK.out rfl
  have HC := Lib.hid hc
  have HXH := Lib.hid (show x1.ha = c ∧ x2 = trvR m f.p (locR m f k i).1 + m.pk from by
    have e := hc.eq
    rw [← HXE.out] at e
    injection e with e1 e2
    injection e2 with e2 e3
    exact ⟨by rw [e1], e2⟩)
  have HVX := Lib.hid (HPV.out c hc)
  have HMR := Lib.hid (vld_iff.1 hc.rea.v).1
  have hce : c.toList.isEmpty = false := by rw [isE]; simp [hc.ne]
  clear hc HPK HPE HPV
  have hx1h := HXH.out.1
  have hq1 : x1.ha.toList.isEmpty = false := by rw [hx1h]; exact hce
  have hlt1 : decide (x2 < m.pk) = false := decide_eq_false (by have := (time_le HMR.out f.p (locR m f k i).1 0 0).2.2; have := HXH.out.2; omega)
  have hlt2 : ¬ x2 < m.pk := by simpa using hlt1
  clear hx1h hce
  have HPT := Lib.hid (fun h => @put_ok m x1 k' i' h)
  have HPU := Lib.hid (fun h => @put_err m x1 k' i' h)
  have HPW := Lib.hid (fun h => @PutOk.vld m x1 k' i' h)
  obtain ⟨y, hy⟩ : ∃ y, y = putR m x1 k' i' := ⟨_, rfl⟩
  have HP2 := Lib.hid (fun X h => put_any m x1 a2 n2 c2 k' i' X h)
  have HZ2 := Lib.hid (show Sz 70 y.1 from by rw [hy]; exact sz_put HZ.out)
  rw [← hy] at HP2 HPT HPU HPW HMC
  have HYE := Lib.hid hy
  clear hy
  obtain ⟨_, g0, g1, g2, g3, g4, g5, g6⟩ := HX2.out.md
  obtain ⟨_, k0, k1, k2, k3, k4⟩ := RoAt.of HX2.out.row
  obtain ⟨_, e0, e1⟩ := HX2.out.el
  obtain ⟨_, j0, j1, j2, j3, j4⟩ := RoAt.of HA.out.row
  obtain ⟨_, t0, t1⟩ := HT2.out
  go_wp2_with fail
  clear j0 j1 j2 j3 j4 t0 t1 g0 g1 g2 g3 g4 g5 g6 k0 k1 k2 k3 k4 e0 e1
  generalize w2.heap.size = p1 at *
  generalize World.alloc _ _ = X2 at *
  refine (valid_any m x1 a2 n2 c2 X2 HA.out.i.l HA.out.i.len HA.out.i.le HA.out.i.z).mono ?_
  rw [HVX.out]
  rintro e w3 ⟨rfl, hb3⟩
  have HX3 := Lib.hid (HX2.out.next hb3)
  have HT3 := Lib.hid (HT2.out.step hb3)
  have HA3 := Lib.hid (HA.out.next hb3)
  clear hb3
  obtain ⟨_, g0, g1, g2, g3, g4, g5, g6⟩ := HX3.out.md
  obtain ⟨_, k0, k1, k2, k3, k4⟩ := RoAt.of HX3.out.row
  obtain ⟨_, e0, e1⟩ := HX3.out.el
  obtain ⟨_, j0, j1, j2, j3, j4⟩ := RoAt.of HA3.out.row
  obtain ⟨_, t0, t1⟩ := HT3.out
  go_wp2_with fail
  clear j0 j1 j2 j3 j4 t0 t1 hq1 g0 g1 g2 g3 g4 g5 g6 k0 k1 k2 k3 k4 e0 e1
  refine (HP2.out w3 HA3.out.i).mono ?_
  rintro e w4 ⟨a4, n4, c4, rfl, hn4, hs4, hb4⟩
  have HX4 := Lib.hid ((HX3.out.next hb4).next (below_box1 w4 (boxR y.1 a4 n4 c4)))
  have HT4 := Lib.hid ((HT3.out.step hb4).step (below_box1 w4 (boxR y.1 a4 n4 c4)))
  have HA4 := Lib.hid ((HA3.out.next hb4).next (below_box1 w4 (boxR y.1 a4 n4 c4)))
  have HY4 := Lib.hid (show RoB (w4.alloc (boxR y.1 a4 n4 c4)) w4.heap.size y.1 a4 n4 c4 from ⟨heap_new _ _, (HZ2.out.in_ (by decide) hn4 hs4).below (below_box1 _ _)⟩)
  have HN4 := Lib.hid hn4
  clear hb4 hn4 hs4
  obtain ⟨y1, y2, y3⟩ := y
  simp only at HPT HPU HPW HMC HZ2 HX4 HT4 HA4 HY4 HN4 HYE ⊢
  by_cases h0 : y3 = 0
  rotate_left
  · have hne : (y3 != 0) = true := by simpa using h0
    obtain ⟨z1, z2⟩ := HPU.out h0
    have hn0 : n4 = 0 := by rw [HN4.out, z1]; rfl
    have HQ := Lib.hid HY4.out.row
    subst hn0
    clear h0 z1
    subst z2
    obtain ⟨_, j0, j1, j2, j3, j4⟩ := RoAt.of HQ.out
    go_wp2_with fail
    generalize World.alloc _ _ = X4 at *
    refine (awake_any _).mono ?_
    rintro e w5 ⟨rfl, hb5⟩
    have HB5 := Lib.hid (HX4.out.next hb5).b
    clear hb5 j0 j1 j2 j3 j4
    go_wp2
    go_ret
    exact ⟨rfl, HB5.out⟩
  subst h0
  have hg := HPT.out rfl
  have HYH := Lib.hid (show y1.ha = emp ∧ y2 = trvR m x1.p (locR m x1 k' i').1 + m.pt from by
    have e := hg.eq
    rw [← HYE.out] at e
    injection e with e1 e2
    injection e2 with e2 e3
    exact ⟨by rw [e1], e2⟩)
  have HVY := Lib.hid (HPW.out hg)
  have HCN := Lib.hid (HMC.out c HC.out hg)
  have hty : y1.ha.toList.isEmpty = true := by rw [isE]; simp [HYH.out.1]
  have htm := time_le HMR.out f.p (locR m f k i).1 x1.p (locR m x1 k' i').1
  rw [← HXH.out.2, ← HYH.out.2] at htm
  have HTM := Lib.hid htm
  clear hg htm HPT HPU HPW HMC hlt1 hlt2
  have HBD := Lib.hid (show 0 ≤ x2 ∧ x2 ≤ 2000000000 ∧ 0 ≤ y2 ∧ y2 ≤ 2000000000 from by
    have h1 := trv_bd m f.p (locR m f k i).1
    have h2 := trv_bd m x1.p (locR m x1 k' i').1
    have h3 := HMR.out.k0; have h4 := HMR.out.k1; have h5 := HMR.out.t0; have h6 := HMR.out.t1
    have h7 := HXH.out.2; have h8 := HYH.out.2
    omega)
  obtain ⟨_, g0, g1, g2, g3, g4, g5, g6⟩ := HX4.out.md
  obtain ⟨_, k0, k1, k2, k3, k4⟩ := RoAt.of HX4.out.row
  obtain ⟨_, e0, e1⟩ := HX4.out.el
  obtain ⟨_, j0, j1, j2, j3, j4⟩ := RoAt.of HY4.out.row
  go_wp2_with fail
  clear j0 j1 j2 j3 j4 g0 g1 g2 g3 g4 g5 g6 k0 k1 k2 k3 k4 e0 e1
  generalize w4.heap.size = p2 at *
  generalize World.alloc _ _ = X4 at *
  refine (valid_any m y1 a4 n4 c4 X4 HY4.out.i.l HY4.out.i.len HY4.out.i.le HY4.out.i.z).mono ?_
  rw [HVY.out]
  rintro e w5 ⟨rfl, hb5⟩
  have HX5 := Lib.hid (HX4.out.next hb5)
  have HT5 := Lib.hid (HT4.out.step hb5)
  have HA5 := Lib.hid (HA4.out.next hb5)
  have HY5 := Lib.hid (HY4.out.next hb5)
  clear hb5
  obtain ⟨_, g0, g1, g2, g3, g4, g5, g6⟩ := HX5.out.md
  obtain ⟨_, k0, k1, k2, k3, k4⟩ := RoAt.of HX5.out.row
  obtain ⟨_, e0, e1⟩ := HX5.out.el
  obtain ⟨_, j0, j1, j2, j3, j4⟩ := RoAt.of HY5.out.row
  have b1 := HBD.out.1
  have b2 := HBD.out.2.1
  have b3 := HBD.out.2.2.1
  have b4 := HBD.out.2.2.2
  go_wp2_with fail
  clear j0 j1 j2 j3 j4 b1 b2 b3 b4 g0 g1 g2 g3 g4 g5 g6 k0 k1 k2 k3 k4 e0 e1
  refine (farthest_any m w5).mono ?_
  rintro e w6 ⟨rfl, hb6⟩
  have HX6 := Lib.hid (HX5.out.next hb6)
  have HT6 := Lib.hid (HT5.out.step hb6)
  have HA6 := Lib.hid (HA5.out.next hb6)
  have HY6 := Lib.hid (HY5.out.next hb6)
  clear hb6
  obtain ⟨_, g0, g1, g2, g3, g4, g5, g6⟩ := HX6.out.md
  obtain ⟨_, k0, k1, k2, k3, k4⟩ := RoAt.of HX6.out.row
  obtain ⟨_, e0, e1⟩ := HX6.out.el
  have b1 := HBD.out.1
  have b2 := HBD.out.2.1
  have b3 := HBD.out.2.2.1
  have b4 := HBD.out.2.2.2
  have c1 : ¬ farR m < x2 + y2 := by have := HTM.out.1; omega
  have c2 : ¬ x2 + y2 < m.pk + m.pt := by have := HTM.out.2.1; omega
  have d1 := HMR.out.k0
  have d2 := HMR.out.k1
  have d3 := HMR.out.t0
  have d4 := HMR.out.t1
  go_wp2_with fail
  clear b1 b2 b3 b4 c1 c2 d1 d2 d3 d4 g0 g1 g2 g3 g4 g5 g6 k0 k1 k2 k3 k4 e0 e1
  refine (held_any f ad n1 cap w6 HX6.out.ri).mono ?_
  rintro e w7 ⟨v1, rfl, hv1, hb7⟩
  obtain ⟨ad1, cp1, rfl, hs1, _, _, _, _⟩ := hv1.read
  have HA7 := Lib.hid (HA6.out.next hb7)
  have HY7 := Lib.hid (HY6.out.next hb7)
  have HT7 := Lib.hid (HT6.out.step hb7)
  have HB7 := Lib.hid (HX6.out.next hb7).b
  have HS1 := Lib.hid hs1
  have HLA := Lib.hid (show (allR f).length ≤ 72 from by rw [show (allR f).length = f.l.length + 2 from by simp [allR], ← HX6.out.ri.len]; have := HX6.out.h; omega)
  have HLB := Lib.hid (show (allR y1).length ≤ 1002 from by rw [show (allR y1).length = y1.l.length + 2 from by simp [allR], ← HY6.out.i.len]; have := HY6.out.i.le; omega)
  have HVF := Lib.hid HC.out.rea.v
  have HQ1 := Lib.hid (fun s (hs : s ∈ allR f) (h0 : s ≠ emp) (h1 : s ≠ x1.ha) => show (allR y1).count s = 1 from (HCN.out.1 s h0 (fun e => h1 (e.trans HXH.out.1.symm))).trans (cn_one HVF.out h0 hs))
  have HQ2 := Lib.hid (fun s (hs : s ∈ allR y1) (h0 : s ≠ emp) (h1 : s ≠ x1.ha) => show (allR f).count s = 1 from (HCN.out.1 s h0 (fun e => h1 (e.trans HXH.out.1.symm))).symm.trans (cn_one HVY.out h0 hs))
  have HQ3 := Lib.hid (show (allR y1).count x1.ha = (if k' = 1 then 0 else 1) from by rw [HXH.out.1]; exact HCN.out.2)
  clear hv1 hb7 hs1 HX6 HA6 HY6 HT6 HX5 HA5 HY5 HT5 HX4 HA4 HY4 HT4 HX3 HA3 HT3 HX2 HA HT2 HX1 HT1 HP HP2 HXE HYE HC HCN HXH HVX HVY HVF HBD HTM HMR
  obtain ⟨L1, hL1⟩ : ∃ L, L = allR f := ⟨_, rfl⟩
  obtain ⟨N1, hN1⟩ : ∃ N, N = L1.length := ⟨_, rfl⟩
  rw [← hL1] at HS1 HLA HQ1 HQ2 ⊢
  rw [← hN1] at HLA ⊢
  have HN1 := Lib.hid hN1
  clear hN1 hL1
  obtain ⟨_, j0, j1, j2, j3, j4⟩ := RoAt.of HY7.out.row
  go_wp2_with fail
  clear j0 j1 j2 j3 j4
  refine (held_any y1 a4 n4 c4 w7 HY7.out.i).mono ?_
  rintro e w8 ⟨v2, rfl, hv2, hb8⟩
  obtain ⟨ad2, cp2, rfl, hs2, _, _, _, _⟩ := hv2.read
  have HA8 := Lib.hid (HA7.out.next hb8)
  have HT8 := Lib.hid (HT7.out.step hb8)
  have HB8 := Lib.hid (HB7.out.trans (hb8.mono HB7.out.size))
  have HR1 := Lib.hid (HS1.out.below hb8 rfl)
  have HR2 := Lib.hid hs2
  clear hv2 hb8 hs2 HA7 HY7 HT7 HB7 HS1
  obtain ⟨L2, hL2⟩ : ∃ L, L = allR y1 := ⟨_, rfl⟩
  obtain ⟨N2, hN2⟩ : ∃ N, N = L2.length := ⟨_, rfl⟩
  rw [← hL2] at HR2 HLB HQ1 HQ2 HQ3 ⊢
  rw [← hN2] at HLB ⊢
  have HN2 := Lib.hid hN2
  clear hN2 hL2
  have HCA := Lib.hid (fun (X : World) (i : Nat) (s : ByteArray) (h : Below w8.heap.size w8 X) => count_any ad1 N1 cp1 L1 s (X.drewN i) (HR1.out.below (below_drewN h i) rfl) HN1.out (by have := HLA.out; omega))
  have HCB := Lib.hid (fun (X : World) (i : Nat) (s : ByteArray) (h : Below w8.heap.size w8 X) => count_any ad2 N2 cp2 L2 s (X.drewN i) (HR2.out.below (below_drewN h i) rfl) HN2.out (by have := HLB.out; omega))
  have HCE := Lib.hid (fun (X : World) (h : Below w8.heap.size w8 X) => count_any ad2 N2 cp2 L2 x1.ha X (HR2.out.below h rfl) HN2.out (by have := HLB.out; omega))
  rw [HQ3.out] at HCE
  have hla := HLA.out
  have hlb := HLB.out
  go_wp2_with fail
  go_loopg [19] N1 (fun gk vk wx => ∃ k : Nat, vk = .int .i64 k ∧ k + gk = N1 ∧ Hid (Below w8.heap.size w8 wx))
  case atStart => exact ⟨0, rfl, by omega, Lib.hid (Below.refl _ _)⟩
  case round =>
    obtain ⟨k, rfl, hk, hb⟩ := hrel
    cases gk with
    | succ gk0 =>
      have hkn : k < N1 := by omega
      have hkl : k < L1.length := by have := HN1.out; omega
      obtain ⟨b1, off1, rfl, hlt1, q1⟩ := (HR1.out.below hb.out rfl).get hkl
      obtain ⟨_, j0, j1, j2, j3, j4⟩ := RoAt.of (HA8.out.next hb.out).row
      have HQ := Lib.hid (HQ1.out L1[k] (List.getElem_mem hkl))
      generalize L1[k] = x at *
      clear hkl
      by_cases he : x = emp
      · have hx0 : x.toList.isEmpty = true := by rw [isE]; simp [he]
        clear he
        go_wp2_with fail
        go_quiet (fail)
        generalize hX : World.drewN wr _ = w9
        have HB9 := Lib.hid (show Below w8.heap.size w8 w9 by rw [← hX]; exact below_drewN hb.out _)
        clear hX j0 j1 j2 j3 j4 q1
        go_wp2
        go_roundg gk0
        case rel => exact ⟨k + 1, by go_num, by omega, HB9⟩
        case measure => omega
      · have hx0 : x.toList.isEmpty = false := by rw [isE]; simp [he]
        by_cases hq : x = x1.ha
        · have hx1 : (x.toList == x1.ha.toList) = true := by rw [eqT]; simp [hq]
          clear he hq
          go_wp2_with fail
          go_quiet (fail)
          generalize hX : World.drewN wr _ = w9
          have HB9 := Lib.hid (show Below w8.heap.size w8 w9 by rw [← hX]; exact below_drewN hb.out _)
          clear hX j0 j1 j2 j3 j4 q1
          go_wp2
          go_roundg gk0
          case rel => exact ⟨k + 1, by go_num, by omega, HB9⟩
          case measure => omega
        · have hx1 : (x.toList == x1.ha.toList) = false := by rw [eqT]; simp [hq]
          have HQX := Lib.hid (HQ.out he hq)
          have HC9 := Lib.hid (fun i => HCB.out wr i x hb.out)
          rw [HQX.out] at HC9
          clear he hq
          go_wp2_with fail
          go_quiet ((go_at_call 29; exact Calls.quiet_of_same (HC9.out _)))
          generalize hX : World.drewN wr _ = w9
          have HB9 := Lib.hid (show Below w8.heap.size w8 w9 by rw [← hX]; exact below_drewN hb.out _)
          clear hX j0 j1 j2 j3 j4 q1
          go_wp2
          go_roundg gk0
          case rel => exact ⟨k + 1, by go_num, by omega, HB9⟩
          case measure => omega
    | zero =>
      obtain rfl : k = N1 := by omega
      go_wp2_with fail
      go_loopg [20] N2 (fun gk vk wx => ∃ k : Nat, vk = .int .i64 k ∧ k + gk = N2 ∧ Hid (Below w8.heap.size w8 wx))
      case atStart => exact ⟨0, rfl, by omega, hb⟩
      case round =>
        obtain ⟨k, rfl, hk, hb⟩ := hrel
        cases gk with
        | succ gk0 =>
          have hkn : k < N2 := by omega
          have hkl : k < L2.length := by have := HN2.out; omega
          obtain ⟨b1, off1, rfl, hlt1, q1⟩ := (HR2.out.below hb.out rfl).get hkl
          obtain ⟨_, j0, j1, j2, j3, j4⟩ := RoAt.of (HA8.out.next hb.out).row
          have HQ := Lib.hid (HQ2.out L2[k] (List.getElem_mem hkl))
          generalize L2[k] = x at *
          clear hkl
          by_cases he : x = emp
          · have hx0 : x.toList.isEmpty = true := by rw [isE]; simp [he]
            clear he
            go_wp2_with fail
            go_quiet (fail)
            generalize hX : World.drewN wr _ = w9
            have HB9 := Lib.hid (show Below w8.heap.size w8 w9 by rw [← hX]; exact below_drewN hb.out _)
            clear hX j0 j1 j2 j3 j4 q1
            go_wp2
            go_roundg gk0
            case rel => exact ⟨k + 1, by go_num, by omega, HB9⟩
            case measure => omega
          · have hx0 : x.toList.isEmpty = false := by rw [isE]; simp [he]
            by_cases hq : x = x1.ha
            · have hx1 : (x.toList == x1.ha.toList) = true := by rw [eqT]; simp [hq]
              clear he hq
              go_wp2_with fail
              go_quiet (fail)
              generalize hX : World.drewN wr _ = w9
              have HB9 := Lib.hid (show Below w8.heap.size w8 w9 by rw [← hX]; exact below_drewN hb.out _)
              clear hX j0 j1 j2 j3 j4 q1
              go_wp2
              go_roundg gk0
              case rel => exact ⟨k + 1, by go_num, by omega, HB9⟩
              case measure => omega
            · have hx1 : (x.toList == x1.ha.toList) = false := by rw [eqT]; simp [hq]
              have HQX := Lib.hid (HQ.out he hq)
              have HC9 := Lib.hid (fun i => HCA.out wr i x hb.out)
              rw [HQX.out] at HC9
              clear he hq
              go_wp2_with fail
              go_quiet ((go_at_call 29; exact Calls.quiet_of_same (HC9.out _)))
              generalize hX : World.drewN wr _ = w9
              have HB9 := Lib.hid (show Below w8.heap.size w8 w9 by rw [← hX]; exact below_drewN hb.out _)
              clear hX j0 j1 j2 j3 j4 q1
              go_wp2
              go_roundg gk0
              case rel => exact ⟨k + 1, by go_num, by omega, HB9⟩
              case measure => omega
        | zero =>
          obtain rfl : k = N2 := by omega
          obtain ⟨_, j0, j1, j2, j3, j4⟩ := RoAt.of (HA8.out.next hb.out).row
          obtain ⟨_, t0, t1⟩ := HT8.out.step hb.out
          have HB9 := Lib.hid (HB8.out.trans (hb.out.mono HB8.out.size))
          have HCF := Lib.hid (HCE.out wr hb.out)
          by_cases hk1 : k' = 1
          · subst hk1
            rw [if_pos rfl] at HCF
            go_wp2_with fail
            refine HCF.out.mono ?_
            rintro e w9 ⟨rfl, rfl⟩
            go_wp2_with fail
            refine (awake_any _).mono ?_
            rintro e w10 ⟨rfl, hb10⟩
            go_wp2
            go_ret
            exact ⟨rfl, HB9.out.trans (hb10.mono HB9.out.size)⟩
          · have hk2 : (k' == 1) = false := by simpa using hk1
            rw [if_neg hk1] at HCF
            clear hk1
            go_wp2_with fail
            refine HCF.out.mono ?_
            rintro e w9 ⟨rfl, rfl⟩
            go_wp2_with fail
            refine (awake_any _).mono ?_
            rintro e w10 ⟨rfl, hb10⟩
            go_wp2
            go_ret
            exact ⟨rfl, HB9.out.trans (hb10.mono HB9.out.size)⟩
end Go.Proofs.Ytmhaeipklifhcaa
