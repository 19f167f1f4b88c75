/-
  The program's perform.
-/
import Derived.Test.YtmhaeipklifhcaaRbDo
namespace Go.Proofs.Ytmhaeipklifhcaa
open Go.RowKit
set_option linter.unusedVariables false
attribute [local irreducible] inn mdlR rail dst vldR trvR finR locR
theorem per_err {m : Rmd} {r : Rbt} {k i t : Int} {D : Rbt → Int × Rbt} {er : Int} (h : (reaR m r k i).2 = er) (h0 : er ≠ 0) : perR m r k i t D = (rz, 0, er) := by unfold perR; rw [h, if_pos h0]
theorem per_do {m : Rmd} {r : Rbt} {k i t : Int} {D : Rbt → Int × Rbt} (h : Rea m r k i) (h0 : (D { r with p := (locR m r k i).1 }).1 ≠ 0) : perR m r k i t D = (rz, 0, (D { r with p := (locR m r k i).1 }).1) := by
  unfold perR; rw [h.eq, if_neg (by simp), if_pos h0]
theorem per_ok {m : Rmd} {r : Rbt} {k i t : Int} {D : Rbt → Int × Rbt} (h : Rea m r k i) (h0 : (D { r with p := (locR m r k i).1 }).1 = 0) : perR m r k i t D = ((D { r with p := (locR m r k i).1 }).2, t + trvR m r.p (locR m r k i).1, 0) := by
  unfold perR; rw [h.eq, if_neg (by simp), if_neg (by simpa using h0)]
theorem allR_p (r : Rbt) (p : Int) : allR { r with p := p } = allR r := rfl
theorem roSlots {w : World} {m : Rmd} {r : Rbt} {ad : Option Addr} {n cap : Nat} (hi : RoIn w r ad n cap) (hv : vldR m r = true) : ad ≠ none := by
  obtain ⟨hm, hl, _, _⟩ := vld_iff.1 hv
  have := hm.s0
  obtain ⟨b, off, e, _⟩ := hi.l.get (i := 0) (by omega)
  rw [e]; simp
set_option maxRecDepth 100000 in
set_option maxHeartbeats 4000000 in
theorem perform_any (fn : Nat) (cs : Array Value) (D : Rbt → Int × Rbt) (m : Rmd) (r : Rbt) (ad : Option Addr) (n cap : Nat) (k i t : Int) (w : World) (hin : RoIn w r ad n cap) (hd : Does w fn cs k i D) (ht : mdlR m = true → 0 ≤ t ∧ t ≤ 1000000) :
    Calls Try.prog 41 #[rmV m, roV r ad n cap, elV k i, .int .i64 t, .func (.func fn) #[] cs] w (RetP w (perR m r k i t D)) := by
  have HX := Lib.hid (Bx4.start w m r ad n cap k i)
  have HI := Lib.hid (hin.below HX.out.b)
  have HD := Lib.hid hd
  have HT := Lib.hid ht
  have hle := hin.le
  clear hin hd ht
  go_enter Try.func41, Try.ntmps41
  go_wp2_with fail
  generalize World.alloc _ _ = X0 at *
  refine (valid_any m r ad n cap _ HI.out.l HI.out.len HI.out.le HI.out.z).mono ?_
  rintro e w1 ⟨rfl, hb1⟩
  have HX1 := Lib.hid (HX.out.next hb1)
  have HI1 := Lib.hid (HI.out.below hb1)
  clear hb1
  cases hv : vldR m r
  · have HR := Lib.hid (per_err (t := t) (D := D) (congrArg Prod.snd (rea_no1 (k := k) (i := i) hv)) (by decide))
    clear hv
    go_wp2_with (with_reducible refine wpList_store_ro rfl (.tmp 10) (.tmp 20) rfl (w.heap.size + 3) rfl _ _ _ _ _ _ _ rfl rz none 0 0 HX1.out.z ?_)
    refine post_cell3 rfl rfl (setRow_heap _ _ _ _ _ _ HX1.out.z) Try.underlying26 rfl infoR rfl rfl rfl ?_
    exact ret_err HX1.out HR.out
  have HV := Lib.hid hv
  clear hv
  obtain ⟨_, g0, g1, g2, g3, g4, g5, g6⟩ := HX1.out.m
  obtain ⟨_, k0, k1, k2, k3, k4⟩ := RoAt.of HX1.out.r
  obtain ⟨_, e0, e1⟩ := HX1.out.e
  cases hf : r.f
  rotate_left
  · have HR := Lib.hid (per_err (t := t) (D := D) (congrArg Prod.snd (rea_no2 (k := k) (i := i) HV.out hf)) (by decide))
    rw [hf] at k1
    clear hf
    go_wp2_with (with_reducible refine wpList_store_ro rfl (.tmp 10) (.tmp 23) rfl (w.heap.size + 3) rfl _ _ _ _ _ _ _ rfl rz none 0 0 HX1.out.z ?_)
    refine post_cell3 rfl rfl (setRow_heap _ _ _ _ _ _ HX1.out.z) Try.underlying26 rfl infoR rfl rfl rfl ?_
    exact ret_err HX1.out HR.out
  have HF := Lib.hid hf
  rw [hf] at k1
  clear hf
  go_upto_region 5 with fail
  clear k1
  obtain ⟨_, _, k1, _, _, _⟩ := RoAt.of HX1.out.r
  have HPB := Lib.hid (show MdlR m ∧ 0 ≤ r.p ∧ r.p ≤ 100000 from by
    obtain ⟨hm, _, hp, _⟩ := vld_iff.1 HV.out
    have := rail_le hm
    exact ⟨hm, by omega, by omega⟩)
  go_wp2_with fail
  refine (locate_any m r ad n cap k i _ HPB.out.1 HPB.out.2.1 HPB.out.2.2).mono ?_
  rintro e w2 ⟨rfl, hb2⟩
  have HX2 := Lib.hid (HX1.out.next hb2)
  have HI2 := Lib.hid (HI1.out.below hb2)
  clear hb2 g0 g1 g2 g3 g4 g5 g6 k0 k1 k2 k3 k4 e0 e1
  obtain ⟨_, e0, e1⟩ := HX2.out.e
  cases hl : (locR m r k i).2
  · have HR := Lib.hid (per_err (t := t) (D := D) (congrArg Prod.snd (rea_no3 (m := m) (k := k) (i := i) HV.out HF.out (fun h => by rw [hl] at h; cases h.1))) (by decide))
    clear hl
    go_wp2_with (with_reducible refine wpList_store_ro rfl (.tmp 10) (.tmp 38) rfl (w.heap.size + 3) rfl _ _ _ _ _ _ _ rfl rz none 0 0 HX2.out.z ?_)
    refine post_cell3 rfl rfl (setRow_heap _ _ _ _ _ _ HX2.out.z) Try.underlying26 rfl infoR rfl rfl rfl ?_
    exact ret_err HX2.out HR.out
  by_cases hk : k = 3
  · have HR := Lib.hid (per_err (t := t) (D := D) (congrArg Prod.snd (rea_no3 (m := m) (k := k) (i := i) HV.out HF.out (fun h => h.2 hk))) (by decide))
    have hk3 : (k == 3) = true := by simpa using hk
    clear hl hk
    go_wp2_with (with_reducible refine wpList_store_ro rfl (.tmp 10) (.tmp 38) rfl (w.heap.size + 3) rfl _ _ _ _ _ _ _ rfl rz none 0 0 HX2.out.z ?_)
    refine post_cell3 rfl rfl (setRow_heap _ _ _ _ _ _ HX2.out.z) Try.underlying26 rfl infoR rfl rfl rfl ?_
    exact ret_err HX2.out HR.out
  have HRE := Lib.hid (show Rea m r k i from ⟨HV.out, HF.out, hl, hk⟩)
  have hk3 : (k == 3) = false := by simpa using hk
  clear hl hk
  obtain ⟨_, g0, g1, g2, g3, g4, g5, g6⟩ := HX2.out.m
  obtain ⟨_, k0, k1, k2, k3, k4⟩ := RoAt.of HX2.out.r
  have HIP := Lib.hid (show I64 r.p ∧ I64 (locR m r k i).1 from by
    obtain ⟨h2, _, h4, _⟩ := vld_iff.1 HRE.out.v
    have h5 := loc_rail HRE.out
    have h6 := rail_le h2
    exact ⟨⟨by omega, by omega⟩, ⟨by omega, by omega⟩⟩)
  have W1 : IntKind.i64.wrap (t + trvR m r.p (locR m r k i).1) = t + trvR m r.p (locR m r k i).1 := by
    have h1 := trv_bd m r.p (locR m r k i).1
    have h2 := HT.out (mdl_iff.2 HPB.out.1)
    rw [IntKind.wrap_i64]; omega
  go_wp2_with fail
  refine (travel_any m r.p (locR m r k i).1 _ HIP.out.1 HIP.out.2).mono ?_
  rintro e w3 ⟨rfl, hb3⟩
  have HX3 := Lib.hid (HX2.out.next hb3)
  have HI3 := Lib.hid (HI2.out.below hb3)
  clear hb3 g0 g1 g2 g3 g4 g5 g6 k0 k1 k2 k3 k4 e0 e1
  obtain ⟨_, k0, k1, k2, k3, k4⟩ := RoAt.of HX3.out.r
  go_wp2_with fail
  refine (clone_any ad n cap r.l _ HI3.out.l HI3.out.len (roSlots HI3.out HRE.out.v) HI3.out.le).mono ?_
  rintro e w4 ⟨v4, rfl, hs4, hb4⟩
  obtain ⟨ad4, cap4, rfl, -, -, -, -, -⟩ := hs4.read
  rw [← HI3.out.len] at hs4 ⊢
  have HS4 := Lib.hid hs4
  have HX4 := Lib.hid (HX3.out.next hb4)
  have H34 := Lib.hid (show w3.heap.size ≤ w4.heap.size from hb4.size)
  clear hs4 hb4 k0 k1 k2 k3 k4
  obtain ⟨_, k0, k1, k2, k3, k4⟩ := RoAt.of HX4.out.r
  have f0 := froz_of HX4.out.r 0
  have f2 := froz_of HX4.out.r 2
  obtain ⟨p, hp⟩ : ∃ p, p = (locR m r k i).1 := ⟨_, rfl⟩
  have HP := Lib.hid hp
  rw [← hp] at W1 ⊢
  clear hp
  go_wp2_with fail
  rw [HD.out.enter]
  have HR5 := Lib.hid (show ((w4.setCell ⟨w.heap.size + 1, 0, none⟩ (.int .i64 p)).setCell ⟨w.heap.size + 1, 2, none⟩ (.slice ad4 n cap4)).heap[w.heap.size + 1]? = some (boxR { r with p := p } ad4 n cap4) from
    ro_set (r := { r with p := p }) (ro_set HX4.out.r 0 _ rfl) 2 _ rfl)
  have HZ5 := Lib.hid (show ((w4.setCell ⟨w.heap.size + 1, 0, none⟩ (.int .i64 p)).setCell ⟨w.heap.size + 1, 2, none⟩ (.slice ad4 n cap4)).heap[w.heap.size + 3]? = some (boxR rz none 0 0) from
    far_set (far_set HX4.out.z (by omega) _ _) (by omega) _ _)
  have HS5 := Lib.hid (show Sq ((w4.setCell ⟨w.heap.size + 1, 0, none⟩ (.int .i64 p)).setCell ⟨w.heap.size + 1, 2, none⟩ (.slice ad4 n cap4)) w3.heap.size (.slice ad4 n cap4) r.l from
    HS4.out.keep (fun q hq => by
      have := (HS4.out.lt q hq).1; have := HX3.out.s
      rw [Below.heap_setCell _ _ _ _ (by show q ≠ w.heap.size + 1; omega), Below.heap_setCell _ _ _ _ (by show q ≠ w.heap.size + 1; omega)]))
  have HB5 := Lib.hid (show Below w.heap.size w ((w4.setCell ⟨w.heap.size + 1, 0, none⟩ (.int .i64 p)).setCell ⟨w.heap.size + 1, 2, none⟩ (.slice ad4 n cap4)) from
    (HX4.out.b.setCell (p := ⟨w.heap.size + 1, 0, none⟩) (by show w.heap.size ≤ w.heap.size + 1; omega) _).setCell (p := ⟨w.heap.size + 1, 2, none⟩) (by show w.heap.size ≤ w.heap.size + 1; omega) _)
  have HZS := Lib.hid (show w3.heap.size ≤ ((w4.setCell ⟨w.heap.size + 1, 0, none⟩ (.int .i64 p)).setCell ⟨w.heap.size + 1, 2, none⟩ (.slice ad4 n cap4)).heap.size from by simpa [World.setCell] using H34.out)
  clear k0 k1 k2 k3 k4 f0 f2
  generalize World.setCell _ _ _ = w5 at *
  refine (HD.out.calls w5 (w.heap.size + 1) w3.heap.size { r with p := p } ad4 n cap4 HB5.out (by omega) (by have := HX3.out.s; omega) HZS.out HR5.out HS5.out HI3.out.len ⟨HRE.out.kind, fun h => (by subst h; have := HRE.out.slot; have := HI3.out.len; omega), HI3.out.le, HI3.out.z⟩).mono ?_
  rintro e w6 ⟨rfl, hok, hk6⟩
  have HZ6 := Lib.hid (hk6.rest _ _ (by omega) (by have := HX3.out.s; omega) HZ5.out)
  have HB6 := Lib.hid (HB5.out.trans (hk6.b.mono (by omega)))
  have HOK := Lib.hid hok
  clear hok hk6
  by_cases her : (D { r with p := p }).1 = 0
  · obtain ⟨hr6, hs6⟩ := HOK.out her
    have HR := Lib.hid (show perR m r k i t D = ((D { r with p := p }).2, t + trvR m r.p p, 0) by rw [HP.out] at her ⊢; exact per_ok HRE.out her)
    have HR6 := Lib.hid hr6
    have HS6 := Lib.hid hs6
    have HLN := Lib.hid (show n = (D { r with p := p }).2.l.length by
      obtain ⟨ad9, cap9, h9, _⟩ := hs6.read
      injection h9)
    rw [her]
    clear her hr6 hs6
    obtain ⟨r2, hr2⟩ : ∃ r2, r2 = (D { r with p := p }).2 := ⟨_, rfl⟩
    rw [← hr2] at HR HR6 HS6 HLN
    clear hr2
    obtain ⟨_, k0, k1, k2, k3, k4⟩ := RoAt.of HR6.out
    go_wp2_with (with_reducible refine wpList_store_ro rfl (.tmp 10) (.tmp 58) rfl (w.heap.size + 3) rfl _ _ _ _ _ _ _ rfl rz none 0 0 HZ6.out ?_)
    refine post_cell3 rfl rfl (setRow_heap _ _ _ _ _ _ HZ6.out) Try.underlying26 rfl infoR rfl rfl rfl ?_
    rw [HR.out]
    refine ⟨ad4, n, cap4, rfl, HLN.out, ?_, below_set HB6.out (by omega) _⟩
    exact (HS6.out.keep (fun q hq => by have := (HS6.out.lt q hq).1; have := HX3.out.s; rw [setRow_other _ _ _ _ (by omega)])).mono (by have := HX3.out.s; omega)
  · have HR := Lib.hid (show perR m r k i t D = (rz, 0, (D { r with p := p }).1) by rw [HP.out] at her ⊢; exact per_do HRE.out her)
    have hne : ((D { r with p := p }).1 != 0) = true := by simpa using her
    generalize (D { r with p := p }).1 = er at *
    clear her
    go_wp2_with (with_reducible refine wpList_store_ro rfl (.tmp 10) (.tmp 56) rfl (w.heap.size + 3) rfl _ _ _ _ _ _ _ rfl rz none 0 0 HZ6.out ?_)
    refine post_cell3 rfl rfl (setRow_heap _ _ _ _ _ _ HZ6.out) Try.underlying26 rfl infoR rfl rfl rfl ?_
    rw [HR.out]
    exact ⟨none, 0, 0, rfl, rfl, Sq.nil _ _, below_set HB6.out (by omega) _⟩
end Go.Proofs.Ytmhaeipklifhcaa
