/-
  The specification's Put
-/
import Derived.Test.YtmhaeipklifhcaaRbPk
namespace Go.Proofs.Ytmhaeipklifhcaa
open Go.RowKit
set_option linter.unusedVariables false
attribute [local irreducible] inn mdlR rail dst vldR trvR finR locR
set_option maxRecDepth 100000 in
set_option maxHeartbeats 4000000 in
theorem rput_any (m : Rmd) (r : Rbt) (ad : Option Addr) (n cap : Nat) (k i : Int) (w : World) (hin : RoIn w r ad n cap) :
    Calls Try.prog 27 #[rmV m, roV r ad n cap, elV k i] w (RetP w (putR m r k i)) := by
  have HX := Lib.hid (Bx4.start w m r ad n cap k i)
  have HI := Lib.hid (hin.below HX.out.b)
  have hle := hin.le
  clear hin
  go_enter Try.func27, Try.ntmps27
  go_wp2_with fail
  generalize World.alloc _ _ = X0 at *
  refine (rreach_any m r ad n cap k i _ HI.out).mono ?_
  rintro e w1 ⟨rfl, hb1⟩
  have HX1 := Lib.hid (HX.out.next hb1)
  have HI1 := Lib.hid (HI.out.below hb1)
  clear hb1
  by_cases hz : (reaR m r k i).2 = 0
  rotate_left
  · have HR := Lib.hid (show putR m r k i = (rz, 0, (reaR m r k i).2) by unfold putR; rw [if_pos hz])
    have hzb : ((reaR m r k i).2 != 0) = true := by simpa using hz
    generalize (reaR m r k i).2 = er at *
    clear hz
    go_wp2_with (with_reducible refine wpList_store_ro rfl (.tmp 6) (.tmp 21) rfl (w.heap.size + 3) rfl _ _ _ _ _ _ _ rfl rz none 0 0 HX1.out.z ?_)
    refine post_cell3 rfl rfl (setRow_heap _ _ _ _ _ _ HX1.out.z) Try.underlying26 rfl infoR rfl rfl rfl ?_
    exact ret_err HX1.out HR.out
  have HRE := Lib.hid (rea_ok hz)
  rw [HRE.out.eq]
  clear hz
  obtain ⟨_, g0, g1, g2, g3, g4, g5, g6⟩ := HX1.out.m
  obtain ⟨_, k0, k1, k2, k3, k4⟩ := RoAt.of HX1.out.r
  obtain ⟨_, e0, e1⟩ := HX1.out.e
  by_cases hh : r.ha = emp
  · have HR := Lib.hid (show putR m r k i = (rz, 0, 11) by unfold putR; rw [HRE.out.eq, if_neg (by simp), if_pos hh])
    have hq : r.ha.toList.isEmpty = true := by rw [isE]; simp [hh]
    clear hh
    go_wp2_with (with_reducible refine wpList_store_ro rfl (.tmp 6) (.tmp 26) rfl (w.heap.size + 3) rfl _ _ _ _ _ _ _ rfl rz none 0 0 HX1.out.z ?_)
    refine post_cell3 rfl rfl (setRow_heap _ _ _ _ _ _ HX1.out.z) Try.underlying26 rfl infoR rfl rfl rfl ?_
    exact ret_err HX1.out HR.out
  have hq : r.ha.toList.isEmpty = false := by rw [isE]; simp [hh]
  have HHE := Lib.hid hh
  clear hh
  by_cases hk : k = 1
  · subst hk
    have HR := Lib.hid (show putR m r 1 i = ({ withR r 1 i r.ha with p := (locR m r 1 i).1, ha := emp }, trvR m r.p (locR m r 1 i).1 + m.pt, 0) by
      unfold putR; rw [HRE.out.eq, if_neg (by simp), if_neg HHE.out, if_pos rfl]
      unfold withR; rfl)
    clear g0 g1 g2 g3 g4 g5 g6 k0 k1 k2 k3 k4 e0 e1
    obtain ⟨_, g0, g1, g2, g3, g4, g5, g6⟩ := HX1.out.m
    obtain ⟨_, k0, k1, k2, k3, k4⟩ := RoAt.of HX1.out.r
    obtain ⟨_, e0, e1⟩ := HX1.out.e
    have W1 := Lib.hid (show IntKind.i64.wrap (trvR m r.p (locR m r 1 i).1 + m.pt) = trvR m r.p (locR m r 1 i).1 + m.pt by
      have h1 := trv_bd m r.p (locR m r 1 i).1
      obtain ⟨h2, _, _, _⟩ := vld_iff.1 HRE.out.v
      have := h2.k0; have := h2.k1; have := h2.t0; have := h2.t1
      rw [IntKind.wrap_i64]; omega)
    have HIP := Lib.hid (show I64 r.p ∧ I64 (locR m r 1 i).1 by
      obtain ⟨h2, _, h4, _⟩ := vld_iff.1 HRE.out.v
      have h5 := loc_rail HRE.out
      have h6 := rail_le h2
      exact ⟨⟨by omega, by omega⟩, ⟨by omega, by omega⟩⟩)
    have HXC := HX1
    have HIC := HI1
    go_wp2_with fail
    clear g0 g1 g2 g3 g4 g5 g6 k0 k1 k2 k3 k4 e0 e1
    try generalize World.alloc _ _ = XC at *
    have HBX := Lib.hid (show Below _ _ _ from (Below.refl (w1).heap.size (w1)).drew)
    refine wp_region_noPanic ?_
    refine wp_region_held_drew (S := fun X => Below (w1).heap.size (w1) X) (by kernel_rfl) (HBX.out) (fun hS0 => ?_)
    refine held_take (i := 0) (v := ?_) rfl (by kernel_rfl) (by kernel_rfl) (by kernel_rfl) (fun _ _ _ h => h) (by rfl) ?_ (by assumption) ?_
    rotate_left
    · intro X hSX
      try dsimp only at hSX
      obtain ⟨_, g0, g1, g2, g3, g4, g5, g6⟩ := (HXC.out.next hSX).m
      obtain ⟨_, k0, k1, k2, k3, k4⟩ := RoAt.of (HXC.out.next hSX).r
      go_simp <;> with_reducible rfl
    simp only [Act.put, List.setIfInBounds_toArray, List.set_cons_zero, List.set_cons_succ]
    refine held_take (i := 1) (v := ?_) rfl (by kernel_rfl) (by kernel_rfl) (by kernel_rfl) (fun _ _ _ h => h) (by rfl) ?_ (by assumption) ?_
    rotate_left
    · intro X hSX
      try dsimp only at hSX
      obtain ⟨_, g0, g1, g2, g3, g4, g5, g6⟩ := (HXC.out.next hSX).m
      obtain ⟨_, k0, k1, k2, k3, k4⟩ := RoAt.of (HXC.out.next hSX).r
      go_simp <;> with_reducible rfl
    simp only [Act.put, List.setIfInBounds_toArray, List.set_cons_zero, List.set_cons_succ]
    refine held_take (i := 2) (v := ?_) rfl (by kernel_rfl) (by kernel_rfl) (by kernel_rfl) (fun _ _ _ h => h) (by rfl) ?_ (by assumption) ?_
    rotate_left
    · intro X hSX
      try dsimp only at hSX
      obtain ⟨_, g0, g1, g2, g3, g4, g5, g6⟩ := (HXC.out.next hSX).m
      obtain ⟨_, k0, k1, k2, k3, k4⟩ := RoAt.of (HXC.out.next hSX).r
      go_simp <;> with_reducible rfl
    simp only [Act.put, List.setIfInBounds_toArray, List.set_cons_zero, List.set_cons_succ]
    refine held_take (i := 3) (v := ?_) rfl (by kernel_rfl) (by kernel_rfl) (by kernel_rfl) (fun _ _ _ h => h) (by rfl) ?_ (by assumption) ?_
    rotate_left
    · intro X hSX
      try dsimp only at hSX
      obtain ⟨_, g0, g1, g2, g3, g4, g5, g6⟩ := (HXC.out.next hSX).m
      obtain ⟨_, k0, k1, k2, k3, k4⟩ := RoAt.of (HXC.out.next hSX).r
      go_simp <;> with_reducible rfl
    simp only [Act.put, List.setIfInBounds_toArray, List.set_cons_zero, List.set_cons_succ]
    refine held_take (i := 5) (v := ?_) rfl (by kernel_rfl) (by kernel_rfl) (by kernel_rfl) (fun _ _ _ h => h) (by rfl) ?_ (by assumption) ?_
    rotate_left
    · intro X hSX
      try dsimp only at hSX
      obtain ⟨_, g0, g1, g2, g3, g4, g5, g6⟩ := (HXC.out.next hSX).m
      obtain ⟨_, k0, k1, k2, k3, k4⟩ := RoAt.of (HXC.out.next hSX).r
      go_simp <;> with_reducible rfl
    simp only [Act.put, List.setIfInBounds_toArray, List.set_cons_zero, List.set_cons_succ]
    refine held_take (i := 6) (v := ?_) rfl (by kernel_rfl) (by kernel_rfl) (by kernel_rfl) (fun _ _ _ h => h) (by rfl) ?_ (by assumption) ?_
    rotate_left
    · intro X hSX
      try dsimp only at hSX
      obtain ⟨_, g0, g1, g2, g3, g4, g5, g6⟩ := (HXC.out.next hSX).m
      obtain ⟨_, k0, k1, k2, k3, k4⟩ := RoAt.of (HXC.out.next hSX).r
      go_simp <;> with_reducible rfl
    simp only [Act.put, List.setIfInBounds_toArray, List.set_cons_zero, List.set_cons_succ]
    refine held_call (i := 4) rfl (by kernel_rfl) (by rfl) (fun K' hK' => ?_)
    go_simp
    refine (rtravel_any m r.p (locR m r 1 i).1 _ HIP.out.1 HIP.out.2).mono ?_
    rintro e w3 ⟨rfl, hb3⟩
    replace HBX := Lib.hid (HBX.out.trans (hb3.mono HBX.out.size))
    clear hb3
    refine held_go hK' (HBX.out) ?_
    try simp only [Act.put, List.setIfInBounds_toArray, List.set_cons_zero, List.set_cons_succ]
    refine held_take (i := 7) (v := ?_) rfl (by kernel_rfl) (by kernel_rfl) (by kernel_rfl) (fun _ _ _ h => h) (by rfl) ?_ (by assumption) ?_
    rotate_left
    · intro X hSX
      try dsimp only at hSX
      have h1 := W1.out
      go_simp <;> with_reducible rfl
    simp only [Act.put, List.setIfInBounds_toArray, List.set_cons_zero, List.set_cons_succ]
    refine held_take (i := 8) (v := ?_) rfl (by kernel_rfl) (by kernel_rfl) (by kernel_rfl) (fun _ _ _ h => h) (by rfl) ?_ (by assumption) ?_
    rotate_left
    · intro X hSX
      try dsimp only at hSX
      go_simp <;> with_reducible rfl
    simp only [Act.put, List.setIfInBounds_toArray, List.set_cons_zero, List.set_cons_succ]
    refine wpAnyH_done (by kernel_rfl) ?_ _
    refine NoPanic.normal ?_
    have HX3 := Lib.hid (HXC.out.next HBX.out)
    have HI3 := Lib.hid (HIC.out.below HBX.out)
    obtain ⟨_, g0, g1, g2, g3, g4, g5, g6⟩ := HX3.out.m
    obtain ⟨_, k0, k1, k2, k3, k4⟩ := RoAt.of HX3.out.r
    obtain ⟨_, e0, e1⟩ := HX3.out.e
    go_wp2_with fail
    refine (rwith_any r ad n cap 1 i r.ha _ HI3.out (fun h => by cases h)).mono ?_
    rintro e w4 ⟨ad4, n4, cap4, rfl, hn4, hs4, hb4⟩
    have HS4 := Lib.hid hs4
    have HN4 := Lib.hid hn4
    have HX4 := Lib.hid (HX3.out.next hb4)
    clear hn4 hs4 hb4
    clear g0 g1 g2 g3 g4 g5 g6 k0 k1 k2 k3 k4 e0 e1
    obtain ⟨r4, hr4⟩ : ∃ r4, r4 = withR r 1 i r.ha := ⟨_, rfl⟩
    rw [← hr4] at HS4 HN4 HR ⊢
    have HPF := Lib.hid (fun u v => pk_rows (r4 := r4) (ad4 := ad4) (n4 := n4) (cap4 := cap4) HX4.out u v)
    clear hr4
    obtain ⟨_, q0, q1, q2, q3, q4⟩ := RoAt.of (HPF.out (.int .i64 0) (.int .i64 0)).1
    have f0 := froz_of (HPF.out (.int .i64 0) (.int .i64 0)).1 0
    have f4 := froz_of (HPF.out (.int .i64 0) (.int .i64 0)).1 4

    go_wp2_with (first
      | (with_reducible refine wpList_store_ro rfl (.tmp 4) (.tmp 49) rfl (w.heap.size + 1) rfl _ _ _ _ _ _ _ rfl r ad n cap HX4.out.r ?_)
      | (with_reducible refine wpList_store_ro rfl (.tmp 6) (.tmp 53) rfl (w.heap.size + 3) rfl _ _ _ _ _ _ _ rfl rz none 0 0 (HPF.out _ _).2 ?_))
    refine post_cell3 rfl rfl (setRow_heap _ _ _ _ _ _ (HPF.out _ _).2) Try.underlying26 rfl infoR rfl rfl rfl ?_
    exact pk_end HX4.out HX3.out.s HS4.out HN4.out HR.out
  have hk1 : (k != 1) = true := by simpa using hk
  go_wp2_with fail
  refine (rat_any r ad n cap k i _ HI1.out (fun h => by subst h; have := HRE.out.slot; have := HI1.out.len; omega)).mono ?_
  rintro e w2 ⟨rfl, hb2⟩
  have HX2 := Lib.hid (HX1.out.next hb2)
  have HI2 := Lib.hid (HI1.out.below hb2)
  clear hb2 g0 g1 g2 g3 g4 g5 g6 k0 k1 k2 k3 k4 e0 e1
  by_cases hbe : atR r k i = emp
  rotate_left
  · have HR := Lib.hid (show putR m r k i = (rz, 0, 12) by
      unfold putR; rw [HRE.out.eq, if_neg (by simp), if_neg HHE.out, if_neg hk]
      unfold atR at hbe
      by_cases h0 : k = 0
      · rw [if_pos h0] at hbe ⊢; rw [if_pos hbe]
      · rw [if_neg h0] at hbe ⊢; rw [if_pos hbe])
    have hb3 : (atR r k i).toList.isEmpty = false := by rw [isE]; simp [hbe]
    clear hbe hk
    go_wp2_with (with_reducible refine wpList_store_ro rfl (.tmp 6) (.tmp 36) rfl (w.heap.size + 3) rfl _ _ _ _ _ _ _ rfl rz none 0 0 HX2.out.z ?_)
    refine post_cell3 rfl rfl (setRow_heap _ _ _ _ _ _ HX2.out.z) Try.underlying26 rfl infoR rfl rfl rfl ?_
    exact ret_err HX2.out HR.out
  have hb3 : (atR r k i).toList.isEmpty = true := by rw [isE]; simp [hbe]
  have HR := Lib.hid (show putR m r k i = ({ withR r k i r.ha with p := (locR m r k i).1, ha := emp }, trvR m r.p (locR m r k i).1 + m.pt, 0) by
    unfold putR; rw [HRE.out.eq, if_neg (by simp), if_neg HHE.out, if_neg hk]
    unfold atR withR at *
    rcases HRE.out.kind with h0 | h0 | h0
    · subst h0; rw [if_pos rfl] at hbe ⊢; rw [if_neg (by simpa using hbe)]; rfl
    · exact absurd h0 hk
    · subst h0; rw [if_neg (by decide)] at hbe ⊢; rw [if_neg (by simpa using hbe)]; rfl)
  generalize hat : atR r k i = c at *
  clear hbe hk hat
  obtain ⟨_, g0, g1, g2, g3, g4, g5, g6⟩ := HX2.out.m
  obtain ⟨_, k0, k1, k2, k3, k4⟩ := RoAt.of HX2.out.r
  obtain ⟨_, e0, e1⟩ := HX2.out.e
  have W1 := Lib.hid (show IntKind.i64.wrap (trvR m r.p (locR m r k i).1 + m.pt) = trvR m r.p (locR m r k i).1 + m.pt by
    have h1 := trv_bd m r.p (locR m r k i).1
    obtain ⟨h2, _, _, _⟩ := vld_iff.1 HRE.out.v
    have := h2.k0; have := h2.k1; have := h2.t0; have := h2.t1
    rw [IntKind.wrap_i64]; omega)
  have HIP := Lib.hid (show I64 r.p ∧ I64 (locR m r k i).1 by
    obtain ⟨h2, _, h4, _⟩ := vld_iff.1 HRE.out.v
    have h5 := loc_rail HRE.out
    have h6 := rail_le h2
    exact ⟨⟨by omega, by omega⟩, ⟨by omega, by omega⟩⟩)
  have HXC := HX2
  have HIC := HI2
  go_wp2_with fail
  clear g0 g1 g2 g3 g4 g5 g6 k0 k1 k2 k3 k4 e0 e1
  try generalize World.alloc _ _ = XC at *
  have HBX := Lib.hid (show Below _ _ _ from (Below.refl (w2).heap.size (w2)).drew)
  refine wp_region_noPanic ?_
  refine wp_region_held_drew (S := fun X => Below (w2).heap.size (w2) X) (by kernel_rfl) (HBX.out) (fun hS0 => ?_)
  refine held_take (i := 0) (v := ?_) rfl (by kernel_rfl) (by kernel_rfl) (by kernel_rfl) (fun _ _ _ h => h) (by rfl) ?_ (by assumption) ?_
  rotate_left
  · intro X hSX
    try dsimp only at hSX
    obtain ⟨_, g0, g1, g2, g3, g4, g5, g6⟩ := (HXC.out.next hSX).m
    obtain ⟨_, k0, k1, k2, k3, k4⟩ := RoAt.of (HXC.out.next hSX).r
    go_simp <;> with_reducible rfl
  simp only [Act.put, List.setIfInBounds_toArray, List.set_cons_zero, List.set_cons_succ]
  refine held_take (i := 1) (v := ?_) rfl (by kernel_rfl) (by kernel_rfl) (by kernel_rfl) (fun _ _ _ h => h) (by rfl) ?_ (by assumption) ?_
  rotate_left
  · intro X hSX
    try dsimp only at hSX
    obtain ⟨_, g0, g1, g2, g3, g4, g5, g6⟩ := (HXC.out.next hSX).m
    obtain ⟨_, k0, k1, k2, k3, k4⟩ := RoAt.of (HXC.out.next hSX).r
    go_simp <;> with_reducible rfl
  simp only [Act.put, List.setIfInBounds_toArray, List.set_cons_zero, List.set_cons_succ]
  refine held_take (i := 2) (v := ?_) rfl (by kernel_rfl) (by kernel_rfl) (by kernel_rfl) (fun _ _ _ h => h) (by rfl) ?_ (by assumption) ?_
  rotate_left
  · intro X hSX
    try dsimp only at hSX
    obtain ⟨_, g0, g1, g2, g3, g4, g5, g6⟩ := (HXC.out.next hSX).m
    obtain ⟨_, k0, k1, k2, k3, k4⟩ := RoAt.of (HXC.out.next hSX).r
    go_simp <;> with_reducible rfl
  simp only [Act.put, List.setIfInBounds_toArray, List.set_cons_zero, List.set_cons_succ]
  refine held_take (i := 3) (v := ?_) rfl (by kernel_rfl) (by kernel_rfl) (by kernel_rfl) (fun _ _ _ h => h) (by rfl) ?_ (by assumption) ?_
  rotate_left
  · intro X hSX
    try dsimp only at hSX
    obtain ⟨_, g0, g1, g2, g3, g4, g5, g6⟩ := (HXC.out.next hSX).m
    obtain ⟨_, k0, k1, k2, k3, k4⟩ := RoAt.of (HXC.out.next hSX).r
    go_simp <;> with_reducible rfl
  simp only [Act.put, List.setIfInBounds_toArray, List.set_cons_zero, List.set_cons_succ]
  refine held_take (i := 5) (v := ?_) rfl (by kernel_rfl) (by kernel_rfl) (by kernel_rfl) (fun _ _ _ h => h) (by rfl) ?_ (by assumption) ?_
  rotate_left
  · intro X hSX
    try dsimp only at hSX
    obtain ⟨_, g0, g1, g2, g3, g4, g5, g6⟩ := (HXC.out.next hSX).m
    obtain ⟨_, k0, k1, k2, k3, k4⟩ := RoAt.of (HXC.out.next hSX).r
    go_simp <;> with_reducible rfl
  simp only [Act.put, List.setIfInBounds_toArray, List.set_cons_zero, List.set_cons_succ]
  refine held_take (i := 6) (v := ?_) rfl (by kernel_rfl) (by kernel_rfl) (by kernel_rfl) (fun _ _ _ h => h) (by rfl) ?_ (by assumption) ?_
  rotate_left
  · intro X hSX
    try dsimp only at hSX
    obtain ⟨_, g0, g1, g2, g3, g4, g5, g6⟩ := (HXC.out.next hSX).m
    obtain ⟨_, k0, k1, k2, k3, k4⟩ := RoAt.of (HXC.out.next hSX).r
    go_simp <;> with_reducible rfl
  simp only [Act.put, List.setIfInBounds_toArray, List.set_cons_zero, List.set_cons_succ]
  refine held_call (i := 4) rfl (by kernel_rfl) (by rfl) (fun K' hK' => ?_)
  go_simp
  refine (rtravel_any m r.p (locR m r k i).1 _ HIP.out.1 HIP.out.2).mono ?_
  rintro e w3 ⟨rfl, hb3⟩
  replace HBX := Lib.hid (HBX.out.trans (hb3.mono HBX.out.size))
  clear hb3
  refine held_go hK' (HBX.out) ?_
  try simp only [Act.put, List.setIfInBounds_toArray, List.set_cons_zero, List.set_cons_succ]
  refine held_take (i := 7) (v := ?_) rfl (by kernel_rfl) (by kernel_rfl) (by kernel_rfl) (fun _ _ _ h => h) (by rfl) ?_ (by assumption) ?_
  rotate_left
  · intro X hSX
    try dsimp only at hSX
    have h1 := W1.out
    go_simp <;> with_reducible rfl
  simp only [Act.put, List.setIfInBounds_toArray, List.set_cons_zero, List.set_cons_succ]
  refine held_take (i := 8) (v := ?_) rfl (by kernel_rfl) (by kernel_rfl) (by kernel_rfl) (fun _ _ _ h => h) (by rfl) ?_ (by assumption) ?_
  rotate_left
  · intro X hSX
    try dsimp only at hSX
    go_simp <;> with_reducible rfl
  simp only [Act.put, List.setIfInBounds_toArray, List.set_cons_zero, List.set_cons_succ]
  refine wpAnyH_done (by kernel_rfl) ?_ _
  refine NoPanic.normal ?_
  have HX3 := Lib.hid (HXC.out.next HBX.out)
  have HI3 := Lib.hid (HIC.out.below HBX.out)
  obtain ⟨_, g0, g1, g2, g3, g4, g5, g6⟩ := HX3.out.m
  obtain ⟨_, k0, k1, k2, k3, k4⟩ := RoAt.of HX3.out.r
  obtain ⟨_, e0, e1⟩ := HX3.out.e
  go_wp2_with fail
  refine (rwith_any r ad n cap k i r.ha _ HI3.out (fun h => by subst h; have := HRE.out.slot; have := HI3.out.len; omega)).mono ?_
  rintro e w4 ⟨ad4, n4, cap4, rfl, hn4, hs4, hb4⟩
  have HS4 := Lib.hid hs4
  have HN4 := Lib.hid hn4
  have HX4 := Lib.hid (HX3.out.next hb4)
  clear hn4 hs4 hb4
  clear g0 g1 g2 g3 g4 g5 g6 k0 k1 k2 k3 k4 e0 e1
  obtain ⟨r4, hr4⟩ : ∃ r4, r4 = withR r k i r.ha := ⟨_, rfl⟩
  rw [← hr4] at HS4 HN4 HR ⊢
  have HPF := Lib.hid (fun u v => pk_rows (r4 := r4) (ad4 := ad4) (n4 := n4) (cap4 := cap4) HX4.out u v)
  clear hr4
  obtain ⟨_, q0, q1, q2, q3, q4⟩ := RoAt.of (HPF.out (.int .i64 0) (.int .i64 0)).1
  have f0 := froz_of (HPF.out (.int .i64 0) (.int .i64 0)).1 0
  have f4 := froz_of (HPF.out (.int .i64 0) (.int .i64 0)).1 4

  go_wp2_with (first
    | (with_reducible refine wpList_store_ro rfl (.tmp 4) (.tmp 49) rfl (w.heap.size + 1) rfl _ _ _ _ _ _ _ rfl r ad n cap HX4.out.r ?_)
    | (with_reducible refine wpList_store_ro rfl (.tmp 6) (.tmp 53) rfl (w.heap.size + 3) rfl _ _ _ _ _ _ _ rfl rz none 0 0 (HPF.out _ _).2 ?_))
  refine post_cell3 rfl rfl (setRow_heap _ _ _ _ _ _ (HPF.out _ _).2) Try.underlying26 rfl infoR rfl rfl rfl ?_
  exact pk_end HX4.out HX3.out.s HS4.out HN4.out HR.out
end Go.Proofs.Ytmhaeipklifhcaa
