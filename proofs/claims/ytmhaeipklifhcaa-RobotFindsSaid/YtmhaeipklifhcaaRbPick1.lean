/-
  What Pick does to the robot in its box.
-/
import Derived.Test.YtmhaeipklifhcaaRbDo
import Derived.Test.YtmhaeipklifhcaaRbHeld
namespace Go.Proofs.Ytmhaeipklifhcaa
open Go.RowKit
set_option linter.unusedVariables false
theorem oper_store_el {o : Oper} {a : Act} {w : World} {K : Act → World → Prop} {Q : Exit → Act → World → Prop} (x y : Operand) (ho : o.op = .store 28 x y)
    (g : Nat) (hx : a.eval x = .pointer (some ⟨g, 0, none⟩)) (k i : Int) (hy : a.eval y = .agg (elK k i)) (k0 i0 : Int) (hg : w.heap[g]? = some (boxE k0 i0))
    (h : K (a.put o.dst undef) (w.setRow g (elK k i))) : Oper.wp Try.prog o a w K Q :=
  oper_store_agg _ x y ho g hx _ _ hy _ hg infoE rfl (by simp [Value.oneCell']) h
attribute [local irreducible] inn mdlR rail dst vldR trvR finR locR
set_option maxRecDepth 100000 in
set_option maxHeartbeats 4000000 in
theorem pick1_any (w : World) (ge gb : Nat) (k i : Int) (b : ByteArray) (he : ElAt w ge k i) (hbx : w.heap[gb]? = some (.cells #[.string b] 9 (0, 0))) : Does w 42 #[.pointer (some ⟨ge, 0, none⟩), .pointer (some ⟨gb, 0, none⟩)] k i (dpk k i b) := by
  refine ⟨fun args X => by go_simp, fun X g C r ad n cap hb hwg hgC hCX hr hs hn hc => ?_⟩
  have HE := Lib.hid (he.step hb)
  have HBB := Lib.hid (show Boxed X gb 9 (.string b) from row_step hbx hb)
  have HR := Lib.hid hr
  have HS := Lib.hid hs
  have HN := Lib.hid hn
  have HC := Lib.hid hc
  have hgX : g < X.heap.size := by omega
  have HG := Lib.hid (show w.heap.size ≤ g ∧ g < C ∧ C ≤ X.heap.size from ⟨hwg, hgC, hCX⟩)
  clear he hbx hb hr hs hn hc hwg hgC hCX hgX
  show Calls Try.prog 42 #[.pointer (some ⟨g, 0, none⟩), .pointer (some ⟨ge, 0, none⟩), .pointer (some ⟨gb, 0, none⟩)] X _
  obtain ⟨_, k0, k1, k2, k3, k4⟩ := RoAt.of HR.out
  obtain ⟨_, e0, e1⟩ := HE.out
  have b0 := HBB.out.cell
  have f4 := froz_of HR.out 4
  have f3 := froz_of HR.out 3
  by_cases hh : r.ha = emp
  rotate_left
  · have HD := Lib.hid (show dpk k i b r = (14, r) from if_pos hh)
    have hq : r.ha.toList.isEmpty = false := by rw [isE]; simp [hh]
    clear hh
    go_enter Try.func42, Try.ntmps42
    go_wp2
    go_ret
    rw [HD.out]
    exact ⟨rfl, fun h => (by cases h), ⟨Below.refl _ _, fun _ _ _ _ e => e⟩⟩
  have hq : r.ha.toList.isEmpty = true := by rw [isE]; simp [hh]
  have HH := Lib.hid (show ¬ r.ha ≠ emp from fun h => h hh)
  clear hh
  rcases HC.out.kind with hk | hk | hk
  · subst hk
    obtain ⟨i0, i1⟩ := HC.out.slot rfl
    obtain ⟨j, rfl⟩ : ∃ j : Nat, i = (j : Int) := ⟨i.toNat, by omega⟩
    have hjn : j < n := by omega
    have hjl : j < r.l.length := by have := HN.out; omega
    have hgd : r.l.getD (j : Int).toNat emp = r.l[j] := by simp [hjl]
    obtain ⟨gl, cap', hv, -, -, -, -, -, -, -⟩ := HS.out.set_ j hjl emp
    rw [← HN.out] at hv
    cases hv
    have hji : (j : Int) < (n : Int) := by omega
    go_enter Try.func42, Try.ntmps42
    go_wp2_with fail
    go_quiet (fail)
    generalize hX1 : World.drewN X _ = X1
    have HB1 := Lib.hid (show DoK g C X X1 by rw [← hX1]; exact ⟨below_drewN (Below.refl _ _) _, fun _ _ _ _ e => e⟩)
    have HR1 := Lib.hid (show X1.heap[g]? = some (boxR r (some ⟨gl, 0, none⟩) n cap) by rw [← hX1]; exact HR.out)
    have hs1 : Sq X1 C (.slice (some ⟨gl, 0, none⟩) n cap) r.l := by rw [← hX1]; exact HS.out
    obtain ⟨gl', cap', hv, hB, hlt, hcl, hcm, hcj, hfj, hS⟩ := hs1.set_ j hjl emp
    rw [← HN.out] at hv hcl
    cases hv
    have HSS := Lib.hid (fun (Y : World) (h : Sq Y C (.slice (some ⟨gl, 0, none⟩) n cap) r.l) => h.set_ j hjl emp)
    have HS1 := Lib.hid hs1
    have HGL := Lib.hid hB
    obtain ⟨x, hx⟩ : ∃ x, x = r.l[j] := ⟨_, rfl⟩
    rw [← hx] at hcj hgd
    have HGD := Lib.hid hgd
    clear hX1 hs1 hS hB hx hgd k0 k1 k2 k3 k4 f4 f3 e0 e1 b0
    obtain ⟨_, k0, k1, k2, k3, k4⟩ := RoAt.of HR1.out
    have f4 := froz_of HR1.out 4
    by_cases he : x = emp
    · have hq2 : x.toList.isEmpty = true := by rw [isE]; simp [he]
      have HD := Lib.hid (show dpk 0 (j : Int) b r = (11, r) by
        unfold dpk; rw [if_neg HH.out, if_neg (by decide), if_pos rfl, HGD.out, if_pos he])
      clear he
      go_wp2
      go_ret
      rw [HD.out]
      exact ⟨rfl, fun h => (by cases h), HB1.out⟩
    · have hq2 : x.toList.isEmpty = false := by rw [isE]; simp [he]
      have HD := Lib.hid (show dpk 0 (j : Int) b r = (0, { r with l := r.l.set j emp, ha := x }) by
        unfold dpk; rw [if_neg HH.out, if_neg (by decide), if_pos rfl, HGD.out, if_neg he]; rfl)
      clear he
      have hne : gl ≠ g := by have := HG.out; have := HGL.out; omega
      have hne2 : g ≠ gl := fun h => hne h.symm
      go_wp2
      go_ret
      rw [HD.out]
      have hk2 : Sq (X1.setCell ⟨g, 4, none⟩ (.string x)) C (.slice (some ⟨gl, 0, none⟩) n cap) r.l := HS1.out.keep (fun q hq => by have := (HS1.out.lt q hq).1; rw [Below.heap_setCell _ _ _ _ (by show q ≠ g; have := HG.out; omega)])
      obtain ⟨gl', cap', hv, _, _, _, _, _, _, hS⟩ := HSS.out _ hk2
      rw [← HN.out] at hv
      cases hv
      refine ⟨rfl, fun _ => ⟨?_, hS⟩, ?_⟩
      · exact far_set (ro_set (r2 := { r with ha := x }) HR1.out 4 _ rfl) hne2 _ _
      · exact HB1.out.trans ((DoK.set _ (.inl rfl)).trans (DoK.set _ (.inr ⟨HGL.out, by have := HG.out; have := HGL.out; omega⟩)))
  · subst hk
    go_enter Try.func42, Try.ntmps42
    go_wp2_with fail
    have HSX := Lib.hid (show ∃ adx, ad = adx ∧ Sx X ad r.l from by
      obtain ⟨ad1, cap1, hv, hsx, _⟩ := HS.out.read
      rw [← HN.out] at hv
      cases hv
      exact ⟨_, rfl, hsx⟩)
    have HBX := Lib.hid (Below.refl X.heap.size X).drew
    refine wp_region_noPanic ?_
    refine wp_region_held_drew (S := fun Y => Below X.heap.size X Y) (by kernel_rfl) (HBX.out) (fun hS0 => ?_)
    refine held_take (i := 0) (v := ?_) rfl (by kernel_rfl) (by kernel_rfl) (by kernel_rfl) (fun _ _ _ h => h) (by rfl) ?_ (by assumption) ?_
    rotate_left
    · intro X hSX
      try dsimp only at hSX
      obtain ⟨_, k0, k1, k2, k3, k4⟩ := (RoAt.of HR.out).step hSX
      have b0 := (show Boxed _ gb 9 (.string b) from row_step HBB.out hSX).cell
      go_simp <;> with_reducible rfl
    simp only [Act.put, List.setIfInBounds_toArray, List.set_cons_zero, List.set_cons_succ]
    refine held_take (i := 1) (v := ?_) rfl (by kernel_rfl) (by kernel_rfl) (by kernel_rfl) (fun _ _ _ h => h) (by rfl) ?_ (by assumption) ?_
    rotate_left
    · intro X hSX
      try dsimp only at hSX
      obtain ⟨_, k0, k1, k2, k3, k4⟩ := (RoAt.of HR.out).step hSX
      have b0 := (show Boxed _ gb 9 (.string b) from row_step HBB.out hSX).cell
      go_simp <;> with_reducible rfl
    simp only [Act.put, List.setIfInBounds_toArray, List.set_cons_zero, List.set_cons_succ]
    refine held_take (i := 2) (v := ?_) rfl (by kernel_rfl) (by kernel_rfl) (by kernel_rfl) (fun _ _ _ h => h) (by rfl) ?_ (by assumption) ?_
    rotate_left
    · intro X hSX
      try dsimp only at hSX
      obtain ⟨_, k0, k1, k2, k3, k4⟩ := (RoAt.of HR.out).step hSX
      have b0 := (show Boxed _ gb 9 (.string b) from row_step HBB.out hSX).cell
      go_simp <;> with_reducible rfl
    simp only [Act.put, List.setIfInBounds_toArray, List.set_cons_zero, List.set_cons_succ]
    refine held_take (i := 3) (v := ?_) rfl (by kernel_rfl) (by kernel_rfl) (by kernel_rfl) (fun _ _ _ h => h) (by rfl) ?_ (by assumption) ?_
    rotate_left
    · intro X hSX
      try dsimp only at hSX
      obtain ⟨_, k0, k1, k2, k3, k4⟩ := (RoAt.of HR.out).step hSX
      have b0 := (show Boxed _ gb 9 (.string b) from row_step HBB.out hSX).cell
      go_simp <;> with_reducible rfl
    simp only [Act.put, List.setIfInBounds_toArray, List.set_cons_zero, List.set_cons_succ]
    refine held_two (i := 4) (j := 8) rfl rfl (by kernel_rfl) (by rfl) (by rfl) (fun K' hK' => ?_) (fun K' hK' => ?_)
    · go_simp
      refine (find_any r ad n cap b _ (by obtain ⟨_, _, h⟩ := HSX.out; exact h.below HBX.out rfl) HN.out HC.out.le HC.out.z).mono ?_
      rintro e w2 ⟨rfl, hb2⟩
      replace HBX := Lib.hid (HBX.out.trans (hb2.mono HBX.out.size))
      clear hb2
      refine held_go hK' (HBX.out) ?_
      try simp only [Act.put, List.setIfInBounds_toArray, List.set_cons_zero, List.set_cons_succ]
      refine held_take (i := 5) (v := ?_) rfl (by kernel_rfl) (by kernel_rfl) (by kernel_rfl) (fun _ _ _ h => h) (by rfl) ?_ (by assumption) ?_
      rotate_left
      · intro X hSX
        try dsimp only at hSX
        go_simp <;> with_reducible rfl
      simp only [Act.put, List.setIfInBounds_toArray, List.set_cons_zero, List.set_cons_succ]
      refine held_take (i := 6) (v := ?_) rfl (by kernel_rfl) (by kernel_rfl) (by kernel_rfl) (fun _ _ _ h => h) (by rfl) ?_ (by assumption) ?_
      rotate_left
      · intro X hSX
        try dsimp only at hSX
        go_simp <;> with_reducible rfl
      simp only [Act.put, List.setIfInBounds_toArray, List.set_cons_zero, List.set_cons_succ]
      refine held_take (i := 7) (v := ?_) rfl (by kernel_rfl) (by kernel_rfl) (by kernel_rfl) (fun _ _ _ h => h) (by rfl) ?_ (by assumption) ?_
      rotate_left
      · intro X hSX
        try dsimp only at hSX
        go_simp <;> with_reducible rfl
      simp only [Act.put, List.setIfInBounds_toArray, List.set_cons_zero, List.set_cons_succ]
      refine held_call (i := 8) rfl (by kernel_rfl) (by rfl) (fun K' hK' => ?_)
      go_simp
      have HQ := Lib.hid (heap_new w2 (boxE 0 0))
      have hbq := below_box1 w2 (boxE 0 0)
      have HQB := Lib.hid (show X.heap.size ≤ w2.heap.size from HBX.out.size)
      replace HBX := Lib.hid (HBX.out.trans (hbq.mono HBX.out.size))
      clear hbq
      obtain ⟨q, hqe⟩ : ∃ q, q = w2.heap.size := ⟨_, rfl⟩
      rw [← hqe] at HQ HQB ⊢
      clear hqe
      generalize World.alloc _ _ = X3 at *
      refine held_go hK' (HBX.out) ?_
      try simp only [Act.put, List.setIfInBounds_toArray, List.set_cons_zero, List.set_cons_succ]
      refine held_call (i := 9) rfl (by kernel_rfl) (by rfl) (fun K' hK' => ?_)
      refine oper_store_el (.tmp 6) (.tmp 49) rfl q rfl (finR r b).1 (finR r b).2.1 rfl 0 0 HQ.out ?_
      replace HBX := Lib.hid (below_set HBX.out HQB.out (elK (finR r b).1 (finR r b).2.1))
      generalize World.setRow X3 _ _ = X4 at *
      refine held_go hK' (HBX.out) ?_
      try simp only [Act.put]
      refine held_take (i := 10) (v := ?_) rfl (by kernel_rfl) (by kernel_rfl) (by kernel_rfl) (fun _ _ _ h => h) (by rfl) ?_ (by assumption) ?_
      rotate_left
      · intro X hSX
        try dsimp only at hSX
        go_simp <;> with_reducible rfl
      simp only [Act.put, List.setIfInBounds_toArray, List.set_cons_zero, List.set_cons_succ]
      refine wpAnyH_done (by kernel_rfl) ?_ _
      refine NoPanic.normal ?_
      have HR4 := Lib.hid (row_step HR.out HBX.out)
      have HK4 := Lib.hid (show DoK g C X X4 from DoK.below HBX.out (by have := HG.out; omega))
      have HS4 := Lib.hid (HS.out.below HBX.out)
      obtain ⟨_, k0, k1, k2, k3, k4⟩ := RoAt.of HR4.out
      have b0 := (show Boxed X4 gb 9 (.string b) from row_step HBB.out HBX.out).cell
      have f4 := froz_of HR4.out 4
      cases htw : (finR r b).2.2
      · by_cases hbe : b = emp
        · have HD := Lib.hid (show dpk 1 i b r = (8, r) by unfold dpk; rw [if_neg HH.out, if_pos rfl, if_pos (.inl hbe)])
          have hb3 : b.toList.isEmpty = true := by rw [isE]; simp [hbe]
          clear hbe htw
          go_wp2
          go_ret
          rw [HD.out]
          exact ⟨rfl, fun h => (by cases h), HK4.out⟩
        · have HD := Lib.hid (show dpk 1 i b r = (0, { r with ha := b }) by unfold dpk; rw [if_neg HH.out, if_pos rfl, if_neg (by rw [htw]; simp [hbe])])
          have hb3 : b.toList.isEmpty = false := by rw [isE]; simp [hbe]
          clear hbe htw
          go_wp2
          go_ret
          rw [HD.out]
          exact ⟨rfl, fun _ => ⟨ro_set HR4.out 4 _ rfl, HS4.out.keep (fun q hq => by have := (HS4.out.lt q hq).1; rw [Below.heap_setCell _ _ _ _ (by show q ≠ g; have := HG.out; omega)])⟩, HK4.out.trans (DoK.set _ (.inl rfl))⟩
      · have HD := Lib.hid (show dpk 1 i b r = (8, r) by unfold dpk; rw [if_neg HH.out, if_pos rfl, if_pos (.inr htw)])
        clear htw
        go_wp2
        go_ret
        rw [HD.out]
        exact ⟨rfl, fun h => (by cases h), HK4.out⟩
    · go_simp
      have HQ := Lib.hid (show ((X.alloc (boxE 0 0)).drew).heap[X.heap.size]? = some (boxE 0 0) from heap_new X (boxE 0 0))
      replace HBX := Lib.hid ((below_box1 X (boxE 0 0)).drew)
      obtain ⟨q, hqe⟩ : ∃ q, q = X.heap.size := ⟨_, rfl⟩
      have HQB := Lib.hid (show X.heap.size ≤ q by rw [hqe]; exact Nat.le_refl _)
      rw [← hqe] at HQ ⊢
      clear hqe
      generalize World.drew _ = X3 at *
      refine held_go hK' (HBX.out) ?_
      try simp only [Act.put, List.setIfInBounds_toArray, List.set_cons_zero, List.set_cons_succ]
      refine held_call (i := 4) rfl (by kernel_rfl) (by rfl) (fun K' hK' => ?_)
      go_simp
      refine (find_any r ad n cap b _ (by obtain ⟨_, _, h⟩ := HSX.out; exact h.below HBX.out rfl) HN.out HC.out.le HC.out.z).mono ?_
      rintro e w2 ⟨rfl, hb2⟩
      replace HQ := Lib.hid (row_step HQ.out hb2)
      replace HBX := Lib.hid (HBX.out.trans (hb2.mono HBX.out.size))
      clear hb2
      refine held_go hK' (HBX.out) ?_
      try simp only [Act.put, List.setIfInBounds_toArray, List.set_cons_zero, List.set_cons_succ]
      refine held_take (i := 5) (v := ?_) rfl (by kernel_rfl) (by kernel_rfl) (by kernel_rfl) (fun _ _ _ h => h) (by rfl) ?_ (by assumption) ?_
      rotate_left
      · intro X hSX
        try dsimp only at hSX
        go_simp <;> with_reducible rfl
      simp only [Act.put, List.setIfInBounds_toArray, List.set_cons_zero, List.set_cons_succ]
      refine held_take (i := 6) (v := ?_) rfl (by kernel_rfl) (by kernel_rfl) (by kernel_rfl) (fun _ _ _ h => h) (by rfl) ?_ (by assumption) ?_
      rotate_left
      · intro X hSX
        try dsimp only at hSX
        go_simp <;> with_reducible rfl
      simp only [Act.put, List.setIfInBounds_toArray, List.set_cons_zero, List.set_cons_succ]
      refine held_take (i := 7) (v := ?_) rfl (by kernel_rfl) (by kernel_rfl) (by kernel_rfl) (fun _ _ _ h => h) (by rfl) ?_ (by assumption) ?_
      rotate_left
      · intro X hSX
        try dsimp only at hSX
        go_simp <;> with_reducible rfl
      simp only [Act.put, List.setIfInBounds_toArray, List.set_cons_zero, List.set_cons_succ]
      refine held_call (i := 9) rfl (by kernel_rfl) (by rfl) (fun K' hK' => ?_)
      refine oper_store_el (.tmp 6) (.tmp 49) rfl q rfl (finR r b).1 (finR r b).2.1 rfl 0 0 HQ.out ?_
      replace HBX := Lib.hid (below_set HBX.out HQB.out (elK (finR r b).1 (finR r b).2.1))
      generalize World.setRow w2 _ _ = X4 at *
      refine held_go hK' (HBX.out) ?_
      try simp only [Act.put]
      refine held_take (i := 10) (v := ?_) rfl (by kernel_rfl) (by kernel_rfl) (by kernel_rfl) (fun _ _ _ h => h) (by rfl) ?_ (by assumption) ?_
      rotate_left
      · intro X hSX
        try dsimp only at hSX
        go_simp <;> with_reducible rfl
      simp only [Act.put, List.setIfInBounds_toArray, List.set_cons_zero, List.set_cons_succ]
      refine wpAnyH_done (by kernel_rfl) ?_ _
      refine NoPanic.normal ?_
      have HR4 := Lib.hid (row_step HR.out HBX.out)
      have HK4 := Lib.hid (show DoK g C X X4 from DoK.below HBX.out (by have := HG.out; omega))
      have HS4 := Lib.hid (HS.out.below HBX.out)
      obtain ⟨_, k0, k1, k2, k3, k4⟩ := RoAt.of HR4.out
      have b0 := (show Boxed X4 gb 9 (.string b) from row_step HBB.out HBX.out).cell
      have f4 := froz_of HR4.out 4
      cases htw : (finR r b).2.2
      · by_cases hbe : b = emp
        · have HD := Lib.hid (show dpk 1 i b r = (8, r) by unfold dpk; rw [if_neg HH.out, if_pos rfl, if_pos (.inl hbe)])
          have hb3 : b.toList.isEmpty = true := by rw [isE]; simp [hbe]
          clear hbe htw
          go_wp2
          go_ret
          rw [HD.out]
          exact ⟨rfl, fun h => (by cases h), HK4.out⟩
        · have HD := Lib.hid (show dpk 1 i b r = (0, { r with ha := b }) by unfold dpk; rw [if_neg HH.out, if_pos rfl, if_neg (by rw [htw]; simp [hbe])])
          have hb3 : b.toList.isEmpty = false := by rw [isE]; simp [hbe]
          clear hbe htw
          go_wp2
          go_ret
          rw [HD.out]
          exact ⟨rfl, fun _ => ⟨ro_set HR4.out 4 _ rfl, HS4.out.keep (fun q hq => by have := (HS4.out.lt q hq).1; rw [Below.heap_setCell _ _ _ _ (by show q ≠ g; have := HG.out; omega)])⟩, HK4.out.trans (DoK.set _ (.inl rfl))⟩
      · have HD := Lib.hid (show dpk 1 i b r = (8, r) by unfold dpk; rw [if_neg HH.out, if_pos rfl, if_pos (.inr htw)])
        clear htw
        go_wp2
        go_ret
        rw [HD.out]
        exact ⟨rfl, fun h => (by cases h), HK4.out⟩
  · subst hk
    by_cases he : r.po = emp
    · have hq2 : r.po.toList.isEmpty = true := by rw [isE]; simp [he]
      have HD := Lib.hid (show dpk 2 i b r = (11, r) by
        unfold dpk; rw [if_neg HH.out, if_neg (by decide), if_neg (by decide), if_pos he])
      clear he
      go_enter Try.func42, Try.ntmps42
      go_wp2
      go_ret
      rw [HD.out]
      exact ⟨rfl, fun h => (by cases h), ⟨Below.refl _ _, fun _ _ _ _ e => e⟩⟩
    · have hq2 : r.po.toList.isEmpty = false := by rw [isE]; simp [he]
      have HD := Lib.hid (show dpk 2 i b r = (0, { r with po := emp, ha := r.po }) by
        unfold dpk; rw [if_neg HH.out, if_neg (by decide), if_neg (by decide), if_neg he])
      clear he
      go_enter Try.func42, Try.ntmps42
      go_wp2
      go_ret
      rw [HD.out]
      refine ⟨rfl, fun _ => ⟨?_, ?_⟩, ?_⟩
      · exact ro_set (r := { r with ha := r.po }) (ro_set HR.out 4 _ rfl) 3 _ rfl
      · exact HS.out.keep (fun q hq => by have := (HS.out.lt q hq).1; rw [Below.heap_setCell _ _ _ _ (by show q ≠ g; have := HG.out; omega), Below.heap_setCell _ _ _ _ (by show q ≠ g; have := HG.out; omega)])
      · exact (DoK.set _ (.inl rfl)).trans (DoK.set _ (.inl rfl))
end Go.Proofs.Ytmhaeipklifhcaa
