/-
  The law's plain and awake: the chapter's example.
-/
import Derived.Test.YtmhaeipklifhcaaRbPick
import Derived.Test.YtmhaeipklifhcaaRbHeld
import Derived.Deep.DeepCutAuto
namespace Go.Proofs.Ytmhaeipklifhcaa
open Go.RowKit
set_option linter.unusedVariables false
theorem oper_store_ro {o : Oper} {a : Act} {w : World} {K : Act → World → Prop} {Q : Exit → Act → World → Prop} (x y : Operand) (ho : o.op = .store 26 x y)
    (g : Nat) (hx : a.eval x = .pointer (some ⟨g, 0, none⟩)) (r : Rbt) (ad : Option Addr) (n cap : Nat) (hy : a.eval y = .agg (roK r ad n cap)) (r0 : Rbt) (ad0 : Option Addr) (n0 cap0 : Nat) (hg : w.heap[g]? = some (boxR r0 ad0 n0 cap0))
    (h : K (a.put o.dst undef) (w.setRow g (roK r ad n cap))) : Oper.wp Try.prog o a w K Q :=
  oper_store_agg _ x y ho g hx _ _ hy _ hg infoR rfl (by simp [Value.oneCell']) h
/-- what Pick and Put hand back can be handed on -/
theorem all_mem {r : Rbt} {s : ByteArray} : s ∈ allR r ↔ s ∈ r.l ∨ s = r.po ∨ s = r.ha := by
  show s ∈ r.l ++ [r.po, r.ha] ↔ _
  rw [List.mem_append]
  simp
theorem emp_le : emp.size ≤ maxLen := by decide
theorem rz_z : ∀ s ∈ allR rz, s.size ≤ maxLen := fun s hs => by
  rw [all_mem] at hs
  rcases hs with h | h | h
  · cases h
  · rw [h]; exact emp_le
  · rw [h]; exact emp_le
theorem getD_z {l : List ByteArray} {j : Nat} (h : ∀ s ∈ l, s.size ≤ maxLen) : (l.getD j emp).size ≤ maxLen := by
  by_cases hj : j < l.length
  · rw [List.getD_eq_getElem?_getD, List.getElem?_eq_getElem hj]; exact h _ (List.getElem_mem hj)
  · rw [List.getD_eq_getElem?_getD, List.getElem?_eq_none (by omega)]; exact emp_le
structure Sz (n : Nat) (r : Rbt) : Prop where
  z : ∀ s ∈ allR r, s.size ≤ maxLen
  n : r.l.length ≤ n
theorem sz_z (n : Nat) : Sz n rz := ⟨rz_z, Nat.zero_le _⟩
theorem Sz.of {n : Nat} {r r2 : Rbt} (h : Sz n r) (hl : r2.l = r.l ∨ ∃ j s, r2.l = r.l.set j s ∧ s.size ≤ maxLen) (hp : r2.po.size ≤ maxLen) (hh : r2.ha.size ≤ maxLen) : Sz n r2 := by
  refine ⟨fun s hs => ?_, ?_⟩
  · rw [all_mem] at hs
    rcases hs with h1 | h1 | h1
    · rcases hl with e | ⟨j, t, e, ht⟩
      · rw [e] at h1; exact h.z s (all_mem.2 (.inl h1))
      · rw [e] at h1
        rcases List.mem_or_eq_of_mem_set h1 with h2 | h2
        · exact h.z s (all_mem.2 (.inl h2))
        · rw [h2]; exact ht
    · rw [h1]; exact hp
    · rw [h1]; exact hh
  · rcases hl with e | ⟨j, t, e, _⟩
    · rw [e]; exact h.n
    · rw [e, List.length_set]; exact h.n
theorem Sz.po {n : Nat} {r : Rbt} (h : Sz n r) : r.po.size ≤ maxLen := h.z _ (all_mem.2 (.inr (.inl rfl)))
theorem Sz.ha {n : Nat} {r : Rbt} (h : Sz n r) : r.ha.size ≤ maxLen := h.z _ (all_mem.2 (.inr (.inr rfl)))
theorem Sz.gd {n : Nat} {r : Rbt} (h : Sz n r) (j : Nat) : (r.l.getD j emp).size ≤ maxLen := getD_z fun s hs => h.z s (all_mem.2 (.inl hs))
theorem sz_pick {m : Rmd} {r : Rbt} {k i : Int} {b : ByteArray} {n : Nat} (h : Sz n r) (hb : b.size ≤ maxLen) : Sz n (picR m r k i b).1 := by
  unfold picR
  split
  · exact sz_z n
  split
  · exact sz_z n
  split
  · split
    · exact sz_z n
    · exact h.of (.inl rfl) h.po hb
  split
  · split
    · exact sz_z n
    · exact h.of (.inr ⟨_, _, rfl, emp_le⟩) h.po (h.gd _)
  · split
    · exact sz_z n
    · exact h.of (.inl rfl) emp_le h.po
theorem sz_put {m : Rmd} {r : Rbt} {k i : Int} {n : Nat} (h : Sz n r) : Sz n (putR m r k i).1 := by
  unfold putR
  split
  · exact sz_z n
  split
  · exact sz_z n
  split
  · exact h.of (.inl rfl) h.po emp_le
  split
  · split
    · exact sz_z n
    · exact h.of (.inr ⟨_, _, rfl, h.ha⟩) h.po emp_le
  · split
    · exact sz_z n
    · exact h.of (.inl rfl) h.ha emp_le
theorem Sz.in_ {n0 : Nat} {w' : World} {B : Nat} {r : Rbt} {ad : Option Addr} {n cap : Nat} (h : Sz n0 r) (h0 : n0 ≤ 1000) (hn : n = r.l.length) (hs : Sq w' B (.slice ad n cap) r.l) : RoIn w' r ad n cap := by
  obtain ⟨ad1, cap1, hv, h1, h2, h3, h4, _⟩ := hs.read
  rw [← hn] at hv
  cases hv
  exact ⟨h1, hn, by have := h.n; omega, h4, h.z⟩
abbrev pmR : Rmd := ⟨4, 2, 6, 10, 2, 5, 4⟩
abbrev tA : ByteArray := ⟨#[65]⟩
set_option maxRecDepth 100000 in
set_option maxHeartbeats 1000000 in
theorem plain_any (w : World) : Calls Try.prog 40 #[] w fun e w' => e = .returned (rmV pmR) ∧ Below w.heap.size w w' := by
  go_enter Try.func40, Try.ntmps40
  go_wp2
  exact post_cell1 rfl rfl (heap_new w (boxM pmR)) Try.underlying23 rfl infoMd rfl ⟨rfl, below_box1 _ _⟩
theorem aw1 : picR pmR ⟨0, false, [emp, emp, emp, tA], emp, emp⟩ 0 3 emp = (⟨3, false, [emp, emp, emp, emp], emp, tA⟩, 11, 0) := by decide +kernel
theorem aw2 : putR pmR ⟨3, false, [emp, emp, emp, emp], emp, tA⟩ 1 1 = (⟨7, false, [emp, emp, emp, emp], emp, emp⟩, 12, 0) := by decide +kernel
theorem aw3 : vldR pmR ⟨0, false, [emp, emp, emp, tA], emp, emp⟩ = true := by decide +kernel
theorem aw4 : farR pmR = 49 := by decide +kernel
/-- a robot in a box, to be handed on -/
structure RoB (w : World) (p : Nat) (r : Rbt) (ad : Option Addr) (n cap : Nat) : Prop where
  row : w.heap[p]? = some (boxR r ad n cap)
  i : RoIn w r ad n cap
theorem RoB.next {w X : World} {p : Nat} {r : Rbt} {ad : Option Addr} {n cap : Nat} (h : RoB w p r ad n cap) (hb : Below w.heap.size w X) : RoB X p r ad n cap := ⟨row_step h.row hb, h.i.below hb⟩
/-- the result is stored in its box -/
theorem RoB.put {X : World} {p B : Nat} {r : Rbt} {ad : Option Addr} {n cap : Nat} {r0 : Rbt} {ad0 : Option Addr} {n0 cap0 : Nat} (hp : X.heap[p]? = some (boxR r0 ad0 n0 cap0)) (hi : RoIn X r ad n cap) (hs : Sq X B (.slice ad n cap) r.l) (hne : ∀ q, (Value.slice ad n cap).ownBlock = some q → q ≠ p) : RoB (X.setRow p (roK r ad n cap)) p r ad n cap := by
  refine ⟨setRow_heap _ _ _ _ _ _ hp, ?_⟩
  have h2 : Sq (X.setRow p (roK r ad n cap)) B (.slice ad n cap) r.l := hs.keep (fun q hq => setRow_other _ _ _ _ (hne q hq))
  obtain ⟨ad1, cap1, hv, h1, _⟩ := h2.read
  rw [← hi.len] at hv
  cases hv
  exact ⟨h1, hi.len, hi.le, hi.nn, hi.z⟩
theorem sx_four (w : World) (a b c d : ByteArray) (t : TypeId) : Sx (w.alloc (.cells #[.string a, .string b, .string c, .string d] t)) (some ⟨w.heap.size, 0, none⟩) [a, b, c, d] := by
  refine .inr ⟨w.heap.size, 0, rfl, by simp, fun j hj => ?_⟩
  have hj' : j = 0 ∨ j = 1 ∨ j = 2 ∨ j = 3 := by simp at hj; omega
  rw [World.cell?_alloc_mark]
  rcases hj' with rfl | rfl | rfl | rfl <;> rfl
attribute [local irreducible] inn mdlR rail dst vldR trvR finR locR picR putR perR farR
set_option maxRecDepth 100000 in
set_option maxHeartbeats 4000000 in
theorem awake_any (w : World) : Calls Try.prog 22 #[] w fun e w' => e = .returned (.bool true) ∧ Below w.heap.size w w' := by
  obtain ⟨r0, hr0⟩ : ∃ r0 : Rbt, r0 = ⟨0, false, [emp, emp, emp, tA], emp, emp⟩ := ⟨_, rfl⟩
  obtain ⟨a1, ha1⟩ : ∃ a1 : Rbt, a1 = ⟨3, false, [emp, emp, emp, emp], emp, tA⟩ := ⟨_, rfl⟩
  obtain ⟨b1, hb1⟩ : ∃ b1 : Rbt, b1 = ⟨7, false, [emp, emp, emp, emp], emp, emp⟩ := ⟨_, rfl⟩
  have E1 := Lib.hid (show picR pmR r0 0 3 emp = (a1, 11, 0) by rw [hr0, ha1]; exact aw1)
  have E2 := Lib.hid (show putR pmR a1 1 1 = (b1, 12, 0) by rw [ha1, hb1]; exact aw2)
  have E3 := Lib.hid (show vldR pmR r0 = true by rw [hr0]; exact aw3)
  have EA := Lib.hid (show (a1.ha.toList == [65]) = true by rw [ha1]; show (tA.toList == [65]) = true; rw [ByteArray.toList_eq]; rfl)
  have EB := Lib.hid (show b1.ha.toList.isEmpty = true by rw [hb1, isE]; rfl)
  have EP := Lib.hid (show (b1.p == 7) = true by rw [hb1]; rfl)
  have hz : ∀ s ∈ [emp, emp, emp, tA, emp, emp], s.size ≤ maxLen := fun s hs => by
    simp only [List.mem_cons, List.not_mem_nil, or_false] at hs
    rcases hs with h | h | h | h | h | h <;> rw [h] <;> decide
  have S0 := Lib.hid (show Sz 4 r0 by rw [hr0]; exact ⟨hz, Nat.le_refl _⟩)
  have S1 := Lib.hid (show Sz 4 a1 from by have h := sz_pick (m := pmR) (k := 0) (i := 3) (b := emp) S0.out emp_le; rw [E1.out] at h; exact h)
  have S2 := Lib.hid (show Sz 4 b1 from by have h := sz_put (m := pmR) (k := 1) (i := 1) S1.out; rw [E2.out] at h; exact h)
  go_enter Try.func22, Try.ntmps22
  go_upto_region 2 with fail
  have HR0 := Lib.hid (show Below w.heap.size w ((w.alloc (.cells #[.string emp, .string emp, .string emp, .string tA] 9)).alloc (boxR r0 (some ⟨w.heap.size, 0, none⟩) 4 4)) ∧ RoB ((w.alloc (.cells #[.string emp, .string emp, .string emp, .string tA] 9)).alloc (boxR r0 (some ⟨w.heap.size, 0, none⟩) 4 4)) (w.heap.size + 1) r0 (some ⟨w.heap.size, 0, none⟩) 4 4 from
    ⟨below_box2 _ _ _, heap_two _ _ _, (by have h := (sx_four w emp emp emp tA 9).below (below_box1 _ (boxR r0 (some ⟨w.heap.size, 0, none⟩) 4 4)) rfl; rw [hr0] at h ⊢; exact h), by rw [hr0]; rfl, by omega, fun h => (by cases h), S0.out.z⟩)
  rw [hr0] at HR0
  generalize World.alloc _ _ = X0 at *
  rw [← hr0] at HR0
  clear hr0 ha1 hb1 hz
  obtain ⟨HB0, HR0⟩ : Hid (Below w.heap.size w X0) ∧ Hid (RoB X0 (w.heap.size + 1) r0 (some ⟨w.heap.size, 0, none⟩) 4 4) := ⟨Lib.hid HR0.out.1, Lib.hid HR0.out.2⟩
  go_cut [2, 3, 4] (fun s2 s3 s4 wx => ∃ p ad n cap, s2 = .pointer (some ⟨p, 0, none⟩) ∧ s3 = .int .i64 11 ∧ s4 = .int .i64 0 ∧ Hid (Below X0.heap.size X0 wx) ∧ Hid (RoB wx p a1 ad n cap))
  case first =>
    have HBX := Lib.hid (Below.refl X0.heap.size X0).drew
    refine wp_region_noPanic ?_
    refine wp_region_held_drew (S := fun X => Below X0.heap.size X0 X) (by kernel_rfl) (HBX.out) (fun hS0 => ?_)
    refine held_take (i := 1) (v := ?_) rfl (by kernel_rfl) (by kernel_rfl) (by kernel_rfl) (fun _ _ _ h => h) (by rfl) ?_ (by assumption) ?_
    rotate_left
    · intro X hSX
      try dsimp only at hSX
      obtain ⟨_, k0, k1, k2, k3, k4⟩ := RoAt.of (HR0.out.next hSX).row
      go_simp <;> with_reducible rfl
    simp only [Act.put, List.setIfInBounds_toArray, List.set_cons_zero, List.set_cons_succ]
    refine held_take (i := 2) (v := ?_) rfl (by kernel_rfl) (by kernel_rfl) (by kernel_rfl) (fun _ _ _ h => h) (by rfl) ?_ (by assumption) ?_
    rotate_left
    · intro X hSX
      try dsimp only at hSX
      obtain ⟨_, k0, k1, k2, k3, k4⟩ := RoAt.of (HR0.out.next hSX).row
      go_simp <;> with_reducible rfl
    simp only [Act.put, List.setIfInBounds_toArray, List.set_cons_zero, List.set_cons_succ]
    refine held_two (i := 0) (j := 8) rfl rfl (by kernel_rfl) (by rfl) (by rfl) (fun K' hK' => ?_) (fun K' hK' => ?_)
    · go_simp
      refine (plain_any _).mono ?_
      rintro e w2 ⟨rfl, hb2⟩
      replace HBX := Lib.hid (HBX.out.trans (hb2.mono HBX.out.size))
      clear hb2
      refine held_go hK' (HBX.out) ?_
      try simp only [Act.put, List.setIfInBounds_toArray, List.set_cons_zero, List.set_cons_succ]
      refine held_two (i := 3) (j := 8) rfl rfl (by kernel_rfl) (by rfl) (by rfl) (fun K' hK' => ?_) (fun K' hK' => ?_)
      · go_simp
        refine (pick_any pmR r0 (some ⟨w.heap.size, 0, none⟩) 4 4 0 3 emp _ (HR0.out.next HBX.out).i).mono ?_
        rw [E1.out]
        rintro e w3 ⟨ad1, n1, cap1, rfl, hn1, hs1, hb3⟩
        have HN1 := Lib.hid hn1
        have HS1 := Lib.hid hs1
        have HQN := Lib.hid (show ∀ q, (Value.slice ad1 n1 cap1).ownBlock = some q → q < w3.heap.size from fun q hq => (hs1.lt q hq).2)
        replace HBX := Lib.hid (HBX.out.trans (hb3.mono HBX.out.size))
        clear hn1 hs1 hb3
        refine held_go hK' (HBX.out) ?_
        try dsimp only
        refine held_take (i := 4) (v := ?_) rfl (by kernel_rfl) (by kernel_rfl) (by kernel_rfl) (fun _ _ _ h => h) (by rfl) ?_ (by assumption) ?_
        rotate_left
        · intro X hSX
          try dsimp only at hSX
          go_simp <;> with_reducible rfl
        simp only [Act.put, List.setIfInBounds_toArray, List.set_cons_zero, List.set_cons_succ]
        refine held_take (i := 5) (v := ?_) rfl (by kernel_rfl) (by kernel_rfl) (by kernel_rfl) (fun _ _ _ h => h) (by rfl) ?_ (by assumption) ?_
        rotate_left
        · intro X hSX
          try dsimp only at hSX
          go_simp <;> with_reducible rfl
        simp only [Act.put, List.setIfInBounds_toArray, List.set_cons_zero, List.set_cons_succ]
        refine held_take (i := 6) (v := ?_) rfl (by kernel_rfl) (by kernel_rfl) (by kernel_rfl) (fun _ _ _ h => h) (by rfl) ?_ (by assumption) ?_
        rotate_left
        · intro X hSX
          try dsimp only at hSX
          go_simp <;> with_reducible rfl
        simp only [Act.put, List.setIfInBounds_toArray, List.set_cons_zero, List.set_cons_succ]
        refine held_take (i := 7) (v := ?_) rfl (by kernel_rfl) (by kernel_rfl) (by kernel_rfl) (fun _ _ _ h => h) (by rfl) ?_ (by assumption) ?_
        rotate_left
        · intro X hSX
          try dsimp only at hSX
          go_simp <;> with_reducible rfl
        simp only [Act.put, List.setIfInBounds_toArray, List.set_cons_zero, List.set_cons_succ]
        refine held_call (i := 8) rfl (by kernel_rfl) (by rfl) (fun K' hK' => ?_)
        go_simp
        have HQ := Lib.hid (heap_new w3 (boxR rz none 0 0))
        have hbq := below_box1 w3 (boxR rz none 0 0)
        have HQB := Lib.hid (show X0.heap.size ≤ w3.heap.size from HBX.out.size)
        replace HS1 := Lib.hid (HS1.out.below hbq)
        replace HBX := Lib.hid (HBX.out.trans (hbq.mono HBX.out.size))
        clear hbq
        obtain ⟨p, hp⟩ : ∃ p, p = w3.heap.size := ⟨_, rfl⟩
        rw [← hp] at HQ HQB HQN ⊢
        clear hp
        replace HQN := Lib.hid (show ∀ q, (Value.slice ad1 n1 cap1).ownBlock = some q → q ≠ p from fun q hq => by have := HQN.out q hq; omega)
        generalize World.alloc _ _ = X3 at *
        refine held_go hK' (HBX.out) ?_
        try simp only [Act.put, List.setIfInBounds_toArray, List.set_cons_zero, List.set_cons_succ]
        refine held_call (i := 9) rfl (by kernel_rfl) (by rfl) (fun K' hK' => ?_)
        refine oper_store_ro (.tmp 2) (.tmp 15) rfl p rfl a1 ad1 n1 cap1 rfl rz none 0 0 HQ.out ?_
        have HRB := Lib.hid (RoB.put HQ.out (S1.out.in_ (by decide) HN1.out HS1.out) HS1.out HQN.out)
        replace HBX := Lib.hid (below_set HBX.out HQB.out (roK a1 ad1 n1 cap1))
        generalize World.setRow X3 _ _ = X4 at *
        refine held_go hK' (HBX.out) ?_
        try simp only [Act.put]
        refine held_take (i := 10) (v := ?_) rfl (by kernel_rfl) (by kernel_rfl) (by kernel_rfl) (fun _ _ _ h => h) (by rfl) ?_ (by assumption) ?_
        rotate_left
        · intro X hSX
          try dsimp only at hSX
          go_simp <;> with_reducible rfl
        simp only [Act.put, List.setIfInBounds_toArray, List.set_cons_zero, List.set_cons_succ]
        refine held_take (i := 11) (v := ?_) rfl (by kernel_rfl) (by kernel_rfl) (by kernel_rfl) (fun _ _ _ h => h) (by rfl) ?_ (by assumption) ?_
        rotate_left
        · intro X hSX
          try dsimp only at hSX
          go_simp <;> with_reducible rfl
        simp only [Act.put, List.setIfInBounds_toArray, List.set_cons_zero, List.set_cons_succ]
        refine wpAnyH_done (by kernel_rfl) ?_ _
        refine NoPanic.normal ?_
        go_wp2_with fail
        go_meet
        exact ⟨p, ad1, n1, cap1, rfl, rfl, rfl, HBX, HRB⟩
      · go_simp
        have HQ := Lib.hid (heap_new w2 (boxR rz none 0 0))
        have hbq := below_box1 w2 (boxR rz none 0 0)
        have HQB := Lib.hid (show X0.heap.size ≤ w2.heap.size from HBX.out.size)
        have HQL := Lib.hid (show w2.heap.size < (w2.alloc (boxR rz none 0 0)).heap.size by rw [World.size_alloc]; omega)
        replace HBX := Lib.hid (HBX.out.trans (hbq.mono HBX.out.size))
        clear hbq
        obtain ⟨p, hp⟩ : ∃ p, p = w2.heap.size := ⟨_, rfl⟩
        rw [← hp] at HQ HQB HQL ⊢
        clear hp
        generalize World.alloc _ _ = X3 at *
        refine held_go hK' (HBX.out) ?_
        try simp only [Act.put, List.setIfInBounds_toArray, List.set_cons_zero, List.set_cons_succ]
        refine held_call (i := 3) rfl (by kernel_rfl) (by rfl) (fun K' hK' => ?_)
        go_simp
        refine (pick_any pmR r0 (some ⟨w.heap.size, 0, none⟩) 4 4 0 3 emp _ (HR0.out.next HBX.out).i).mono ?_
        rw [E1.out]
        rintro e w3 ⟨ad1, n1, cap1, rfl, hn1, hs1, hb3⟩
        have HN1 := Lib.hid hn1
        have HS1 := Lib.hid hs1
        have HQN := Lib.hid (show ∀ q, (Value.slice ad1 n1 cap1).ownBlock = some q → q ≠ p from fun q hq => by have := (hs1.lt q hq).1; have := HQL.out; omega)
        replace HQ := Lib.hid (row_step HQ.out hb3)
        replace HBX := Lib.hid (HBX.out.trans (hb3.mono HBX.out.size))
        clear hn1 hs1 hb3
        refine held_go hK' (HBX.out) ?_
        try dsimp only
        refine held_take (i := 4) (v := ?_) rfl (by kernel_rfl) (by kernel_rfl) (by kernel_rfl) (fun _ _ _ h => h) (by rfl) ?_ (by assumption) ?_
        rotate_left
        · intro X hSX
          try dsimp only at hSX
          go_simp <;> with_reducible rfl
        simp only [Act.put, List.setIfInBounds_toArray, List.set_cons_zero, List.set_cons_succ]
        refine held_take (i := 5) (v := ?_) rfl (by kernel_rfl) (by kernel_rfl) (by kernel_rfl) (fun _ _ _ h => h) (by rfl) ?_ (by assumption) ?_
        rotate_left
        · intro X hSX
          try dsimp only at hSX
          go_simp <;> with_reducible rfl
        simp only [Act.put, List.setIfInBounds_toArray, List.set_cons_zero, List.set_cons_succ]
        refine held_take (i := 6) (v := ?_) rfl (by kernel_rfl) (by kernel_rfl) (by kernel_rfl) (fun _ _ _ h => h) (by rfl) ?_ (by assumption) ?_
        rotate_left
        · intro X hSX
          try dsimp only at hSX
          go_simp <;> with_reducible rfl
        simp only [Act.put, List.setIfInBounds_toArray, List.set_cons_zero, List.set_cons_succ]
        refine held_take (i := 7) (v := ?_) rfl (by kernel_rfl) (by kernel_rfl) (by kernel_rfl) (fun _ _ _ h => h) (by rfl) ?_ (by assumption) ?_
        rotate_left
        · intro X hSX
          try dsimp only at hSX
          go_simp <;> with_reducible rfl
        simp only [Act.put, List.setIfInBounds_toArray, List.set_cons_zero, List.set_cons_succ]
        refine held_call (i := 9) rfl (by kernel_rfl) (by rfl) (fun K' hK' => ?_)
        refine oper_store_ro (.tmp 2) (.tmp 15) rfl p rfl a1 ad1 n1 cap1 rfl rz none 0 0 HQ.out ?_
        have HRB := Lib.hid (RoB.put HQ.out (S1.out.in_ (by decide) HN1.out HS1.out) HS1.out HQN.out)
        replace HBX := Lib.hid (below_set HBX.out HQB.out (roK a1 ad1 n1 cap1))
        generalize World.setRow w3 _ _ = X4 at *
        refine held_go hK' (HBX.out) ?_
        try simp only [Act.put]
        refine held_take (i := 10) (v := ?_) rfl (by kernel_rfl) (by kernel_rfl) (by kernel_rfl) (fun _ _ _ h => h) (by rfl) ?_ (by assumption) ?_
        rotate_left
        · intro X hSX
          try dsimp only at hSX
          go_simp <;> with_reducible rfl
        simp only [Act.put, List.setIfInBounds_toArray, List.set_cons_zero, List.set_cons_succ]
        refine held_take (i := 11) (v := ?_) rfl (by kernel_rfl) (by kernel_rfl) (by kernel_rfl) (fun _ _ _ h => h) (by rfl) ?_ (by assumption) ?_
        rotate_left
        · intro X hSX
          try dsimp only at hSX
          go_simp <;> with_reducible rfl
        simp only [Act.put, List.setIfInBounds_toArray, List.set_cons_zero, List.set_cons_succ]
        refine wpAnyH_done (by kernel_rfl) ?_ _
        refine NoPanic.normal ?_
        go_wp2_with fail
        go_meet
        exact ⟨p, ad1, n1, cap1, rfl, rfl, rfl, HBX, HRB⟩
    · go_simp
      have HQ := Lib.hid (show ((X0.alloc (boxR rz none 0 0)).drew).heap[X0.heap.size]? = some (boxR rz none 0 0) from heap_new X0 (boxR rz none 0 0))
      have HQL := Lib.hid (show X0.heap.size < ((X0.alloc (boxR rz none 0 0)).drew).heap.size by show X0.heap.size < (X0.alloc (boxR rz none 0 0)).heap.size; rw [World.size_alloc]; omega)
      replace HBX := Lib.hid ((below_box1 X0 (boxR rz none 0 0)).drew)
      obtain ⟨p, hp⟩ : ∃ p, p = X0.heap.size := ⟨_, rfl⟩
      have HQB := Lib.hid (show X0.heap.size ≤ p by rw [hp]; exact Nat.le_refl _)
      rw [← hp] at HQ HQL ⊢
      clear hp
      generalize World.drew _ = X3 at *
      refine held_go hK' (HBX.out) ?_
      try simp only [Act.put, List.setIfInBounds_toArray, List.set_cons_zero, List.set_cons_succ]
      refine held_call (i := 0) rfl (by kernel_rfl) (by rfl) (fun K' hK' => ?_)
      go_simp
      refine (plain_any _).mono ?_
      rintro e w2 ⟨rfl, hb2⟩
      replace HQ := Lib.hid (row_step HQ.out hb2)
      replace HQL := Lib.hid (Nat.lt_of_lt_of_le HQL.out hb2.size)
      replace HBX := Lib.hid (HBX.out.trans (hb2.mono HBX.out.size))
      clear hb2
      refine held_go hK' (HBX.out) ?_
      try simp only [Act.put, List.setIfInBounds_toArray, List.set_cons_zero, List.set_cons_succ]
      refine held_call (i := 3) rfl (by kernel_rfl) (by rfl) (fun K' hK' => ?_)
      go_simp
      refine (pick_any pmR r0 (some ⟨w.heap.size, 0, none⟩) 4 4 0 3 emp _ (HR0.out.next HBX.out).i).mono ?_
      rw [E1.out]
      rintro e w3 ⟨ad1, n1, cap1, rfl, hn1, hs1, hb3⟩
      have HN1 := Lib.hid hn1
      have HS1 := Lib.hid hs1
      have HQN := Lib.hid (show ∀ q, (Value.slice ad1 n1 cap1).ownBlock = some q → q ≠ p from fun q hq => by have := (hs1.lt q hq).1; have := HQL.out; omega)
      replace HQ := Lib.hid (row_step HQ.out hb3)
      replace HBX := Lib.hid (HBX.out.trans (hb3.mono HBX.out.size))
      clear hn1 hs1 hb3
      refine held_go hK' (HBX.out) ?_
      try dsimp only
      refine held_take (i := 4) (v := ?_) rfl (by kernel_rfl) (by kernel_rfl) (by kernel_rfl) (fun _ _ _ h => h) (by rfl) ?_ (by assumption) ?_
      rotate_left
      · intro X hSX
        try dsimp only at hSX
        go_simp <;> with_reducible rfl
      simp only [Act.put, List.setIfInBounds_toArray, List.set_cons_zero, List.set_cons_succ]
      refine held_take (i := 5) (v := ?_) rfl (by kernel_rfl) (by kernel_rfl) (by kernel_rfl) (fun _ _ _ h => h) (by rfl) ?_ (by assumption) ?_
      rotate_left
      · intro X hSX
        try dsimp only at hSX
        go_simp <;> with_reducible rfl
      simp only [Act.put, List.setIfInBounds_toArray, List.set_cons_zero, List.set_cons_succ]
      refine held_take (i := 6) (v := ?_) rfl (by kernel_rfl) (by kernel_rfl) (by kernel_rfl) (fun _ _ _ h => h) (by rfl) ?_ (by assumption) ?_
      rotate_left
      · intro X hSX
        try dsimp only at hSX
        go_simp <;> with_reducible rfl
      simp only [Act.put, List.setIfInBounds_toArray, List.set_cons_zero, List.set_cons_succ]
      refine held_take (i := 7) (v := ?_) rfl (by kernel_rfl) (by kernel_rfl) (by kernel_rfl) (fun _ _ _ h => h) (by rfl) ?_ (by assumption) ?_
      rotate_left
      · intro X hSX
        try dsimp only at hSX
        go_simp <;> with_reducible rfl
      simp only [Act.put, List.setIfInBounds_toArray, List.set_cons_zero, List.set_cons_succ]
      refine held_call (i := 9) rfl (by kernel_rfl) (by rfl) (fun K' hK' => ?_)
      refine oper_store_ro (.tmp 2) (.tmp 15) rfl p rfl a1 ad1 n1 cap1 rfl rz none 0 0 HQ.out ?_
      have HRB := Lib.hid (RoB.put HQ.out (S1.out.in_ (by decide) HN1.out HS1.out) HS1.out HQN.out)
      replace HBX := Lib.hid (below_set HBX.out HQB.out (roK a1 ad1 n1 cap1))
      generalize World.setRow w3 _ _ = X4 at *
      refine held_go hK' (HBX.out) ?_
      try simp only [Act.put]
      refine held_take (i := 10) (v := ?_) rfl (by kernel_rfl) (by kernel_rfl) (by kernel_rfl) (fun _ _ _ h => h) (by rfl) ?_ (by assumption) ?_
      rotate_left
      · intro X hSX
        try dsimp only at hSX
        go_simp <;> with_reducible rfl
      simp only [Act.put, List.setIfInBounds_toArray, List.set_cons_zero, List.set_cons_succ]
      refine held_take (i := 11) (v := ?_) rfl (by kernel_rfl) (by kernel_rfl) (by kernel_rfl) (fun _ _ _ h => h) (by rfl) ?_ (by assumption) ?_
      rotate_left
      · intro X hSX
        try dsimp only at hSX
        go_simp <;> with_reducible rfl
      simp only [Act.put, List.setIfInBounds_toArray, List.set_cons_zero, List.set_cons_succ]
      refine wpAnyH_done (by kernel_rfl) ?_ _
      refine NoPanic.normal ?_
      go_wp2_with fail
      go_meet
      exact ⟨p, ad1, n1, cap1, rfl, rfl, rfl, HBX, HRB⟩
  case rest =>
  obtain ⟨p1, ad1, n1, cap1, rfl, rfl, rfl, HB1, HR1⟩ := hcut
  obtain ⟨X1, hX1⟩ : ∃ X1, X1 = wc := ⟨_, rfl⟩
  subst hX1
  have HR01 := Lib.hid (HR0.out.next HB1.out)
  replace HB1 := Lib.hid (HB0.out.trans (HB1.out.mono HB0.out.size))
  go_upto_region 3 with fail
  go_cut [5, 6, 7] (fun s2 s3 s4 wx => ∃ p ad n cap, s2 = .pointer (some ⟨p, 0, none⟩) ∧ s3 = .int .i64 12 ∧ s4 = .int .i64 0 ∧ Hid (Below X1.heap.size X1 wx) ∧ Hid (RoB wx p b1 ad n cap))
  case first =>
    have HBX := Lib.hid (Below.refl X1.heap.size X1).drew
    refine wp_region_noPanic ?_
    refine wp_region_held_drew (S := fun X => Below X1.heap.size X1 X) (by kernel_rfl) (HBX.out) (fun hS0 => ?_)
    refine held_take (i := 1) (v := ?_) rfl (by kernel_rfl) (by kernel_rfl) (by kernel_rfl) (fun _ _ _ h => h) (by rfl) ?_ (by assumption) ?_
    rotate_left
    · intro X hSX
      try dsimp only at hSX
      obtain ⟨_, k0, k1, k2, k3, k4⟩ := RoAt.of (HR1.out.next hSX).row
      go_simp <;> with_reducible rfl
    simp only [Act.put, List.setIfInBounds_toArray, List.set_cons_zero, List.set_cons_succ]
    refine held_take (i := 2) (v := ?_) rfl (by kernel_rfl) (by kernel_rfl) (by kernel_rfl) (fun _ _ _ h => h) (by rfl) ?_ (by assumption) ?_
    rotate_left
    · intro X hSX
      try dsimp only at hSX
      obtain ⟨_, k0, k1, k2, k3, k4⟩ := RoAt.of (HR1.out.next hSX).row
      go_simp <;> with_reducible rfl
    simp only [Act.put, List.setIfInBounds_toArray, List.set_cons_zero, List.set_cons_succ]
    refine held_two (i := 0) (j := 8) rfl rfl (by kernel_rfl) (by rfl) (by rfl) (fun K' hK' => ?_) (fun K' hK' => ?_)
    · go_simp
      refine (plain_any _).mono ?_
      rintro e w2 ⟨rfl, hb2⟩
      replace HBX := Lib.hid (HBX.out.trans (hb2.mono HBX.out.size))
      clear hb2
      refine held_go hK' (HBX.out) ?_
      try simp only [Act.put, List.setIfInBounds_toArray, List.set_cons_zero, List.set_cons_succ]
      refine held_two (i := 3) (j := 8) rfl rfl (by kernel_rfl) (by rfl) (by rfl) (fun K' hK' => ?_) (fun K' hK' => ?_)
      · go_simp
        refine (put_any pmR a1 ad1 n1 cap1 1 1 _ (HR1.out.next HBX.out).i).mono ?_
        rw [E2.out]
        rintro e w3 ⟨ad1, n1, cap1, rfl, hn1, hs1, hb3⟩
        have HN1 := Lib.hid hn1
        have HS1 := Lib.hid hs1
        have HQN := Lib.hid (show ∀ q, (Value.slice ad1 n1 cap1).ownBlock = some q → q < w3.heap.size from fun q hq => (hs1.lt q hq).2)
        replace HBX := Lib.hid (HBX.out.trans (hb3.mono HBX.out.size))
        clear hn1 hs1 hb3
        refine held_go hK' (HBX.out) ?_
        try dsimp only
        refine held_take (i := 4) (v := ?_) rfl (by kernel_rfl) (by kernel_rfl) (by kernel_rfl) (fun _ _ _ h => h) (by rfl) ?_ (by assumption) ?_
        rotate_left
        · intro X hSX
          try dsimp only at hSX
          go_simp <;> with_reducible rfl
        simp only [Act.put, List.setIfInBounds_toArray, List.set_cons_zero, List.set_cons_succ]
        refine held_take (i := 5) (v := ?_) rfl (by kernel_rfl) (by kernel_rfl) (by kernel_rfl) (fun _ _ _ h => h) (by rfl) ?_ (by assumption) ?_
        rotate_left
        · intro X hSX
          try dsimp only at hSX
          go_simp <;> with_reducible rfl
        simp only [Act.put, List.setIfInBounds_toArray, List.set_cons_zero, List.set_cons_succ]
        refine held_take (i := 6) (v := ?_) rfl (by kernel_rfl) (by kernel_rfl) (by kernel_rfl) (fun _ _ _ h => h) (by rfl) ?_ (by assumption) ?_
        rotate_left
        · intro X hSX
          try dsimp only at hSX
          go_simp <;> with_reducible rfl
        simp only [Act.put, List.setIfInBounds_toArray, List.set_cons_zero, List.set_cons_succ]
        refine held_take (i := 7) (v := ?_) rfl (by kernel_rfl) (by kernel_rfl) (by kernel_rfl) (fun _ _ _ h => h) (by rfl) ?_ (by assumption) ?_
        rotate_left
        · intro X hSX
          try dsimp only at hSX
          go_simp <;> with_reducible rfl
        simp only [Act.put, List.setIfInBounds_toArray, List.set_cons_zero, List.set_cons_succ]
        refine held_call (i := 8) rfl (by kernel_rfl) (by rfl) (fun K' hK' => ?_)
        go_simp
        have HQ := Lib.hid (heap_new w3 (boxR rz none 0 0))
        have hbq := below_box1 w3 (boxR rz none 0 0)
        have HQB := Lib.hid (show X1.heap.size ≤ w3.heap.size from HBX.out.size)
        replace HS1 := Lib.hid (HS1.out.below hbq)
        replace HBX := Lib.hid (HBX.out.trans (hbq.mono HBX.out.size))
        clear hbq
        obtain ⟨p, hp⟩ : ∃ p, p = w3.heap.size := ⟨_, rfl⟩
        rw [← hp] at HQ HQB HQN ⊢
        clear hp
        replace HQN := Lib.hid (show ∀ q, (Value.slice ad1 n1 cap1).ownBlock = some q → q ≠ p from fun q hq => by have := HQN.out q hq; omega)
        generalize World.alloc _ _ = X3 at *
        refine held_go hK' (HBX.out) ?_
        try simp only [Act.put, List.setIfInBounds_toArray, List.set_cons_zero, List.set_cons_succ]
        refine held_call (i := 9) rfl (by kernel_rfl) (by rfl) (fun K' hK' => ?_)
        refine oper_store_ro (.tmp 5) (.tmp 23) rfl p rfl b1 ad1 n1 cap1 rfl rz none 0 0 HQ.out ?_
        have HRB := Lib.hid (RoB.put HQ.out (S2.out.in_ (by decide) HN1.out HS1.out) HS1.out HQN.out)
        replace HBX := Lib.hid (below_set HBX.out HQB.out (roK b1 ad1 n1 cap1))
        generalize World.setRow X3 _ _ = X4 at *
        refine held_go hK' (HBX.out) ?_
        try simp only [Act.put]
        refine held_take (i := 10) (v := ?_) rfl (by kernel_rfl) (by kernel_rfl) (by kernel_rfl) (fun _ _ _ h => h) (by rfl) ?_ (by assumption) ?_
        rotate_left
        · intro X hSX
          try dsimp only at hSX
          go_simp <;> with_reducible rfl
        simp only [Act.put, List.setIfInBounds_toArray, List.set_cons_zero, List.set_cons_succ]
        refine held_take (i := 11) (v := ?_) rfl (by kernel_rfl) (by kernel_rfl) (by kernel_rfl) (fun _ _ _ h => h) (by rfl) ?_ (by assumption) ?_
        rotate_left
        · intro X hSX
          try dsimp only at hSX
          go_simp <;> with_reducible rfl
        simp only [Act.put, List.setIfInBounds_toArray, List.set_cons_zero, List.set_cons_succ]
        refine wpAnyH_done (by kernel_rfl) ?_ _
        refine NoPanic.normal ?_
        go_wp2_with fail
        go_meet
        exact ⟨p, ad1, n1, cap1, rfl, rfl, rfl, HBX, HRB⟩
      · go_simp
        have HQ := Lib.hid (heap_new w2 (boxR rz none 0 0))
        have hbq := below_box1 w2 (boxR rz none 0 0)
        have HQB := Lib.hid (show X1.heap.size ≤ w2.heap.size from HBX.out.size)
        have HQL := Lib.hid (show w2.heap.size < (w2.alloc (boxR rz none 0 0)).heap.size by rw [World.size_alloc]; omega)
        replace HBX := Lib.hid (HBX.out.trans (hbq.mono HBX.out.size))
        clear hbq
        obtain ⟨p, hp⟩ : ∃ p, p = w2.heap.size := ⟨_, rfl⟩
        rw [← hp] at HQ HQB HQL ⊢
        clear hp
        generalize World.alloc _ _ = X3 at *
        refine held_go hK' (HBX.out) ?_
        try simp only [Act.put, List.setIfInBounds_toArray, List.set_cons_zero, List.set_cons_succ]
        refine held_call (i := 3) rfl (by kernel_rfl) (by rfl) (fun K' hK' => ?_)
        go_simp
        refine (put_any pmR a1 ad1 n1 cap1 1 1 _ (HR1.out.next HBX.out).i).mono ?_
        rw [E2.out]
        rintro e w3 ⟨ad1, n1, cap1, rfl, hn1, hs1, hb3⟩
        have HN1 := Lib.hid hn1
        have HS1 := Lib.hid hs1
        have HQN := Lib.hid (show ∀ q, (Value.slice ad1 n1 cap1).ownBlock = some q → q ≠ p from fun q hq => by have := (hs1.lt q hq).1; have := HQL.out; omega)
        replace HQ := Lib.hid (row_step HQ.out hb3)
        replace HBX := Lib.hid (HBX.out.trans (hb3.mono HBX.out.size))
        clear hn1 hs1 hb3
        refine held_go hK' (HBX.out) ?_
        try dsimp only
        refine held_take (i := 4) (v := ?_) rfl (by kernel_rfl) (by kernel_rfl) (by kernel_rfl) (fun _ _ _ h => h) (by rfl) ?_ (by assumption) ?_
        rotate_left
        · intro X hSX
          try dsimp only at hSX
          go_simp <;> with_reducible rfl
        simp only [Act.put, List.setIfInBounds_toArray, List.set_cons_zero, List.set_cons_succ]
        refine held_take (i := 5) (v := ?_) rfl (by kernel_rfl) (by kernel_rfl) (by kernel_rfl) (fun _ _ _ h => h) (by rfl) ?_ (by assumption) ?_
        rotate_left
        · intro X hSX
          try dsimp only at hSX
          go_simp <;> with_reducible rfl
        simp only [Act.put, List.setIfInBounds_toArray, List.set_cons_zero, List.set_cons_succ]
        refine held_take (i := 6) (v := ?_) rfl (by kernel_rfl) (by kernel_rfl) (by kernel_rfl) (fun _ _ _ h => h) (by rfl) ?_ (by assumption) ?_
        rotate_left
        · intro X hSX
          try dsimp only at hSX
          go_simp <;> with_reducible rfl
        simp only [Act.put, List.setIfInBounds_toArray, List.set_cons_zero, List.set_cons_succ]
        refine held_take (i := 7) (v := ?_) rfl (by kernel_rfl) (by kernel_rfl) (by kernel_rfl) (fun _ _ _ h => h) (by rfl) ?_ (by assumption) ?_
        rotate_left
        · intro X hSX
          try dsimp only at hSX
          go_simp <;> with_reducible rfl
        simp only [Act.put, List.setIfInBounds_toArray, List.set_cons_zero, List.set_cons_succ]
        refine held_call (i := 9) rfl (by kernel_rfl) (by rfl) (fun K' hK' => ?_)
        refine oper_store_ro (.tmp 5) (.tmp 23) rfl p rfl b1 ad1 n1 cap1 rfl rz none 0 0 HQ.out ?_
        have HRB := Lib.hid (RoB.put HQ.out (S2.out.in_ (by decide) HN1.out HS1.out) HS1.out HQN.out)
        replace HBX := Lib.hid (below_set HBX.out HQB.out (roK b1 ad1 n1 cap1))
        generalize World.setRow w3 _ _ = X4 at *
        refine held_go hK' (HBX.out) ?_
        try simp only [Act.put]
        refine held_take (i := 10) (v := ?_) rfl (by kernel_rfl) (by kernel_rfl) (by kernel_rfl) (fun _ _ _ h => h) (by rfl) ?_ (by assumption) ?_
        rotate_left
        · intro X hSX
          try dsimp only at hSX
          go_simp <;> with_reducible rfl
        simp only [Act.put, List.setIfInBounds_toArray, List.set_cons_zero, List.set_cons_succ]
        refine held_take (i := 11) (v := ?_) rfl (by kernel_rfl) (by kernel_rfl) (by kernel_rfl) (fun _ _ _ h => h) (by rfl) ?_ (by assumption) ?_
        rotate_left
        · intro X hSX
          try dsimp only at hSX
          go_simp <;> with_reducible rfl
        simp only [Act.put, List.setIfInBounds_toArray, List.set_cons_zero, List.set_cons_succ]
        refine wpAnyH_done (by kernel_rfl) ?_ _
        refine NoPanic.normal ?_
        go_wp2_with fail
        go_meet
        exact ⟨p, ad1, n1, cap1, rfl, rfl, rfl, HBX, HRB⟩
    · go_simp
      have HQ := Lib.hid (show ((X1.alloc (boxR rz none 0 0)).drew).heap[X1.heap.size]? = some (boxR rz none 0 0) from heap_new X1 (boxR rz none 0 0))
      have HQL := Lib.hid (show X1.heap.size < ((X1.alloc (boxR rz none 0 0)).drew).heap.size by show X1.heap.size < (X1.alloc (boxR rz none 0 0)).heap.size; rw [World.size_alloc]; omega)
      replace HBX := Lib.hid ((below_box1 X1 (boxR rz none 0 0)).drew)
      obtain ⟨p, hp⟩ : ∃ p, p = X1.heap.size := ⟨_, rfl⟩
      have HQB := Lib.hid (show X1.heap.size ≤ p by rw [hp]; exact Nat.le_refl _)
      rw [← hp] at HQ HQL ⊢
      clear hp
      generalize World.drew _ = X3 at *
      refine held_go hK' (HBX.out) ?_
      try simp only [Act.put, List.setIfInBounds_toArray, List.set_cons_zero, List.set_cons_succ]
      refine held_call (i := 0) rfl (by kernel_rfl) (by rfl) (fun K' hK' => ?_)
      go_simp
      refine (plain_any _).mono ?_
      rintro e w2 ⟨rfl, hb2⟩
      replace HQ := Lib.hid (row_step HQ.out hb2)
      replace HQL := Lib.hid (Nat.lt_of_lt_of_le HQL.out hb2.size)
      replace HBX := Lib.hid (HBX.out.trans (hb2.mono HBX.out.size))
      clear hb2
      refine held_go hK' (HBX.out) ?_
      try simp only [Act.put, List.setIfInBounds_toArray, List.set_cons_zero, List.set_cons_succ]
      refine held_call (i := 3) rfl (by kernel_rfl) (by rfl) (fun K' hK' => ?_)
      go_simp
      refine (put_any pmR a1 ad1 n1 cap1 1 1 _ (HR1.out.next HBX.out).i).mono ?_
      rw [E2.out]
      rintro e w3 ⟨ad1, n1, cap1, rfl, hn1, hs1, hb3⟩
      have HN1 := Lib.hid hn1
      have HS1 := Lib.hid hs1
      have HQN := Lib.hid (show ∀ q, (Value.slice ad1 n1 cap1).ownBlock = some q → q ≠ p from fun q hq => by have := (hs1.lt q hq).1; have := HQL.out; omega)
      replace HQ := Lib.hid (row_step HQ.out hb3)
      replace HBX := Lib.hid (HBX.out.trans (hb3.mono HBX.out.size))
      clear hn1 hs1 hb3
      refine held_go hK' (HBX.out) ?_
      try dsimp only
      refine held_take (i := 4) (v := ?_) rfl (by kernel_rfl) (by kernel_rfl) (by kernel_rfl) (fun _ _ _ h => h) (by rfl) ?_ (by assumption) ?_
      rotate_left
      · intro X hSX
        try dsimp only at hSX
        go_simp <;> with_reducible rfl
      simp only [Act.put, List.setIfInBounds_toArray, List.set_cons_zero, List.set_cons_succ]
      refine held_take (i := 5) (v := ?_) rfl (by kernel_rfl) (by kernel_rfl) (by kernel_rfl) (fun _ _ _ h => h) (by rfl) ?_ (by assumption) ?_
      rotate_left
      · intro X hSX
        try dsimp only at hSX
        go_simp <;> with_reducible rfl
      simp only [Act.put, List.setIfInBounds_toArray, List.set_cons_zero, List.set_cons_succ]
      refine held_take (i := 6) (v := ?_) rfl (by kernel_rfl) (by kernel_rfl) (by kernel_rfl) (fun _ _ _ h => h) (by rfl) ?_ (by assumption) ?_
      rotate_left
      · intro X hSX
        try dsimp only at hSX
        go_simp <;> with_reducible rfl
      simp only [Act.put, List.setIfInBounds_toArray, List.set_cons_zero, List.set_cons_succ]
      refine held_take (i := 7) (v := ?_) rfl (by kernel_rfl) (by kernel_rfl) (by kernel_rfl) (fun _ _ _ h => h) (by rfl) ?_ (by assumption) ?_
      rotate_left
      · intro X hSX
        try dsimp only at hSX
        go_simp <;> with_reducible rfl
      simp only [Act.put, List.setIfInBounds_toArray, List.set_cons_zero, List.set_cons_succ]
      refine held_call (i := 9) rfl (by kernel_rfl) (by rfl) (fun K' hK' => ?_)
      refine oper_store_ro (.tmp 5) (.tmp 23) rfl p rfl b1 ad1 n1 cap1 rfl rz none 0 0 HQ.out ?_
      have HRB := Lib.hid (RoB.put HQ.out (S2.out.in_ (by decide) HN1.out HS1.out) HS1.out HQN.out)
      replace HBX := Lib.hid (below_set HBX.out HQB.out (roK b1 ad1 n1 cap1))
      generalize World.setRow w3 _ _ = X4 at *
      refine held_go hK' (HBX.out) ?_
      try simp only [Act.put]
      refine held_take (i := 10) (v := ?_) rfl (by kernel_rfl) (by kernel_rfl) (by kernel_rfl) (fun _ _ _ h => h) (by rfl) ?_ (by assumption) ?_
      rotate_left
      · intro X hSX
        try dsimp only at hSX
        go_simp <;> with_reducible rfl
      simp only [Act.put, List.setIfInBounds_toArray, List.set_cons_zero, List.set_cons_succ]
      refine held_take (i := 11) (v := ?_) rfl (by kernel_rfl) (by kernel_rfl) (by kernel_rfl) (fun _ _ _ h => h) (by rfl) ?_ (by assumption) ?_
      rotate_left
      · intro X hSX
        try dsimp only at hSX
        go_simp <;> with_reducible rfl
      simp only [Act.put, List.setIfInBounds_toArray, List.set_cons_zero, List.set_cons_succ]
      refine wpAnyH_done (by kernel_rfl) ?_ _
      refine NoPanic.normal ?_
      go_wp2_with fail
      go_meet
      exact ⟨p, ad1, n1, cap1, rfl, rfl, rfl, HBX, HRB⟩
  case rest =>
  obtain ⟨p2, ad2, n2, cap2, rfl, rfl, rfl, HB2, HR2⟩ := hcut
  obtain ⟨X2, hX2⟩ : ∃ X2, X2 = wc := ⟨_, rfl⟩
  subst hX2
  have HR02 := Lib.hid (HR01.out.next HB2.out)
  have HR12 := Lib.hid (HR1.out.next HB2.out)
  replace HB2 := Lib.hid (HB1.out.trans (HB2.out.mono HB1.out.size))
  go_upto_region 4 with fail
  have HBX := Lib.hid (Below.refl X2.heap.size X2).drew
  refine wp_region_noPanic ?_
  refine wp_region_held_drew (S := fun X => Below X2.heap.size X2 X) (by kernel_rfl) (HBX.out) (fun hS0 => ?_)
  refine held_take (i := 1) (v := ?_) rfl (by kernel_rfl) (by kernel_rfl) (by kernel_rfl) (fun _ _ _ h => h) (by rfl) ?_ (by assumption) ?_
  rotate_left
  · intro X hSX
    try dsimp only at hSX
    obtain ⟨_, k0, k1, k2, k3, k4⟩ := RoAt.of (HR02.out.next hSX).row
    go_simp <;> with_reducible rfl
  simp only [Act.put, List.setIfInBounds_toArray, List.set_cons_zero, List.set_cons_succ]
  refine held_call (i := 0) rfl (by kernel_rfl) (by rfl) (fun K' hK' => ?_)
  go_simp
  refine (plain_any _).mono ?_
  rintro e w2 ⟨rfl, hb2⟩
  replace HBX := Lib.hid (HBX.out.trans (hb2.mono HBX.out.size))
  clear hb2
  refine held_go hK' (HBX.out) ?_
  try simp only [Act.put, List.setIfInBounds_toArray, List.set_cons_zero, List.set_cons_succ]
  refine held_call (i := 2) rfl (by kernel_rfl) (by rfl) (fun K' hK' => ?_)
  go_simp
  have HI0 := Lib.hid (HR02.out.next HBX.out).i
  refine (valid_any pmR r0 (some ⟨w.heap.size, 0, none⟩) 4 4 _ HI0.out.l HI0.out.len HI0.out.le HI0.out.z).mono ?_
  rw [E3.out]
  rintro e w3 ⟨rfl, hb3⟩
  replace HBX := Lib.hid (HBX.out.trans (hb3.mono HBX.out.size))
  clear hb3
  refine held_go hK' (HBX.out) ?_
  try simp only [Act.put, List.setIfInBounds_toArray, List.set_cons_zero, List.set_cons_succ]
  refine held_take (i := 3) (v := ?_) rfl (by kernel_rfl) (by kernel_rfl) (by kernel_rfl) (fun _ _ _ h => h) (by rfl) ?_ (by assumption) ?_
  rotate_left
  · intro X hSX
    try dsimp only at hSX
    have hea := EA.out
    go_simp <;> with_reducible rfl
  simp only [Act.put, List.setIfInBounds_toArray, List.set_cons_zero, List.set_cons_succ]
  refine held_take (i := 4) (v := ?_) rfl (by kernel_rfl) (by kernel_rfl) (by kernel_rfl) (fun _ _ _ h => h) (by rfl) ?_ (by assumption) ?_
  rotate_left
  · intro X hSX
    try dsimp only at hSX
    have hea := EA.out
    go_simp <;> with_reducible rfl
  simp only [Act.put, List.setIfInBounds_toArray, List.set_cons_zero, List.set_cons_succ]
  refine held_take (i := 5) (v := ?_) rfl (by kernel_rfl) (by kernel_rfl) (by kernel_rfl) (fun _ _ _ h => h) (by rfl) ?_ (by assumption) ?_
  rotate_left
  · intro X hSX
    try dsimp only at hSX
    have hea := EA.out
    go_simp <;> with_reducible rfl
  simp only [Act.put, List.setIfInBounds_toArray, List.set_cons_zero, List.set_cons_succ]
  refine held_take (i := 6) (v := ?_) rfl (by kernel_rfl) (by kernel_rfl) (by kernel_rfl) (fun _ _ _ h => h) (by rfl) ?_ (by assumption) ?_
  rotate_left
  · intro X hSX
    try dsimp only at hSX
    have hea := EA.out
    go_simp <;> with_reducible rfl
  simp only [Act.put, List.setIfInBounds_toArray, List.set_cons_zero, List.set_cons_succ]
  refine held_take (i := 7) (v := ?_) rfl (by kernel_rfl) (by kernel_rfl) (by kernel_rfl) (fun _ _ _ h => h) (by rfl) ?_ (by assumption) ?_
  rotate_left
  · intro X hSX
    try dsimp only at hSX
    have hea := EA.out
    go_simp <;> with_reducible rfl
  simp only [Act.put, List.setIfInBounds_toArray, List.set_cons_zero, List.set_cons_succ]
  refine held_take (i := 8) (v := ?_) rfl (by kernel_rfl) (by kernel_rfl) (by kernel_rfl) (fun _ _ _ h => h) (by rfl) ?_ (by assumption) ?_
  rotate_left
  · intro X hSX
    try dsimp only at hSX
    have hea := EA.out
    go_simp <;> with_reducible rfl
  simp only [Act.put, List.setIfInBounds_toArray, List.set_cons_zero, List.set_cons_succ]
  refine held_take (i := 9) (v := ?_) rfl (by kernel_rfl) (by kernel_rfl) (by kernel_rfl) (fun _ _ _ h => h) (by rfl) ?_ (by assumption) ?_
  rotate_left
  · intro X hSX
    try dsimp only at hSX
    have hea := EA.out
    go_simp <;> with_reducible rfl
  simp only [Act.put, List.setIfInBounds_toArray, List.set_cons_zero, List.set_cons_succ]
  refine held_take (i := 10) (v := ?_) rfl (by kernel_rfl) (by kernel_rfl) (by kernel_rfl) (fun _ _ _ h => h) (by rfl) ?_ (by assumption) ?_
  rotate_left
  · intro X hSX
    try dsimp only at hSX
    have hea := EA.out
    go_simp <;> with_reducible rfl
  simp only [Act.put, List.setIfInBounds_toArray, List.set_cons_zero, List.set_cons_succ]
  refine held_take (i := 11) (v := ?_) rfl (by kernel_rfl) (by kernel_rfl) (by kernel_rfl) (fun _ _ _ h => h) (by rfl) ?_ (by assumption) ?_
  rotate_left
  · intro X hSX
    try dsimp only at hSX
    have hea := EA.out
    go_simp <;> with_reducible rfl
  simp only [Act.put, List.setIfInBounds_toArray, List.set_cons_zero, List.set_cons_succ]
  refine held_take (i := 12) (v := ?_) rfl (by kernel_rfl) (by kernel_rfl) (by kernel_rfl) (fun _ _ _ h => h) (by rfl) ?_ (by assumption) ?_
  rotate_left
  · intro X hSX
    try dsimp only at hSX
    have hea := EA.out
    obtain ⟨_, k0, k1, k2, k3, k4⟩ := RoAt.of (HR12.out.next hSX).row
    go_simp <;> with_reducible rfl
  simp only [Act.put, List.setIfInBounds_toArray, List.set_cons_zero, List.set_cons_succ]
  refine held_take (i := 13) (v := ?_) rfl (by kernel_rfl) (by kernel_rfl) (by kernel_rfl) (fun _ _ _ h => h) (by rfl) ?_ (by assumption) ?_
  rotate_left
  · intro X hSX
    try dsimp only at hSX
    have hea := EA.out
    obtain ⟨_, k0, k1, k2, k3, k4⟩ := RoAt.of (HR12.out.next hSX).row
    go_simp <;> with_reducible rfl
  simp only [Act.put, List.setIfInBounds_toArray, List.set_cons_zero, List.set_cons_succ]
  refine held_take (i := 14) (v := ?_) rfl (by kernel_rfl) (by kernel_rfl) (by kernel_rfl) (fun _ _ _ h => h) (by rfl) ?_ (by assumption) ?_
  rotate_left
  · intro X hSX
    try dsimp only at hSX
    have hea := EA.out
    obtain ⟨_, k0, k1, k2, k3, k4⟩ := RoAt.of (HR12.out.next hSX).row
    go_simp <;> with_reducible rfl
  simp only [Act.put, List.setIfInBounds_toArray, List.set_cons_zero, List.set_cons_succ]
  refine held_take (i := 15) (v := ?_) rfl (by kernel_rfl) (by kernel_rfl) (by kernel_rfl) (fun _ _ _ h => h) (by rfl) ?_ (by assumption) ?_
  rotate_left
  · intro X hSX
    try dsimp only at hSX
    have hea := EA.out
    obtain ⟨_, k0, k1, k2, k3, k4⟩ := RoAt.of (HR12.out.next hSX).row
    go_simp <;> with_reducible rfl
  simp only [Act.put, List.setIfInBounds_toArray, List.set_cons_zero, List.set_cons_succ]
  refine held_take (i := 16) (v := ?_) rfl (by kernel_rfl) (by kernel_rfl) (by kernel_rfl) (fun _ _ _ h => h) (by rfl) ?_ (by assumption) ?_
  rotate_left
  · intro X hSX
    try dsimp only at hSX
    have hea := EA.out
    obtain ⟨_, k0, k1, k2, k3, k4⟩ := RoAt.of (HR12.out.next hSX).row
    go_simp <;> with_reducible rfl
  simp only [Act.put, List.setIfInBounds_toArray, List.set_cons_zero, List.set_cons_succ]
  refine held_take (i := 17) (v := ?_) rfl (by kernel_rfl) (by kernel_rfl) (by kernel_rfl) (fun _ _ _ h => h) (by rfl) ?_ (by assumption) ?_
  rotate_left
  · intro X hSX
    try dsimp only at hSX
    go_simp <;> with_reducible rfl
  simp only [Act.put, List.setIfInBounds_toArray, List.set_cons_zero, List.set_cons_succ]
  refine held_take (i := 18) (v := ?_) rfl (by kernel_rfl) (by kernel_rfl) (by kernel_rfl) (fun _ _ _ h => h) (by rfl) ?_ (by assumption) ?_
  rotate_left
  · intro X hSX
    try dsimp only at hSX
    go_simp <;> with_reducible rfl
  simp only [Act.put, List.setIfInBounds_toArray, List.set_cons_zero, List.set_cons_succ]
  refine held_take (i := 19) (v := ?_) rfl (by kernel_rfl) (by kernel_rfl) (by kernel_rfl) (fun _ _ _ h => h) (by rfl) ?_ (by assumption) ?_
  rotate_left
  · intro X hSX
    try dsimp only at hSX
    go_simp <;> with_reducible rfl
  simp only [Act.put, List.setIfInBounds_toArray, List.set_cons_zero, List.set_cons_succ]
  refine held_take (i := 20) (v := ?_) rfl (by kernel_rfl) (by kernel_rfl) (by kernel_rfl) (fun _ _ _ h => h) (by rfl) ?_ (by assumption) ?_
  rotate_left
  · intro X hSX
    try dsimp only at hSX
    go_simp <;> with_reducible rfl
  simp only [Act.put, List.setIfInBounds_toArray, List.set_cons_zero, List.set_cons_succ]
  refine held_take (i := 21) (v := ?_) rfl (by kernel_rfl) (by kernel_rfl) (by kernel_rfl) (fun _ _ _ h => h) (by rfl) ?_ (by assumption) ?_
  rotate_left
  · intro X hSX
    try dsimp only at hSX
    go_simp <;> with_reducible rfl
  simp only [Act.put, List.setIfInBounds_toArray, List.set_cons_zero, List.set_cons_succ]
  refine held_take (i := 22) (v := ?_) rfl (by kernel_rfl) (by kernel_rfl) (by kernel_rfl) (fun _ _ _ h => h) (by rfl) ?_ (by assumption) ?_
  rotate_left
  · intro X hSX
    try dsimp only at hSX
    go_simp <;> with_reducible rfl
  simp only [Act.put, List.setIfInBounds_toArray, List.set_cons_zero, List.set_cons_succ]
  refine held_take (i := 23) (v := ?_) rfl (by kernel_rfl) (by kernel_rfl) (by kernel_rfl) (fun _ _ _ h => h) (by rfl) ?_ (by assumption) ?_
  rotate_left
  · intro X hSX
    try dsimp only at hSX
    go_simp <;> with_reducible rfl
  simp only [Act.put, List.setIfInBounds_toArray, List.set_cons_zero, List.set_cons_succ]
  refine held_take (i := 24) (v := ?_) rfl (by kernel_rfl) (by kernel_rfl) (by kernel_rfl) (fun _ _ _ h => h) (by rfl) ?_ (by assumption) ?_
  rotate_left
  · intro X hSX
    try dsimp only at hSX
    go_simp <;> with_reducible rfl
  simp only [Act.put, List.setIfInBounds_toArray, List.set_cons_zero, List.set_cons_succ]
  refine held_take (i := 25) (v := ?_) rfl (by kernel_rfl) (by kernel_rfl) (by kernel_rfl) (fun _ _ _ h => h) (by rfl) ?_ (by assumption) ?_
  rotate_left
  · intro X hSX
    try dsimp only at hSX
    have heb := EB.out
    have hep := EP.out
    obtain ⟨_, k0, k1, k2, k3, k4⟩ := RoAt.of (HR2.out.next hSX).row
    go_simp <;> with_reducible rfl
  simp only [Act.put, List.setIfInBounds_toArray, List.set_cons_zero, List.set_cons_succ]
  refine held_take (i := 26) (v := ?_) rfl (by kernel_rfl) (by kernel_rfl) (by kernel_rfl) (fun _ _ _ h => h) (by rfl) ?_ (by assumption) ?_
  rotate_left
  · intro X hSX
    try dsimp only at hSX
    have heb := EB.out
    have hep := EP.out
    obtain ⟨_, k0, k1, k2, k3, k4⟩ := RoAt.of (HR2.out.next hSX).row
    go_simp <;> with_reducible rfl
  simp only [Act.put, List.setIfInBounds_toArray, List.set_cons_zero, List.set_cons_succ]
  refine held_take (i := 27) (v := ?_) rfl (by kernel_rfl) (by kernel_rfl) (by kernel_rfl) (fun _ _ _ h => h) (by rfl) ?_ (by assumption) ?_
  rotate_left
  · intro X hSX
    try dsimp only at hSX
    have heb := EB.out
    have hep := EP.out
    obtain ⟨_, k0, k1, k2, k3, k4⟩ := RoAt.of (HR2.out.next hSX).row
    go_simp <;> with_reducible rfl
  simp only [Act.put, List.setIfInBounds_toArray, List.set_cons_zero, List.set_cons_succ]
  refine held_take (i := 28) (v := ?_) rfl (by kernel_rfl) (by kernel_rfl) (by kernel_rfl) (fun _ _ _ h => h) (by rfl) ?_ (by assumption) ?_
  rotate_left
  · intro X hSX
    try dsimp only at hSX
    have heb := EB.out
    have hep := EP.out
    obtain ⟨_, k0, k1, k2, k3, k4⟩ := RoAt.of (HR2.out.next hSX).row
    go_simp <;> with_reducible rfl
  simp only [Act.put, List.setIfInBounds_toArray, List.set_cons_zero, List.set_cons_succ]
  refine held_take (i := 29) (v := ?_) rfl (by kernel_rfl) (by kernel_rfl) (by kernel_rfl) (fun _ _ _ h => h) (by rfl) ?_ (by assumption) ?_
  rotate_left
  · intro X hSX
    try dsimp only at hSX
    have heb := EB.out
    have hep := EP.out
    obtain ⟨_, k0, k1, k2, k3, k4⟩ := RoAt.of (HR2.out.next hSX).row
    go_simp <;> with_reducible rfl
  simp only [Act.put, List.setIfInBounds_toArray, List.set_cons_zero, List.set_cons_succ]
  refine held_take (i := 30) (v := ?_) rfl (by kernel_rfl) (by kernel_rfl) (by kernel_rfl) (fun _ _ _ h => h) (by rfl) ?_ (by assumption) ?_
  rotate_left
  · intro X hSX
    try dsimp only at hSX
    have heb := EB.out
    have hep := EP.out
    obtain ⟨_, k0, k1, k2, k3, k4⟩ := RoAt.of (HR2.out.next hSX).row
    go_simp <;> with_reducible rfl
  simp only [Act.put, List.setIfInBounds_toArray, List.set_cons_zero, List.set_cons_succ]
  refine held_take (i := 31) (v := ?_) rfl (by kernel_rfl) (by kernel_rfl) (by kernel_rfl) (fun _ _ _ h => h) (by rfl) ?_ (by assumption) ?_
  rotate_left
  · intro X hSX
    try dsimp only at hSX
    have heb := EB.out
    have hep := EP.out
    obtain ⟨_, k0, k1, k2, k3, k4⟩ := RoAt.of (HR2.out.next hSX).row
    go_simp <;> with_reducible rfl
  simp only [Act.put, List.setIfInBounds_toArray, List.set_cons_zero, List.set_cons_succ]
  refine held_take (i := 32) (v := ?_) rfl (by kernel_rfl) (by kernel_rfl) (by kernel_rfl) (fun _ _ _ h => h) (by rfl) ?_ (by assumption) ?_
  rotate_left
  · intro X hSX
    try dsimp only at hSX
    have heb := EB.out
    have hep := EP.out
    obtain ⟨_, k0, k1, k2, k3, k4⟩ := RoAt.of (HR2.out.next hSX).row
    go_simp <;> with_reducible rfl
  simp only [Act.put, List.setIfInBounds_toArray, List.set_cons_zero, List.set_cons_succ]
  refine held_take (i := 33) (v := ?_) rfl (by kernel_rfl) (by kernel_rfl) (by kernel_rfl) (fun _ _ _ h => h) (by rfl) ?_ (by assumption) ?_
  rotate_left
  · intro X hSX
    try dsimp only at hSX
    have heb := EB.out
    have hep := EP.out
    obtain ⟨_, k0, k1, k2, k3, k4⟩ := RoAt.of (HR2.out.next hSX).row
    go_simp <;> with_reducible rfl
  simp only [Act.put, List.setIfInBounds_toArray, List.set_cons_zero, List.set_cons_succ]
  refine held_take (i := 34) (v := ?_) rfl (by kernel_rfl) (by kernel_rfl) (by kernel_rfl) (fun _ _ _ h => h) (by rfl) ?_ (by assumption) ?_
  rotate_left
  · intro X hSX
    try dsimp only at hSX
    have heb := EB.out
    have hep := EP.out
    obtain ⟨_, k0, k1, k2, k3, k4⟩ := RoAt.of (HR2.out.next hSX).row
    go_simp <;> with_reducible rfl
  simp only [Act.put, List.setIfInBounds_toArray, List.set_cons_zero, List.set_cons_succ]
  refine held_call (i := 35) rfl (by kernel_rfl) (by rfl) (fun K' hK' => ?_)
  go_simp
  refine (plain_any _).mono ?_
  rintro e w4 ⟨rfl, hb4⟩
  replace HBX := Lib.hid (HBX.out.trans (hb4.mono HBX.out.size))
  clear hb4
  refine held_go hK' (HBX.out) ?_
  try simp only [Act.put, List.setIfInBounds_toArray, List.set_cons_zero, List.set_cons_succ]
  refine held_call (i := 36) rfl (by kernel_rfl) (by rfl) (fun K' hK' => ?_)
  go_simp
  refine (farthest_any pmR _).mono ?_
  rw [aw4]
  rintro e w5 ⟨rfl, hb5⟩
  replace HBX := Lib.hid (HBX.out.trans (hb5.mono HBX.out.size))
  clear hb5
  refine held_go hK' (HBX.out) ?_
  try simp only [Act.put, List.setIfInBounds_toArray, List.set_cons_zero, List.set_cons_succ]
  refine held_take (i := 37) (v := ?_) rfl (by kernel_rfl) (by kernel_rfl) (by kernel_rfl) (fun _ _ _ h => h) (by rfl) ?_ (by assumption) ?_
  rotate_left
  · intro X hSX
    try dsimp only at hSX
    go_simp <;> with_reducible rfl
  simp only [Act.put, List.setIfInBounds_toArray, List.set_cons_zero, List.set_cons_succ]
  refine held_take (i := 38) (v := ?_) rfl (by kernel_rfl) (by kernel_rfl) (by kernel_rfl) (fun _ _ _ h => h) (by rfl) ?_ (by assumption) ?_
  rotate_left
  · intro X hSX
    try dsimp only at hSX
    go_simp <;> with_reducible rfl
  simp only [Act.put, List.setIfInBounds_toArray, List.set_cons_zero, List.set_cons_succ]
  refine held_take (i := 39) (v := ?_) rfl (by kernel_rfl) (by kernel_rfl) (by kernel_rfl) (fun _ _ _ h => h) (by rfl) ?_ (by assumption) ?_
  rotate_left
  · intro X hSX
    try dsimp only at hSX
    go_simp <;> with_reducible rfl
  simp only [Act.put, List.setIfInBounds_toArray, List.set_cons_zero]
  refine wpAnyH_done (by kernel_rfl) ?_ _
  refine NoPanic.normal ?_
  have HB3 := Lib.hid (HB2.out.trans (HBX.out.mono HB2.out.size))
  go_wp2
  go_ret
  exact ⟨rfl, HB3.out⟩
end Go.Proofs.Ytmhaeipklifhcaa
