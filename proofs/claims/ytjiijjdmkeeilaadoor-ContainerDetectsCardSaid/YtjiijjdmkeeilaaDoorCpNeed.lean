/-
  The program's Need.
-/
import Derived.Test.YtjiijjdmkeeilaaDoorCBF
import Derived.Test.YtjiijjdmkeeilaaDoorCAU
namespace Go.Proofs.YtjiijjdmkeeilaaDoor
open Go.RowKit
set_option linter.unusedVariables false
set_option linter.unusedSimpArgs false
set_option maxRecDepth 100000 in
set_option maxHeartbeats 4000000 in
theorem need_any (h : Hdr) (ad : Option Addr) (n cap : Nat) (j o l : Int) (w : World) (hin : HdIn w h ad n cap) (hs : ∀ e ∈ h.es, e.s < 4294967296) (hsm : h.sm < 4294967296) :
    Calls Tryd.prog 27 #[hdV h ad n cap, .int .i64 j, .int .i64 o, .int .i64 l] w (RetSp w (needU h j o l)) := by
  have HS := Lib.hid hs
  have HSM := Lib.hid hsm
  have HX0 := Lib.hid ((HdRow.new w h ad n cap).below (co_box1 _ (.cells #[.int .i64 0, .int .i64 0] 46)) (by simp))
  have HS0 := Lib.hid (heap_alloc_new (w.alloc (boxH h ad n cap)) (.cells #[.int .i64 0, .int .i64 0] 46))
  rw [World.size_alloc] at HS0
  have HB0 := Lib.hid (co_box2 w (boxH h ad n cap) (.cells #[.int .i64 0, .int .i64 0] 46))
  have HI0 := Lib.hid (hin.below (co_box2 w (boxH h ad n cap) (.cells #[.int .i64 0, .int .i64 0] 46)))
  have HZ0 := Lib.hid (show w.heap.size + 1 < ((w.alloc (boxH h ad n cap)).alloc (.cells #[.int .i64 0, .int .i64 0] 46)).heap.size by simp)
  have HN := Lib.hid hin.len
  have hnm := Nat.le_trans hin.le hin.mx
  unfold maxLen at hnm
  have kn1 : IntKind.i64.wrap ((n : Int) - 1) = (n : Int) - 1 := IntWalk.i64_in _ (by omega)
  have HHU := Lib.hid (show hbU h = if vldH h = true then ((hbL h).length : Int) else 0 from rfl)
  have HU := Lib.hid (show needU h j o l = _ by unfold needU; rfl)
  clear hin hs hsm
  go_enter Tryd.func27, Tryd.ntmps27
  go_wp2_with (with_reducible refine ld_hdr rfl (.tmp 4) rfl rfl HX0.out ?_)
  change Calls Tryd.prog 15 #[hdV h ad n cap] ((w.alloc (boxH h ad n cap)).alloc (.cells #[.int .i64 0, .int .i64 0] 46)) _
  generalize World.alloc (World.alloc w _) _ = X0 at *
  refine (valid15_any h ad n cap X0 HI0.out HS.out).mono ?_
  rintro e X1 ⟨rfl, hb1⟩
  have HX1 := Lib.hid (HX0.out.below hb1 HX0.out.lt)
  have HS1 := Lib.hid ((hb1.block _ HZ0.out).trans HS0.out)
  have HB1 := Lib.hid (HB0.out.trans (hb1.mono HB0.out.size))
  have HI1 := Lib.hid (HI0.out.below hb1)
  clear hb1 HX0 HS0 HB0 HI0 HZ0
  have HV := Lib.hid (@vldH_iff h)
  generalize vldH h = V at *
  cases V
  · have HR := Lib.hid (HU.out.trans (if_neg (by simp)))
    go_wp2_with (first | ((with_reducible refine st_span rfl (.tmp 8) (.tmp 18) rfl rfl 0 0 rfl HS1.out ?_)))
    refine post_cell2 (cs := #[.int .i64 0, .int .i64 0]) (x := .int .i64 8) rfl rfl (setRow_heap _ _ _ _ _ _ HS1.out) Tryd.underlying46 rfl infoSp rfl rfl ?_
    exact ⟨by rw [HR.out], below_set HB1.out (by omega) _⟩
  have HVV := Lib.hid (HV.out.1 (by simp))
  replace HU := Lib.hid (HU.out.trans (if_pos (by simp)))
  replace HHU := Lib.hid (HHU.out.trans (if_pos (by simp)))
  clear HV
  obtain ⟨-, c0, c1, c2, c3, c4, c5, c6, c7, c8, c9, c10⟩ := HX1.out.at_
  by_cases hj0 : j < 0
  · have HR := Lib.hid (HU.out.trans (if_pos hj0))
    go_wp2_with (first | ((with_reducible refine st_span rfl (.tmp 8) (.tmp 26) rfl rfl 0 0 rfl HS1.out ?_)) | (go_at_call 66; first | ((with_reducible refine (win_yes _ _ _ _ (by omega)).mono ?_); rintro e w' ⟨rfl, rfl⟩) | ((with_reducible refine (win_no _ _ _ _ (by omega)).mono ?_); rintro e w' ⟨rfl, rfl⟩)))
    refine post_cell2 (cs := #[.int .i64 0, .int .i64 0]) (x := .int .i64 11) rfl rfl (setRow_heap _ _ _ _ _ _ HS1.out) Tryd.underlying46 rfl infoSp rfl rfl ?_
    exact ⟨by rw [HR.out], below_set HB1.out (by omega) _⟩
  replace HU := Lib.hid (HU.out.trans (if_neg hj0))
  obtain ⟨J, rfl⟩ := Int.eq_ofNat_of_zero_le (show 0 ≤ j by omega)
  rw [Int.toNat_natCast] at HU
  clear hj0
  by_cases hjn : (n : Int) ≤ (J : Int)
  · have HR := Lib.hid (HU.out.trans (by rw [List.getElem?_eq_none (by have := HN.out; omega)]))
    go_wp2_with (first | ((with_reducible refine st_span rfl (.tmp 8) (.tmp 26) rfl rfl 0 0 rfl HS1.out ?_)) | (go_at_call 66; first | ((with_reducible refine (win_yes _ _ _ _ (by omega)).mono ?_); rintro e w' ⟨rfl, rfl⟩) | ((with_reducible refine (win_no _ _ _ _ (by omega)).mono ?_); rintro e w' ⟨rfl, rfl⟩)))
    refine post_cell2 (cs := #[.int .i64 0, .int .i64 0]) (x := .int .i64 11) rfl rfl (setRow_heap _ _ _ _ _ _ HS1.out) Tryd.underlying46 rfl infoSp rfl rfl ?_
    exact ⟨by rw [HR.out], below_set HB1.out (by omega) _⟩
  have hil : J < h.es.length := by have := HN.out; omega
  obtain ⟨b, off, rfl, hlt, hcell⟩ := HI1.out.lf.get celE hil
  have e3 := hcell 3 _ (by decide) rfl
  replace HU := Lib.hid (HU.out.trans (by rw [List.getElem?_eq_getElem hil]))
  have HNN := Lib.hid (fun e (he : e ∈ h.es) => (VEs.all HVV.out e he).2.2.2.1.1)
  have HVN := (VEs.all HVV.out _ (List.getElem_mem hil)).2.2.2.1
  have HSS := Lib.hid (need_sum HVV.out)
  have HSU := sta_sum h.es J hil HNN.out
  have HLN := Lib.hid (hbL_short HVV.out HSM.out HS.out)
  clear hcell hlt
  generalize h.es[J] = x at *
  have hj1 : ¬ (n : Int) ≤ (J : Int) := hjn
  have hjn2 : J < n := by omega
  by_cases q1 : 0 ≤ o ∧ o ≤ x.n
  rotate_left
  · have HR := Lib.hid (HU.out.trans (if_neg (fun h => q1 h.1)))
    go_wp2_with (first | ((with_reducible refine st_span rfl (.tmp 8) (.tmp 45) rfl rfl 0 0 rfl HS1.out ?_)) | (go_at_call 66; first | ((with_reducible refine (win_yes _ _ _ _ (by omega)).mono ?_); rintro e w' ⟨rfl, rfl⟩) | ((with_reducible refine (win_no _ _ _ _ (by omega)).mono ?_); rintro e w' ⟨rfl, rfl⟩)))
    refine post_cell2 (cs := #[.int .i64 0, .int .i64 0]) (x := .int .i64 7) rfl rfl (setRow_heap _ _ _ _ _ _ HS1.out) Tryd.underlying46 rfl infoSp rfl rfl ?_
    exact ⟨by rw [HR.out], below_set HB1.out (by omega) _⟩
  have hw : IntKind.i64.wrap (x.n - o) = x.n - o := IntWalk.i64_in _ (by omega)
  by_cases q2 : 0 ≤ l ∧ l ≤ x.n - o
  rotate_left
  · have HR := Lib.hid (HU.out.trans (if_neg (fun h => q2 (by omega))))
    go_wp2_with (first | ((with_reducible refine st_span rfl (.tmp 8) (.tmp 45) rfl rfl 0 0 rfl HS1.out ?_)) | (go_at_call 66; first | ((with_reducible refine (win_yes _ _ _ _ (by omega)).mono ?_); rintro e w' ⟨rfl, rfl⟩) | ((with_reducible refine (win_no _ _ _ _ (by omega)).mono ?_); rintro e w' ⟨rfl, rfl⟩)))
    refine post_cell2 (cs := #[.int .i64 0, .int .i64 0]) (x := .int .i64 7) rfl rfl (setRow_heap _ _ _ _ _ _ HS1.out) Tryd.underlying46 rfl infoSp rfl rfl ?_
    exact ⟨by rw [HR.out], below_set HB1.out (by omega) _⟩
  replace HU := Lib.hid (HU.out.trans (if_pos ⟨q1, by omega, by omega⟩))
  by_cases q4 : l = 0
  · have HR := Lib.hid (HU.out.trans (if_pos q4))
    subst q4
    go_wp2_with (first | ((with_reducible refine st_span rfl (.tmp 8) (.tmp 48) rfl rfl 0 0 rfl HS1.out ?_)) | (go_at_call 66; first | ((with_reducible refine (win_yes _ _ _ _ (by omega)).mono ?_); rintro e w' ⟨rfl, rfl⟩) | ((with_reducible refine (win_no _ _ _ _ (by omega)).mono ?_); rintro e w' ⟨rfl, rfl⟩)))
    refine post_cell2 (cs := #[.int .i64 0, .int .i64 0]) (x := .int .i64 0) rfl rfl (setRow_heap _ _ _ _ _ _ HS1.out) Tryd.underlying46 rfl infoSp rfl rfl ?_
    exact ⟨by rw [HR.out], below_set HB1.out (by omega) _⟩
  replace HU := Lib.hid (HU.out.trans (if_neg q4))
  have kl := eq_f q4
  have hp : prtU h.vr = 60 ∨ prtU h.vr = 64 := by rcases prtU_cases h.vr with ⟨_, e⟩ | ⟨_, e⟩ <;> omega
  have hvr : h.vr = 1 ∨ h.vr = 2 := by have := HVV.out.1.2.1; omega
  have hS2 := HSS.out
  have HLY := Lib.hid (fun W => layout_any h (some ⟨b, off, none⟩) n cap W hvr)
  clear hvr
  have HHB := Lib.hid (fun W hW => headblocks_any h (some ⟨b, off, none⟩) n cap W hW HSM.out HS.out)
  rw [HHU.out] at HHB
  have HST := Lib.hid (fun W hi => begin15_any h (some ⟨b, off, none⟩) n cap J W hi (by omega) HNN.out (by have := HSS.out; omega))
  generalize staU h.es J = S at *
  generalize prtU h.vr = P at *
  generalize decide (h.vr = 2) = dv at *
  obtain ⟨hS0, hS1⟩ := HSU
  go_wp2_with (first | (with_reducible refine ld_hdr rfl (.tmp 4) rfl rfl HX1.out ?_) | (go_at_call 66; first | ((with_reducible refine (win_yes _ _ _ _ (by omega)).mono ?_); rintro e w' ⟨rfl, rfl⟩) | ((with_reducible refine (win_no _ _ _ _ (by omega)).mono ?_); rintro e w' ⟨rfl, rfl⟩)))
  refine (HLY.out _).mono ?_
  rintro e X2 ⟨rfl, hb2⟩
  have HX2 := Lib.hid (HX1.out.below hb2 HX1.out.lt)
  have HS2 := Lib.hid ((hb2.block _ (Array.getElem?_eq_some_iff.1 HS1.out).1).trans HS1.out)
  have HB2 := Lib.hid (HB1.out.trans (hb2.mono HB1.out.size))
  have HI2 := Lib.hid (HI1.out.below hb2)
  clear hb2 HX1 HS1 HB1 HI1 c0 c1 c2 c3 c4 c5 c6 c7 c8 c9 c10 e3 HLY
  have kf := fun X => run_fieldLy P dv X
  go_wp2_with (with_reducible refine ld_hdr rfl (.tmp 4) rfl rfl HX2.out ?_)
  clear kf
  refine (HST.out _ HI2.out).mono ?_
  rintro e X3 ⟨rfl, hb3⟩
  have HX3 := Lib.hid (HX2.out.below hb3 HX2.out.lt)
  have HS3 := Lib.hid ((hb3.block _ (Array.getElem?_eq_some_iff.1 HS2.out).1).trans HS2.out)
  have HB3 := Lib.hid (HB2.out.trans (hb3.mono HB2.out.size))
  have HI3 := Lib.hid (HI2.out.below hb3)
  clear hb3 HX2 HS2 HB2 HI2
  obtain ⟨F, hF⟩ : ∃ F, F = S + o := ⟨_, rfl⟩
  have kw1 : IntKind.i64.wrap (S + o) = F := by rw [hF]; exact IntWalk.i64_in _ (by omega)
  have hF0 : 0 ≤ F ∧ F ≤ 1000000 := by omega
  have hl0 : 0 ≤ l ∧ l ≤ 1000000 := by omega
  rw [← hF] at HU
  have HFF := Lib.hid hF
  have hlnz : ¬ l = 0 := q4
  clear hF hw
  have kw4 : IntKind.i64.wrap (F + l) = F + l := IntWalk.i64_in _ (by omega)
  have kw5 : IntKind.i64.wrap (F + l - 1) = F + l - 1 := IntWalk.i64_in _ (by omega)
  go_wp2_with fail
  rcases hp with rfl | rfl
  · clear HFF
    refine wp_region_noPanic ?_
    refine wp_region_held_drew (S := fun X => Below X3.heap.size X3 X) (by kernel_rfl) ((Below.refl X3.heap.size X3).drew) (fun hS0 => ?_)
    refine held_take (i := 0) (v := ?_) rfl (by kernel_rfl) (by kernel_rfl) (by kernel_rfl) (fun _ _ _ h => h) (by rfl) ?_ (by assumption) ?_
    rotate_left
    · intro X hSX
      try dsimp only at hSX
      go_simp <;> with_reducible rfl
    simp only [Act.put, List.setIfInBounds_toArray, List.set_cons_zero, List.set_cons_succ]
    refine held_take (i := 1) (v := ?_) rfl (by kernel_rfl) (by kernel_rfl) (by kernel_rfl) (fun _ _ _ h => h) (by rfl) ?_ (by assumption) ?_
    rotate_left
    · intro X hSX
      try dsimp only at hSX
      go_simp <;> with_reducible rfl
    simp only [Act.put, List.setIfInBounds_toArray, List.set_cons_zero, List.set_cons_succ]
    refine held_take (i := 2) (v := ?_) rfl (by kernel_rfl) (by kernel_rfl) (by kernel_rfl) (fun _ _ _ h => h) (by rfl) ?_ (by assumption) ?_
    rotate_left
    · intro X hSX
      try dsimp only at hSX
      go_simp <;> with_reducible rfl
    simp only [Act.put, List.setIfInBounds_toArray, List.set_cons_zero, List.set_cons_succ]
    refine held_take (i := 3) (v := ?_) rfl (by kernel_rfl) (by kernel_rfl) (by kernel_rfl) (fun _ _ _ h => h) (by rfl) ?_ (by assumption) ?_
    rotate_left
    · intro X hSX
      try dsimp only at hSX
      go_simp <;> with_reducible rfl
    simp only [Act.put, List.setIfInBounds_toArray, List.set_cons_zero, List.set_cons_succ]
    refine held_take (i := 4) (v := ?_) rfl (by kernel_rfl) (by kernel_rfl) (by kernel_rfl) (fun _ _ _ h => h) (by rfl) ?_ (by assumption) ?_
    rotate_left
    · intro X hSX
      try dsimp only at hSX
      go_simp <;> with_reducible rfl
    simp only [Act.put, List.setIfInBounds_toArray, List.set_cons_zero, List.set_cons_succ]
    refine held_take (i := 5) (v := ?_) rfl (by kernel_rfl) (by kernel_rfl) (by kernel_rfl) (fun _ _ _ h => h) (by rfl) ?_ (by assumption) ?_
    rotate_left
    · intro X hSX
      try dsimp only at hSX
      go_simp <;> with_reducible rfl
    simp only [Act.put, List.setIfInBounds_toArray, List.set_cons_zero, List.set_cons_succ]
    refine held_take (i := 6) (v := ?_) rfl (by kernel_rfl) (by kernel_rfl) (by kernel_rfl) (fun _ _ _ h => h) (by rfl) ?_ (by assumption) ?_
    rotate_left
    · intro X hSX
      try dsimp only at hSX
      go_simp <;> with_reducible rfl
    simp only [Act.put, List.setIfInBounds_toArray, List.set_cons_zero, List.set_cons_succ]
    refine held_take (i := 7) (v := ?_) rfl (by kernel_rfl) (by kernel_rfl) (by kernel_rfl) (fun _ _ _ h => h) (by rfl) ?_ (by assumption) ?_
    rotate_left
    · intro X hSX
      try dsimp only at hSX
      go_simp <;> with_reducible rfl
    simp only [Act.put, List.setIfInBounds_toArray, List.set_cons_zero, List.set_cons_succ]
    refine held_take (i := 8) (v := ?_) rfl (by kernel_rfl) (by kernel_rfl) (by kernel_rfl) (fun _ _ _ h => h) (by rfl) ?_ (by assumption) ?_
    rotate_left
    · intro X hSX
      try dsimp only at hSX
      go_simp <;> with_reducible rfl
    simp only [Act.put, List.setIfInBounds_toArray, List.set_cons_zero, List.set_cons_succ]
    refine held_take (i := 9) (v := ?_) rfl (by kernel_rfl) (by kernel_rfl) (by kernel_rfl) (fun _ _ _ h => h) (by rfl) ?_ (by assumption) ?_
    rotate_left
    · intro X hSX
      try dsimp only at hSX
      go_simp <;> with_reducible rfl
    simp only [Act.put, List.setIfInBounds_toArray, List.set_cons_zero, List.set_cons_succ]
    refine held_take (i := 10) (v := ?_) rfl (by kernel_rfl) (by kernel_rfl) (by kernel_rfl) (fun _ _ _ h => h) (by rfl) ?_ (by assumption) ?_
    rotate_left
    · intro X hSX
      try dsimp only at hSX
      go_simp <;> with_reducible rfl
    simp only [Act.put, List.setIfInBounds_toArray, List.set_cons_zero, List.set_cons_succ]
    refine wpAnyH_done (by kernel_rfl) ?_ _
    refine NoPanic.normal ?_
    have HX4 := Lib.hid (HX3.out.below (Below.refl X3.heap.size X3).drew HX3.out.lt)
    have HS4 := Lib.hid (((Below.refl X3.heap.size X3).drew.block _ (Array.getElem?_eq_some_iff.1 HS3.out).1).trans HS3.out)
    have HB4 := Lib.hid (HB3.out.trans ((Below.refl X3.heap.size X3).drew.mono HB3.out.size))
    have HI4 := Lib.hid (HI3.out.below (Below.refl X3.heap.size X3).drew)
    generalize World.drew X3 = X4 at *
    obtain ⟨A, hA⟩ : ∃ A, A = F / 60 := ⟨_, rfl⟩
    obtain ⟨B, hB⟩ : ∃ B, B = (F + l - 1) / 60 := ⟨_, rfl⟩
    have e1 : IntKind.i64.wrap (F.tdiv 60) = A := by rw [Int.tdiv_eq_ediv_of_nonneg hF0.1, ← hA]; exact IntWalk.i64_in _ (by omega)
    have e2 : IntKind.i64.wrap ((F + l - 1).tdiv 60) = B := by rw [Int.tdiv_eq_ediv_of_nonneg (by omega), ← hB]; exact IntWalk.i64_in _ (by omega)
    rw [e1, e2]
    rw [← hA, ← hB] at HU
    have hab : 0 ≤ A ∧ A ≤ 1000000 ∧ 0 ≤ B ∧ B ≤ 1000000 := by omega
    clear hA hB e1 e2
    clear HX3 HS3 HB3 HI3 kw4 kw5 kw1 hS0
    go_wp2_with (with_reducible refine ld_hdr rfl (.tmp 4) rfl rfl HX4.out ?_)
    refine (HHB.out _ HI4.out).mono ?_
    rintro e X5 ⟨rfl, hb5⟩
    have HS5 := Lib.hid ((hb5.block _ (Array.getElem?_eq_some_iff.1 HS4.out).1).trans HS4.out)
    have HB5 := Lib.hid (HB4.out.trans (hb5.mono HB4.out.size))
    have hln := HLN.out.2
    clear hb5 HX4 HS4 HB4 HI4 HHB HHU HLN
    generalize (hbL h).length = L at *
    have kx1 : IntKind.i64.wrap ((L : Int) + A) = (L : Int) + A := IntWalk.i64_in _ (by omega)
    have kx2 : IntKind.i64.wrap (B - A) = B - A := IntWalk.i64_in _ (by omega)
    have kx3 : IntKind.i64.wrap (B - A + 1) = B - A + 1 := IntWalk.i64_in _ (by omega)
    go_wp2_with (with_reducible refine st_span rfl (.tmp 8) (.tmp 74) rfl rfl _ _ rfl HS5.out ?_)
    refine post_cell2 (cs := #[.int .i64 _, .int .i64 _]) (x := .int .i64 0) rfl rfl (setRow_heap _ _ _ _ _ _ HS5.out) Tryd.underlying46 rfl infoSp rfl rfl ?_
    exact ⟨by rw [HU.out], below_set HB5.out (by omega) _⟩
  · clear HFF
    refine wp_region_noPanic ?_
    refine wp_region_held_drew (S := fun X => Below X3.heap.size X3 X) (by kernel_rfl) ((Below.refl X3.heap.size X3).drew) (fun hS0 => ?_)
    refine held_take (i := 0) (v := ?_) rfl (by kernel_rfl) (by kernel_rfl) (by kernel_rfl) (fun _ _ _ h => h) (by rfl) ?_ (by assumption) ?_
    rotate_left
    · intro X hSX
      try dsimp only at hSX
      go_simp <;> with_reducible rfl
    simp only [Act.put, List.setIfInBounds_toArray, List.set_cons_zero, List.set_cons_succ]
    refine held_take (i := 1) (v := ?_) rfl (by kernel_rfl) (by kernel_rfl) (by kernel_rfl) (fun _ _ _ h => h) (by rfl) ?_ (by assumption) ?_
    rotate_left
    · intro X hSX
      try dsimp only at hSX
      go_simp <;> with_reducible rfl
    simp only [Act.put, List.setIfInBounds_toArray, List.set_cons_zero, List.set_cons_succ]
    refine held_take (i := 2) (v := ?_) rfl (by kernel_rfl) (by kernel_rfl) (by kernel_rfl) (fun _ _ _ h => h) (by rfl) ?_ (by assumption) ?_
    rotate_left
    · intro X hSX
      try dsimp only at hSX
      go_simp <;> with_reducible rfl
    simp only [Act.put, List.setIfInBounds_toArray, List.set_cons_zero, List.set_cons_succ]
    refine held_take (i := 3) (v := ?_) rfl (by kernel_rfl) (by kernel_rfl) (by kernel_rfl) (fun _ _ _ h => h) (by rfl) ?_ (by assumption) ?_
    rotate_left
    · intro X hSX
      try dsimp only at hSX
      go_simp <;> with_reducible rfl
    simp only [Act.put, List.setIfInBounds_toArray, List.set_cons_zero, List.set_cons_succ]
    refine held_take (i := 4) (v := ?_) rfl (by kernel_rfl) (by kernel_rfl) (by kernel_rfl) (fun _ _ _ h => h) (by rfl) ?_ (by assumption) ?_
    rotate_left
    · intro X hSX
      try dsimp only at hSX
      go_simp <;> with_reducible rfl
    simp only [Act.put, List.setIfInBounds_toArray, List.set_cons_zero, List.set_cons_succ]
    refine held_take (i := 5) (v := ?_) rfl (by kernel_rfl) (by kernel_rfl) (by kernel_rfl) (fun _ _ _ h => h) (by rfl) ?_ (by assumption) ?_
    rotate_left
    · intro X hSX
      try dsimp only at hSX
      go_simp <;> with_reducible rfl
    simp only [Act.put, List.setIfInBounds_toArray, List.set_cons_zero, List.set_cons_succ]
    refine held_take (i := 6) (v := ?_) rfl (by kernel_rfl) (by kernel_rfl) (by kernel_rfl) (fun _ _ _ h => h) (by rfl) ?_ (by assumption) ?_
    rotate_left
    · intro X hSX
      try dsimp only at hSX
      go_simp <;> with_reducible rfl
    simp only [Act.put, List.setIfInBounds_toArray, List.set_cons_zero, List.set_cons_succ]
    refine held_take (i := 7) (v := ?_) rfl (by kernel_rfl) (by kernel_rfl) (by kernel_rfl) (fun _ _ _ h => h) (by rfl) ?_ (by assumption) ?_
    rotate_left
    · intro X hSX
      try dsimp only at hSX
      go_simp <;> with_reducible rfl
    simp only [Act.put, List.setIfInBounds_toArray, List.set_cons_zero, List.set_cons_succ]
    refine held_take (i := 8) (v := ?_) rfl (by kernel_rfl) (by kernel_rfl) (by kernel_rfl) (fun _ _ _ h => h) (by rfl) ?_ (by assumption) ?_
    rotate_left
    · intro X hSX
      try dsimp only at hSX
      go_simp <;> with_reducible rfl
    simp only [Act.put, List.setIfInBounds_toArray, List.set_cons_zero, List.set_cons_succ]
    refine held_take (i := 9) (v := ?_) rfl (by kernel_rfl) (by kernel_rfl) (by kernel_rfl) (fun _ _ _ h => h) (by rfl) ?_ (by assumption) ?_
    rotate_left
    · intro X hSX
      try dsimp only at hSX
      go_simp <;> with_reducible rfl
    simp only [Act.put, List.setIfInBounds_toArray, List.set_cons_zero, List.set_cons_succ]
    refine held_take (i := 10) (v := ?_) rfl (by kernel_rfl) (by kernel_rfl) (by kernel_rfl) (fun _ _ _ h => h) (by rfl) ?_ (by assumption) ?_
    rotate_left
    · intro X hSX
      try dsimp only at hSX
      go_simp <;> with_reducible rfl
    simp only [Act.put, List.setIfInBounds_toArray, List.set_cons_zero, List.set_cons_succ]
    refine wpAnyH_done (by kernel_rfl) ?_ _
    refine NoPanic.normal ?_
    have HX4 := Lib.hid (HX3.out.below (Below.refl X3.heap.size X3).drew HX3.out.lt)
    have HS4 := Lib.hid (((Below.refl X3.heap.size X3).drew.block _ (Array.getElem?_eq_some_iff.1 HS3.out).1).trans HS3.out)
    have HB4 := Lib.hid (HB3.out.trans ((Below.refl X3.heap.size X3).drew.mono HB3.out.size))
    have HI4 := Lib.hid (HI3.out.below (Below.refl X3.heap.size X3).drew)
    generalize World.drew X3 = X4 at *
    obtain ⟨A, hA⟩ : ∃ A, A = F / 64 := ⟨_, rfl⟩
    obtain ⟨B, hB⟩ : ∃ B, B = (F + l - 1) / 64 := ⟨_, rfl⟩
    have e1 : IntKind.i64.wrap (F.tdiv 64) = A := by rw [Int.tdiv_eq_ediv_of_nonneg hF0.1, ← hA]; exact IntWalk.i64_in _ (by omega)
    have e2 : IntKind.i64.wrap ((F + l - 1).tdiv 64) = B := by rw [Int.tdiv_eq_ediv_of_nonneg (by omega), ← hB]; exact IntWalk.i64_in _ (by omega)
    rw [e1, e2]
    rw [← hA, ← hB] at HU
    have hab : 0 ≤ A ∧ A ≤ 1000000 ∧ 0 ≤ B ∧ B ≤ 1000000 := by omega
    clear hA hB e1 e2
    clear HX3 HS3 HB3 HI3 kw4 kw5 kw1 hS0
    go_wp2_with (with_reducible refine ld_hdr rfl (.tmp 4) rfl rfl HX4.out ?_)
    refine (HHB.out _ HI4.out).mono ?_
    rintro e X5 ⟨rfl, hb5⟩
    have HS5 := Lib.hid ((hb5.block _ (Array.getElem?_eq_some_iff.1 HS4.out).1).trans HS4.out)
    have HB5 := Lib.hid (HB4.out.trans (hb5.mono HB4.out.size))
    have hln := HLN.out.2
    clear hb5 HX4 HS4 HB4 HI4 HHB HHU HLN
    generalize (hbL h).length = L at *
    have kx1 : IntKind.i64.wrap ((L : Int) + A) = (L : Int) + A := IntWalk.i64_in _ (by omega)
    have kx2 : IntKind.i64.wrap (B - A) = B - A := IntWalk.i64_in _ (by omega)
    have kx3 : IntKind.i64.wrap (B - A + 1) = B - A + 1 := IntWalk.i64_in _ (by omega)
    go_wp2_with (with_reducible refine st_span rfl (.tmp 8) (.tmp 74) rfl rfl _ _ rfl HS5.out ?_)
    refine post_cell2 (cs := #[.int .i64 _, .int .i64 _]) (x := .int .i64 0) rfl rfl (setRow_heap _ _ _ _ _ _ HS5.out) Tryd.underlying46 rfl infoSp rfl rfl ?_
    exact ⟨by rw [HU.out], below_set HB5.out (by omega) _⟩
end Go.Proofs.YtjiijjdmkeeilaaDoor
