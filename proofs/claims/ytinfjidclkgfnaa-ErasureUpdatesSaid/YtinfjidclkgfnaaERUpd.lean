/-
  Update, by the specification.
-/
import Derived.Test.YtinfjidclkgfnaaEUpdM
import Derived.Test.YtinfjidclkgfnaaEHeldQ
import Derived.Test.YtinfjidclkgfnaaERPar
namespace Go.Proofs.Ytinfjidclkgfnaa
open Go.RowKit
theorem up_step (cf : UInt8) (par old new : List UInt8) (q : Nat) (hp : q < par.length) (ho : q < old.length) (hn : q < new.length) : (combL [1, cf] [par, combL [1, 1] [old, new]]).take q ++ [par[q] ^^^ mulU cf (old[q] ^^^ new[q])] = (combL [1, cf] [par, combL [1, 1] [old, new]]).take (q + 1) := by
  have h1 : q < (combL [1, 1] [old, new]).length := by rw [combL_two_length]; exact ho
  have h2 : q < (combL [1, cf] [par, combL [1, 1] [old, new]]).length := by rw [combL_two_length]; exact hp
  rw [List.take_add_one, List.getElem?_eq_getElem h2, combL_two 1 cf par _ q hp h1 h2, combL_two 1 1 old new q ho hn h1, one_mulU, one_mulU, one_mulU]
  rfl
attribute [local irreducible] cauL combL parL sameL upE upR upL cauF encL mulU
set_option maxRecDepth 100000 in
set_option maxHeartbeats 2000000 in
theorem rupdate_any (ad od nd : Option Addr) (n cap m1 oc m2 nc : Nat) (ls : List (List UInt8)) (old new : List UInt8) (d x : Int) (w : World) (hl : Lr w ad ls) (hn : n = ls.length) (hn2 : n ≤ 1000)
    (ho : Hds w (.slice od m1 oc) old) (hm1 : old.length ≤ 1000) (hw : Hds w (.slice nd m2 nc) new) (hm2 : new.length ≤ 1000) :
    Calls Try.prog 21 #[.slice ad n cap, .int .i64 d, .int .i64 x, .slice od m1 oc, .slice nd m2 nc] w (UpdP w ls d x old new) := by
  have HL := Lib.hid hl
  have HN := Lib.hid hn
  have HO := Lib.hid ho
  have HW := Lib.hid hw
  clear hl ho hw
  rcases hv : vc d (n : Int) with _ | _
  · have HF : Hid (upE ls d x old new = 7) := Lib.hid (upE_range (.inl (by rw [← hn]; exact hv)))
    clear hn
    go_enter Try.func21, Try.ntmps21
    go_wp2_with fail
    refine (rcounts_any d n w).mono ?_
    rintro e w' ⟨rfl, rfl⟩
    rw [hv]
    go_wp2
    go_ret2
    exact UpdP.no (by decide) HF.out (Below.refl _ _)
  have HV : Hid (vc d (ls.length : Int) = true) := Lib.hid (by rw [← hn]; exact hv)
  have hq := (vc_iff _ _).1 hv
  by_cases hx0 : x < 0
  · have HF : Hid (upE ls d x old new = 7) := Lib.hid (upE_range (.inr (.inl hx0)))
    clear hn
    go_enter Try.func21, Try.ntmps21
    go_wp2_with fail
    refine (rcounts_any d n w).mono ?_
    rintro e w' ⟨rfl, rfl⟩
    rw [hv]
    go_wp2
    go_ret2
    exact UpdP.no (by decide) HF.out (Below.refl _ _)
  by_cases hx1 : d ≤ x
  · have HF : Hid (upE ls d x old new = 7) := Lib.hid (upE_range (.inr (.inr hx1)))
    clear hn
    go_enter Try.func21, Try.ntmps21
    go_wp2_with fail
    refine (rcounts_any d n w).mono ?_
    rintro e w' ⟨rfl, rfl⟩
    rw [hv]
    go_wp2
    go_ret2
    exact UpdP.no (by decide) HF.out (Below.refl _ _)
  obtain ⟨k, rfl⟩ := Int.eq_ofNat_of_zero_le (show 0 ≤ d by omega)
  obtain ⟨y, rfl⟩ := Int.eq_ofNat_of_zero_le (show 0 ≤ x by omega)
  have hyk : y < k := by omega
  have hk1 : 1 ≤ k := by omega
  have hkn : k + n ≤ 16 := by omega
  obtain ⟨od', oc', eo, hlo, go1, go2, go3⟩ := HO.out
  obtain ⟨nd', nc', en, hln, gn1, gn2, gn3⟩ := HW.out
  cases eo
  cases en
  have HLO := Lib.hid hlo
  have HLN := Lib.hid hln
  have HSC := Lib.hid (same_cons old new ls)
  obtain ⟨mo, hmo⟩ : ∃ mo, mo = old.length := ⟨_, rfl⟩
  obtain ⟨mn, hmn⟩ : ∃ mn, mn = new.length := ⟨_, rfl⟩
  rw [← hmo] at go1 hm1 HO ⊢
  rw [← hmn] at gn1 hm2 HW ⊢
  have HMO := Lib.hid hmo
  have HMN := Lib.hid hmn
  clear hn hq hlo hln hmo hmn go3 gn3
  unfold maxLen at go2 gn2
  by_cases hmon : mn = mo
  rotate_left
  · have HF : Hid (upE ls k y old new = 8) := Lib.hid (upE_same HV.out (by omega) (by omega) (by
      rw [← Bool.not_eq_true]
      intro h
      exact hmon (by rw [HMO.out, HMN.out]; exact ((HSC.out).1 h).1)))
    have hne : ¬ (mo : Int) = (mn : Int) := by omega
    go_enter Try.func21, Try.ntmps21
    go_wp2_with fail
    refine (rcounts_any (k : Int) n w).mono ?_
    rintro e w' ⟨rfl, rfl⟩
    rw [hv]
    clear hv
    go_wp2
    go_ret2
    exact UpdP.no (by decide) HF.out (Below.refl _ _)
  subst hmon
  have HMM : Hid (new.length = old.length) := Lib.hid (by rw [← HMN.out, ← HMO.out])
  go_enter Try.func21, Try.ntmps21
  go_wp2_with fail
  refine (rcounts_any (k : Int) n w).mono ?_
  rintro e w' ⟨rfl, rfl⟩
  rw [hv]
  clear hv
  go_wp2_with fail
  refine (rrows_any k n w hk1 (by omega)).mono ?_
  rintro e w1 ⟨v1, rfl, ho1, hb1⟩
  obtain ⟨a1, c1, rfl, hl1, hc1, hm1', -⟩ := ho1.read
  rw [encL_length] at hc1 ⊢
  have HLR := Lib.hid hl1
  have HB1 := Lib.hid hb1
  have HUL := Lib.hid (upL_length ls k y old new)
  have HUT := Lib.hid (upL_take ls k y old new)
  have HEL := Lib.hid (encL_length k n)
  have HER := Lib.hid (encL_row k n)
  have HEG := Lib.hid (encL_get k n)
  unfold maxLen at hm1'
  clear ho1 hb1 hl1
  go_wp2_with fail
  go_loopg [13, 14] n (fun gk vo vi wx => ∃ i : Nat, vi = .int .i64 i ∧ i + gk = n ∧ Hid (Lq wx w1.heap.size w1.heap.size vo ((upL ls k y old new).take i)) ∧ Hid (∀ j (h : j < ls.length), j < i → (ls[j]).length = old.length) ∧ Hid (Below w1.heap.size w1 wx))
  case atStart => exact ⟨0, rfl, by omega, Lib.hid (by rw [List.take_zero]; exact Lq.nil _ _ _), Lib.hid (fun j _ h => by omega), Lib.hid (Below.refl _ _)⟩
  case round =>
    obtain ⟨i, rfl, hi, hO, hall, hB⟩ := hrel
    cases gk with
    | zero =>
      have hlt : ¬ (i : Int) < (n : Int) := by omega
      obtain rfl : i = n := by omega
      have HF : Hid (upE ls k y old new = 0) := Lib.hid (upE_ok HV.out (by omega) (by omega) ((HSC.out).2 ⟨HMM.out, fun r hr => by obtain ⟨j, hj, rfl⟩ := List.mem_iff_getElem.1 hr; exact hall.out j hj (by have := HN.out; omega)⟩))
      have hO1 := hO.out
      rw [List.take_of_length_le (by rw [HUL.out, ← HN.out]; exact Nat.le_refl _)] at hO1
      have HOF := Lib.hid (hO1.mono HB1.out.size HB1.out.size)
      have HBF := Lib.hid (HB1.out.trans (hB.out.mono HB1.out.size))
      clear hO1 hO
      go_wp2
      go_ret2
      exact UpdP.ok HF.out HOF.out HBF.out
    | succ gk0 =>
      have hlt : (i : Int) < (n : Int) := by omega
      have hiN : i < n := by omega
      have hil : i < ls.length := by have := HN.out; omega
      have HBW := Lib.hid (HB1.out.trans (hB.out.mono HB1.out.size))
      obtain ⟨bp, offp, ep, hbp, a2, c2, f1, l1, g1, m1, -⟩ := HL.out.row i hil
      subst ep
      have f2 : wr.cell? ⟨bp, offp + i, none⟩ = some (.slice a2 (ls[i]).length c2) := (HBW.out.cell (p := ⟨bp, offp + i, none⟩) hbp).trans f1
      by_cases hpl : (ls[i]).length = mn
      rotate_left
      · have HF : Hid (upE ls k y old new = 8) := Lib.hid (upE_same HV.out (by omega) (by omega) (by
          rw [← Bool.not_eq_true]
          intro h
          exact hpl (by rw [HMO.out]; exact ((HSC.out).1 h).2 _ (List.getElem_mem hil))))
        have hne : ¬ ((ls[i]).length : Int) = (mn : Int) := by omega
        generalize (ls[i]).length = N at f2 hne
        clear f1 l1 g1 hpl hil hO hall
        go_wp2
        go_ret2
        exact UpdP.no (by decide) HF.out HBW.out
      have HNX : Hid (∀ j (h : j < ls.length), j < i + 1 → (ls[j]).length = old.length) := Lib.hid fun j h hj => by
        rcases Nat.lt_or_ge j i with h' | h'
        · exact hall.out j h h'
        · obtain rfl : j = i := by omega
          rw [hpl]; exact HMO.out
      rw [hpl] at f1 f2 g1
      -- the factor
      have hie : k + i < (encL k n).length := by rw [HEL.out]; omega
      obtain ⟨b7, off7, e7, hb7, a8, c8, f8, l8, g8, m8, -⟩ := HLR.out.row (k + i) hie
      subst e7
      have hrl : ((encL k n)[k + i]).length = k := HER.out _ (List.getElem_mem hie)
      have hrw := HEG.out (k + i) hie
      rw [hrl] at f8 g8
      obtain ⟨b9, off9, rfl, hb9, hc9⟩ := l8.ev (by rw [hrl]; omega)
      have f10 := hc9 y (by rw [hrl]; exact hyk)
      have hcf : ((encL k n)[k + i])[y]'(by rw [hrl]; exact hyk) = cauF k i y := by
        have g2 : ∀ (r : List UInt8) (h : y < r.length), r = rowF k (encF k (k + i)) → r[y] = cauF k i y := fun r h e => by
          subst e
          rw [rowF_get]
          unfold encF
          rw [if_neg (by omega), Nat.add_sub_cancel_left]
        exact g2 _ _ hrw
      rw [hcf] at f10
      obtain ⟨W0, HW0⟩ : ∃ W0 : World, Hid (W0 = wr) := ⟨_, Lib.hid rfl⟩
      have HB0 : Hid (Below w1.heap.size w1 W0) := Lib.hid (by rw [HW0.out]; exact hB.out)
      have HB00 : Hid (Below w.heap.size w W0) := Lib.hid (by rw [HW0.out]; exact HBW.out)
      have HO0 : Hid (Lq W0 w1.heap.size w1.heap.size u13 ((upL ls k y old new).take i)) := Lib.hid (by rw [HW0.out]; exact hO.out)
      have HD00 : Hid (Below W0.heap.size W0 wr) := Lib.hid (by rw [HW0.out]; exact Below.refl _ _)
      have HX1 : Hid (∀ X, Below W0.heap.size W0 X → X.cell? ⟨bp, offp + i, none⟩ = some (.slice a2 mn c2)) := Lib.hid fun X hX => ((HB00.out.trans (hX.mono HB00.out.size)).cell (p := ⟨bp, offp + i, none⟩) hbp).trans f1
      have HX3 : Hid (∀ X, Below W0.heap.size W0 X → X.cell? ⟨b7, off7 + (k + i), none⟩ = some (.slice (some ⟨b9, off9, none⟩) k c8)) := Lib.hid fun X hX => ((HB0.out.trans (hX.mono HB0.out.size)).cell (p := ⟨b7, off7 + (k + i), none⟩) hb7).trans f8
      have HX4 : Hid (∀ X, Below W0.heap.size W0 X → X.cell? ⟨b9, off9 + y, none⟩ = some (.int .u8 (ev (cauF k i y)))) := Lib.hid fun X hX => ((HB0.out.trans (hX.mono HB0.out.size)).cell (p := ⟨b9, off9 + y, none⟩) hb9).trans f10
      have HLP : Hid (Lie W0 a2 (ls[i])) := Lib.hid (l1.below HB00.out rfl)
      have HLO0 : Hid (Lie W0 od old) := Lib.hid (HLO.out.below HB00.out rfl)
      have HLN0 : Hid (Lie W0 nd new) := Lib.hid (HLN.out.below HB00.out rfl)
      have HUX := Lib.hid (HUT.out i hil)
      have HPL := Lib.hid hpl
      have hx0' : IntKind.i64.wrap ((k : Int) + (i : Int)) = ((k + i : Nat) : Int) := by rw [IntKind.wrap_i64]; omega
      have hi2 : k + i < k + n := by omega
      have hi3 : ((k + i : Nat) : Int) < (k : Int) + (n : Int) := by omega
      have HTL : Hid (((upL ls k y old new).take i).length ≤ 100) := Lib.hid (by rw [List.length_take]; omega)
      have HCL : Hid (∀ cf par, par.length = mn → (combL [1, cf] [par, combL [1, 1] [old, new]]).length = mn) := Lib.hid fun cf par h => by rw [combL_two_length]; exact h
      unfold maxLen at m1 m8
      generalize ls[i] = par at HLP HUX HPL
      generalize cauF k i y = cf at HX4 HUX
      clear f1 l1 f8 l8 f10 hcf hc9 hrl hrw hie hil hpl hall hO
      generalize hNK : k + i = NK at *
      clear hNK
      go_wp2_with fail
      clear f2
      go_loopg [15, 16] mn (fun gq vx vq wx => ∃ q : Nat, vq = .int .i64 q ∧ q + gq = mn ∧ Hid (Own wx W0.heap.size vx ((combL [1, cf] [par, combL [1, 1] [old, new]]).take q)) ∧ Hid (Below W0.heap.size W0 wx))
      case atStart => exact ⟨0, rfl, by omega, Lib.hid (by rw [List.take_zero]; exact Own.ofNil _ _), HD00⟩
      case round =>
        obtain ⟨q, rfl, hq, hOq, hBq⟩ := hrel
        cases gk with
        | zero =>
          have hltq : ¬ (q : Int) < (mn : Int) := by omega
          obtain rfl : q = mn := by omega
          have hOq1 := hOq.out
          rw [List.take_of_length_le (by rw [HCL.out cf par HPL.out]; exact Nat.le_refl _)] at hOq1
          have HB6 := Lib.hid (hBq.out.alloc hBq.out.size (.cells #[u15] 33))
          have HO6 := Lib.hid (HO0.out.below HB6.out)
          have HX6 := Lib.hid (Lx.one (C := W0.heap.size) (x := u13.ownBlock) wr u15 _ _ rfl (LieX.of_own hOq1 fun g hg => (HO0.out.lt g hg).2))
          have HZ6 : Hid (w1.heap.size ≤ (wr.alloc (.cells #[u15] 33)).heap.size) := Lib.hid (Nat.le_trans HB0.out.size HB6.out.size)
          obtain ⟨ad6, cap6, e6, -⟩ := hOq1.slice
          subst e6
          clear hOq hOq1
          go_wp2_with (at_builtin; refine wpList_append_q rfl (.tmp 90) (.tmp 92) rfl w1.heap.size w1.heap.size W0.heap.size w1.heap.size u13 _ rfl HO6.out _ 1 1 [combL [1, cf] [par, combL [1, 1] [old, new]]] (fun h => by cases h) HX6.out rfl rfl (by have := HTL.out; omega) HZ6.out (Nat.le_refl _) HB0.out.size ?_; intro v7 w7 ho7 hg7 _; rw [← HUX.out] at ho7; have HO7 := Lib.hid ho7; have HB7 : Hid (Below w1.heap.size w1 w7) := Lib.hid (HO6.out.grow (HB0.out.trans (HB6.out.mono HB0.out.size)) (Nat.le_refl _) hg7); clear ho7 hg7)
          go_roundg gk0
          case rel => exact ⟨i + 1, by go_num, by omega, HO7, HNX, HB7⟩
          case measure => omega
        | succ gq0 =>
          have hltq : (q : Int) < (mn : Int) := by omega
          have hqm : q < mn := by omega
          have hqp : q < par.length := by rw [HPL.out]; exact hqm
          have hqo : q < old.length := by rw [← HMO.out]; exact hqm
          have hqn : q < new.length := by rw [← HMN.out]; exact hqm
          obtain ⟨b2, off2, rfl, hb2, hc2⟩ := HLP.out.ev (by omega)
          obtain ⟨b3, off3, rfl, hb3, hc3⟩ := HLO0.out.ev (by omega)
          obtain ⟨b4, off4, rfl, hb4, hc4⟩ := HLN0.out.ev (by omega)
          have HX2 : Hid (∀ X, Below W0.heap.size W0 X → X.cell? ⟨b2, off2 + q, none⟩ = some (.int .u8 (ev (par[q])))) := Lib.hid fun X hX => (hX.cell (p := ⟨b2, off2 + q, none⟩) hb2).trans (hc2 q hqp)
          have HX5 : Hid (∀ X, Below W0.heap.size W0 X → X.cell? ⟨b3, off3 + q, none⟩ = some (.int .u8 (ev (old[q])))) := Lib.hid fun X hX => (hX.cell (p := ⟨b3, off3 + q, none⟩) hb3).trans (hc3 q hqo)
          have HX6 : Hid (∀ X, Below W0.heap.size W0 X → X.cell? ⟨b4, off4 + q, none⟩ = some (.int .u8 (ev (new[q])))) := Lib.hid fun X hX => (hX.cell (p := ⟨b4, off4 + q, none⟩) hb4).trans (hc4 q hqn)
          have HST := Lib.hid (up_step cf par old new q hqp hqo hqn)
          generalize par[q] = z1 at HX2 HST
          generalize old[q] = z2 at HX5 HST
          generalize new[q] = z3 at HX6 HST
          have hxa := bits_xor_ev z2 z3
          have hxb := bits_xor_ev z1 (mulU cf (z2 ^^^ z3))
          have HTQ : Hid (((combL [1, cf] [par, combL [1, 1] [old, new]]).take q).length ≤ 1000) := Lib.hid (by rw [List.length_take]; omega)
          have HD0 : Below W0.heap.size W0 wr.drew := hBq.out.drew
          have HOD : Hid (Own wr.drew W0.heap.size u15 ((combL [1, cf] [par, combL [1, 1] [old, new]]).take q)) := Lib.hid (hOq.out.below (Below.refl _ _).drew)
          clear hc2 hc3 hc4 hqp hqo hqn hOq
          go_wp2_with fail
          refine wp_region_noPanic ?_
          refine wp_region_held_drew (S := fun X => Below W0.heap.size W0 X) (by kernel_rfl) (HD0) (fun hS0 => ?_)
          refine held_take (i := 0) (v := ?_) rfl (by kernel_rfl) (by kernel_rfl) (by kernel_rfl) (fun _ _ _ h => h) (by rfl) ?_ (by assumption) ?_
          rotate_left
          · intro X hSX
            try dsimp only at hSX
            go_simp <;> with_reducible rfl
          simp only [Act.put, List.setIfInBounds_toArray, List.set_cons_zero, List.set_cons_succ]
          refine held_take (i := 1) (v := ?_) rfl (by kernel_rfl) (by kernel_rfl) (by kernel_rfl) (fun _ _ _ h => h) (by rfl) ?_ (by assumption) ?_
          rotate_left
          · intro X hSX
            try dsimp only at hSX
            go_simp <;> with_reducible rfl
          simp only [Act.put, List.setIfInBounds_toArray, List.set_cons_zero, List.set_cons_succ]
          refine held_take (i := 2) (v := ?_) rfl (by kernel_rfl) (by kernel_rfl) (by kernel_rfl) (fun _ _ _ h => h) (by rfl) ?_ (by assumption) ?_
          rotate_left
          · intro X hSX
            try dsimp only at hSX
            go_simp <;> with_reducible rfl
          simp only [Act.put, List.setIfInBounds_toArray, List.set_cons_zero, List.set_cons_succ]
          refine held_take (i := 3) (v := ?_) rfl (by kernel_rfl) (by kernel_rfl) (by kernel_rfl) (fun _ _ _ h => h) (by rfl) ?_ (by assumption) ?_
          rotate_left
          · intro X hSX
            try dsimp only at hSX
            go_simp <;> with_reducible rfl
          simp only [Act.put, List.setIfInBounds_toArray, List.set_cons_zero, List.set_cons_succ]
          refine held_take (i := 4) (v := ?_) rfl (by kernel_rfl) (by kernel_rfl) (by kernel_rfl) (fun _ _ _ h => h) (by rfl) ?_ (by assumption) ?_
          rotate_left
          · intro X hSX
            try dsimp only at hSX
            have hcell := HX1.out X hSX
            go_simp <;> with_reducible rfl
          simp only [Act.put, List.setIfInBounds_toArray, List.set_cons_zero, List.set_cons_succ]
          refine held_take (i := 5) (v := ?_) rfl (by kernel_rfl) (by kernel_rfl) (by kernel_rfl) (fun _ _ _ h => h) (by rfl) ?_ (by assumption) ?_
          rotate_left
          · intro X hSX
            try dsimp only at hSX
            go_simp <;> with_reducible rfl
          simp only [Act.put, List.setIfInBounds_toArray, List.set_cons_zero, List.set_cons_succ]
          refine held_take (i := 6) (v := ?_) rfl (by kernel_rfl) (by kernel_rfl) (by kernel_rfl) (fun _ _ _ h => h) (by rfl) ?_ (by assumption) ?_
          rotate_left
          · intro X hSX
            try dsimp only at hSX
            go_simp <;> with_reducible rfl
          simp only [Act.put, List.setIfInBounds_toArray, List.set_cons_zero, List.set_cons_succ]
          refine held_take (i := 7) (v := ?_) rfl (by kernel_rfl) (by kernel_rfl) (by kernel_rfl) (fun _ _ _ h => h) (by rfl) ?_ (by assumption) ?_
          rotate_left
          · intro X hSX
            try dsimp only at hSX
            have hcell := HX2.out X hSX
            go_simp <;> with_reducible rfl
          simp only [Act.put, List.setIfInBounds_toArray, List.set_cons_zero, List.set_cons_succ]
          refine held_take (i := 8) (v := ?_) rfl (by kernel_rfl) (by kernel_rfl) (by kernel_rfl) (fun _ _ _ h => h) (by rfl) ?_ (by assumption) ?_
          rotate_left
          · intro X hSX
            try dsimp only at hSX
            go_simp <;> with_reducible rfl
          simp only [Act.put, List.setIfInBounds_toArray, List.set_cons_zero, List.set_cons_succ]
          refine held_take (i := 9) (v := ?_) rfl (by kernel_rfl) (by kernel_rfl) (by kernel_rfl) (fun _ _ _ h => h) (by rfl) ?_ (by assumption) ?_
          rotate_left
          · intro X hSX
            try dsimp only at hSX
            go_simp <;> with_reducible rfl
          simp only [Act.put, List.setIfInBounds_toArray, List.set_cons_zero, List.set_cons_succ]
          refine held_take (i := 10) (v := ?_) rfl (by kernel_rfl) (by kernel_rfl) (by kernel_rfl) (fun _ _ _ h => h) (by rfl) ?_ (by assumption) ?_
          rotate_left
          · intro X hSX
            try dsimp only at hSX
            go_simp <;> with_reducible rfl
          simp only [Act.put, List.setIfInBounds_toArray, List.set_cons_zero, List.set_cons_succ]
          refine held_take (i := 11) (v := ?_) rfl (by kernel_rfl) (by kernel_rfl) (by kernel_rfl) (fun _ _ _ h => h) (by rfl) ?_ (by assumption) ?_
          rotate_left
          · intro X hSX
            try dsimp only at hSX
            go_simp <;> with_reducible rfl
          simp only [Act.put, List.setIfInBounds_toArray, List.set_cons_zero, List.set_cons_succ]
          refine held_take (i := 12) (v := ?_) rfl (by kernel_rfl) (by kernel_rfl) (by kernel_rfl) (fun _ _ _ h => h) (by rfl) ?_ (by assumption) ?_
          rotate_left
          · intro X hSX
            try dsimp only at hSX
            go_simp <;> with_reducible rfl
          simp only [Act.put, List.setIfInBounds_toArray, List.set_cons_zero, List.set_cons_succ]
          refine held_take (i := 13) (v := ?_) rfl (by kernel_rfl) (by kernel_rfl) (by kernel_rfl) (fun _ _ _ h => h) (by rfl) ?_ (by assumption) ?_
          rotate_left
          · intro X hSX
            try dsimp only at hSX
            have hcell := HX3.out X hSX
            go_simp <;> with_reducible rfl
          simp only [Act.put, List.setIfInBounds_toArray, List.set_cons_zero, List.set_cons_succ]
          refine held_take (i := 14) (v := ?_) rfl (by kernel_rfl) (by kernel_rfl) (by kernel_rfl) (fun _ _ _ h => h) (by rfl) ?_ (by assumption) ?_
          rotate_left
          · intro X hSX
            try dsimp only at hSX
            go_simp <;> with_reducible rfl
          simp only [Act.put, List.setIfInBounds_toArray, List.set_cons_zero, List.set_cons_succ]
          refine held_take (i := 15) (v := ?_) rfl (by kernel_rfl) (by kernel_rfl) (by kernel_rfl) (fun _ _ _ h => h) (by rfl) ?_ (by assumption) ?_
          rotate_left
          · intro X hSX
            try dsimp only at hSX
            go_simp <;> with_reducible rfl
          simp only [Act.put, List.setIfInBounds_toArray, List.set_cons_zero, List.set_cons_succ]
          refine held_take (i := 16) (v := ?_) rfl (by kernel_rfl) (by kernel_rfl) (by kernel_rfl) (fun _ _ _ h => h) (by rfl) ?_ (by assumption) ?_
          rotate_left
          · intro X hSX
            try dsimp only at hSX
            have hcell := HX4.out X hSX
            go_simp <;> with_reducible rfl
          simp only [Act.put, List.setIfInBounds_toArray, List.set_cons_zero, List.set_cons_succ]
          refine held_take (i := 17) (v := ?_) rfl (by kernel_rfl) (by kernel_rfl) (by kernel_rfl) (fun _ _ _ h => h) (by rfl) ?_ (by assumption) ?_
          rotate_left
          · intro X hSX
            try dsimp only at hSX
            go_simp <;> with_reducible rfl
          simp only [Act.put, List.setIfInBounds_toArray, List.set_cons_zero, List.set_cons_succ]
          refine held_take (i := 18) (v := ?_) rfl (by kernel_rfl) (by kernel_rfl) (by kernel_rfl) (fun _ _ _ h => h) (by rfl) ?_ (by assumption) ?_
          rotate_left
          · intro X hSX
            try dsimp only at hSX
            go_simp <;> with_reducible rfl
          simp only [Act.put, List.setIfInBounds_toArray, List.set_cons_zero, List.set_cons_succ]
          refine held_take (i := 19) (v := ?_) rfl (by kernel_rfl) (by kernel_rfl) (by kernel_rfl) (fun _ _ _ h => h) (by rfl) ?_ (by assumption) ?_
          rotate_left
          · intro X hSX
            try dsimp only at hSX
            go_simp <;> with_reducible rfl
          simp only [Act.put, List.setIfInBounds_toArray, List.set_cons_zero, List.set_cons_succ]
          refine held_take (i := 20) (v := ?_) rfl (by kernel_rfl) (by kernel_rfl) (by kernel_rfl) (fun _ _ _ h => h) (by rfl) ?_ (by assumption) ?_
          rotate_left
          · intro X hSX
            try dsimp only at hSX
            have hcell := HX5.out X hSX
            go_simp <;> with_reducible rfl
          simp only [Act.put, List.setIfInBounds_toArray, List.set_cons_zero, List.set_cons_succ]
          refine held_take (i := 21) (v := ?_) rfl (by kernel_rfl) (by kernel_rfl) (by kernel_rfl) (fun _ _ _ h => h) (by rfl) ?_ (by assumption) ?_
          rotate_left
          · intro X hSX
            try dsimp only at hSX
            go_simp <;> with_reducible rfl
          simp only [Act.put, List.setIfInBounds_toArray, List.set_cons_zero, List.set_cons_succ]
          refine held_take (i := 22) (v := ?_) rfl (by kernel_rfl) (by kernel_rfl) (by kernel_rfl) (fun _ _ _ h => h) (by rfl) ?_ (by assumption) ?_
          rotate_left
          · intro X hSX
            try dsimp only at hSX
            go_simp <;> with_reducible rfl
          simp only [Act.put, List.setIfInBounds_toArray, List.set_cons_zero, List.set_cons_succ]
          refine held_take (i := 23) (v := ?_) rfl (by kernel_rfl) (by kernel_rfl) (by kernel_rfl) (fun _ _ _ h => h) (by rfl) ?_ (by assumption) ?_
          rotate_left
          · intro X hSX
            try dsimp only at hSX
            go_simp <;> with_reducible rfl
          simp only [Act.put, List.setIfInBounds_toArray, List.set_cons_zero, List.set_cons_succ]
          refine held_take (i := 24) (v := ?_) rfl (by kernel_rfl) (by kernel_rfl) (by kernel_rfl) (fun _ _ _ h => h) (by rfl) ?_ (by assumption) ?_
          rotate_left
          · intro X hSX
            try dsimp only at hSX
            have hcell := HX6.out X hSX
            go_simp <;> with_reducible rfl
          simp only [Act.put, List.setIfInBounds_toArray, List.set_cons_zero, List.set_cons_succ]
          refine held_take (i := 25) (v := ?_) rfl (by kernel_rfl) (by kernel_rfl) (by kernel_rfl) (fun _ _ _ h => h) (by rfl) ?_ (by assumption) ?_
          rotate_left
          · intro X hSX
            try dsimp only at hSX
            go_simp <;> with_reducible rfl
          simp only [Act.put, List.setIfInBounds_toArray, List.set_cons_zero, List.set_cons_succ]
          refine held_call (i := 26) rfl (by kernel_rfl) (by rfl) (fun K' hK' => ?_)
          go_simp
          refine (calls_left (rmul4_any cf (z2 ^^^ z3) _)).mono ?_
          rintro e w' ⟨rfl, rfl⟩
          refine held_go hK' (HD0) ?_
          try simp only [Act.put, List.setIfInBounds_toArray, List.set_cons_zero, List.set_cons_succ]
          refine held_call (i := 27) rfl (by kernel_rfl) (by rfl) (fun K' hK' => ?_)
          go_simp
          refine held_go hK' (HD0) ?_
          try simp only [Act.put, List.setIfInBounds_toArray, List.set_cons_zero, List.set_cons_succ]
          have HA1 : Hid (Below W0.heap.size W0 (wr.drew.alloc (.cells #[.int .u8 (ev (z1 ^^^ mulU cf (z2 ^^^ z3)))] 5))) := Lib.hid (HD0.alloc HD0.size _)
          have HO1 := Lib.hid (HOD.out.below ((Below.refl wr.drew.heap.size wr.drew).alloc (Nat.le_refl _) (.cells #[.int .u8 (ev (z1 ^^^ mulU cf (z2 ^^^ z3)))] 5)))
          refine held_call (i := 28) rfl (by kernel_rfl) (by rfl) (fun K' hK' => ?_)
          go_simp
          refine held_go hK' (HA1.out) ?_
          try simp only [Act.put, List.setIfInBounds_toArray, List.set_cons_zero, List.set_cons_succ]
          refine held_call (i := 29) rfl (by kernel_rfl) (by rfl) (fun K' hK' => ?_)
          refine wp_append_one (.tmp 60) (.tmp 88) rfl W0.heap.size u15 _ rfl HO1.out (z1 ^^^ mulU cf (z2 ^^^ z3)) _ rfl (cell_one_at _ _ _ _ (by simp)) (by have := HTQ.out; omega) HA1.out.size ?_
          intro v8 w8 ho8 hg8
          rw [HST.out] at ho8
          have HO8 := Lib.hid ho8
          have HB8 := Lib.hid (HA1.out.grown hg8 HA1.out.size (fun z hz => (HO1.out.lt z hz).1))
          clear ho8 hg8
          refine held_go hK' (HB8.out) ?_
          try simp only [Act.put, List.setIfInBounds_toArray, List.set_cons_zero, List.set_cons_succ]
          refine held_call (i := 30) rfl (by kernel_rfl) (by rfl) (fun K' hK' => ?_)
          try go_simp
          refine held_go hK' (HB8.out) ?_
          try simp only [Act.put, List.setIfInBounds_toArray, List.set_cons_zero, List.set_cons_succ]
          refine wpAnyH_done (by kernel_rfl) ?_ _
          refine NoPanic.normal ?_
          go_wp2
          go_roundg gq0
          case rel => exact ⟨q + 1, by go_num, by omega, HO8, HB8⟩
          case measure => omega
end Go.Proofs.Ytinfjidclkgfnaa
