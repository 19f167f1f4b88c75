/-
  Same of headers of the specification of containers.
  The law package's awake, over the contracts.
-/
import Derived.Test.YtjiijjdmkeeilaaDoorCAB
import Derived.Test.YtjiijjdmkeeilaaDoorCAE
import Derived.Test.YtjiijjdmkeeilaaDoorCAX
import Derived.Test.YtjiijjdmkeeilaaDoorCAG
namespace Go.Proofs.YtjiijjdmkeeilaaDoor
open Go.RowKit
set_option linter.unusedVariables false
set_option linter.unusedSimpArgs false
open Classical in
/-- two headers are equal -/
noncomputable def eqH (a b : Hdr) : Bool := decide (a = b)
open Classical in
theorem eqH_yes {a b : Hdr} (h : a = b) : eqH a b = true := by unfold eqH; exact decide_eq_true h
open Classical in
theorem eqH_no {a b : Hdr} (h : a ≠ b) : eqH a b = false := by unfold eqH; exact decide_eq_false h
theorem hdr_eq {a b : Hdr} (h0 : a.id = b.id) (h1 : a.kd = b.kd) (h2 : a.vr = b.vr) (h3 : a.st = b.st) (h4 : a.ix = b.ix) (h5 : a.da = b.da) (h6 : a.pa = b.pa) (h7 : a.cm = b.cm) (h8 : a.sz = b.sz) (h9 : a.sm = b.sm) (hes : a.es = b.es) : a = b := by
  cases a; cases b; simp only at *; subst_vars; rfl
theorem ite5 {α : Type} {p q r s t : Prop} [Decidable p] [Decidable q] [Decidable r] [Decidable s] [Decidable t] (h : ¬ (p ∧ q ∧ r ∧ s ∧ t)) (A B : α) : (if p then if q then if r then if s then if t then A else B else B else B else B else B) = B := by
  split
  · split
    · split
      · split
        · split
          · rename_i h1 h2 h3 h4 h5
            exact absurd ⟨h1, h2, h3, h4, h5⟩ h
          · rfl
        · rfl
      · rfl
    · rfl
  · rfl
theorem ent_ne {x y : Ent} (h : x ≠ y) : ¬ (x.f = y.f ∧ x.v = y.v ∧ x.o = y.o ∧ x.n = y.n ∧ (x.s : Int) = (y.s : Int)) := by
  rintro ⟨h1, h2, h3, h4, h5⟩
  apply h
  cases x; cases y
  simp only at h1 h2 h3 h4 h5
  have := Int.ofNat.inj h5
  subst_vars
  rfl
attribute [local irreducible] eqH
set_option maxRecDepth 100000 in
set_option maxHeartbeats 8000000 in
theorem rsameh_any (a b : Hdr) (ad : Option Addr) (n cap : Nat) (bd : Option Addr) (m mcap : Nat) (w : World) (h1 : HdIn w a ad n cap) (h2 : HdIn w b bd m mcap) (hs : n ≤ 1000000) :
    Calls Tryd.prog 14 #[hdV a ad n cap, hdV b bd m mcap] w fun e w' => e = .returned (.bool (eqH a b)) ∧ Below w.heap.size w w' := by
  have HX := Lib.hid ((HdRow.new w a ad n cap).below (co_box1 _ (boxH b bd m mcap)) (by simp))
  have HY := Lib.hid (HdRow.new (w.alloc (boxH a ad n cap)) b bd m mcap)
  rw [World.size_alloc] at HY
  have HB := Lib.hid (co_box2 w (boxH a ad n cap) (boxH b bd m mcap))
  have H1 := Lib.hid (h1.below (co_box2 w (boxH a ad n cap) (boxH b bd m mcap)))
  have H2 := Lib.hid (h2.below (co_box2 w (boxH a ad n cap) (boxH b bd m mcap)))
  have HN := Lib.hid h1.len
  have HM := Lib.hid h2.len
  clear h1 h2
  obtain ⟨-, a0, a1, a2, a3, a4, a5, a6, a7, a8, a9, a10⟩ := HX.out.at_
  obtain ⟨-, b0, b1, b2, b3, b4, b5, b6, b7, b8, b9, b10⟩ := HY.out.at_
  by_cases e0 : a.id = b.id
  rotate_left
  · have HR := Lib.hid (eqH_no (a := a) (b := b) (fun e => e0 (by rw [e])))
    have k0 := ne_t e0
    clear e0
    go_enter Tryd.func14, Tryd.ntmps14
    go_wp2
    go_ret
    exact ⟨by rw [HR.out]; rfl, HB.out⟩
  have HE0 := Lib.hid e0
  have k0 := ne_f e0
  clear e0
  by_cases e1 : a.kd = b.kd
  rotate_left
  · have HR := Lib.hid (eqH_no (a := a) (b := b) (fun e => e1 (by rw [e])))
    have k1 := ne_t e1
    clear e1
    go_enter Tryd.func14, Tryd.ntmps14
    go_wp2
    go_ret
    exact ⟨by rw [HR.out]; rfl, HB.out⟩
  have HE1 := Lib.hid e1
  have k1 := ne_f e1
  clear e1
  by_cases e2 : a.vr = b.vr
  rotate_left
  · have HR := Lib.hid (eqH_no (a := a) (b := b) (fun e => e2 (by rw [e])))
    have k2 := ne_t e2
    clear e2
    go_enter Tryd.func14, Tryd.ntmps14
    go_wp2
    go_ret
    exact ⟨by rw [HR.out]; rfl, HB.out⟩
  have HE2 := Lib.hid e2
  have k2 := ne_f e2
  clear e2
  by_cases e3 : a.st = b.st
  rotate_left
  · have HR := Lib.hid (eqH_no (a := a) (b := b) (fun e => e3 (by rw [e])))
    have k3 := ne_t e3
    clear e3
    go_enter Tryd.func14, Tryd.ntmps14
    go_wp2
    go_ret
    exact ⟨by rw [HR.out]; rfl, HB.out⟩
  have HE3 := Lib.hid e3
  have k3 := ne_f e3
  clear e3
  by_cases e4 : a.ix = b.ix
  rotate_left
  · have HR := Lib.hid (eqH_no (a := a) (b := b) (fun e => e4 (by rw [e])))
    have k4 := ne_t e4
    clear e4
    go_enter Tryd.func14, Tryd.ntmps14
    go_wp2
    go_ret
    exact ⟨by rw [HR.out]; rfl, HB.out⟩
  have HE4 := Lib.hid e4
  have k4 := ne_f e4
  clear e4
  by_cases e5 : a.da = b.da
  rotate_left
  · have HR := Lib.hid (eqH_no (a := a) (b := b) (fun e => e5 (by rw [e])))
    have k5 := ne_t e5
    clear e5
    go_enter Tryd.func14, Tryd.ntmps14
    go_wp2
    go_ret
    exact ⟨by rw [HR.out]; rfl, HB.out⟩
  have HE5 := Lib.hid e5
  have k5 := ne_f e5
  clear e5
  by_cases e6 : a.pa = b.pa
  rotate_left
  · have HR := Lib.hid (eqH_no (a := a) (b := b) (fun e => e6 (by rw [e])))
    have k6 := ne_t e6
    clear e6
    go_enter Tryd.func14, Tryd.ntmps14
    go_wp2
    go_ret
    exact ⟨by rw [HR.out]; rfl, HB.out⟩
  have HE6 := Lib.hid e6
  have k6 := ne_f e6
  clear e6
  by_cases e7 : a.cm = b.cm
  rotate_left
  · have HR := Lib.hid (eqH_no (a := a) (b := b) (fun e => e7 (by rw [e])))
    have k7 := ne_t e7
    clear e7
    go_enter Tryd.func14, Tryd.ntmps14
    go_wp2
    go_ret
    exact ⟨by rw [HR.out]; rfl, HB.out⟩
  have HE7 := Lib.hid e7
  have k7 := ne_f e7
  clear e7
  by_cases e8 : a.sz = b.sz
  rotate_left
  · have HR := Lib.hid (eqH_no (a := a) (b := b) (fun e => e8 (by rw [e])))
    have k8 := ne_t e8
    clear e8
    go_enter Tryd.func14, Tryd.ntmps14
    go_wp2
    go_ret
    exact ⟨by rw [HR.out]; rfl, HB.out⟩
  have HE8 := Lib.hid e8
  have k8 := ne_f e8
  clear e8
  by_cases e9 : a.sm = b.sm
  rotate_left
  · have HR := Lib.hid (eqH_no (a := a) (b := b) (fun e => e9 (by rw [e])))
    have k9 := ne_t (show ((a.sm : Nat) : Int) ≠ (b.sm : Int) by omega)
    clear e9
    go_enter Tryd.func14, Tryd.ntmps14
    go_wp2
    go_ret
    exact ⟨by rw [HR.out]; rfl, HB.out⟩
  have HE9 := Lib.hid e9
  have k9 := ne_f (show ((a.sm : Nat) : Int) = (b.sm : Int) by omega)
  clear e9
  by_cases el : n = m
  rotate_left
  · have HR := Lib.hid (eqH_no (a := a) (b := b) (fun e => el (by rw [HN.out, HM.out, e])))
    have kl := ne_t (show (n : Int) ≠ (m : Int) by omega)
    clear el
    go_enter Tryd.func14, Tryd.ntmps14
    go_wp2
    go_ret
    exact ⟨by rw [HR.out]; rfl, HB.out⟩
  subst el
  have kl := ne_f (show (n : Int) = (n : Int) from rfl)
  have HQ := Lib.hid (fun h => hdr_eq (a := a) (b := b) HE0.out HE1.out HE2.out HE3.out HE4.out HE5.out HE6.out HE7.out HE8.out HE9.out h)
  go_enter Tryd.func14, Tryd.ntmps14
  go_wp2_with fail
  clear a0 a1 a2 a3 a4 a5 a6 a7 a8 a9 a10 b0 b1 b2 b3 b4 b5 b6 b7 b8 b9 b10 k0 k1 k2 k3 k4 k5 k6 k7 k8 k9 kl
  generalize World.alloc (World.alloc w _) _ = X0 at *
  go_loopg [5] n (fun gk v5 wx => ∃ i : Nat, v5 = .int .i64 i ∧ i + gk = n ∧ Hid (∀ j (h : j < a.es.length) (h' : j < b.es.length), j < i → a.es[j] = b.es[j]) ∧ Hid (Below X0.heap.size X0 wx))
  case atStart => exact ⟨0, rfl, by omega, Lib.hid fun j _ _ hj => by omega, Lib.hid (Below.refl _ _)⟩
  case round =>
    obtain ⟨i, rfl, hi, hall, hB⟩ := hrel
    have hX := Lib.hid (HX.out.below hB.out HX.out.lt)
    have hY := Lib.hid (HY.out.below hB.out HY.out.lt)
    have a8 := hX.out.at_.c8
    have b8 := hY.out.at_.c8
    cases gk with
    | zero =>
      obtain rfl : i = n := by omega
      have HR := Lib.hid (eqH_yes (HQ.out (List.ext_getElem (by have := HN.out; have := HM.out; omega) fun j h h' => hall.out j h h' (by have := HN.out; omega))))
      go_wp2
      go_ret
      exact ⟨by rw [HR.out]; rfl, HB.out.trans (hB.out.mono HB.out.size)⟩
    | succ gk0 =>
      have hin : i < n := by omega
      have hil : i < a.es.length := by have := HN.out; omega
      have hik : i < b.es.length := by have := HM.out; omega
      obtain ⟨b1, off, rfl, hlt, hcell⟩ := (H1.out.below hB.out).lf.get celE hil
      have e0 := hcell 0 _ (by decide) rfl
      have e1 := hcell 1 _ (by decide) rfl
      have e2 := hcell 2 _ (by decide) rfl
      have e3 := hcell 3 _ (by decide) rfl
      have e4 := hcell 4 _ (by decide) rfl
      obtain ⟨b2, off2, rfl, hlt2, hcell2⟩ := (H2.out.below hB.out).lf.get celE hik
      have g0 := hcell2 0 _ (by decide) rfl
      have g1 := hcell2 1 _ (by decide) rfl
      have g2 := hcell2 2 _ (by decide) rfl
      have g3 := hcell2 3 _ (by decide) rfl
      have g4 := hcell2 4 _ (by decide) rfl
      rw [Nat.add_zero] at e0 g0
      have HNX : a.es[i] = b.es[i] → Hid (∀ j (h : j < a.es.length) (h' : j < b.es.length), j < i + 1 → a.es[j] = b.es[j]) := fun he => Lib.hid fun j h h' hj => by
        rcases Nat.lt_or_ge j i with h3 | h3
        · exact hall.out j h h' h3
        · obtain rfl : j = i := by omega
          exact he
      have HNO : a.es[i] ≠ b.es[i] → eqH a b = false := fun he => eqH_no fun e => by subst e; exact he rfl
      have HNX2 := Lib.hid HNX
      have HNO2 := Lib.hid HNO
      clear hcell hcell2 HNX HNO
      generalize a.es[i] = x at *
      generalize b.es[i] = y at *
      by_cases hxy : x = y
      · subst hxy
        have HR := HNX2.out rfl
        go_wp2_with fail
        clear a8 b8
        refine wp_region_noPanic ?_
        refine wp_region_held_drew (S := fun X => Below wr.heap.size wr X) (by kernel_rfl) ((Below.refl wr.heap.size wr).drew) (fun hS0 => ?_)
        refine held_take (i := 0) (v := ?_) rfl (by kernel_rfl) (by kernel_rfl) (by kernel_rfl) (fun _ _ _ h => h) (by rfl) ?_ (by assumption) ?_
        rotate_left
        · intro X hSX
          try dsimp only at hSX
          go_simp <;> with_reducible rfl
        simp only [Act.put, List.setIfInBounds_toArray, List.set_cons_zero, List.set_cons_succ]
        refine held_take (i := 1) (v := ?_) rfl (by kernel_rfl) (by kernel_rfl) (by kernel_rfl) (fun _ _ _ h => h) (by rfl) ?_ (by assumption) ?_
        rotate_left
        · intro X hSX
          try dsimp only at hSX
          have a8 := (hX.out.below hSX hX.out.lt).at_.c8
          go_simp <;> with_reducible rfl
        simp only [Act.put, List.setIfInBounds_toArray, List.set_cons_zero, List.set_cons_succ]
        refine held_take (i := 2) (v := ?_) rfl (by kernel_rfl) (by kernel_rfl) (by kernel_rfl) (fun _ _ _ h => h) (by rfl) ?_ (by assumption) ?_
        rotate_left
        · intro X hSX
          try dsimp only at hSX
          go_simp <;> with_reducible rfl
        simp only [Act.put, List.setIfInBounds_toArray, List.set_cons_zero, List.set_cons_succ]
        refine held_take (i := 3) (v := ?_) rfl (by kernel_rfl) (by kernel_rfl) (by kernel_rfl) (fun _ _ _ h => h) (by rfl) ?_ (by assumption) ?_
        rotate_left
        · intro X hSX
          try dsimp only at hSX
          go_simp <;> with_reducible rfl
        simp only [Act.put, List.setIfInBounds_toArray, List.set_cons_zero, List.set_cons_succ]
        refine held_take (i := 5) (v := ?_) rfl (by kernel_rfl) (by kernel_rfl) (by kernel_rfl) (fun _ _ _ h => h) (by rfl) ?_ (by assumption) ?_
        rotate_left
        · intro X hSX
          try dsimp only at hSX
          go_simp <;> with_reducible rfl
        simp only [Act.put, List.setIfInBounds_toArray, List.set_cons_zero, List.set_cons_succ]
        refine held_take (i := 4) (v := ?_) rfl (by kernel_rfl) (by kernel_rfl) (by kernel_rfl) (fun _ _ _ h => h) (by rfl) ?_ (by assumption) ?_
        rotate_left
        · intro X hSX
          try dsimp only at hSX
          have d0 := (World.cell?_of_block (a := ⟨b1, _, none⟩) (hSX.block b1 hlt)).trans e0
          have d1 := (World.cell?_of_block (a := ⟨b1, _, none⟩) (hSX.block b1 hlt)).trans e1
          have d2 := (World.cell?_of_block (a := ⟨b1, _, none⟩) (hSX.block b1 hlt)).trans e2
          have d3 := (World.cell?_of_block (a := ⟨b1, _, none⟩) (hSX.block b1 hlt)).trans e3
          have d4 := (World.cell?_of_block (a := ⟨b1, _, none⟩) (hSX.block b1 hlt)).trans e4
          go_simp <;> with_reducible rfl
        simp only [Act.put, List.setIfInBounds_toArray, List.set_cons_zero, List.set_cons_succ]
        refine held_take (i := 6) (v := ?_) rfl (by kernel_rfl) (by kernel_rfl) (by kernel_rfl) (fun _ _ _ h => h) (by rfl) ?_ (by assumption) ?_
        rotate_left
        · intro X hSX
          try dsimp only at hSX
          have b8 := (hY.out.below hSX hY.out.lt).at_.c8
          go_simp <;> with_reducible rfl
        simp only [Act.put, List.setIfInBounds_toArray, List.set_cons_zero, List.set_cons_succ]
        refine held_take (i := 7) (v := ?_) rfl (by kernel_rfl) (by kernel_rfl) (by kernel_rfl) (fun _ _ _ h => h) (by rfl) ?_ (by assumption) ?_
        rotate_left
        · intro X hSX
          try dsimp only at hSX
          go_simp <;> with_reducible rfl
        simp only [Act.put, List.setIfInBounds_toArray, List.set_cons_zero, List.set_cons_succ]
        refine held_take (i := 8) (v := ?_) rfl (by kernel_rfl) (by kernel_rfl) (by kernel_rfl) (fun _ _ _ h => h) (by rfl) ?_ (by assumption) ?_
        rotate_left
        · intro X hSX
          try dsimp only at hSX
          go_simp <;> with_reducible rfl
        simp only [Act.put, List.setIfInBounds_toArray, List.set_cons_zero, List.set_cons_succ]
        refine held_take (i := 9) (v := ?_) rfl (by kernel_rfl) (by kernel_rfl) (by kernel_rfl) (fun _ _ _ h => h) (by rfl) ?_ (by assumption) ?_
        rotate_left
        · intro X hSX
          try dsimp only at hSX
          have d0 := (World.cell?_of_block (a := ⟨b2, _, none⟩) (hSX.block b2 hlt2)).trans g0
          have d1 := (World.cell?_of_block (a := ⟨b2, _, none⟩) (hSX.block b2 hlt2)).trans g1
          have d2 := (World.cell?_of_block (a := ⟨b2, _, none⟩) (hSX.block b2 hlt2)).trans g2
          have d3 := (World.cell?_of_block (a := ⟨b2, _, none⟩) (hSX.block b2 hlt2)).trans g3
          have d4 := (World.cell?_of_block (a := ⟨b2, _, none⟩) (hSX.block b2 hlt2)).trans g4
          go_simp <;> with_reducible rfl
        simp only [Act.put, List.setIfInBounds_toArray, List.set_cons_zero, List.set_cons_succ]
        refine held_take (i := 10) (v := ?_) rfl (by kernel_rfl) (by kernel_rfl) (by kernel_rfl) (fun _ _ _ h => h) (by rfl) ?_ (by assumption) ?_
        rotate_left
        · intro X hSX
          try dsimp only at hSX
          go_simp <;> with_reducible rfl
        simp only [Act.put, List.setIfInBounds_toArray, List.set_cons_zero, List.set_cons_succ]
        refine wpAnyH_done (by kernel_rfl) ?_ _
        refine NoPanic.normal ?_
        go_wp2
        go_roundg gk0
        case rel => exact ⟨i + 1, by go_num, by omega, HR, Lib.hid (hB.out.trans ((Below.refl wr.heap.size wr).drew.mono hB.out.size))⟩
        case measure => omega
      · have HR := Lib.hid (HNO2.out hxy)
        have hne := ent_ne hxy
        clear HNX2 HNO2
        go_wp2_with fail
        clear a8 b8
        refine wp_region_noPanic ?_
        refine wp_region_held_drew (S := fun X => Below wr.heap.size wr X) (by kernel_rfl) ((Below.refl wr.heap.size wr).drew) (fun hS0 => ?_)
        refine held_take (i := 0) (v := ?_) rfl (by kernel_rfl) (by kernel_rfl) (by kernel_rfl) (fun _ _ _ h => h) (by rfl) ?_ (by assumption) ?_
        rotate_left
        · intro X hSX
          try dsimp only at hSX
          go_simp <;> with_reducible rfl
        simp only [Act.put, List.setIfInBounds_toArray, List.set_cons_zero, List.set_cons_succ]
        refine held_take (i := 1) (v := ?_) rfl (by kernel_rfl) (by kernel_rfl) (by kernel_rfl) (fun _ _ _ h => h) (by rfl) ?_ (by assumption) ?_
        rotate_left
        · intro X hSX
          try dsimp only at hSX
          have a8 := (hX.out.below hSX hX.out.lt).at_.c8
          go_simp <;> with_reducible rfl
        simp only [Act.put, List.setIfInBounds_toArray, List.set_cons_zero, List.set_cons_succ]
        refine held_take (i := 2) (v := ?_) rfl (by kernel_rfl) (by kernel_rfl) (by kernel_rfl) (fun _ _ _ h => h) (by rfl) ?_ (by assumption) ?_
        rotate_left
        · intro X hSX
          try dsimp only at hSX
          go_simp <;> with_reducible rfl
        simp only [Act.put, List.setIfInBounds_toArray, List.set_cons_zero, List.set_cons_succ]
        refine held_take (i := 3) (v := ?_) rfl (by kernel_rfl) (by kernel_rfl) (by kernel_rfl) (fun _ _ _ h => h) (by rfl) ?_ (by assumption) ?_
        rotate_left
        · intro X hSX
          try dsimp only at hSX
          go_simp <;> with_reducible rfl
        simp only [Act.put, List.setIfInBounds_toArray, List.set_cons_zero, List.set_cons_succ]
        refine held_take (i := 5) (v := ?_) rfl (by kernel_rfl) (by kernel_rfl) (by kernel_rfl) (fun _ _ _ h => h) (by rfl) ?_ (by assumption) ?_
        rotate_left
        · intro X hSX
          try dsimp only at hSX
          go_simp <;> with_reducible rfl
        simp only [Act.put, List.setIfInBounds_toArray, List.set_cons_zero, List.set_cons_succ]
        refine held_take (i := 4) (v := ?_) rfl (by kernel_rfl) (by kernel_rfl) (by kernel_rfl) (fun _ _ _ h => h) (by rfl) ?_ (by assumption) ?_
        rotate_left
        · intro X hSX
          try dsimp only at hSX
          have d0 := (World.cell?_of_block (a := ⟨b1, _, none⟩) (hSX.block b1 hlt)).trans e0
          have d1 := (World.cell?_of_block (a := ⟨b1, _, none⟩) (hSX.block b1 hlt)).trans e1
          have d2 := (World.cell?_of_block (a := ⟨b1, _, none⟩) (hSX.block b1 hlt)).trans e2
          have d3 := (World.cell?_of_block (a := ⟨b1, _, none⟩) (hSX.block b1 hlt)).trans e3
          have d4 := (World.cell?_of_block (a := ⟨b1, _, none⟩) (hSX.block b1 hlt)).trans e4
          go_simp <;> with_reducible rfl
        simp only [Act.put, List.setIfInBounds_toArray, List.set_cons_zero, List.set_cons_succ]
        refine held_take (i := 6) (v := ?_) rfl (by kernel_rfl) (by kernel_rfl) (by kernel_rfl) (fun _ _ _ h => h) (by rfl) ?_ (by assumption) ?_
        rotate_left
        · intro X hSX
          try dsimp only at hSX
          have b8 := (hY.out.below hSX hY.out.lt).at_.c8
          go_simp <;> with_reducible rfl
        simp only [Act.put, List.setIfInBounds_toArray, List.set_cons_zero, List.set_cons_succ]
        refine held_take (i := 7) (v := ?_) rfl (by kernel_rfl) (by kernel_rfl) (by kernel_rfl) (fun _ _ _ h => h) (by rfl) ?_ (by assumption) ?_
        rotate_left
        · intro X hSX
          try dsimp only at hSX
          go_simp <;> with_reducible rfl
        simp only [Act.put, List.setIfInBounds_toArray, List.set_cons_zero, List.set_cons_succ]
        refine held_take (i := 8) (v := ?_) rfl (by kernel_rfl) (by kernel_rfl) (by kernel_rfl) (fun _ _ _ h => h) (by rfl) ?_ (by assumption) ?_
        rotate_left
        · intro X hSX
          try dsimp only at hSX
          go_simp <;> with_reducible rfl
        simp only [Act.put, List.setIfInBounds_toArray, List.set_cons_zero, List.set_cons_succ]
        refine held_take (i := 9) (v := ?_) rfl (by kernel_rfl) (by kernel_rfl) (by kernel_rfl) (fun _ _ _ h => h) (by rfl) ?_ (by assumption) ?_
        rotate_left
        · intro X hSX
          try dsimp only at hSX
          have d0 := (World.cell?_of_block (a := ⟨b2, _, none⟩) (hSX.block b2 hlt2)).trans g0
          have d1 := (World.cell?_of_block (a := ⟨b2, _, none⟩) (hSX.block b2 hlt2)).trans g1
          have d2 := (World.cell?_of_block (a := ⟨b2, _, none⟩) (hSX.block b2 hlt2)).trans g2
          have d3 := (World.cell?_of_block (a := ⟨b2, _, none⟩) (hSX.block b2 hlt2)).trans g3
          have d4 := (World.cell?_of_block (a := ⟨b2, _, none⟩) (hSX.block b2 hlt2)).trans g4
          go_simp <;> with_reducible rfl
        simp only [Act.put, List.setIfInBounds_toArray, List.set_cons_zero, List.set_cons_succ]
        refine held_take (i := 10) (v := ?_) rfl (by kernel_rfl) (by kernel_rfl) (by kernel_rfl) (fun _ _ _ h => h) (by rfl) ?_ (by assumption) ?_
        rotate_left
        · intro X hSX
          try dsimp only at hSX
          go_simp
          exact ite5 hne _ _
        simp only [Act.put, List.setIfInBounds_toArray, List.set_cons_zero, List.set_cons_succ]
        refine wpAnyH_done (by kernel_rfl) ?_ _
        refine NoPanic.normal ?_
        go_wp2
        go_ret
        exact ⟨by rw [HR.out]; rfl, HB.out.trans ((hB.out.trans ((Below.refl wr.heap.size wr).drew.mono hB.out.size)).mono HB.out.size)⟩
end Go.Proofs.YtjiijjdmkeeilaaDoor
namespace Go.Proofs.YtjiijjdmkeeilaaDoor
open Go.RowKit
set_option linter.unusedVariables false
set_option linter.unusedSimpArgs false
noncomputable def exG : Hdr := hdP exH exP
noncomputable def exL : List Blk := hbL (hdP exH exP) ++ payB 2 exP
theorem exH_fit : exH.Fit := ⟨by decide, fun e he => by
  have : e ∈ [exE] := he
  rw [List.mem_singleton.1 this]
  exact crc_lt exP⟩
theorem exG_fit : exG.Fit := ⟨crc_lt exP, fun e he => by
  have : e ∈ [exE] := he
  rw [List.mem_singleton.1 this]
  exact crc_lt exP⟩
theorem exL_len : exL.length = 2 := by unfold exL; rw [List.length_append, ex_head, ex_payB]; rfl
theorem exL_two : ∃ a b, exL = [a, b] ∧ a.d.length = 64 ∧ b.d.length = 7 := by
  obtain ⟨a, ha⟩ := List.length_eq_one_iff.1 ex_head
  refine ⟨a, ⟨false, false, exP ++ be4 (crc exP)⟩, by unfold exL; rw [ha, ex_payB]; rfl, (hbL_ok (hdP exH exP) a (by rw [ha]; simp)).2, rfl⟩
theorem exL_data : ∀ b ∈ exL, b.d.length ≤ 100 := by
  obtain ⟨a, b, h, h1, h2⟩ := exL_two
  intro x hx
  rw [h] at hx
  rcases List.mem_cons.1 hx with rfl | hx
  · omega
  · rw [List.mem_singleton.1 hx]; omega
theorem exL_0 (h : 0 < exL.length) : exL[0].d.length = 64 := by
  obtain ⟨a, b, e, h1, h2⟩ := exL_two
  simp only [e]
  exact h1
theorem exL_1 (h : 1 < exL.length) : exL[1].d.length = 7 := by
  obtain ⟨a, b, e, h1, h2⟩ := exL_two
  simp only [e]
  exact h2
theorem exG_sz : exG.sz = 3 := rfl
theorem exG_bld : bldR exH exP = (exL, exG, 0) := ex_bld
theorem exG_pay : payU exL = (exG, exP, 0) := ex_pay
theorem exG_eq : eqH exG exG = true := eqH_yes rfl
theorem exP_text : (⟨exP.toArray⟩ : ByteArray) = ⟨#[97, 98, 99]⟩ := rfl
attribute [local irreducible] exG exL exP
set_option maxRecDepth 100000 in
set_option maxHeartbeats 8000000 in
theorem awake15_any {I : World → Prop} (HS : CoSide I) (w : World) (hi : I w) :
    Calls Tryd.prog 21 #[] w fun e w' => e = .returned (.bool true) ∧ Below w.heap.size w w' := by
  have HHS := Lib.hid HS
  have HI := Lib.hid hi
  clear HS hi
  go_enter Tryd.func21, Tryd.ntmps21
  go_wp2_with fail
  refine (one_any w).mono ?_
  rintro e X0 ⟨ad, n, cap, pd, m, pcap, rfl, hin, hlp, hm, hmc, hpm, hpd, hb0⟩
  have HX1 := Lib.hid (HdRow.new X0 exH ad n cap)
  have HI1 := Lib.hid (hin.below (co_box1 X0 (boxH exH ad n cap)))
  have HP1 := Lib.hid (hlp.below (co_box1 X0 (boxH exH ad n cap)) rfl)
  have HB1 := Lib.hid (hb0.alloc hb0.size (boxH exH ad n cap))
  have HNL := Lib.hid (show n ≤ 66 by have h1 := hin.len; have h2 : exH.es.length = 1 := rfl; omega)
  have HM := Lib.hid hm
  have HMC := Lib.hid hmc
  have HPM := Lib.hid hpm
  have HPD := Lib.hid hpd
  have HML := Lib.hid (show m ≤ 600 by rw [hm]; unfold exP; decide)
  clear hin hlp hm hmc hpm hpd hb0
  go_wp2_with (with_reducible refine ld_hdr rfl (.tmp 1) rfl rfl HX1.out ?_)
  change Calls Tryd.prog 11 _ (X0.alloc (boxH exH ad n cap)) _
  generalize World.alloc X0 _ = X1 at *
  generalize X0.heap.size = g1 at *
  refine (HHS.out.build exH ad n cap pd m pcap exP X1 HI1.out exH_fit HNL.out HP1.out HM.out HMC.out HPM.out HPD.out HML.out (HHS.out.step w X1 HI.out HB1.out)).mono ?_
  rw [exG_bld]
  rintro e X2 ⟨v2, ad2, cap2, rfl, hk2, hi2, hb2⟩
  dsimp only at hk2 hi2 ⊢
  obtain ⟨ad3, cap3, rfl, hx3, hc3, hm3, ha3, -⟩ := hk2.read
  rw [exL_len] at hc3 ⊢
  have HK2 := Lib.hid (hx3.ki.below (co_box1 X2 (boxH exG ad2 exG.es.length cap2)))
  have HG2 := Lib.hid (HdRow.new X2 exG ad2 exG.es.length cap2)
  have HI2 := Lib.hid (hi2.below (co_box1 X2 (boxH exG ad2 exG.es.length cap2)))
  have HB2 := Lib.hid ((HB1.out.trans (hb2.mono HB1.out.size)).alloc (Nat.le_trans HB1.out.size hb2.size) (boxH exG ad2 exG.es.length cap2))
  have HC3 := Lib.hid hc3
  have HM3 := Lib.hid hm3
  have HA3 := Lib.hid ha3
  have HEL := Lib.hid (show exG.es.length ≤ 1000 by unfold exG; exact (by decide : (1 : Nat) ≤ 1000))
  clear hk2 hi2 hb2 hx3 hc3 hm3 ha3 HI1 HP1 HX1 HB1
  obtain ⟨b, off, xd0, xc0, rfl, hlt, -, -, q0, -⟩ := HK2.out.get (i := 0) (by rw [exL_len]; decide)
  obtain ⟨b', off', xd1, xc1, eb, -, -, -, q1, -⟩ := HK2.out.get (i := 1) (by rw [exL_len]; decide)
  cases eb
  rw [exL_0] at q0
  rw [exL_1] at q1
  have c9 := HG2.out.at_.c9
  have kz : (exG.sz != 3) = false := by rw [exG_sz]; rfl
  have q0' : World.cell? (X2.alloc (boxH exG ad2 exG.es.length cap2)) ⟨b, off + 2, none⟩ = some (.slice xd0 64 xc0) := by simpa using q0
  have q1' : World.cell? (X2.alloc (boxH exG ad2 exG.es.length cap2)) ⟨b, off + 3 + 2, none⟩ = some (.slice xd1 7 xc1) := by simpa using q1
  clear q0 q1 hlt
  obtain ⟨L, hL⟩ : ∃ L, L = exG.es.length := ⟨_, rfl⟩
  have HLL := Lib.hid hL
  rw [← hL] at HG2 HI2 HB2 HK2 HEL c9 q0' q1' ⊢
  clear hL
  go_wp2_with (with_reducible refine ld_hdr rfl (.tmp 4) rfl rfl HG2.out ?_)
  change Calls Tryd.prog 19 #[hdV exG ad2 L cap2] (X2.alloc (boxH exG ad2 L cap2)) _
  clear c9 q0' q1'
  generalize World.alloc X2 _ = X3 at *
  generalize X2.heap.size = g4 at *
  refine (HHS.out.blocks exG ad2 L cap2 X3 HI2.out exG_fit (HHS.out.step w X3 HI.out HB2.out)).mono ?_
  rw [show blU exG = 2 by unfold exG; exact ex_blocks.1]
  rintro e X4 ⟨rfl, hb4⟩
  have HG4 := Lib.hid (HG2.out.below hb4 HG2.out.lt)
  have HI4 := Lib.hid (HI2.out.below hb4)
  have HK4 := Lib.hid (HK2.out.below hb4)
  have HB4 := Lib.hid (HB2.out.trans (hb4.mono HB2.out.size))
  clear hb4 HG2 HI2 HK2 HB2
  go_wp2_with (with_reducible refine wpList_unguard rfl (ld_hdr rfl (.tmp 4) rfl rfl HG4.out ?_))
  refine (HHS.out.head exG ad2 L cap2 X4 HI4.out exG_fit (HHS.out.step w X4 HI.out HB4.out)).mono ?_
  rw [show hbU exG = 1 by unfold exG; exact ex_blocks.2]
  rintro e X5 ⟨rfl, hb5⟩
  have HG5 := Lib.hid (HG4.out.below hb5 HG4.out.lt)
  have HI5 := Lib.hid (HI4.out.below hb5)
  have HK5 := Lib.hid (HK4.out.below hb5)
  have HB5 := Lib.hid (HB4.out.trans (hb5.mono HB4.out.size))
  clear hb5 HG4 HI4 HK4 HB4
  go_wp2_with fail
  refine (HHS.out.payload _ 2 cap3 exL X5 HK5.out exL_len.symm HC3.out HM3.out HA3.out (by decide) exL_data (HHS.out.step w X5 HI.out HB5.out)).mono ?_
  rw [exG_pay]
  rintro e X6 ⟨ad6, cap6, v6, rfl, hi6, ho6, hb6⟩
  dsimp only at hi6 ho6 ⊢
  rw [← HLL.out] at hi6 ⊢
  obtain ⟨ad7, cap7, rfl, hl7, -⟩ := ho6.slice
  have HG6 := Lib.hid ((HG5.out.below hb6 HG5.out.lt).below (co_box1 X6 (boxH exG ad6 L cap6)) (Nat.lt_of_lt_of_le HG5.out.lt hb6.size))
  have HY6 := Lib.hid (HdRow.new X6 exG ad6 L cap6)
  have HI6 := Lib.hid ((HI5.out.below hb6).below (co_box1 X6 (boxH exG ad6 L cap6)))
  have HJ6 := Lib.hid (hi6.hin.below (co_box1 X6 (boxH exG ad6 L cap6)))
  have HL6 := Lib.hid (hl7.below (co_box1 X6 (boxH exG ad6 L cap6)) rfl)
  have HB6 := Lib.hid ((HB5.out.trans (hb6.mono HB5.out.size)).alloc (Nat.le_trans HB5.out.size hb6.size) (boxH exG ad6 L cap6))
  clear hi6 ho6 hb6 hl7 HG5 HI5 HK5 HB5
  go_wp2_with (first | (with_reducible refine wpList_unguard rfl (ld_hdr rfl (.tmp 6) rfl rfl HY6.out ?_)) | (with_reducible refine wpList_unguard rfl (ld_hdr rfl (.tmp 4) rfl rfl HG6.out ?_)))
  change Calls Tryd.prog 14 _ (X6.alloc (boxH exG ad6 L cap6)) _
  generalize World.alloc X6 _ = X7 at *
  refine (rsameh_any exG exG ad6 L cap6 ad2 L cap2 X7 HJ6.out HI6.out (by have := HEL.out; omega)).mono ?_
  rw [exG_eq]
  rintro e X8 ⟨rfl, hb8⟩
  have HB8 := Lib.hid (HB6.out.trans (hb8.mono HB6.out.size))
  have kcv := conv_lie cap7 (HL6.out.below hb8 rfl)
  rw [exP_text] at kcv
  clear hb8
  go_wp2_with fail
  go_ret
  exact ⟨rfl, HB8.out⟩
end Go.Proofs.YtjiijjdmkeeilaaDoor
