/-
  Farthest of the program: the greatest time between two ends.
-/
import Derived.Test.YtcoijhemnfnghaaSEnds
namespace Go.Proofs.Ytcoijhemnfnghaa
open Go.RowKit
set_option linter.unusedVariables false
noncomputable def farU (W L S T J R : Int) : Int := if vld W L S T J R = true then far W L S T J else 0
theorem farU_yes {W L S T J R : Int} (v : Vld W L S T J R) : farU W L S T J R = far W L S T J := if_pos (vld_iff.2 v)
theorem farU_no {W L S T J R : Int} (v : ¬ Vld W L S T J R) : farU W L S T J R = 0 := if_neg (fun h => v (vld_iff.1 h))
theorem far_eq (W L S T J : Int) : far W L S T J = all (mo W L S T J) (ends W L) (ends W L).length := rfl
theorem all_succ (f : Int → Int → Int) (l : List Int) (n : Nat) : all f l (n + 1) = row f (l.getD n 0) l l.length (all f l n) := rfl
theorem row_succ (f : Int → Int → Int) (a : Int) (l : List Int) (n : Nat) (m : Int) : row f a l (n + 1) m = max (row f a l n m) (f a (l.getD n 0)) := rfl
theorem ends_ne (W L : Int) : ends W L ≠ [] := by unfold ends; simp
theorem ends_len (W L : Int) (w1 : W ≤ 32) : (ends W L).length ≤ 65 := by unfold ends; rw [List.length_append, endL_length]; simp; omega
theorem getD_mem {l : List Int} {i : Nat} (h : i < l.length) : l.getD i 0 = l[i] ∧ l.getD i 0 ∈ l := by
  rw [List.getD_eq_getElem?_getD, List.getElem?_eq_getElem h]
  exact ⟨rfl, List.getElem_mem h⟩
/-- the time of the motion between two blocks, at any world -/
theorem motion_mo (W L S T J R x y : Int) (v : Vld W L S T J R) (x0 : 0 ≤ x) (x1 : x ≤ W * L) (y0 : 0 ≤ y) (y1 : y ≤ W * L) (X : World) :
    Calls Try.prog 30 #[geV W L S T J R, plV (wr W L x) (po W L x) (bk W L x), plV (wr W L y) (po W L y) (bk W L y)] X fun e w' => e = .returned (.int .i64 (mo W L S T J x y)) ∧ Below X.heap.size X w' := by
  have ra := wr_bd v.w0 v.l0 x0 x1
  have rb := wr_bd v.w0 v.l0 y0 y1
  have qa := po_bd v.w0 v.l0 x0 x1
  have qb := po_bd v.w0 v.l0 y0 y1
  exact motion_any W L S T J R _ _ _ _ _ _ X v.s0 v.s1 v.t0 v.t1 v.j0 v.j1 ra.1 (by have := v.w1; omega) rb.1 (by have := v.w1; omega) qa.1 (by have := v.l1; omega) qb.1 (by have := v.l1; omega)
/-- what a list of blocks offers to a walk: for an index the block's place, and motions between such -/
structure Off (W L S T J R : Int) (l : List Int) : Prop where
  mot : ∀ i j, i < l.length → j < l.length → ∀ X, Calls Try.prog 30 #[geV W L S T J R, plV (wr W L (l.getD i 0)) (po W L (l.getD i 0)) (bk W L (l.getD i 0)), plV (wr W L (l.getD j 0)) (po W L (l.getD j 0)) (bk W L (l.getD j 0))] X fun e w' => e = .returned (.int .i64 (mo W L S T J (l.getD i 0) (l.getD j 0))) ∧ Below X.heap.size X w'
theorem Off.ends {W L S T J R : Int} (v : Vld W L S T J R) : Off W L S T J R (ends W L) := ⟨fun i j hi hj X => by
  have h1 := ends_bd v.w0 v.l0 (getD_mem hi).2
  have h2 := ends_bd v.w0 v.l0 (getD_mem hj).2
  exact motion_mo W L S T J R _ _ v h1.1 h1.2 h2.1 h2.2 X⟩
theorem Lpl.pl {w : World} {g : Nat} {W L : Int} {l : List Int} (h : Lpl w g W L l) {i : Nat} (hi : i < l.length) :
    w.cell? ⟨g, i * 3, none⟩ = some (.int .i64 (wr W L (l.getD i 0))) ∧ w.cell? ⟨g, i * 3 + 1, none⟩ = some (.int .i64 (po W L (l.getD i 0))) ∧ w.cell? ⟨g, i * 3 + 2, none⟩ = some (.bool (bk W L (l.getD i 0))) := by
  rw [(getD_mem hi).1]
  exact h.at_ i hi
attribute [local irreducible] tim vld hav wr po bk endL ends mo far
set_option maxRecDepth 100000 in
set_option maxHeartbeats 4000000 in
theorem farthest_any (W L S T J R : Int) (w : World) :
    Calls Try.prog 24 #[geV W L S T J R] w fun e w' => e = .returned (.int .i64 (farU W L S T J R)) ∧ Below w.heap.size w w' := by
  have HB0 := Lib.hid (below_box1 w (boxG W L S T J R))
  have HG := Lib.hid (GeoAt.new w W L S T J R 23)
  by_cases hv : Vld W L S T J R
  rotate_left
  · have HR := Lib.hid (farU_no hv)
    have HV := Lib.hid (vld_not.2 hv)
    clear hv
    go_enter Try.func24, Try.ntmps24
    go_wp2_with fail
    generalize World.alloc _ _ = X0 at HB0 HG ⊢
    refine (valid_any W L S T J R X0).mono ?_
    rw [HV.out]
    rintro e w1 ⟨rfl, hb⟩
    have HB := Lib.hid (HB0.out.trans (hb.mono HB0.out.size))
    clear hb
    go_wp2
    go_ret
    exact ⟨by rw [HR.out]; rfl, HB.out⟩
  have HV := Lib.hid (vld_iff.2 hv)
  have HR := Lib.hid (show farU W L S T J R = all (mo W L S T J) (ends W L) (ends W L).length from (farU_yes hv).trans (far_eq W L S T J))
  have HE := Lib.hid (fun X => ends_any W L S T J R X hv)
  have HOF := Lib.hid (Off.ends hv)
  have HNE := Lib.hid (ends_ne W L)
  have hlen := ends_len W L hv.w1
  clear hv
  obtain ⟨M, hM⟩ : ∃ M, M = (ends W L).length := ⟨_, rfl⟩
  have HM := Lib.hid hM
  rw [← hM] at HR hlen
  clear hM
  generalize ends W L = l at *
  go_enter Try.func24, Try.ntmps24
  go_wp2_with fail
  generalize World.alloc _ _ = X0 at HB0 HG ⊢
  refine (valid_any W L S T J R X0).mono ?_
  rw [HV.out]
  rintro e w1 ⟨rfl, hb⟩
  have HB := Lib.hid (HB0.out.trans (hb.mono HB0.out.size))
  have HG1 := Lib.hid (HG.out.below hb HG.out.lt)
  clear hb HG
  obtain ⟨glt, g0, g1, g2, g3, g4, g5⟩ := HG1.out
  go_wp2_with fail
  refine (HE.out w1).mono ?_
  rintro e w2 ⟨v, rfl, ho, hb⟩
  have HB2 := Lib.hid (HB.out.trans (hb.mono HB.out.size))
  have HG2 := Lib.hid (HG1.out.below hb HG1.out.lt)
  obtain ⟨g, cap, rfl, hl, hc0, hc1, _⟩ := ho.slice HNE.out
  rw [← HM.out] at hc0
  rw [← HM.out]
  have HL2 := Lib.hid hl
  clear hb ho hl HB HG1 g0 g1 g2 g3 g4 g5 glt HE HB0
  go_wp2
  go_loopg [3, 16] M (fun gk v3 vi wx => ∃ i : Nat, i + gk = M ∧ vi = .int .i64 i ∧ v3 = .int .i64 (all (mo W L S T J) l i) ∧ Hid (Below w.heap.size w wx) ∧ Hid (GeoAt wx w.heap.size W L S T J R) ∧ Hid (Lpl wx g W L l))
  case atStart => exact ⟨0, by omega, rfl, rfl, HB2, HG2, HL2⟩
  case round =>
    obtain ⟨i, hi, rfl, rfl, hB, hG, hL⟩ := hrel
    cases gk with
    | zero =>
      obtain rfl : i = M := by omega
      go_wp2
      go_ret
      exact ⟨by rw [HR.out]; rfl, hB.out⟩
    | succ gk0 =>
      have hiM : i < M := by omega
      have hil : i < l.length := by rw [← HM.out]; exact hiM
      obtain ⟨p0, p1, p2⟩ := hL.out.pl hil
      have glt := hL.out.lt
      have HMOT := Lib.hid (fun j X (hj : j < M) => HOF.out.mot i j hil (by rw [← HM.out]; exact hj) X)
      have HNX := Lib.hid (all_succ (mo W L S T J) l i)
      rw [← HM.out] at HNX
      obtain ⟨x, hx⟩ : ∃ x, x = l.getD i 0 := ⟨_, rfl⟩
      rw [← hx] at p0 p1 p2 HMOT HNX
      clear hx hil
      generalize all (mo W L S T J) l i = m at *
      generalize Go.Proofs.Ytcoijhemnfnghaa.wr W L x = wa at *
      generalize po W L x = pa at *
      generalize bk W L x = ka at *
      have HP1 := Lib.hid (PlAt.new wr wa pa ka 25)
      have HB1 := Lib.hid (hB.out.alloc hB.out.size (boxP wa pa ka))
      have HG1 := Lib.hid (hG.out.alloc (boxP wa pa ka))
      have HL1 := Lib.hid (hL.out.below (below_box1 wr (boxP wa pa ka)) hL.out.lt)
      go_wp2
      clear p0 p1 p2 glt hB hG hL
      generalize wr.heap.size = g6 at *
      generalize World.alloc wr _ = X1 at *
      go_loopg [3, 22] M (fun gj v3 vj wx => ∃ j : Nat, j + gj = M ∧ vj = .int .i64 j ∧ v3 = .int .i64 (row (mo W L S T J) x l j m) ∧ Hid (Below w.heap.size w wx) ∧ Hid (GeoAt wx w.heap.size W L S T J R) ∧ Hid (Lpl wx g W L l) ∧ Hid (PlAt wx g6 wa pa ka))
      case atStart => exact ⟨0, by omega, rfl, rfl, HB1, HG1, HL1, HP1⟩
      case round =>
        obtain ⟨j, hj, rfl, rfl, hB, hG, hL, hP⟩ := hrel
        cases gk with
        | zero =>
          obtain rfl : j = M := by omega
          go_wp2
          go_roundg gk0
          case rel => exact ⟨i + 1, by omega, by go_num, by rw [HNX.out], hB, hG, hL⟩
          case measure => omega
        | succ gj0 =>
          have hjM : j < M := by omega
          have hjl : j < l.length := by rw [← HM.out]; exact hjM
          obtain ⟨p0, p1, p2⟩ := hL.out.pl hjl
          obtain ⟨glt6, q0, q1, q2⟩ := hP.out
          obtain ⟨glt0, g0, g1, g2, g3, g4, g5⟩ := hG.out
          have glt := hL.out.lt
          have HCA := Lib.hid (fun X => HMOT.out j X hjM)
          have HNY := Lib.hid (row_succ (mo W L S T J) x l j m)
          obtain ⟨y, hy⟩ : ∃ y, y = l.getD j 0 := ⟨_, rfl⟩
          rw [← hy] at p0 p1 p2 HCA HNY
          clear hy hjl
          generalize row (mo W L S T J) x l j m = q at *
          generalize mo W L S T J x y = t at *
          generalize Go.Proofs.Ytcoijhemnfnghaa.wr W L y = wb at *
          generalize po W L y = pb at *
          generalize bk W L y = kb at *
          have HB2 := Lib.hid (hB.out.alloc hB.out.size (boxP wb pb kb))
          have HG2 := Lib.hid (hG.out.alloc (boxP wb pb kb))
          have HL2 := Lib.hid (hL.out.below (below_box1 wr (boxP wb pb kb)) hL.out.lt)
          have HP2 := Lib.hid (hP.out.alloc (boxP wb pb kb))
          go_wp2_with fail
          refine (HCA.out _).mono ?_
          rintro e w5 ⟨rfl, hb⟩
          have HB3 := Lib.hid (HB2.out.trans (hb.mono HB2.out.size))
          have HG3 := Lib.hid (HG2.out.below hb HG2.out.lt)
          have HL3 := Lib.hid (HL2.out.below hb HL2.out.lt)
          have HP3 := Lib.hid (HP2.out.below hb HP2.out.lt)
          clear hb
          go_wp2
          all_goals
            go_roundg gj0
            case rel => exact ⟨j + 1, by omega, by go_num, by rw [HNY.out]; congr 1; omega, HB3, HG3, HL3, HP3⟩
            case measure => omega
end Go.Proofs.Ytcoijhemnfnghaa
