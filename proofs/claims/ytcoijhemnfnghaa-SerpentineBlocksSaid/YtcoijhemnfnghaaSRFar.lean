/-
  Farthest of the specification: the greatest time between two ends, which are listed otherwise.
-/
import Derived.Test.YtcoijhemnfnghaaSFar
import Derived.Test.YtcoijhemnfnghaaSRLoc
namespace Go.Proofs.Ytcoijhemnfnghaa
open Go.RowKit
set_option linter.unusedVariables false
theorem far_rends (W L S T J : Int) : all (mo W L S T J) (rends W L) (rends W L).length = far W L S T J := (all_same (fun x => (ends_same W L x).symm)).trans (far_eq W L S T J).symm
theorem rends_ne (W L : Int) : rends W L ≠ [] := by unfold rends; simp
theorem rends_len (W L : Int) (w1 : W ≤ 32) : (rends W L).length ≤ 65 := by unfold rends; rw [List.length_append, endL_length]; simp; omega
theorem locate_mo (W L S T J R x y : Int) (v : Vld W L S T J R) (x0 : 0 ≤ x) (x1 : x ≤ W * L) (y0 : 0 ≤ y) (y1 : y ≤ W * L) (X : World) :
    Calls Try.prog 19 #[geV W L S T J R, .int .i64 x, .int .i64 y] X fun e w' => e = .returned (.int .i64 (mo W L S T J x y)) ∧ Below X.heap.size X w' := by
  have := rlocate_any W L S T J R x y X
  rwa [loc_yes (by rw [hav_iff.2 ⟨v, x0, x1⟩, hav_iff.2 ⟨v, y0, y1⟩]; rfl)] at this
structure Ofr (W L S T J R : Int) (l : List Int) : Prop where
  mot : ∀ i j, i < l.length → j < l.length → ∀ X, Calls Try.prog 19 #[geV W L S T J R, .int .i64 (l.getD i 0), .int .i64 (l.getD j 0)] X fun e w' => e = .returned (.int .i64 (mo W L S T J (l.getD i 0) (l.getD j 0))) ∧ Below X.heap.size X w'
theorem Ofr.ends {W L S T J R : Int} (v : Vld W L S T J R) : Ofr W L S T J R (rends W L) := ⟨fun i j hi hj X => by
  have h1 := ends_bd v.w0 v.l0 ((ends_same W L _).2 (getD_mem hi).2)
  have h2 := ends_bd v.w0 v.l0 ((ends_same W L _).2 (getD_mem hj).2)
  exact locate_mo W L S T J R _ _ v h1.1 h1.2 h2.1 h2.2 X⟩
theorem Lii.at0 {w : World} {g : Nat} {l : List Int} (h : Lii w g 0 l) {i : Nat} (hi : i < l.length) : w.cell? ⟨g, i, none⟩ = some (.int .i64 (l.getD i 0)) := by
  have := h.at_ i hi
  rwa [Nat.zero_add, ← (getD_mem hi).1] at this
theorem newI2 (a b : Int) (X : World) (j : Nat) (u : Value) (h : (cellsI [a, b])[j]? = some u) : (X.alloc (.cells #[.int .i64 a, .int .i64 b] 3)).cell? ((⟨X.heap.size, 0, none⟩ : Addr).add j) = some u :=
  cells_new X _ _ _ rfl j u (by simpa [cellsI] using h)
theorem rends_succ (C L : Int) (n : Nat) : [C] ++ endL L (n + 1) = ([C] ++ endL L n) ++ [n * L, n * L + L - 1] := rfl
attribute [local irreducible] tim vld hav wr po bk endL ends rends mo far
set_option maxRecDepth 100000 in
set_option maxHeartbeats 4000000 in
theorem rfarthest_any (W L S T J R : Int) (w : World) :
    Calls Try.prog 25 #[geV W L S T J R] w fun e w' => e = .returned (.int .i64 (farU W L S T J R)) ∧ Below w.heap.size w w' := by
  have HBW := Lib.hid (below_box1 w (boxG W L S T J R))
  have HB0 := Lib.hid ((Below.refl (w.heap.size + 1) (w.alloc (boxG W L S T J R))))
  have HG := Lib.hid (GeoAt.new w W L S T J R 23)
  have HS0 : Hid (w.heap.size + 1 ≤ (w.alloc (boxG W L S T J R)).heap.size) := Lib.hid (by simp)
  by_cases hv : Vld W L S T J R
  rotate_left
  · have HR := Lib.hid (farU_no hv)
    have HV := Lib.hid (vld_not.2 hv)
    clear hv
    go_enter Try.func25, Try.ntmps25
    go_wp2_with fail
    generalize World.alloc _ _ = X0 at HB0 HG HBW HS0 ⊢
    refine (rvalid_any W L S T J R X0).mono ?_
    rw [HV.out]
    rintro e w1 ⟨rfl, hb⟩
    have HB := Lib.hid (HBW.out.trans (hb.mono HBW.out.size))
    clear hb
    go_wp2
    go_ret
    exact ⟨by rw [HR.out]; rfl, HB.out⟩
  have HV := Lib.hid (vld_iff.2 hv)
  have HC := Lib.hid (capU_yes hv)
  have HR := Lib.hid (show farU W L S T J R = all (mo W L S T J) (rends W L) (rends W L).length from (farU_yes hv).trans (far_rends W L S T J).symm)
  have HOF := Lib.hid (Ofr.ends hv)
  have HNE := Lib.hid (rends_ne W L)
  have hlen := rends_len W L hv.w1
  have w0 := hv.w0
  have w1' := hv.w1
  have l0 := hv.l0
  have l1 := hv.l1
  have c1 := hv.c1
  have HWA := Lib.hid (fun n (h : ((n : Nat) : Int) < W) => wrap_at (W := W) hv.l0 h)
  clear hv
  have HRE := Lib.hid (show rends W L = [W * L] ++ endL L W.toNat by unfold rends; rfl)
  obtain ⟨N, rfl⟩ : ∃ N : Nat, W = N := ⟨W.toNat, by omega⟩
  rw [Int.toNat_natCast] at HRE
  have HES := Lib.hid (rends_succ (N * L) L)
  have HEL := Lib.hid (fun n => show ([(N : Int) * L] ++ endL L n).length = 1 + 2 * n by rw [List.length_append, endL_length]; rfl)
  have HE0 := Lib.hid (show [(N : Int) * L] ++ endL L 0 = [(N : Int) * L] by rw [endL_zero]; rfl)
  obtain ⟨M, hM⟩ : ∃ M, M = (rends N L).length := ⟨_, rfl⟩
  have HM := Lib.hid hM
  rw [← hM] at HR hlen
  clear hM
  generalize hl' : rends N L = l at *
  have HLE := Lib.hid HRE
  clear HRE hl'
  go_enter Try.func25, Try.ntmps25
  go_wp2_with fail
  generalize World.alloc _ _ = X0 at HB0 HG HBW HS0 ⊢
  refine (rvalid_any N L S T J R X0).mono ?_
  rw [HV.out]
  rintro e w1 ⟨rfl, hb⟩
  have HB := Lib.hid (HB0.out.trans (hb.mono HS0.out))
  have HS1 := Lib.hid (Nat.le_trans HS0.out hb.size)
  clear hb
  obtain ⟨glt, g0, g1, g2, g3, g4, g5⟩ := HG.out.below HB.out (by omega)
  go_wp2_with fail
  refine (rcapacity_any N L S T J R w1).mono ?_
  rw [HC.out]
  rintro e w2 ⟨rfl, hb⟩
  have HB2 := Lib.hid (HB.out.trans (hb.mono HS1.out))
  have HS2 := Lib.hid (Nat.le_trans HS1.out hb.size)
  clear hb g0 g1 g2 g3 g4 g5 glt HB HS1
  have HO2 := Lib.hid (Oni.one w2 (w.heap.size + 1) HS2.out (N * L))
  have HB3 := Lib.hid (HB2.out.alloc HS2.out (.cells #[.int .i64 (N * L)] 3))
  have HS3 := Lib.hid (Nat.le_trans HS2.out (below_box1 w2 (.cells #[.int .i64 (N * L)] 3)).size)
  clear HB2 HS2
  go_wp2
  go_loopg [3, 4] N (fun gk v3 v4 wx => ∃ n : Nat, n + gk = N ∧ v4 = .int .i64 n ∧ Hid (Oni wx (w.heap.size + 1) v3 ([(N : Int) * L] ++ endL L n)) ∧ Hid (Below (w.heap.size + 1) X0 wx) ∧ Hid (w.heap.size + 1 ≤ wx.heap.size))
  case atStart => exact ⟨0, by omega, rfl, by rw [HE0.out]; exact HO2, HB3, HS3⟩
  case round =>
    obtain ⟨n, hn, rfl, hO, hB, hZ⟩ := hrel
    obtain ⟨glt, g0, g1, g2, g3, g4, g5⟩ := HG.out.below hB.out (by omega)
    cases gk with
    | succ gk0 =>
      have hnN : (n : Int) < N := by omega
      obtain ⟨m0, m1⟩ := HWA.out n hnN
      have hm : ((n : Int) + 1) * L = (n : Int) * L + L := by rw [Int.add_mul]; omega
      have hlen2 : ([(N : Int) * L] ++ endL L n).length + 2 ≤ 10000 := by rw [HEL.out]; omega
      have HNW := Lib.hid (fun j u => newI2 (n * L) (n * L + L - 1) wr j u)
      have HO1 := Lib.hid (hO.out.alloc (.cells #[.int .i64 (n * L), .int .i64 (n * L + L - 1)] 3))
      have HB1 := Lib.hid (hB.out.alloc hZ.out (.cells #[.int .i64 (n * L), .int .i64 (n * L + L - 1)] 3))
      have HZ1 := Lib.hid (Nat.le_trans hZ.out (below_box1 wr (.cells #[.int .i64 (n * L), .int .i64 (n * L + L - 1)] 3)).size)
      go_wp2_with (at_builtin; refine wpList_append_i rfl (.tmp 21) (.tmp 32) rfl (w.heap.size + 1) _ _ rfl HO1.out [n * L, n * L + L - 1] _ 2 2 rfl rfl HNW.out hlen2 HZ1.out ?_; intro v5 w5 ho5 hg5; have HO5 := Lib.hid ho5; have HG5 := Lib.hid hg5; clear ho5 hg5)
      go_roundg gk0
      case rel => exact ⟨n + 1, by omega, by go_num, by rw [HES.out]; exact HO5, Lib.hid (HB1.out.grown HG5.out HZ1.out (fun z hz => (HO1.out.lt z hz).1)), Lib.hid (Nat.le_trans HZ1.out HG5.out.size)⟩
      case measure => omega
    | zero =>
      obtain rfl : n = N := by omega
      have hO2 : Oni wr (w.heap.size + 1) u3 l := by rw [HLE.out]; exact hO.out
      obtain ⟨g, cap, hu3, hl, hc0, hc1, _⟩ := hO2.slice HNE.out
      rw [← HM.out] at hu3 hc0
      subst hu3
      have HL2 := Lib.hid hl
      clear hl hO2 hO
      go_wp2
      clear g0 g1 g2 g3 g4 g5 glt
      go_loopg [5, 6] M (fun gk v5 vi wx => ∃ i : Nat, i + gk = M ∧ vi = .int .i64 i ∧ v5 = .int .i64 (all (mo n L S T J) l i) ∧ Hid (Below (w.heap.size + 1) X0 wx) ∧ Hid (w.heap.size + 1 ≤ wx.heap.size) ∧ Hid (Lii wx g 0 l))
      case atStart => exact ⟨0, by omega, rfl, rfl, hB, hZ, HL2⟩
      case round =>
        clear hB hZ HL2
        obtain ⟨i, hi, rfl, rfl, hB, hZ, hL⟩ := hrel
        cases gk with
        | zero =>
          obtain rfl : i = M := by omega
          go_wp2
          go_ret
          exact ⟨by rw [HR.out]; rfl, HBW.out.trans (hB.out.mono (by omega))⟩
        | succ gk0 =>
          have hiM : i < M := by omega
          have hil : i < l.length := by rw [← HM.out]; exact hiM
          have HMOT := Lib.hid (fun j X (hj : j < M) => HOF.out.mot i j hil (by rw [← HM.out]; exact hj) X)
          have HNX := Lib.hid (all_succ (mo n L S T J) l i)
          have HXC := Lib.hid (fun (Y : World) (h : Lii Y g 0 l) => h.at0 hil)
          rw [← HM.out] at HNX
          obtain ⟨x, hx⟩ : ∃ x, x = l.getD i 0 := ⟨_, rfl⟩
          rw [← hx] at HMOT HNX HXC
          clear hx hil
          generalize all (mo n L S T J) l i = m at *
          go_wp2
          go_loopg [5, 7] M (fun gj v5 vj wx => ∃ j : Nat, j + gj = M ∧ vj = .int .i64 j ∧ v5 = .int .i64 (row (mo n L S T J) x l j m) ∧ Hid (Below (w.heap.size + 1) X0 wx) ∧ Hid (w.heap.size + 1 ≤ wx.heap.size) ∧ Hid (Lii wx g 0 l))
          case atStart => exact ⟨0, by omega, rfl, rfl, hB, hZ, hL⟩
          case round =>
            clear hB hZ hL
            obtain ⟨j, hj, rfl, rfl, hB, hZ, hL⟩ := hrel
            cases gk with
            | zero =>
              obtain rfl : j = M := by omega
              go_wp2
              go_roundg gk0
              case rel => exact ⟨i + 1, by omega, by go_num, by rw [HNX.out], hB, hZ, hL⟩
              case measure => omega
            | succ gj0 =>
              have hjM : j < M := by omega
              have hjl : j < l.length := by rw [← HM.out]; exact hjM
              have HCA := Lib.hid (fun X => HMOT.out j X hjM)
              have HNY := Lib.hid (row_succ (mo n L S T J) x l j m)
              have HYC := Lib.hid (fun (Y : World) (h : Lii Y g 0 l) => h.at0 hjl)
              obtain ⟨y, hy⟩ : ∃ y, y = l.getD j 0 := ⟨_, rfl⟩
              rw [← hy] at HYC HCA HNY
              clear hy hjl
              generalize row (mo n L S T J) x l j m = q at *
              generalize mo n L S T J x y = t at *
              have hi2 : (i : Int) < (M : Int) := by omega
              have hj2 : (j : Int) < (M : Int) := by omega
              have HBX := Lib.hid (Below.refl wr.heap.size wr).drew
              have HLX := hL
              have HBO := hB
              have HZO := hZ
              clear hB hZ hL
              go_wp2_with fail
              refine wp_region_noPanic ?_
              refine wp_region_held_drew (S := fun X => Below wr.heap.size wr X) (by kernel_rfl) (HBX.out) (fun hS0 => ?_)
              refine held_take (i := 0) (v := ?_) rfl (by kernel_rfl) (by kernel_rfl) (by kernel_rfl) (fun _ _ _ h => h) (by rfl) ?_ (by assumption) ?_
              rotate_left
              · intro X hSX
                try dsimp only at hSX
                obtain ⟨_, g0, g1, g2, g3, g4, g5⟩ := HG.out.below (HBO.out.trans (hSX.mono HZO.out)) (by omega)
                go_simp <;> with_reducible rfl
              simp only [Act.put, List.setIfInBounds_toArray, List.set_cons_zero, List.set_cons_succ]
              refine held_take (i := 1) (v := ?_) rfl (by kernel_rfl) (by kernel_rfl) (by kernel_rfl) (fun _ _ _ h => h) (by rfl) ?_ (by assumption) ?_
              rotate_left
              · intro X hSX
                try dsimp only at hSX
                go_simp <;> with_reducible rfl
              simp only [Act.put, List.setIfInBounds_toArray, List.set_cons_zero, List.set_cons_succ]
              refine held_take (i := 2) (v := ?_) rfl (by kernel_rfl) (by kernel_rfl) (by kernel_rfl) (fun _ _ _ h => h) (by rfl) ?_ (by assumption) ?_
              rotate_left
              · intro X hSX
                try dsimp only at hSX
                go_simp <;> with_reducible rfl
              simp only [Act.put, List.setIfInBounds_toArray, List.set_cons_zero, List.set_cons_succ]
              refine held_take (i := 3) (v := ?_) rfl (by kernel_rfl) (by kernel_rfl) (by kernel_rfl) (fun _ _ _ h => h) (by rfl) ?_ (by assumption) ?_
              rotate_left
              · intro X hSX
                try dsimp only at hSX
                go_simp <;> with_reducible rfl
              simp only [Act.put, List.setIfInBounds_toArray, List.set_cons_zero, List.set_cons_succ]
              refine held_take (i := 4) (v := ?_) rfl (by kernel_rfl) (by kernel_rfl) (by kernel_rfl) (fun _ _ _ h => h) (by rfl) ?_ (by assumption) ?_
              rotate_left
              · intro X hSX
                try dsimp only at hSX
                have c0 := HXC.out X (HLX.out.below hSX HLX.out.lt)
                go_simp <;> with_reducible rfl
              simp only [Act.put, List.setIfInBounds_toArray, List.set_cons_zero, List.set_cons_succ]
              refine held_take (i := 5) (v := ?_) rfl (by kernel_rfl) (by kernel_rfl) (by kernel_rfl) (fun _ _ _ h => h) (by rfl) ?_ (by assumption) ?_
              rotate_left
              · intro X hSX
                try dsimp only at hSX
                go_simp <;> with_reducible rfl
              simp only [Act.put, List.setIfInBounds_toArray, List.set_cons_zero, List.set_cons_succ]
              refine held_take (i := 6) (v := ?_) rfl (by kernel_rfl) (by kernel_rfl) (by kernel_rfl) (fun _ _ _ h => h) (by rfl) ?_ (by assumption) ?_
              rotate_left
              · intro X hSX
                try dsimp only at hSX
                go_simp <;> with_reducible rfl
              simp only [Act.put, List.setIfInBounds_toArray, List.set_cons_zero, List.set_cons_succ]
              refine held_take (i := 7) (v := ?_) rfl (by kernel_rfl) (by kernel_rfl) (by kernel_rfl) (fun _ _ _ h => h) (by rfl) ?_ (by assumption) ?_
              rotate_left
              · intro X hSX
                try dsimp only at hSX
                go_simp <;> with_reducible rfl
              simp only [Act.put, List.setIfInBounds_toArray, List.set_cons_zero, List.set_cons_succ]
              refine held_take (i := 8) (v := ?_) rfl (by kernel_rfl) (by kernel_rfl) (by kernel_rfl) (fun _ _ _ h => h) (by rfl) ?_ (by assumption) ?_
              rotate_left
              · intro X hSX
                try dsimp only at hSX
                have c0 := HYC.out X (HLX.out.below hSX HLX.out.lt)
                go_simp <;> with_reducible rfl
              simp only [Act.put, List.setIfInBounds_toArray, List.set_cons_zero, List.set_cons_succ]
              refine held_call (i := 9) rfl (by kernel_rfl) (by rfl) (fun K' hK' => ?_)
              go_simp
              refine (HCA.out _).mono ?_
              rintro e w5 ⟨rfl, hb⟩
              replace HBX := Lib.hid (HBX.out.trans (hb.mono HBX.out.size))
              have hS5 := HBX.out
              clear hb
              refine held_go hK' (HBX.out) ?_
              try simp only [Act.put, List.setIfInBounds_toArray, List.set_cons_zero, List.set_cons_succ]
              refine held_take (i := 10) (v := ?_) rfl (by kernel_rfl) (by kernel_rfl) (by kernel_rfl) (fun _ _ _ h => h) (by rfl) ?_ (by assumption) ?_
              rotate_left
              · intro X hSX
                try dsimp only at hSX
                go_simp <;> with_reducible rfl
              simp only [Act.put, List.setIfInBounds_toArray, List.set_cons_zero, List.set_cons_succ]
              refine wpAnyH_done (by kernel_rfl) ?_ _
              refine NoPanic.normal ?_
              have HB5 := Lib.hid (HBO.out.trans (HBX.out.mono HZO.out))
              have HZ5 := Lib.hid (Nat.le_trans HZO.out HBX.out.size)
              have HL5 := Lib.hid (HLX.out.below HBX.out HLX.out.lt)
              rcases Int.lt_or_le q t with hqt | hqt
              · go_wp2
                go_roundg gj0
                case rel => exact ⟨j + 1, by omega, by go_num, by rw [HNY.out]; congr 1; omega, HB5, HZ5, HL5⟩
                case measure => omega
              · go_wp2
                go_roundg gj0
                case rel => exact ⟨j + 1, by omega, by go_num, by rw [HNY.out]; congr 1; omega, HB5, HZ5, HL5⟩
                case measure => omega
end Go.Proofs.Ytcoijhemnfnghaa
