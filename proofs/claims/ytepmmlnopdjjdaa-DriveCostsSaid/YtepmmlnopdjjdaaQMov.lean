/-
  Place of the specification.
  Locate and Passes of the specification.
  Passes of the specification.
  The motion of a head, in the specification.
-/
import Derived.Test.YtepmmlnopdjjdaaQLoc
import Derived.Test.YtepmmlnopdjjdaaDrLoad
namespace Go.Proofs.Ytepmmlnopdjjdaa
open Go.RowKit
set_option linter.unusedVariables false
attribute [local irreducible] tim vld hav pw pp pk
theorem rplace_start (W L S T J R : Int) (w : World) : Below w.heap.size w ((w.alloc (boxG W L S T J R)).alloc (boxP 0 0 false)) ∧
    ((w.alloc (boxG W L S T J R)).alloc (boxP 0 0 false)).heap.size = w.heap.size + 2 ∧
    GeoAt ((w.alloc (boxG W L S T J R)).alloc (boxP 0 0 false)) w.heap.size W L S T J R ∧
    ((w.alloc (boxG W L S T J R)).alloc (boxP 0 0 false)).heap[w.heap.size + 1]? = some (.cells #[.int .i64 0, .int .i64 0, .bool false] 92 (0, 0)) := by
  refine ⟨below_box2 _ _ _, by simp, (GeoAt.new w W L S T J R _).alloc _, ?_⟩
  have := heap_alloc_new (w.alloc (boxG W L S T J R)) (boxP 0 0 false)
  rwa [World.size_alloc] at this
/-- what is behind a call: nothing below turned -/
structure St (w X : World) (W L S T J R : Int) : Prop where
  b : Below w.heap.size w X
  s : w.heap.size + 2 ≤ X.heap.size
  g : GeoAt X w.heap.size W L S T J R
  n : X.heap[w.heap.size + 1]? = some (.cells #[.int .i64 0, .int .i64 0, .bool false] 92 (0, 0))
theorem St.next {w X Y : World} {W L S T J R : Int} (h : St w X W L S T J R) (hb : Below X.heap.size X Y) : St w Y W L S T J R :=
  ⟨h.b.trans (hb.mono h.b.size), Nat.le_trans h.s hb.size, h.g.below hb h.g.lt, (hb.block _ (by have := h.s; omega)).trans h.n⟩
set_option maxRecDepth 100000 in
set_option maxHeartbeats 1000000 in
/-- a number that has no place -/
theorem rplace_no (W L S T J R b : Int) (w : World) (h : hav W L S T J R b = false) :
    Calls Try.prog 60 #[geV W L S T J R, .int .i64 b] w fun e w' => e = .returned (.tuple #[plV 0 0 false, .bool false]) ∧ Below w.heap.size w w' := by
  obtain ⟨hb0, hs0, hg0, hn0⟩ := rplace_start W L S T J R w
  have HS := Lib.hid (St.mk hb0 (Nat.le_of_eq hs0.symm) hg0 hn0)
  clear hb0 hs0 hg0 hn0
  cases hv : vld W L S T J R
  · have HV := Lib.hid hv
    clear hv
    go_enter Try.func60, Try.ntmps60
    go_wp2_with fail
    generalize World.alloc _ _ = X0 at HS ⊢
    refine (rvalid_any W L S T J R X0).mono ?_
    rw [HV.out]
    rintro e w1 ⟨rfl, hb⟩
    have HS1 := Lib.hid (HS.out.next hb)
    clear hb
    go_wp2_with (with_reducible refine wpList_store_pl rfl (.tmp 4) (.tmp 23) rfl (w.heap.size + 1) rfl _ _ _ rfl _ _ _ HS1.out.n ?_)
    refine post_cell2 (cs := #[.int .i64 0, .int .i64 0, .bool false]) rfl rfl (setRow_heap _ _ _ _ _ _ HS1.out.n) Try.underlying92 rfl infoPl rfl rfl ⟨rfl, below_set HS1.out.b (by omega) _⟩
  have HV := Lib.hid hv
  have HC := Lib.hid (capU_yes (vld_iff.1 hv))
  have hh := hav_not.1 h
  by_cases h0 : b < 0
  · clear hv hh h
    go_enter Try.func60, Try.ntmps60
    go_wp2_with fail
    generalize World.alloc _ _ = X0 at HS ⊢
    refine (rvalid_any W L S T J R X0).mono ?_
    rw [HV.out]
    rintro e w1 ⟨rfl, hb⟩
    have HS1 := Lib.hid (HS.out.next hb)
    clear hb
    go_wp2_with (with_reducible refine wpList_store_pl rfl (.tmp 4) (.tmp 23) rfl (w.heap.size + 1) rfl _ _ _ rfl _ _ _ HS1.out.n ?_)
    refine post_cell2 (cs := #[.int .i64 0, .int .i64 0, .bool false]) rfl rfl (setRow_heap _ _ _ _ _ _ HS1.out.n) Try.underlying92 rfl infoPl rfl rfl ⟨rfl, below_set HS1.out.b (by omega) _⟩
  have h1 : W * L < b := by
    rcases Int.lt_or_le (W * L) b with h2 | h2
    · exact h2
    · exact absurd ⟨vld_iff.1 hv, by omega, h2⟩ hh
  clear hv hh h
  go_enter Try.func60, Try.ntmps60
  go_wp2_with fail
  generalize World.alloc _ _ = X0 at HS ⊢
  refine (rvalid_any W L S T J R X0).mono ?_
  rw [HV.out]
  rintro e w1 ⟨rfl, hb⟩
  have HS1 := Lib.hid (HS.out.next hb)
  clear hb HS
  obtain ⟨_, g0, g1, g2, g3, g4, g5⟩ := HS1.out.g
  go_wp2_with fail
  refine (rcapacity_any W L S T J R w1).mono ?_
  rw [HC.out]
  rintro e w2 ⟨rfl, hb⟩
  have HS2 := Lib.hid (HS1.out.next hb)
  clear hb HS1 g0 g1 g2 g3 g4 g5
  go_wp2_with (with_reducible refine wpList_store_pl rfl (.tmp 4) (.tmp 23) rfl (w.heap.size + 1) rfl _ _ _ rfl _ _ _ HS2.out.n ?_)
  refine post_cell2 (cs := #[.int .i64 0, .int .i64 0, .bool false]) rfl rfl (setRow_heap _ _ _ _ _ _ HS2.out.n) Try.underlying92 rfl infoPl rfl rfl ⟨rfl, below_set HS2.out.b (by omega) _⟩
/-- a block that has a place, other than the last one's follower -/
theorem in_facts {W L b : Int} (l0 : 1 ≤ L) (b0 : 0 ≤ b) (b1 : b < W * L) : b / L = wr W L b ∧ b % L = b - wr W L b * L := by
  have hw : b / L < W := by
    rw [Int.ediv_lt_iff_lt_mul (by omega)]; exact b1
  have e : b / L = wr W L b := by unfold wr; omega
  have hd := Int.emod_add_mul_ediv b L
  refine ⟨e, ?_⟩
  rw [← e, Int.mul_comm]; omega
theorem last_facts {W L : Int} (w0 : 1 ≤ W) (l0 : 1 ≤ L) : wr W L (W * L - 1) = wr W L (W * L) ∧ bk W L (W * L - 1) = bk W L (W * L) ∧ po W L (W * L) = (if bk W L (W * L) = true then po W L (W * L - 1) - 1 else po W L (W * L - 1) + 1) := by
  have e1 : wr W L (W * L) = W - 1 := by
    have := wr_of (W := W) (w := W - 1) (o := L) l0 (by omega) (.inr ⟨rfl, rfl⟩) (by omega)
    rwa [Int.sub_mul, show W * L - 1 * L + L = W * L by omega] at this
  have e2 : wr W L (W * L - 1) = W - 1 := by
    have := wr_of (W := W) (w := W - 1) (o := L - 1) l0 (by omega) (.inl (by omega)) (by omega)
    rwa [Int.sub_mul, show W * L - 1 * L + (L - 1) = W * L - 1 by omega] at this
  have e3 : W * L - (W - 1) * L = L := by rw [Int.sub_mul]; omega
  refine ⟨by rw [e1, e2], by unfold bk; rw [e1, e2], ?_⟩
  unfold bk po
  rw [e1, e2]
  by_cases h : (W - 1) % 2 = 1
  · simp only [h, if_true, decide_true]; omega
  · simp only [h, if_false, decide_false]
    rw [if_neg (by simp)]
    omega
set_option maxRecDepth 100000 in
set_option maxHeartbeats 1000000 in
/-- a block that has a place -/
theorem rplace_in (W L S T J R b : Int) (w : World) (v : Vld W L S T J R) (b0 : 0 ≤ b) (b1 : b < W * L) :
    Calls Try.prog 60 #[geV W L S T J R, .int .i64 b] w fun e w' => e = .returned (.tuple #[plV (wr W L b) (po W L b) (bk W L b), .bool true]) ∧ Below w.heap.size w w' := by
  obtain ⟨hb0, hs0, hg0, hn0⟩ := rplace_start W L S T J R w
  have HS := Lib.hid (St.mk hb0 (Nat.le_of_eq hs0.symm) hg0 hn0)
  clear hb0 hs0 hg0 hn0
  have HV := Lib.hid (vld_iff.2 v)
  have HC := Lib.hid (capU_yes v)
  have hm1 := v.c1
  obtain ⟨hq, hr⟩ := in_facts v.l0 b0 b1
  obtain ⟨r0, r1, r2, _, r3⟩ := wr_bd v.w0 v.l0 b0 (by omega)
  replace r3 := r3 b1
  have hw1 := v.w1
  have hl0 := v.l0
  have hl1 := v.l1
  have hbn : ¬ b = W * L := by omega
  have hbn2 : (b == W * L) = false := by rw [beq_eq_false_iff_ne]; exact hbn
  clear v
  go_enter Try.func60, Try.ntmps60
  go_wp2_with fail
  generalize World.alloc _ _ = X0 at HS ⊢
  refine (rvalid_any W L S T J R X0).mono ?_
  rw [HV.out]
  rintro e w1 ⟨rfl, hb⟩
  have HS1 := Lib.hid (HS.out.next hb)
  clear hb HS
  obtain ⟨_, g0, g1, g2, g3, g4, g5⟩ := HS1.out.g
  go_wp2_with fail
  refine (rcapacity_any W L S T J R w1).mono ?_
  rw [HC.out]
  rintro e w2 ⟨rfl, hb⟩
  have HS2 := Lib.hid (HS1.out.next hb)
  clear hb HS1 g0 g1 g2 g3 g4 g5
  obtain ⟨_, g0, g1, g2, g3, g4, g5⟩ := HS2.out.g
  go_wp2_with fail
  refine (rcapacity_any W L S T J R w2).mono ?_
  rw [HC.out]
  rintro e w3 ⟨rfl, hb⟩
  have HS3 := Lib.hid (HS2.out.next hb)
  clear hb HS2 g0 g1 g2 g3 g4 g5
  obtain ⟨_, g0, g1, g2, g3, g4, g5⟩ := HS3.out.g
  by_cases ho : wr W L b % 2 = 1
  · have hp : L - 1 - (b - wr W L b * L) = po W L b := by unfold po; rw [if_pos ho]
    have HK := Lib.hid (show bk W L b = true by unfold bk; rw [decide_eq_true ho])
    go_wp2_with (with_reducible refine wpList_store_pl rfl (.tmp 4) (.tmp 63) rfl (w.heap.size + 1) rfl _ _ _ rfl _ _ _ HS3.out.n ?_)
    refine post_cell2 (cs := #[.int .i64 (wr W L b), .int .i64 (po W L b), .bool true]) rfl rfl (setRow_heap _ _ _ _ _ _ HS3.out.n) Try.underlying92 rfl infoPl rfl rfl ⟨by rw [HK.out]; rfl, below_set HS3.out.b (by omega) _⟩
  · have hp : b - wr W L b * L = po W L b := by unfold po; rw [if_neg ho]
    have HK := Lib.hid (show bk W L b = false by unfold bk; rw [decide_eq_false ho])
    go_wp2_with (with_reducible refine wpList_store_pl rfl (.tmp 4) (.tmp 66) rfl (w.heap.size + 1) rfl _ _ _ rfl _ _ _ HS3.out.n ?_)
    refine post_cell2 (cs := #[.int .i64 (wr W L b), .int .i64 (po W L b), .bool false]) rfl rfl (setRow_heap _ _ _ _ _ _ HS3.out.n) Try.underlying92 rfl infoPl rfl rfl ⟨by rw [HK.out]; rfl, below_set HS3.out.b (by omega) _⟩
set_option maxRecDepth 100000 in
set_option maxHeartbeats 1000000 in
/-- the place behind the last block -/
theorem rplace_last (W L S T J R : Int) (w : World) (v : Vld W L S T J R) :
    Calls Try.prog 60 #[geV W L S T J R, .int .i64 (W * L)] w fun e w' => e = .returned (.tuple #[plV (wr W L (W * L)) (po W L (W * L)) (bk W L (W * L)), .bool true]) ∧ Below w.heap.size w w' := by
  obtain ⟨hb0, hs0, hg0, hn0⟩ := rplace_start W L S T J R w
  have HS := Lib.hid (St.mk hb0 (Nat.le_of_eq hs0.symm) hg0 hn0)
  clear hb0 hs0 hg0 hn0
  have HV := Lib.hid (vld_iff.2 v)
  have HC := Lib.hid (capU_yes v)
  have hm1 := v.c1
  have hm0 : 1 ≤ W * L := by have := cap_pos v.w0 v.l0; have := v.l0; omega
  have HI := Lib.hid (fun X => rplace_in W L S T J R (W * L - 1) X v (by omega) (by omega))
  obtain ⟨e1, e2, e3⟩ := last_facts v.w0 v.l0
  have hpo := po_bd v.w0 v.l0 (b := W * L - 1) (by omega) (by omega)
  have hl1 := v.l1
  rw [e1, e2] at HI
  have HE := Lib.hid e3
  clear v e1 e2 e3
  go_enter Try.func60, Try.ntmps60
  go_wp2_with fail
  generalize World.alloc _ _ = X0 at HS ⊢
  refine (rvalid_any W L S T J R X0).mono ?_
  rw [HV.out]
  rintro e w1 ⟨rfl, hb⟩
  have HS1 := Lib.hid (HS.out.next hb)
  clear hb HS
  obtain ⟨_, g0, g1, g2, g3, g4, g5⟩ := HS1.out.g
  go_wp2_with fail
  refine (rcapacity_any W L S T J R w1).mono ?_
  rw [HC.out]
  rintro e w2 ⟨rfl, hb⟩
  have HS2 := Lib.hid (HS1.out.next hb)
  clear hb HS1 g0 g1 g2 g3 g4 g5
  obtain ⟨_, g0, g1, g2, g3, g4, g5⟩ := HS2.out.g
  go_wp2_with fail
  refine (rcapacity_any W L S T J R w2).mono ?_
  rw [HC.out]
  rintro e w3 ⟨rfl, hb⟩
  have HS3 := Lib.hid (HS2.out.next hb)
  clear hb HS2 g0 g1 g2 g3 g4 g5
  obtain ⟨_, g0, g1, g2, g3, g4, g5⟩ := HS3.out.g
  go_wp2_with fail
  refine (HI.out w3).mono ?_
  rintro e w4 ⟨rfl, hb⟩
  have HS4 := Lib.hid (HS3.out.next hb)
  clear hb HS3 g0 g1 g2 g3 g4 g5
  have hlt : w.heap.size + 1 < w4.heap.size := by have := HS4.out.s; omega
  generalize po W L (W * L - 1) = q at HE hpo ⊢
  cases hk : bk W L (W * L)
  · have HR := Lib.hid (show po W L (W * L) = q + 1 by rw [HE.out, hk]; simp)
    have HN := Lib.hid ((Below.heap_alloc w4 (boxP (wr W L (W * L)) (q + 1) false) _ hlt).trans HS4.out.n)
    go_wp2_with (with_reducible refine wpList_store_pl rfl (.tmp 4) (.tmp 45) rfl (w.heap.size + 1) rfl _ _ _ rfl _ _ _ HN.out ?_)
    refine post_cell2 (cs := #[.int .i64 (wr W L (W * L)), .int .i64 (q + 1), .bool false]) rfl rfl (setRow_heap _ _ _ _ _ _ HN.out) Try.underlying92 rfl infoPl rfl rfl ⟨by rw [HR.out, hk]; rfl, below_set (HS4.out.b.alloc HS4.out.b.size _) (by omega) _⟩
  · have HR := Lib.hid (show po W L (W * L) = q - 1 by rw [HE.out, hk]; simp)
    have HN := Lib.hid ((Below.heap_alloc w4 (boxP (wr W L (W * L)) (q - 1) true) _ hlt).trans HS4.out.n)
    go_wp2_with (with_reducible refine wpList_store_pl rfl (.tmp 4) (.tmp 45) rfl (w.heap.size + 1) rfl _ _ _ rfl _ _ _ HN.out ?_)
    refine post_cell2 (cs := #[.int .i64 (wr W L (W * L)), .int .i64 (q - 1), .bool true]) rfl rfl (setRow_heap _ _ _ _ _ _ HN.out) Try.underlying92 rfl infoPl rfl rfl ⟨by rw [HR.out, hk]; rfl, below_set (HS4.out.b.alloc HS4.out.b.size _) (by omega) _⟩
/-- for every number -/
theorem rplace_any (W L S T J R b : Int) (w : World) :
    Calls Try.prog 60 #[geV W L S T J R, .int .i64 b] w fun e w' => e = .returned (.tuple #[plV (pw W L S T J R b) (pp W L S T J R b) (pk W L S T J R b), .bool (hav W L S T J R b)]) ∧ Below w.heap.size w w' := by
  cases hv : hav W L S T J R b
  · rw [show pw W L S T J R b = 0 by unfold pw; rw [hv]; rfl, show pp W L S T J R b = 0 by unfold pp; rw [hv]; rfl, show pk W L S T J R b = false by unfold pk; rw [hv]; rfl]
    exact rplace_no W L S T J R b w hv
  · rw [show pw W L S T J R b = wr W L b by unfold pw; rw [hv]; rfl, show pp W L S T J R b = po W L b by unfold pp; rw [hv]; rfl, show pk W L S T J R b = bk W L b by unfold pk; rw [hv]; rfl]
    obtain ⟨v, b0, b1⟩ := hav_iff.1 hv
    rcases Int.lt_or_le b (W * L) with h | h
    · exact rplace_in W L S T J R b w v b0 h
    · obtain rfl : b = W * L := by omega
      exact rplace_last W L S T J R w v
end Go.Proofs.Ytepmmlnopdjjdaa
namespace Go.Proofs.Ytepmmlnopdjjdaa
open Go.RowKit
set_option linter.unusedVariables false
set_option maxRecDepth 100000
theorem rsz_pos (a : Int) (w : World) (h : -1000000000 ≤ a ∧ a ≤ 1000000000) :
    Calls Try.prog 61 #[.int .i64 a] w fun e w' => e = .returned (.int .i64 (dis a 0)) ∧ w' = w := rsize_any a w h.1 h.2
theorem dis_zero (a b : Int) : dis (b - a) 0 = dis a b := by unfold dis; omega
/-- Place of a block that has one, and of one that has none -/
theorem rplace_yes (W L S T J R b : Int) (w : World) (h : hav W L S T J R b = true) :
    Calls Try.prog 60 #[geV W L S T J R, .int .i64 b] w fun e w' => e = .returned (.tuple #[plV (wr W L b) (po W L b) (bk W L b), .bool true]) ∧ Below w.heap.size w w' := by
  have := rplace_any W L S T J R b w
  rw [show pw W L S T J R b = wr W L b by unfold pw; rw [h]; rfl, show pp W L S T J R b = po W L b by unfold pp; rw [h]; rfl, show pk W L S T J R b = bk W L b by unfold pk; rw [h]; rfl, h] at this
  exact this
theorem rplace_none (W L S T J R b : Int) (w : World) (h : hav W L S T J R b = false) :
    Calls Try.prog 60 #[geV W L S T J R, .int .i64 b] w fun e w' => e = .returned (.tuple #[plV 0 0 false, .bool false]) ∧ Below w.heap.size w w' := rplace_no W L S T J R b w h
/-- behind both calls of Place -/
theorem two_start {w X0 w1 w2 : World} {W L S T J R wa pa wb pb : Int} {ka kb : Bool} (hb0 : Below w.heap.size w X0) (hg : GeoAt X0 w.heap.size W L S T J R) (hb1 : Below X0.heap.size X0 w1)
    (hb2 : Below (w1.alloc (boxP wa pa ka)).heap.size (w1.alloc (boxP wa pa ka)) w2) :
    Below w.heap.size w (w2.alloc (boxP wb pb kb)) ∧ GeoAt (w2.alloc (boxP wb pb kb)) w.heap.size W L S T J R ∧ PlAt (w2.alloc (boxP wb pb kb)) w1.heap.size wa pa ka ∧ PlAt (w2.alloc (boxP wb pb kb)) w2.heap.size wb pb kb := by
  have h1 := hb0.trans (hb1.mono hb0.size)
  have h2 := h1.alloc h1.size (boxP wa pa ka)
  have h3 := h2.trans (hb2.mono h2.size)
  have g1 := (hg.below hb1 hg.lt).alloc (boxP wa pa ka)
  have g2 := g1.below hb2 g1.lt
  have p1 := PlAt.new w1 wa pa ka 92
  have p2 := p1.below hb2 p1.lt
  exact ⟨h3.alloc h3.size _, g2.alloc _, p2.alloc _, PlAt.new w2 wb pb kb _⟩
theorem loc_self (W L S T J R a : Int) : loc W L S T J R a a = 0 := by unfold loc; rw [mo_self]; split <;> rfl
attribute [local irreducible] tim vld hav wr po bk dis pw pp pk opp
set_option maxRecDepth 100000 in
set_option maxHeartbeats 2000000 in
theorem rlocate_any (W L S T J R a b : Int) (w : World) :
    Calls Try.prog 33 #[geV W L S T J R, .int .i64 a, .int .i64 b] w fun e w' => e = .returned (.int .i64 (loc W L S T J R a b)) ∧ Below w.heap.size w w' := by
  have HB0 := Lib.hid (below_box1 w (boxG W L S T J R))
  have HG := Lib.hid (GeoAt.new w W L S T J R 27)
  cases ha : hav W L S T J R a
  · have HR := Lib.hid (show loc W L S T J R a b = 0 from loc_no (by rw [ha]; rfl))
    have HA := Lib.hid ha
    clear ha
    go_enter Try.func33, Try.ntmps33
    go_wp2_with fail
    generalize World.alloc _ _ = X0 at HB0 HG ⊢
    refine (rplace_none W L S T J R a X0 HA.out).mono ?_
    rintro e w1 ⟨rfl, hb1⟩
    have H1 := Lib.hid hb1
    obtain ⟨glt, g0, g1, g2, g3, g4, g5⟩ := HG.out.below hb1 HG.out.lt
    clear hb1
    go_wp2_with fail
    refine (rplace_any W L S T J R b _).mono ?_
    rintro e w2 ⟨rfl, hb2⟩
    have H2 := Lib.hid (two_start (wb := pw W L S T J R b) (pb := pp W L S T J R b) (kb := pk W L S T J R b) HB0.out HG.out H1.out hb2)
    clear hb2 g0 g1 g2 g3 g4 g5 glt
    go_wp2
    go_ret
    exact ⟨by rw [HR.out]; rfl, H2.out.1⟩
  cases hb : hav W L S T J R b
  · have HR := Lib.hid (show loc W L S T J R a b = 0 from loc_no (by rw [hb, Bool.and_false]))
    have HA := Lib.hid ha
    have HB := Lib.hid hb
    clear ha hb
    go_enter Try.func33, Try.ntmps33
    go_wp2_with fail
    generalize World.alloc _ _ = X0 at HB0 HG ⊢
    refine (rplace_yes W L S T J R a X0 HA.out).mono ?_
    rintro e w1 ⟨rfl, hb1⟩
    have H1 := Lib.hid hb1
    obtain ⟨glt, g0, g1, g2, g3, g4, g5⟩ := HG.out.below hb1 HG.out.lt
    clear hb1
    go_wp2_with fail
    refine (rplace_none W L S T J R b _ HB.out).mono ?_
    rintro e w2 ⟨rfl, hb2⟩
    have H2 := Lib.hid (two_start (wb := 0) (pb := 0) (kb := false) HB0.out HG.out H1.out hb2)
    clear hb2 g0 g1 g2 g3 g4 g5 glt
    go_wp2
    go_ret
    exact ⟨by rw [HR.out]; rfl, H2.out.1⟩
  by_cases hab : a = b
  · subst hab
    have HR := Lib.hid (loc_self W L S T J R a)
    have HA := Lib.hid ha
    clear ha hb
    go_enter Try.func33, Try.ntmps33
    go_wp2_with fail
    generalize World.alloc _ _ = X0 at HB0 HG ⊢
    refine (rplace_yes W L S T J R a X0 HA.out).mono ?_
    rintro e w1 ⟨rfl, hb1⟩
    have H1 := Lib.hid hb1
    obtain ⟨glt, g0, g1, g2, g3, g4, g5⟩ := HG.out.below hb1 HG.out.lt
    clear hb1
    go_wp2_with fail
    refine (rplace_yes W L S T J R a _ HA.out).mono ?_
    rintro e w2 ⟨rfl, hb2⟩
    have H2 := Lib.hid (two_start (wb := wr W L a) (pb := po W L a) (kb := bk W L a) HB0.out HG.out H1.out hb2)
    clear hb2 g0 g1 g2 g3 g4 g5 glt
    go_wp2
    go_ret
    exact ⟨by rw [HR.out]; rfl, H2.out.1⟩
  have hab2 : (a == b) = false := by rw [beq_eq_false_iff_ne]; exact hab
  have HR := Lib.hid (show loc W L S T J R a b = mov S T J (wr W L a) (po W L a) (bk W L a) (wr W L b) (po W L b) (bk W L b) from loc_yes (by rw [ha, hb]; rfl))
  have HPa := Lib.hid (fun X => rplace_yes W L S T J R a X ha)
  have HPb := Lib.hid (fun X => rplace_yes W L S T J R b X hb)
  obtain ⟨v, a0, a1⟩ := hav_iff.1 ha
  obtain ⟨_, b0, b1⟩ := hav_iff.1 hb
  obtain ⟨ra0, ra1, _, _, _⟩ := wr_bd v.w0 v.l0 a0 a1
  obtain ⟨rb0, rb1, _, _, _⟩ := wr_bd v.w0 v.l0 b0 b1
  obtain ⟨qa0, qa1⟩ := po_bd v.w0 v.l0 a0 a1
  obtain ⟨qb0, qb1⟩ := po_bd v.w0 v.l0 b0 b1
  have l1 := v.l1
  have wm := v.w1
  have s0 := v.s0
  have s1 := v.s1
  have t0 := v.t0
  have t1 := v.t1
  have j0 := v.j0
  have j1 := v.j1
  clear hab ha hb v
  generalize wr W L a = wa at *
  generalize po W L a = pa at *
  generalize bk W L a = ka at *
  generalize wr W L b = wb at *
  generalize po W L b = pb at *
  generalize bk W L b = kb at *
  have hd : dis (pb - pa) 0 ≤ 4097 ∧ dis (wb - wa) 0 ≤ 32 := by rw [dis_zero, dis_zero]; unfold dis; omega
  obtain ⟨e1, e2⟩ := mul_bd (m := 4097) s0 s1 (dis_nonneg (pb - pa) 0) hd.1
  obtain ⟨e3, e4⟩ := mul_bd (m := 32) j0 j1 (dis_nonneg (wb - wa) 0) hd.2
  clear hd
  go_enter Try.func33, Try.ntmps33
  go_wp2_with fail
  generalize World.alloc _ _ = X0 at HB0 HG ⊢
  refine (HPa.out X0).mono ?_
  rintro e w1 ⟨rfl, hb1⟩
  have H1 := Lib.hid hb1
  obtain ⟨glt, g0, g1, g2, g3, g4, g5⟩ := HG.out.below hb1 HG.out.lt
  clear hb1
  go_wp2_with fail
  refine (HPb.out _).mono ?_
  rintro e w2 ⟨rfl, hb2⟩
  obtain ⟨h1, h2, h3, h4⟩ := two_start (wb := wb) (pb := pb) (kb := kb) HB0.out HG.out H1.out hb2
  have HB2 := Lib.hid h1
  clear h1 hb2 g0 g1 g2 g3 g4 g5 glt
  obtain ⟨_, g0, g1, g2, g3, g4, g5⟩ := h2
  obtain ⟨_, p0, p1, p2⟩ := h3
  obtain ⟨_, q0, q1, q2⟩ := h4
  go_wp2_with fail
  generalize World.alloc w2 _ = Y at *
  go_quiet ((go_at_call 61; exact Calls.quiet_of_same (rsz_pos _ _ (by omega))))
  have HM := Lib.hid (show mov S T J wa pa ka wb pb kb = S * dis (pb - pa) 0 + J * dis (wb - wa) 0 + (if opp pa ka pb kb = true then T else 0) by rw [dis_zero, dis_zero]; rfl)
  generalize S * dis (pb - pa) 0 = x1 at *
  generalize J * dis (wb - wa) 0 = x2 at *
  rcases Int.lt_trichotomy pa pb with hp | hp | hp
  · have hp2 : 0 < pb - pa := by omega
    cases kb
    · have HF := Lib.hid (show opp pa ka pb false = false by unfold opp; rw [if_neg (by omega), decide_eq_true hp]; rfl)
      go_wp2
      go_ret
      exact ⟨by rw [HR.out, HM.out, HF.out]; simp, below_drewN HB2.out _⟩
    · have HF := Lib.hid (show opp pa ka pb true = true by unfold opp; rw [if_neg (by omega), decide_eq_true hp]; rfl)
      go_wp2
      go_ret
      exact ⟨by rw [HR.out, HM.out, HF.out]; simp, below_drewN HB2.out _⟩
  · subst hp
    have hp2 : pa - pa = 0 := by omega
    cases ka <;> cases kb
    all_goals
      go_wp2
      go_ret
      exact ⟨by rw [HR.out, HM.out]; simp [opp], below_drewN HB2.out _⟩
  · have hp2 : pb - pa < 0 := by omega
    cases kb
    · have HF := Lib.hid (show opp pa ka pb false = true by unfold opp; rw [if_neg (by omega), decide_eq_false (by omega)]; rfl)
      go_wp2
      go_ret
      exact ⟨by rw [HR.out, HM.out, HF.out]; simp, below_drewN HB2.out _⟩
    · have HF := Lib.hid (show opp pa ka pb true = false by unfold opp; rw [if_neg (by omega), decide_eq_false (by omega)]; rfl)
      go_wp2
      go_ret
      exact ⟨by rw [HR.out, HM.out, HF.out]; simp, below_drewN HB2.out _⟩
end Go.Proofs.Ytepmmlnopdjjdaa
namespace Go.Proofs.Ytepmmlnopdjjdaa
open Go.RowKit
set_option linter.unusedVariables false
set_option maxRecDepth 100000
attribute [local irreducible] tim vld hav wr po bk dis pw pp pk opp
set_option maxRecDepth 100000 in
set_option maxHeartbeats 2000000 in
theorem rpasses_any (W L S T J R a b : Int) (w : World) :
    Calls Try.prog 84 #[geV W L S T J R, .int .i64 a, .int .i64 b] w fun e w' => e = .returned (.int .i64 (pas W L S T J R a b)) ∧ Below w.heap.size w w' := by
  have HB0 := Lib.hid (below_box1 w (boxG W L S T J R))
  have HG := Lib.hid (GeoAt.new w W L S T J R 27)
  cases ha : hav W L S T J R a
  · have HR := Lib.hid (show pas W L S T J R a b = 0 from pas_no (by rw [ha]; rfl))
    have HA := Lib.hid ha
    clear ha
    go_enter Try.func84, Try.ntmps84
    go_wp2_with fail
    generalize World.alloc _ _ = X0 at HB0 HG ⊢
    refine (rplace_none W L S T J R a X0 HA.out).mono ?_
    rintro e w1 ⟨rfl, hb1⟩
    have H1 := Lib.hid hb1
    obtain ⟨glt, g0, g1, g2, g3, g4, g5⟩ := HG.out.below hb1 HG.out.lt
    clear hb1
    go_wp2_with fail
    refine (rplace_any W L S T J R b _).mono ?_
    rintro e w2 ⟨rfl, hb2⟩
    have H2 := Lib.hid (two_start (wb := pw W L S T J R b) (pb := pp W L S T J R b) (kb := pk W L S T J R b) HB0.out HG.out H1.out hb2)
    clear hb2 g0 g1 g2 g3 g4 g5 glt
    go_wp2
    go_ret
    exact ⟨by rw [HR.out]; rfl, H2.out.1⟩
  cases hb : hav W L S T J R b
  · have HR := Lib.hid (show pas W L S T J R a b = 0 from pas_no (by rw [hb, Bool.and_false]))
    have HA := Lib.hid ha
    have HB := Lib.hid hb
    clear ha hb
    go_enter Try.func84, Try.ntmps84
    go_wp2_with fail
    generalize World.alloc _ _ = X0 at HB0 HG ⊢
    refine (rplace_yes W L S T J R a X0 HA.out).mono ?_
    rintro e w1 ⟨rfl, hb1⟩
    have H1 := Lib.hid hb1
    obtain ⟨glt, g0, g1, g2, g3, g4, g5⟩ := HG.out.below hb1 HG.out.lt
    clear hb1
    go_wp2_with fail
    refine (rplace_none W L S T J R b _ HB.out).mono ?_
    rintro e w2 ⟨rfl, hb2⟩
    have H2 := Lib.hid (two_start (wb := 0) (pb := 0) (kb := false) HB0.out HG.out H1.out hb2)
    clear hb2 g0 g1 g2 g3 g4 g5 glt
    go_wp2
    go_ret
    exact ⟨by rw [HR.out]; rfl, H2.out.1⟩
  have HR := Lib.hid (show pas W L S T J R a b = (1000 * dis (po W L a) (po W L b) + L - 1) / L from pas_yes (by rw [ha, hb]; rfl))
  have HPa := Lib.hid (fun X => rplace_yes W L S T J R a X ha)
  have HPb := Lib.hid (fun X => rplace_yes W L S T J R b X hb)
  obtain ⟨v, a0, a1⟩ := hav_iff.1 ha
  obtain ⟨_, b0, b1⟩ := hav_iff.1 hb
  obtain ⟨qa0, qa1⟩ := po_bd v.w0 v.l0 a0 a1
  obtain ⟨qb0, qb1⟩ := po_bd v.w0 v.l0 b0 b1
  have l0 := v.l0
  have l1 := v.l1
  have lne : L ≠ 0 := by omega
  clear ha hb v
  generalize wr W L a = wa at *
  generalize po W L a = pa at *
  generalize bk W L a = ka at *
  generalize wr W L b = wb at *
  generalize po W L b = pb at *
  generalize bk W L b = kb at *
  have hd : dis (pb - pa) 0 ≤ 4097 := by rw [dis_zero]; unfold dis; omega
  have hd0 := dis_nonneg (pb - pa) 0
  go_enter Try.func84, Try.ntmps84
  go_wp2_with fail
  generalize World.alloc _ _ = X0 at HB0 HG ⊢
  refine (HPa.out X0).mono ?_
  rintro e w1 ⟨rfl, hb1⟩
  have H1 := Lib.hid hb1
  obtain ⟨glt, g0, g1, g2, g3, g4, g5⟩ := HG.out.below hb1 HG.out.lt
  clear hb1
  go_wp2_with fail
  refine (HPb.out _).mono ?_
  rintro e w2 ⟨rfl, hb2⟩
  obtain ⟨h1, h2, h3, h4⟩ := two_start (wb := wb) (pb := pb) (kb := kb) HB0.out HG.out H1.out hb2
  have HB2 := Lib.hid h1
  clear h1 hb2 g0 g1 g2 g3 g4 g5 glt
  obtain ⟨_, g0, g1, g2, g3, g4, g5⟩ := h2
  obtain ⟨_, p0, p1, p2⟩ := h3
  obtain ⟨_, q0, q1, q2⟩ := h4
  go_wp2_with fail
  generalize World.alloc w2 _ = Y at *
  have HD := Lib.hid (dis_zero pa pb)
  go_quiet ((go_at_call 61; exact Calls.quiet_of_same (rsz_pos _ _ (by omega))))
  go_wp2
  go_ret
  exact ⟨by rw [HR.out, ← HD.out, Int.mul_comm 1000]; rfl, below_drewN HB2.out _⟩
end Go.Proofs.Ytepmmlnopdjjdaa
namespace Go.Proofs.Ytepmmlnopdjjdaa
open Go.RowKit
set_option linter.unusedVariables false
set_option linter.unusedSimpArgs false
theorem pas_bd (W L S T J R a b : Int) : 0 ≤ pas W L S T J R a b ∧ pas W L S T J R a b ≤ 5000000 := by
  cases h : (hav W L S T J R a && hav W L S T J R b)
  · rw [pas_no h]; omega
  rw [pas_yes h]
  rw [Bool.and_eq_true] at h
  obtain ⟨v, a0, a1⟩ := hav_iff.1 h.1
  obtain ⟨_, b0, b1⟩ := hav_iff.1 h.2
  have hd := (dis_bd v.w0 v.l0 v.l1 a0 a1 b0 b1).1
  have h0 := dis_nonneg (po W L a) (po W L b)
  have hl := v.l0
  refine ⟨Int.ediv_nonneg (by omega) (by omega), ?_⟩
  have h2 : (1000 * dis (po W L a) (po W L b) + L - 1) / L ≤ 1000 * dis (po W L a) (po W L b) + L - 1 := Int.ediv_le_self _ (by omega)
  have := v.l1
  omega
theorem inc_bd {n k : Int} (h0 : 0 ≤ n) (hk : 0 ≤ k) : 0 ≤ inc n k ∧ inc n k ≤ 1125899906842624 := by unfold inc; split <;> omega
/-- the drive and the cartridge behind a motion -/
noncomputable def mvD (d : Drv) (c : Crt) (t : Int) : Drv := ⟨d.st, d.bc, t, d.lo, inc d.pa (pas c.W c.L c.S c.T c.J c.R d.hd t), inc d.si (pas c.W c.L c.S c.T c.J c.R d.hd t)⟩
noncomputable def mvC (d : Drv) (c : Crt) (t : Int) : Crt := ⟨c.bc, c.W, c.L, c.S, c.T, c.J, c.R, c.wo, c.lk, c.l, c.ep, c.lo, inc c.pa (pas c.W c.L c.S c.T c.J c.R d.hd t)⟩
attribute [local irreducible] tim vld bar cnt okB capU allB vldC mdlU drvU due inc pas
set_option maxRecDepth 100000 in
set_option maxHeartbeats 4000000 in
theorem rmove_any (d : Drv) (c : Crt) (ad : Option Addr) (cap : Nat) (t : Int) (w : World) (hp : 0 ≤ d.pa ∧ d.pa ≤ 1125899906842624) (hs : 0 ≤ d.si ∧ d.si ≤ 1125899906842624) (hc : 0 ≤ c.pa ∧ c.pa ≤ 1125899906842624) :
    Calls Try.prog 58 #[drV d, crV c ad cap, .int .i64 t] w fun e w' => e = .returned (.tuple #[drV (mvD d c t), crV (mvC d c t) ad cap]) ∧ Below w.heap.size w w' := by
  obtain ⟨n0, n1⟩ := pas_bd c.W c.L c.S c.T c.J c.R d.hd t
  have HP := Lib.hid (fun X => rpasses_any c.W c.L c.S c.T c.J c.R d.hd t X)
  have HD := Lib.hid (show mvD d c t = ⟨d.st, d.bc, t, d.lo, inc d.pa (pas c.W c.L c.S c.T c.J c.R d.hd t), inc d.si (pas c.W c.L c.S c.T c.J c.R d.hd t)⟩ from rfl)
  have HCC := Lib.hid (show mvC d c t = ⟨c.bc, c.W, c.L, c.S, c.T, c.J, c.R, c.wo, c.lk, c.l, c.ep, c.lo, inc c.pa (pas c.W c.L c.S c.T c.J c.R d.hd t)⟩ from rfl)
  generalize pas c.W c.L c.S c.T c.J c.R d.hd t = n at *
  rw [HD.out, HCC.out]
  clear HD HCC
  have HT := Lib.hid (Fo.start w w (Below.refl _ _) d c ad cap)
  go_enter Try.func58, Try.ntmps58
  go_wp2_with fail
  generalize World.alloc _ _ = X0 at *
  obtain ⟨_, d0, d1, d2, d3, d4, d5⟩ := HT.out.dat
  obtain ⟨_, k0, k1, k2, k3, k4, k5, k6, k7, k8, k9, k10, k11, k12⟩ := HT.out.cat
  go_wp2_with fail
  refine (HP.out X0).mono ?_
  rintro e w1 ⟨rfl, hb⟩
  replace HT := Lib.hid (HT.out.next hb)
  clear hb d0 d1 d2 d3 d4 d5 k0 k1 k2 k3 k4 k5 k6 k7 k8 k9 k10 k11 k12
  obtain ⟨_, d0, d1, d2, d3, d4, d5⟩ := HT.out.dat
  go_wp2_with fail
  refine (rinc_any d.pa n w1 hp (by omega)).mono ?_
  rintro e w2 ⟨rfl, rfl⟩
  have f := froz_of HT.out.d 4
  go_wp2_with fail
  replace HT := Lib.hid (HT.out.setd 4 (.int .i64 (inc d.pa n)) ⟨d.st, d.bc, d.hd, d.lo, inc d.pa n, d.si⟩ rfl)
  clear d0 d1 d2 d3 d4 d5 f
  generalize World.setCell w2 _ _ = X3 at *
  refine (rinc_any d.si n X3 hs (by omega)).mono ?_
  rintro e w4 ⟨rfl, rfl⟩
  obtain ⟨_, d0, d1, d2, d3, d4, d5⟩ := HT.out.dat
  dsimp only at d0 d1 d2 d3 d4 d5
  obtain ⟨_, k0, k1, k2, k3, k4, k5, k6, k7, k8, k9, k10, k11, k12⟩ := HT.out.cat
  have f := froz_of HT.out.d 5
  go_wp2_with fail
  replace HT := Lib.hid (HT.out.setd 5 (.int .i64 (inc d.si n)) ⟨d.st, d.bc, d.hd, d.lo, inc d.pa n, inc d.si n⟩ rfl)
  clear d0 d1 d2 d3 d4 d5 k0 k1 k2 k3 k4 k5 k6 k7 k8 k9 k10 k11 k12 f
  generalize World.setCell w4 _ _ = X5 at *
  refine (rinc_any c.pa n X5 hc (by omega)).mono ?_
  rintro e w6 ⟨rfl, rfl⟩
  have f := froz_of HT.out.c 12
  have f2 := froz_of HT.out.d 2
  obtain ⟨_, d0, d1, d2, d3, d4, d5⟩ := HT.out.dat
  dsimp only at d0 d1 d2 d3 d4 d5
  obtain ⟨_, k0, k1, k2, k3, k4, k5, k6, k7, k8, k9, k10, k11, k12⟩ := HT.out.cat
  go_wp2_with fail
  replace HT := Lib.hid ((HT.out.setc 12 (.int .i64 (inc c.pa n)) ⟨c.bc, c.W, c.L, c.S, c.T, c.J, c.R, c.wo, c.lk, c.l, c.ep, c.lo, inc c.pa n⟩ ad cap rfl).setd 2 (.int .i64 t) ⟨d.st, d.bc, t, d.lo, inc d.pa n, inc d.si n⟩ rfl)
  clear d0 d1 d2 d3 d4 d5 k0 k1 k2 k3 k4 k5 k6 k7 k8 k9 k10 k11 k12 f f2
  generalize World.setCell _ _ (.int .i64 t) = Y0 at *
  replace HT := Lib.hid (HT.out.next (Below.refl Y0.heap.size Y0).drew)
  refine wp_region_noPanic ?_
  refine wp_region_held_drew (S := fun X => DrAt X w.heap.size d.st d.bc t d.lo (inc d.pa n) (inc d.si n) ∧ CrAt X (w.heap.size + 1) c.bc c.W c.L c.S c.T c.J c.R c.wo c.lk ad c.l.length cap c.ep c.lo (inc c.pa n)) (by kernel_rfl) (⟨HT.out.dat, HT.out.cat⟩) (fun hS0 => ?_)
  generalize World.drew Y0 = X9 at *
  refine held_take (i := 0) (v := ?_) rfl (by kernel_rfl) (by kernel_rfl) (by kernel_rfl) (fun _ _ _ h => h) (by rfl) ?_ (by assumption) ?_
  rotate_left
  · intro X hSX
    try dsimp only at hSX
    obtain ⟨⟨_, d0, d1, d2, d3, d4, d5⟩, -⟩ := hSX
    go_simp <;> with_reducible rfl
  simp only [Act.put, List.setIfInBounds_toArray, List.set_cons_zero, List.set_cons_succ]
  refine held_take (i := 1) (v := ?_) rfl (by kernel_rfl) (by kernel_rfl) (by kernel_rfl) (fun _ _ _ h => h) (by rfl) ?_ (by assumption) ?_
  rotate_left
  · intro X hSX
    try dsimp only at hSX
    obtain ⟨-, ⟨_, k0, k1, k2, k3, k4, k5, k6, k7, k8, k9, k10, k11, k12⟩⟩ := hSX
    go_simp <;> with_reducible rfl
  simp only [Act.put, List.setIfInBounds_toArray, List.set_cons_zero, List.set_cons_succ]
  refine held_call (i := 2) rfl (by kernel_rfl) (by rfl) (fun K' hK' => ?_)
  refine oper_store_dr (.tmp 6) (.tmp 32) rfl (w.heap.size + 2) rfl ⟨d.st, d.bc, t, d.lo, inc d.pa n, inc d.si n⟩ rfl drZ HT.out.x ?_
  replace HT := Lib.hid (HT.out.rowx ⟨d.st, d.bc, t, d.lo, inc d.pa n, inc d.si n⟩)
  refine held_go hK' (⟨HT.out.dat, HT.out.cat⟩) ?_
  try simp only [Act.put, List.setIfInBounds_toArray, List.set_cons_zero, List.set_cons_succ]
  generalize World.setRow X9 _ _ = X10 at *
  refine held_call (i := 3) rfl (by kernel_rfl) (by rfl) (fun K' hK' => ?_)
  refine oper_store_cq (.tmp 7) (.tmp 33) rfl (w.heap.size + 3) rfl ⟨c.bc, c.W, c.L, c.S, c.T, c.J, c.R, c.wo, c.lk, c.l, c.ep, c.lo, inc c.pa n⟩ ad cap rfl crZ none 0 HT.out.y ?_
  replace HT := Lib.hid (HT.out.rowy ⟨c.bc, c.W, c.L, c.S, c.T, c.J, c.R, c.wo, c.lk, c.l, c.ep, c.lo, inc c.pa n⟩ ad cap)
  refine held_go hK' (⟨HT.out.dat, HT.out.cat⟩) ?_
  try simp only [Act.put, List.setIfInBounds_toArray, List.set_cons_zero, List.set_cons_succ]
  generalize World.setRow X10 _ _ = X11 at *
  refine wpAnyH_done (by kernel_rfl) ?_ _
  refine NoPanic.normal ?_
  go_wp2_with fail
  refine post_cells rfl rfl HT.out.x Try.underlying25 rfl infoD rfl HT.out.y Try.underlying30 rfl infoC rfl ?_
  exact ⟨rfl, HT.out.b⟩
end Go.Proofs.Ytepmmlnopdjjdaa
