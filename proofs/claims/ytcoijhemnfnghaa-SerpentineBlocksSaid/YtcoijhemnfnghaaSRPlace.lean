/-
  Place of the specification.
-/
import Derived.Test.YtcoijhemnfnghaaSPlace
namespace Go.Proofs.Ytcoijhemnfnghaa
open Go.RowKit
set_option linter.unusedVariables false
attribute [local irreducible] tim vld hav pw pp pk
theorem rplace_start (W L S T J R : Int) (w : World) : Below w.heap.size w ((w.alloc (boxG W L S T J R)).alloc (boxP 0 0 false)) ∧
    ((w.alloc (boxG W L S T J R)).alloc (boxP 0 0 false)).heap.size = w.heap.size + 2 ∧
    GeoAt ((w.alloc (boxG W L S T J R)).alloc (boxP 0 0 false)) w.heap.size W L S T J R ∧
    ((w.alloc (boxG W L S T J R)).alloc (boxP 0 0 false)).heap[w.heap.size + 1]? = some (.cells #[.int .i64 0, .int .i64 0, .bool false] 25 (0, 0)) := by
  refine ⟨below_box2 _ _ _, by simp, (GeoAt.new w W L S T J R _).alloc _, ?_⟩
  have := heap_alloc_new (w.alloc (boxG W L S T J R)) (boxP 0 0 false)
  rwa [World.size_alloc] at this
/-- what is behind a call: nothing below turned -/
structure St (w X : World) (W L S T J R : Int) : Prop where
  b : Below w.heap.size w X
  s : w.heap.size + 2 ≤ X.heap.size
  g : GeoAt X w.heap.size W L S T J R
  n : X.heap[w.heap.size + 1]? = some (.cells #[.int .i64 0, .int .i64 0, .bool false] 25 (0, 0))
theorem St.next {w X Y : World} {W L S T J R : Int} (h : St w X W L S T J R) (hb : Below X.heap.size X Y) : St w Y W L S T J R :=
  ⟨h.b.trans (hb.mono h.b.size), Nat.le_trans h.s hb.size, h.g.below hb h.g.lt, (hb.block _ (by have := h.s; omega)).trans h.n⟩
set_option maxRecDepth 100000 in
set_option maxHeartbeats 1000000 in
/-- a number that has no place -/
theorem rplace_no (W L S T J R b : Int) (w : World) (h : hav W L S T J R b = false) :
    Calls Try.prog 10 #[geV W L S T J R, .int .i64 b] w fun e w' => e = .returned (.tuple #[plV 0 0 false, .bool false]) ∧ Below w.heap.size w w' := by
  obtain ⟨hb0, hs0, hg0, hn0⟩ := rplace_start W L S T J R w
  have HS := Lib.hid (St.mk hb0 (Nat.le_of_eq hs0.symm) hg0 hn0)
  clear hb0 hs0 hg0 hn0
  cases hv : vld W L S T J R
  · have HV := Lib.hid hv
    clear hv
    go_enter Try.func10, Try.ntmps10
    go_wp2_with fail
    generalize World.alloc _ _ = X0 at HS ⊢
    refine (rvalid_any W L S T J R X0).mono ?_
    rw [HV.out]
    rintro e w1 ⟨rfl, hb⟩
    have HS1 := Lib.hid (HS.out.next hb)
    clear hb
    go_wp2_with (with_reducible refine wpList_store_pl rfl (.tmp 4) (.tmp 23) rfl (w.heap.size + 1) rfl _ _ _ rfl _ _ _ HS1.out.n ?_)
    refine post_cell2 (cs := #[.int .i64 0, .int .i64 0, .bool false]) rfl rfl (setRow_heap _ _ _ _ _ _ HS1.out.n) Try.underlying25 rfl infoPl rfl rfl ⟨rfl, below_set HS1.out.b (by omega) _⟩
  have HV := Lib.hid hv
  have HC := Lib.hid (capU_yes (vld_iff.1 hv))
  have hh := hav_not.1 h
  by_cases h0 : b < 0
  · clear hv hh h
    go_enter Try.func10, Try.ntmps10
    go_wp2_with fail
    generalize World.alloc _ _ = X0 at HS ⊢
    refine (rvalid_any W L S T J R X0).mono ?_
    rw [HV.out]
    rintro e w1 ⟨rfl, hb⟩
    have HS1 := Lib.hid (HS.out.next hb)
    clear hb
    go_wp2_with (with_reducible refine wpList_store_pl rfl (.tmp 4) (.tmp 23) rfl (w.heap.size + 1) rfl _ _ _ rfl _ _ _ HS1.out.n ?_)
    refine post_cell2 (cs := #[.int .i64 0, .int .i64 0, .bool false]) rfl rfl (setRow_heap _ _ _ _ _ _ HS1.out.n) Try.underlying25 rfl infoPl rfl rfl ⟨rfl, below_set HS1.out.b (by omega) _⟩
  have h1 : W * L < b := by
    rcases Int.lt_or_le (W * L) b with h2 | h2
    · exact h2
    · exact absurd ⟨vld_iff.1 hv, by omega, h2⟩ hh
  clear hv hh h
  go_enter Try.func10, Try.ntmps10
  go_wp2_with fail
  generalize World.alloc _ _ = X0 at HS ⊢
  refine (rvalid_any W L S T J R X0).mono ?_
  rw [HV.out]
  rintro e w1 ⟨rfl, hb⟩
  have HS1 := Lib.hid (HS.out.next hb)
  clear hb HS
  obtain ⟨_, g0, g1, g2, g3, g4, g5⟩ := HS1.out.g
  go_wp2_with fail
  refine (rcapacity_any W L S T J R w1).mono ?_
  rw [HC.out]
  rintro e w2 ⟨rfl, hb⟩
  have HS2 := Lib.hid (HS1.out.next hb)
  clear hb HS1 g0 g1 g2 g3 g4 g5
  go_wp2_with (with_reducible refine wpList_store_pl rfl (.tmp 4) (.tmp 23) rfl (w.heap.size + 1) rfl _ _ _ rfl _ _ _ HS2.out.n ?_)
  refine post_cell2 (cs := #[.int .i64 0, .int .i64 0, .bool false]) rfl rfl (setRow_heap _ _ _ _ _ _ HS2.out.n) Try.underlying25 rfl infoPl rfl rfl ⟨rfl, below_set HS2.out.b (by omega) _⟩
/-- a block that has a place, other than the last one's follower -/
theorem in_facts {W L b : Int} (l0 : 1 ≤ L) (b0 : 0 ≤ b) (b1 : b < W * L) : b / L = wr W L b ∧ b % L = b - wr W L b * L := by
  have hw : b / L < W := by
    rw [Int.ediv_lt_iff_lt_mul (by omega)]; exact b1
  have e : b / L = wr W L b := by unfold wr; omega
  have hd := Int.emod_add_mul_ediv b L
  refine ⟨e, ?_⟩
  rw [← e, Int.mul_comm]; omega
theorem last_facts {W L : Int} (w0 : 1 ≤ W) (l0 : 1 ≤ L) : wr W L (W * L - 1) = wr W L (W * L) ∧ bk W L (W * L - 1) = bk W L (W * L) ∧ po W L (W * L) = (if bk W L (W * L) = true then po W L (W * L - 1) - 1 else po W L (W * L - 1) + 1) := by
  have e1 : wr W L (W * L) = W - 1 := by
    have := wr_of (W := W) (w := W - 1) (o := L) l0 (by omega) (.inr ⟨rfl, rfl⟩) (by omega)
    rwa [Int.sub_mul, show W * L - 1 * L + L = W * L by omega] at this
  have e2 : wr W L (W * L - 1) = W - 1 := by
    have := wr_of (W := W) (w := W - 1) (o := L - 1) l0 (by omega) (.inl (by omega)) (by omega)
    rwa [Int.sub_mul, show W * L - 1 * L + (L - 1) = W * L - 1 by omega] at this
  have e3 : W * L - (W - 1) * L = L := by rw [Int.sub_mul]; omega
  refine ⟨by rw [e1, e2], by unfold bk; rw [e1, e2], ?_⟩
  unfold bk po
  rw [e1, e2]
  by_cases h : (W - 1) % 2 = 1
  · simp only [h, if_true, decide_true]; omega
  · simp only [h, if_false, decide_false]
    rw [if_neg (by simp)]
    omega
set_option maxRecDepth 100000 in
set_option maxHeartbeats 1000000 in
/-- a block that has a place -/
theorem rplace_in (W L S T J R b : Int) (w : World) (v : Vld W L S T J R) (b0 : 0 ≤ b) (b1 : b < W * L) :
    Calls Try.prog 10 #[geV W L S T J R, .int .i64 b] w fun e w' => e = .returned (.tuple #[plV (wr W L b) (po W L b) (bk W L b), .bool true]) ∧ Below w.heap.size w w' := by
  obtain ⟨hb0, hs0, hg0, hn0⟩ := rplace_start W L S T J R w
  have HS := Lib.hid (St.mk hb0 (Nat.le_of_eq hs0.symm) hg0 hn0)
  clear hb0 hs0 hg0 hn0
  have HV := Lib.hid (vld_iff.2 v)
  have HC := Lib.hid (capU_yes v)
  have hm1 := v.c1
  obtain ⟨hq, hr⟩ := in_facts v.l0 b0 b1
  obtain ⟨r0, r1, r2, _, r3⟩ := wr_bd v.w0 v.l0 b0 (by omega)
  replace r3 := r3 b1
  have hw1 := v.w1
  have hl0 := v.l0
  have hl1 := v.l1
  have hbn : ¬ b = W * L := by omega
  have hbn2 : (b == W * L) = false := by rw [beq_eq_false_iff_ne]; exact hbn
  clear v
  go_enter Try.func10, Try.ntmps10
  go_wp2_with fail
  generalize World.alloc _ _ = X0 at HS ⊢
  refine (rvalid_any W L S T J R X0).mono ?_
  rw [HV.out]
  rintro e w1 ⟨rfl, hb⟩
  have HS1 := Lib.hid (HS.out.next hb)
  clear hb HS
  obtain ⟨_, g0, g1, g2, g3, g4, g5⟩ := HS1.out.g
  go_wp2_with fail
  refine (rcapacity_any W L S T J R w1).mono ?_
  rw [HC.out]
  rintro e w2 ⟨rfl, hb⟩
  have HS2 := Lib.hid (HS1.out.next hb)
  clear hb HS1 g0 g1 g2 g3 g4 g5
  obtain ⟨_, g0, g1, g2, g3, g4, g5⟩ := HS2.out.g
  go_wp2_with fail
  refine (rcapacity_any W L S T J R w2).mono ?_
  rw [HC.out]
  rintro e w3 ⟨rfl, hb⟩
  have HS3 := Lib.hid (HS2.out.next hb)
  clear hb HS2 g0 g1 g2 g3 g4 g5
  obtain ⟨_, g0, g1, g2, g3, g4, g5⟩ := HS3.out.g
  by_cases ho : wr W L b % 2 = 1
  · have hp : L - 1 - (b - wr W L b * L) = po W L b := by unfold po; rw [if_pos ho]
    have HK := Lib.hid (show bk W L b = true by unfold bk; rw [decide_eq_true ho])
    go_wp2_with (with_reducible refine wpList_store_pl rfl (.tmp 4) (.tmp 63) rfl (w.heap.size + 1) rfl _ _ _ rfl _ _ _ HS3.out.n ?_)
    refine post_cell2 (cs := #[.int .i64 (wr W L b), .int .i64 (po W L b), .bool true]) rfl rfl (setRow_heap _ _ _ _ _ _ HS3.out.n) Try.underlying25 rfl infoPl rfl rfl ⟨by rw [HK.out]; rfl, below_set HS3.out.b (by omega) _⟩
  · have hp : b - wr W L b * L = po W L b := by unfold po; rw [if_neg ho]
    have HK := Lib.hid (show bk W L b = false by unfold bk; rw [decide_eq_false ho])
    go_wp2_with (with_reducible refine wpList_store_pl rfl (.tmp 4) (.tmp 66) rfl (w.heap.size + 1) rfl _ _ _ rfl _ _ _ HS3.out.n ?_)
    refine post_cell2 (cs := #[.int .i64 (wr W L b), .int .i64 (po W L b), .bool false]) rfl rfl (setRow_heap _ _ _ _ _ _ HS3.out.n) Try.underlying25 rfl infoPl rfl rfl ⟨by rw [HK.out]; rfl, below_set HS3.out.b (by omega) _⟩
set_option maxRecDepth 100000 in
set_option maxHeartbeats 1000000 in
/-- the place behind the last block -/
theorem rplace_last (W L S T J R : Int) (w : World) (v : Vld W L S T J R) :
    Calls Try.prog 10 #[geV W L S T J R, .int .i64 (W * L)] w fun e w' => e = .returned (.tuple #[plV (wr W L (W * L)) (po W L (W * L)) (bk W L (W * L)), .bool true]) ∧ Below w.heap.size w w' := by
  obtain ⟨hb0, hs0, hg0, hn0⟩ := rplace_start W L S T J R w
  have HS := Lib.hid (St.mk hb0 (Nat.le_of_eq hs0.symm) hg0 hn0)
  clear hb0 hs0 hg0 hn0
  have HV := Lib.hid (vld_iff.2 v)
  have HC := Lib.hid (capU_yes v)
  have hm1 := v.c1
  have hm0 : 1 ≤ W * L := by have := cap_pos v.w0 v.l0; have := v.l0; omega
  have HI := Lib.hid (fun X => rplace_in W L S T J R (W * L - 1) X v (by omega) (by omega))
  obtain ⟨e1, e2, e3⟩ := last_facts v.w0 v.l0
  have hpo := po_bd v.w0 v.l0 (b := W * L - 1) (by omega) (by omega)
  have hl1 := v.l1
  rw [e1, e2] at HI
  have HE := Lib.hid e3
  clear v e1 e2 e3
  go_enter Try.func10, Try.ntmps10
  go_wp2_with fail
  generalize World.alloc _ _ = X0 at HS ⊢
  refine (rvalid_any W L S T J R X0).mono ?_
  rw [HV.out]
  rintro e w1 ⟨rfl, hb⟩
  have HS1 := Lib.hid (HS.out.next hb)
  clear hb HS
  obtain ⟨_, g0, g1, g2, g3, g4, g5⟩ := HS1.out.g
  go_wp2_with fail
  refine (rcapacity_any W L S T J R w1).mono ?_
  rw [HC.out]
  rintro e w2 ⟨rfl, hb⟩
  have HS2 := Lib.hid (HS1.out.next hb)
  clear hb HS1 g0 g1 g2 g3 g4 g5
  obtain ⟨_, g0, g1, g2, g3, g4, g5⟩ := HS2.out.g
  go_wp2_with fail
  refine (rcapacity_any W L S T J R w2).mono ?_
  rw [HC.out]
  rintro e w3 ⟨rfl, hb⟩
  have HS3 := Lib.hid (HS2.out.next hb)
  clear hb HS2 g0 g1 g2 g3 g4 g5
  obtain ⟨_, g0, g1, g2, g3, g4, g5⟩ := HS3.out.g
  go_wp2_with fail
  refine (HI.out w3).mono ?_
  rintro e w4 ⟨rfl, hb⟩
  have HS4 := Lib.hid (HS3.out.next hb)
  clear hb HS3 g0 g1 g2 g3 g4 g5
  have hlt : w.heap.size + 1 < w4.heap.size := by have := HS4.out.s; omega
  generalize po W L (W * L - 1) = q at HE hpo ⊢
  cases hk : bk W L (W * L)
  · have HR := Lib.hid (show po W L (W * L) = q + 1 by rw [HE.out, hk]; simp)
    have HN := Lib.hid ((Below.heap_alloc w4 (boxP (wr W L (W * L)) (q + 1) false) _ hlt).trans HS4.out.n)
    go_wp2_with (with_reducible refine wpList_store_pl rfl (.tmp 4) (.tmp 45) rfl (w.heap.size + 1) rfl _ _ _ rfl _ _ _ HN.out ?_)
    refine post_cell2 (cs := #[.int .i64 (wr W L (W * L)), .int .i64 (q + 1), .bool false]) rfl rfl (setRow_heap _ _ _ _ _ _ HN.out) Try.underlying25 rfl infoPl rfl rfl ⟨by rw [HR.out, hk]; rfl, below_set (HS4.out.b.alloc HS4.out.b.size _) (by omega) _⟩
  · have HR := Lib.hid (show po W L (W * L) = q - 1 by rw [HE.out, hk]; simp)
    have HN := Lib.hid ((Below.heap_alloc w4 (boxP (wr W L (W * L)) (q - 1) true) _ hlt).trans HS4.out.n)
    go_wp2_with (with_reducible refine wpList_store_pl rfl (.tmp 4) (.tmp 45) rfl (w.heap.size + 1) rfl _ _ _ rfl _ _ _ HN.out ?_)
    refine post_cell2 (cs := #[.int .i64 (wr W L (W * L)), .int .i64 (q - 1), .bool true]) rfl rfl (setRow_heap _ _ _ _ _ _ HN.out) Try.underlying25 rfl infoPl rfl rfl ⟨by rw [HR.out, hk]; rfl, below_set (HS4.out.b.alloc HS4.out.b.size _) (by omega) _⟩
/-- for every number -/
theorem rplace_any (W L S T J R b : Int) (w : World) :
    Calls Try.prog 10 #[geV W L S T J R, .int .i64 b] w fun e w' => e = .returned (.tuple #[plV (pw W L S T J R b) (pp W L S T J R b) (pk W L S T J R b), .bool (hav W L S T J R b)]) ∧ Below w.heap.size w w' := by
  cases hv : hav W L S T J R b
  · rw [show pw W L S T J R b = 0 by unfold pw; rw [hv]; rfl, show pp W L S T J R b = 0 by unfold pp; rw [hv]; rfl, show pk W L S T J R b = false by unfold pk; rw [hv]; rfl]
    exact rplace_no W L S T J R b w hv
  · rw [show pw W L S T J R b = wr W L b by unfold pw; rw [hv]; rfl, show pp W L S T J R b = po W L b by unfold pp; rw [hv]; rfl, show pk W L S T J R b = bk W L b by unfold pk; rw [hv]; rfl]
    obtain ⟨v, b0, b1⟩ := hav_iff.1 hv
    rcases Int.lt_or_le b (W * L) with h | h
    · exact rplace_in W L S T J R b w v b0 h
    · obtain rfl : b = W * L := by omega
      exact rplace_last W L S T J R w v
end Go.Proofs.Ytcoijhemnfnghaa
