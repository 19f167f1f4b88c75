/-
  The statement SerpentineAdds.
-/
import Derived.Test.YtcoijhemnfnghaaSAwake
import Derived.Test.YtcoijhemnfnghaaNHeld
namespace Go.Proofs.Ytcoijhemnfnghaa
open Go.RowKit
set_option linter.unusedVariables false
/-- within a wrap the ways add -/
theorem quot_mid {L a b c : Int} (l0 : 1 ≤ L) (ab : a ≤ b) (bc : b ≤ c) (h : a / L = c / L) : a / L = b / L ∧ b / L = c / L := by
  have h1 : a / L ≤ b / L := Int.ediv_le_ediv (by omega) ab
  have h2 : b / L ≤ c / L := Int.ediv_le_ediv (by omega) bc
  omega
theorem loc_adds {W L S T J R a b c : Int} (v : Vld W L S T J R) (a0 : 0 ≤ a) (ab : a ≤ b) (bc : b ≤ c) (cC : c < W * L) (h : a / L = c / L) :
    loc W L S T J R a c = loc W L S T J R a b + loc W L S T J R b c := by
  obtain ⟨h1, h2⟩ := quot_mid v.l0 ab bc h
  have hh := fun x (x0 : 0 ≤ x) (x1 : x < W * L) => (hav_iff (b := x)).2 ⟨v, x0, Int.le_of_lt x1⟩
  rw [loc_yes (by rw [hh a a0 (by omega), hh c (by omega) cC]; rfl), loc_yes (by rw [hh a a0 (by omega), hh b (by omega) (by omega)]; rfl), loc_yes (by rw [hh b (by omega) (by omega), hh c (by omega) cC]; rfl),
    mo_within (S := S) (T := T) (J := J) (W := W) (by omega) h, mo_within (S := S) (T := T) (J := J) (W := W) ab h1, mo_within (S := S) (T := T) (J := J) (W := W) bc h2, ← Int.mul_add]
  congr 1
  omega
theorem loc_bd {W L S T J R a b : Int} (v : Vld W L S T J R) (a0 : 0 ≤ a) (a1 : a ≤ W * L) (b0 : 0 ≤ b) (b1 : b ≤ W * L) : 0 ≤ loc W L S T J R a b ∧ loc W L S T J R a b ≤ 5000000000 := by
  rw [loc_yes (by rw [hav_iff.2 ⟨v, a0, a1⟩, hav_iff.2 ⟨v, b0, b1⟩]; rfl)]
  exact mo_bd v a0 a1 b0 b1
attribute [local irreducible] tim vld hav wr po bk loc rd capU
set_option maxRecDepth 100000 in
set_option maxHeartbeats 4000000 in
theorem law_adds (W L S T J R a b c : Int) (w : World) :
    Calls Try.prog 7 #[geV W L S T J R, .int .i64 a, .int .i64 b, .int .i64 c] w fun e w' => e = .returned (.bool true) ∧ Below w.heap.size w w' := by
  have HB0 := Lib.hid (below_box1 w (boxG W L S T J R))
  have HG := Lib.hid (GeoAt.new w W L S T J R 23)
  have HCA := Lib.hid (fun X => capacity_any W L S T J R X)
  by_cases hin : 0 ≤ a ∧ a ≤ b ∧ b ≤ c ∧ c < capU W L S T J R
  rotate_left
  · generalize capU W L S T J R = C at *
    have part : a < 0 ∨ (0 ≤ a ∧ b < a) ∨ (0 ≤ a ∧ a ≤ b ∧ c < b) ∨ (0 ≤ a ∧ a ≤ b ∧ b ≤ c ∧ C ≤ c) := by omega
    clear hin
    rcases part with h1 | ⟨h1, h2⟩ | ⟨h1, h2, h3⟩ | ⟨h1, h2, h3, h4⟩
    all_goals
      go_enter Try.func7, Try.ntmps7
      go_wp2_with fail
      generalize World.alloc _ _ = X0 at HB0 HG ⊢
      refine (HCA.out X0).mono ?_
      rintro e w1 ⟨rfl, hb⟩
      have HB1 := Lib.hid (HB0.out.trans (hb.mono HB0.out.size))
      clear hb
      go_wp2_with fail
      refine (awake_any _).mono ?_
      rintro e w8 ⟨rfl, hb⟩
      have HB8 := Lib.hid (HB1.out.trans (hb.mono HB1.out.size))
      clear hb
      go_wp2
      go_ret
      exact ⟨rfl, HB8.out⟩
  obtain ⟨a0, ab, bc, cC⟩ := hin
  have hv : Vld W L S T J R := by
    rcases Classical.em (Vld W L S T J R) with hv | hv
    · exact hv
    · rw [capU_no hv] at cC; omega
  rw [capU_yes hv] at cC HCA
  have c1 := hv.c1
  have l0 := hv.l0
  have lne : L ≠ 0 := by omega
  have x := rea_bd (a := a) (n := b - a) hv a0 (by omega) (by omega)
  have y := rea_bd (a := b) (n := c - b) hv (by omega) (by omega) (by omega)
  have z := rea_bd (a := a) (n := c - a) hv a0 (by omega) (by omega)
  have hp := rea_parts (L := L) (T := T) (J := J) (R := R) (a := a) (n := b - a) (m := c - b) hv.l0 (by omega) (by omega)
  rw [show b - a + (c - b) = c - a by omega, show a + (b - a) = b by omega] at hp
  rw [← rd_yes (S := S) hv a0 (show 0 ≤ b - a by omega) (show a + (b - a) ≤ W * L by omega)] at x hp
  rw [← rd_yes (S := S) hv (show 0 ≤ b by omega) (show 0 ≤ c - b by omega) (show b + (c - b) ≤ W * L by omega)] at y hp
  rw [← rd_yes (S := S) hv a0 (show 0 ≤ c - a by omega) (show a + (c - a) ≤ W * L by omega)] at z hp
  have HLA := Lib.hid (fun h => loc_adds hv a0 ab bc cC h)
  have u1 := loc_bd hv a0 (show a ≤ W * L by omega) (show 0 ≤ c by omega) (show c ≤ W * L by omega)
  have u2 := loc_bd hv a0 (show a ≤ W * L by omega) (show 0 ≤ b by omega) (show b ≤ W * L by omega)
  have u3 := loc_bd hv (show 0 ≤ b by omega) (show b ≤ W * L by omega) (show 0 ≤ c by omega) (show c ≤ W * L by omega)
  have HRa := Lib.hid (fun X => read_any W L S T J R a (b - a) X)
  have HRb := Lib.hid (fun X => read_any W L S T J R b (c - b) X)
  have HRc := Lib.hid (fun X => read_any W L S T J R a (c - a) X)
  have HLac := Lib.hid (fun X => locate_any W L S T J R a c X)
  have HLab := Lib.hid (fun X => locate_any W L S T J R a b X)
  have HLbc := Lib.hid (fun X => locate_any W L S T J R b c X)
  have t0 := hv.t0
  have t1 := hv.t1
  have j0 := hv.j0
  have j1 := hv.j1
  clear hv
  generalize rd W L S T J R a (b - a) = x1 at *
  generalize rd W L S T J R b (c - b) = x2 at *
  generalize rd W L S T J R a (c - a) = x3 at *
  generalize loc W L S T J R a c = y1 at *
  generalize loc W L S T J R a b = y2 at *
  generalize loc W L S T J R b c = y3 at *
  generalize W * L = C at *
  obtain ⟨x10, x11⟩ := x
  obtain ⟨x20, x21⟩ := y
  obtain ⟨x30, x31⟩ := z
  obtain ⟨y10, y11⟩ := u1
  obtain ⟨y20, y21⟩ := u2
  obtain ⟨y30, y31⟩ := u3
  have HPT := Lib.hid hp
  clear hp
  have hw1 : IntKind.i64.wrap (y2 + y3) = y2 + y3 := by rw [IntKind.wrap_i64]; omega
  have b0 : 0 ≤ b := by omega
  have c0 : 0 ≤ c := by omega
  have hda : IntKind.i64.wrap (a.tdiv L) = a / L := by
    rw [Int.tdiv_eq_ediv_of_nonneg a0, IntKind.wrap_i64]
    have h1 := Int.ediv_nonneg a0 (show 0 ≤ L by omega)
    have h2 := Int.ediv_le_self L a0
    omega
  have hdc : IntKind.i64.wrap (c.tdiv L) = c / L := by
    rw [Int.tdiv_eq_ediv_of_nonneg c0, IntKind.wrap_i64]
    have h1 := Int.ediv_nonneg c0 (show 0 ≤ L by omega)
    have h2 := Int.ediv_le_self L c0
    omega
  go_enter Try.func7, Try.ntmps7
  go_wp2_with fail
  generalize World.alloc _ _ = X0 at HB0 HG ⊢
  refine (HCA.out X0).mono ?_
  rintro e w1 ⟨rfl, hb⟩
  have HB1 := Lib.hid (HB0.out.trans (hb.mono HB0.out.size))
  have HGY := Lib.hid (HG.out.below hb HG.out.lt)
  clear hb
  have HBX := Lib.hid (Below.refl w1.heap.size w1).drew
  by_cases hq : a / L = c / L
  · have hqe : (a / L == c / L) = true := by rw [beq_iff_eq]; exact hq
    have hae : (y1 == y2 + y3) = true := by rw [beq_iff_eq]; exact HLA.out hq
    clear hq
    go_wp2_with fail
    refine wp_region_noPanic ?_
    refine wp_region_held_drew (S := fun X => Below w1.heap.size w1 X) (by kernel_rfl) (HBX.out) (fun hS0 => ?_)
    refine held_take (i := 0) (v := ?_) rfl (by kernel_rfl) (by kernel_rfl) (by kernel_rfl) (fun _ _ _ h => h) (by rfl) ?_ (by assumption) ?_
    rotate_left
    · intro X hSX
      try dsimp only at hSX
      go_simp <;> with_reducible rfl
    simp only [Act.put, List.setIfInBounds_toArray, List.set_cons_zero, List.set_cons_succ]
    refine held_take (i := 1) (v := ?_) rfl (by kernel_rfl) (by kernel_rfl) (by kernel_rfl) (fun _ _ _ h => h) (by rfl) ?_ (by assumption) ?_
    rotate_left
    · intro X hSX
      try dsimp only at hSX
      go_simp <;> with_reducible rfl
    simp only [Act.put, List.setIfInBounds_toArray, List.set_cons_zero, List.set_cons_succ]
    refine held_take (i := 4) (v := ?_) rfl (by kernel_rfl) (by kernel_rfl) (by kernel_rfl) (fun _ _ _ h => h) (by rfl) ?_ (by assumption) ?_
    rotate_left
    · intro X hSX
      try dsimp only at hSX
      go_simp <;> with_reducible rfl
    simp only [Act.put, List.setIfInBounds_toArray, List.set_cons_zero, List.set_cons_succ]
    refine held_take (i := 5) (v := ?_) rfl (by kernel_rfl) (by kernel_rfl) (by kernel_rfl) (fun _ _ _ h => h) (by rfl) ?_ (by assumption) ?_
    rotate_left
    · intro X hSX
      try dsimp only at hSX
      go_simp <;> with_reducible rfl
    simp only [Act.put, List.setIfInBounds_toArray, List.set_cons_zero, List.set_cons_succ]
    refine held_take (i := 2) (v := ?_) rfl (by kernel_rfl) (by kernel_rfl) (by kernel_rfl) (fun _ _ _ h => h) (by rfl) ?_ (by assumption) ?_
    rotate_left
    · intro X hSX
      try dsimp only at hSX
      obtain ⟨_, g0, g1, g2, g3, g4, g5⟩ := HGY.out.below hSX HGY.out.lt
      go_simp <;> with_reducible rfl
    simp only [Act.put, List.setIfInBounds_toArray, List.set_cons_zero, List.set_cons_succ]
    refine held_take (i := 6) (v := ?_) rfl (by kernel_rfl) (by kernel_rfl) (by kernel_rfl) (fun _ _ _ h => h) (by rfl) ?_ (by assumption) ?_
    rotate_left
    · intro X hSX
      try dsimp only at hSX
      obtain ⟨_, g0, g1, g2, g3, g4, g5⟩ := HGY.out.below hSX HGY.out.lt
      go_simp <;> with_reducible rfl
    simp only [Act.put, List.setIfInBounds_toArray, List.set_cons_zero, List.set_cons_succ]
    refine held_take (i := 3) (v := ?_) rfl (by kernel_rfl) (by kernel_rfl) (by kernel_rfl) (fun _ _ _ h => h) (by rfl) ?_ (by assumption) ?_
    rotate_left
    · intro X hSX
      try dsimp only at hSX
      go_simp <;> with_reducible rfl
    simp only [Act.put, List.setIfInBounds_toArray, List.set_cons_zero, List.set_cons_succ]
    refine held_take (i := 7) (v := ?_) rfl (by kernel_rfl) (by kernel_rfl) (by kernel_rfl) (fun _ _ _ h => h) (by rfl) ?_ (by assumption) ?_
    rotate_left
    · intro X hSX
      try dsimp only at hSX
      go_simp <;> with_reducible rfl
    simp only [Act.put, List.setIfInBounds_toArray, List.set_cons_zero, List.set_cons_succ]
    refine held_take (i := 8) (v := ?_) rfl (by kernel_rfl) (by kernel_rfl) (by kernel_rfl) (fun _ _ _ h => h) (by rfl) ?_ (by assumption) ?_
    rotate_left
    · intro X hSX
      try dsimp only at hSX
      go_simp <;> with_reducible rfl
    simp only [Act.put, List.setIfInBounds_toArray, List.set_cons_zero, List.set_cons_succ]
    refine held_take (i := 9) (v := ?_) rfl (by kernel_rfl) (by kernel_rfl) (by kernel_rfl) (fun _ _ _ h => h) (by rfl) ?_ (by assumption) ?_
    rotate_left
    · intro X hSX
      try dsimp only at hSX
      go_simp <;> with_reducible rfl
    simp only [Act.put, List.setIfInBounds_toArray, List.set_cons_zero, List.set_cons_succ]
    refine held_take (i := 10) (v := ?_) rfl (by kernel_rfl) (by kernel_rfl) (by kernel_rfl) (fun _ _ _ h => h) (by rfl) ?_ (by assumption) ?_
    rotate_left
    · intro X hSX
      try dsimp only at hSX
      obtain ⟨_, g0, g1, g2, g3, g4, g5⟩ := HGY.out.below hSX HGY.out.lt
      go_simp <;> with_reducible rfl
    simp only [Act.put, List.setIfInBounds_toArray, List.set_cons_zero, List.set_cons_succ]
    refine held_take (i := 14) (v := ?_) rfl (by kernel_rfl) (by kernel_rfl) (by kernel_rfl) (fun _ _ _ h => h) (by rfl) ?_ (by assumption) ?_
    rotate_left
    · intro X hSX
      try dsimp only at hSX
      obtain ⟨_, g0, g1, g2, g3, g4, g5⟩ := HGY.out.below hSX HGY.out.lt
      go_simp <;> with_reducible rfl
    simp only [Act.put, List.setIfInBounds_toArray, List.set_cons_zero, List.set_cons_succ]
    refine held_take (i := 18) (v := ?_) rfl (by kernel_rfl) (by kernel_rfl) (by kernel_rfl) (fun _ _ _ h => h) (by rfl) ?_ (by assumption) ?_
    rotate_left
    · intro X hSX
      try dsimp only at hSX
      obtain ⟨_, g0, g1, g2, g3, g4, g5⟩ := HGY.out.below hSX HGY.out.lt
      go_simp <;> with_reducible rfl
    simp only [Act.put, List.setIfInBounds_toArray, List.set_cons_zero, List.set_cons_succ]
    refine held_take (i := 11) (v := ?_) rfl (by kernel_rfl) (by kernel_rfl) (by kernel_rfl) (fun _ _ _ h => h) (by rfl) ?_ (by assumption) ?_
    rotate_left
    · intro X hSX
      try dsimp only at hSX
      go_simp <;> with_reducible rfl
    simp only [Act.put, List.setIfInBounds_toArray, List.set_cons_zero, List.set_cons_succ]
    refine held_take (i := 12) (v := ?_) rfl (by kernel_rfl) (by kernel_rfl) (by kernel_rfl) (fun _ _ _ h => h) (by rfl) ?_ (by assumption) ?_
    rotate_left
    · intro X hSX
      try dsimp only at hSX
      go_simp <;> with_reducible rfl
    simp only [Act.put, List.setIfInBounds_toArray, List.set_cons_zero, List.set_cons_succ]
    refine held_take (i := 15) (v := ?_) rfl (by kernel_rfl) (by kernel_rfl) (by kernel_rfl) (fun _ _ _ h => h) (by rfl) ?_ (by assumption) ?_
    rotate_left
    · intro X hSX
      try dsimp only at hSX
      go_simp <;> with_reducible rfl
    simp only [Act.put, List.setIfInBounds_toArray, List.set_cons_zero, List.set_cons_succ]
    refine held_take (i := 16) (v := ?_) rfl (by kernel_rfl) (by kernel_rfl) (by kernel_rfl) (fun _ _ _ h => h) (by rfl) ?_ (by assumption) ?_
    rotate_left
    · intro X hSX
      try dsimp only at hSX
      go_simp <;> with_reducible rfl
    simp only [Act.put, List.setIfInBounds_toArray, List.set_cons_zero, List.set_cons_succ]
    refine held_take (i := 19) (v := ?_) rfl (by kernel_rfl) (by kernel_rfl) (by kernel_rfl) (fun _ _ _ h => h) (by rfl) ?_ (by assumption) ?_
    rotate_left
    · intro X hSX
      try dsimp only at hSX
      go_simp <;> with_reducible rfl
    simp only [Act.put, List.setIfInBounds_toArray, List.set_cons_zero, List.set_cons_succ]
    refine held_take (i := 20) (v := ?_) rfl (by kernel_rfl) (by kernel_rfl) (by kernel_rfl) (fun _ _ _ h => h) (by rfl) ?_ (by assumption) ?_
    rotate_left
    · intro X hSX
      try dsimp only at hSX
      go_simp <;> with_reducible rfl
    simp only [Act.put, List.setIfInBounds_toArray, List.set_cons_zero, List.set_cons_succ]
    refine held_call (i := 13) rfl (by kernel_rfl) (by rfl) (fun K' hK' => ?_)
    go_simp
    refine (HLac.out _).mono ?_
    rintro e w2 ⟨rfl, hb⟩
    replace HBX := Lib.hid (HBX.out.trans (hb.mono HBX.out.size))
    have hS2 := HBX.out
    clear hb
    refine held_go hK' (HBX.out) ?_
    try simp only [Act.put, List.setIfInBounds_toArray, List.set_cons_zero, List.set_cons_succ]
    refine held_call (i := 17) rfl (by kernel_rfl) (by rfl) (fun K' hK' => ?_)
    go_simp
    refine (HLab.out _).mono ?_
    rintro e w3 ⟨rfl, hb⟩
    replace HBX := Lib.hid (HBX.out.trans (hb.mono HBX.out.size))
    have hS3 := HBX.out
    clear hb
    refine held_go hK' (HBX.out) ?_
    try simp only [Act.put, List.setIfInBounds_toArray, List.set_cons_zero, List.set_cons_succ]
    refine held_call (i := 21) rfl (by kernel_rfl) (by rfl) (fun K' hK' => ?_)
    go_simp
    refine (HLbc.out _).mono ?_
    rintro e w4 ⟨rfl, hb⟩
    replace HBX := Lib.hid (HBX.out.trans (hb.mono HBX.out.size))
    have hS4 := HBX.out
    clear hb
    refine held_go hK' (HBX.out) ?_
    try simp only [Act.put, List.setIfInBounds_toArray, List.set_cons_zero, List.set_cons_succ]
    refine held_take (i := 22) (v := ?_) rfl (by kernel_rfl) (by kernel_rfl) (by kernel_rfl) (fun _ _ _ h => h) (by rfl) ?_ (by assumption) ?_
    rotate_left
    · intro X hSX
      try dsimp only at hSX
      go_simp <;> with_reducible rfl
    simp only [Act.put, List.setIfInBounds_toArray, List.set_cons_zero, List.set_cons_succ]
    refine held_take (i := 23) (v := ?_) rfl (by kernel_rfl) (by kernel_rfl) (by kernel_rfl) (fun _ _ _ h => h) (by rfl) ?_ (by assumption) ?_
    rotate_left
    · intro X hSX
      try dsimp only at hSX
      go_simp <;> with_reducible rfl
    simp only [Act.put, List.setIfInBounds_toArray, List.set_cons_zero, List.set_cons_succ]
    refine held_take (i := 24) (v := ?_) rfl (by kernel_rfl) (by kernel_rfl) (by kernel_rfl) (fun _ _ _ h => h) (by rfl) ?_ (by assumption) ?_
    rotate_left
    · intro X hSX
      try dsimp only at hSX
      go_simp <;> with_reducible rfl
    simp only [Act.put, List.setIfInBounds_toArray, List.set_cons_zero, List.set_cons_succ]
    refine wpAnyH_done (by kernel_rfl) ?_ _
    refine NoPanic.normal ?_
    have HB2 := Lib.hid (HB1.out.trans (HBX.out.mono HB1.out.size))
    have HG2 := Lib.hid (HGY.out.below HBX.out HGY.out.lt)
    obtain ⟨_, g0, g1, g2, g3, g4, g5⟩ := HG2.out
    clear hS2 hS3 hS4 HBX HGY HB1
    go_wp2_with fail
    clear g0 g1 g2 g3 g4 g5
    refine (HRa.out _).mono ?_
    rintro e w11 ⟨rfl, hb⟩
    have HB11 := Lib.hid (HB2.out.trans (hb.mono HB2.out.size))
    have HG11 := Lib.hid (HG2.out.below hb HG2.out.lt)
    clear hb HB2 HG2
    obtain ⟨_, g0, g1, g2, g3, g4, g5⟩ := HG11.out
    go_wp2_with fail
    clear g0 g1 g2 g3 g4 g5
    refine (HRb.out _).mono ?_
    rintro e w12 ⟨rfl, hb⟩
    have HB12 := Lib.hid (HB11.out.trans (hb.mono HB11.out.size))
    have HG12 := Lib.hid (HG11.out.below hb HG11.out.lt)
    clear hb HB11 HG11
    obtain ⟨_, g0, g1, g2, g3, g4, g5⟩ := HG12.out
    go_wp2_with fail
    clear g0 g1 g2 g3 g4 g5
    refine (HRc.out _).mono ?_
    rintro e w13 ⟨rfl, hb⟩
    have HB13 := Lib.hid (HB12.out.trans (hb.mono HB12.out.size))
    obtain ⟨_, g0, g1, g2, g3, g4, g5⟩ := HG12.out.below hb HG12.out.lt
    clear hb HB12
    by_cases hc3 : a < b ∧ b < c ∧ b % L = 0
    · obtain ⟨h1, h2, h3⟩ := hc3
      have HE := HPT.out
      rw [if_pos ⟨by omega, by omega, h3⟩] at HE
      have hfin : (x3 - J - T == x1 + x2) = true := by rw [beq_iff_eq]; omega
      clear HE
      go_wp2_with fail
      refine (awake_any _).mono ?_
      rintro e w18 ⟨rfl, hb⟩
      have HB18 := Lib.hid (HB13.out.trans (hb.mono HB13.out.size))
      clear hb
      go_wp2
      go_ret
      exact ⟨rfl, HB18.out⟩
    · have HE := HPT.out
      rw [if_neg (by rintro ⟨h1, h2, h3⟩; exact hc3 ⟨by omega, by omega, h3⟩)] at HE
      have hfin : (x3 == x1 + x2) = true := by rw [beq_iff_eq]; omega
      clear HE
      have part : b ≤ a ∨ (a < b ∧ c ≤ b) ∨ (a < b ∧ b < c ∧ ((b % L == 0) = false)) := by
        rcases Int.lt_or_le a b with h1 | h1
        · rcases Int.lt_or_le b c with h2 | h2
          · exact .inr (.inr ⟨h1, h2, by rw [beq_eq_false_iff_ne]; exact fun h3 => hc3 ⟨h1, h2, h3⟩⟩)
          · exact .inr (.inl ⟨h1, h2⟩)
        · exact .inl h1
      clear hc3
      rcases part with h1 | ⟨h1, h2⟩ | ⟨h1, h2, h3⟩
      all_goals
        go_wp2_with fail
        refine (awake_any _).mono ?_
        rintro e w18 ⟨rfl, hb⟩
        have HB18 := Lib.hid (HB13.out.trans (hb.mono HB13.out.size))
        clear hb
        go_wp2
        go_ret
        exact ⟨rfl, HB18.out⟩
  · have hqe : (a / L == c / L) = false := by rw [beq_eq_false_iff_ne]; exact hq
    clear hq
    go_wp2_with fail
    refine wp_region_noPanic ?_
    refine wp_region_held_drew (S := fun X => Below w1.heap.size w1 X) (by kernel_rfl) (HBX.out) (fun hS0 => ?_)
    refine held_take (i := 0) (v := ?_) rfl (by kernel_rfl) (by kernel_rfl) (by kernel_rfl) (fun _ _ _ h => h) (by rfl) ?_ (by assumption) ?_
    rotate_left
    · intro X hSX
      try dsimp only at hSX
      go_simp <;> with_reducible rfl
    simp only [Act.put, List.setIfInBounds_toArray, List.set_cons_zero, List.set_cons_succ]
    refine held_take (i := 1) (v := ?_) rfl (by kernel_rfl) (by kernel_rfl) (by kernel_rfl) (fun _ _ _ h => h) (by rfl) ?_ (by assumption) ?_
    rotate_left
    · intro X hSX
      try dsimp only at hSX
      go_simp <;> with_reducible rfl
    simp only [Act.put, List.setIfInBounds_toArray, List.set_cons_zero, List.set_cons_succ]
    refine held_take (i := 4) (v := ?_) rfl (by kernel_rfl) (by kernel_rfl) (by kernel_rfl) (fun _ _ _ h => h) (by rfl) ?_ (by assumption) ?_
    rotate_left
    · intro X hSX
      try dsimp only at hSX
      go_simp <;> with_reducible rfl
    simp only [Act.put, List.setIfInBounds_toArray, List.set_cons_zero, List.set_cons_succ]
    refine held_take (i := 5) (v := ?_) rfl (by kernel_rfl) (by kernel_rfl) (by kernel_rfl) (fun _ _ _ h => h) (by rfl) ?_ (by assumption) ?_
    rotate_left
    · intro X hSX
      try dsimp only at hSX
      go_simp <;> with_reducible rfl
    simp only [Act.put, List.setIfInBounds_toArray, List.set_cons_zero, List.set_cons_succ]
    refine held_take (i := 2) (v := ?_) rfl (by kernel_rfl) (by kernel_rfl) (by kernel_rfl) (fun _ _ _ h => h) (by rfl) ?_ (by assumption) ?_
    rotate_left
    · intro X hSX
      try dsimp only at hSX
      obtain ⟨_, g0, g1, g2, g3, g4, g5⟩ := HGY.out.below hSX HGY.out.lt
      go_simp <;> with_reducible rfl
    simp only [Act.put, List.setIfInBounds_toArray, List.set_cons_zero, List.set_cons_succ]
    refine held_take (i := 6) (v := ?_) rfl (by kernel_rfl) (by kernel_rfl) (by kernel_rfl) (fun _ _ _ h => h) (by rfl) ?_ (by assumption) ?_
    rotate_left
    · intro X hSX
      try dsimp only at hSX
      obtain ⟨_, g0, g1, g2, g3, g4, g5⟩ := HGY.out.below hSX HGY.out.lt
      go_simp <;> with_reducible rfl
    simp only [Act.put, List.setIfInBounds_toArray, List.set_cons_zero, List.set_cons_succ]
    refine held_take (i := 3) (v := ?_) rfl (by kernel_rfl) (by kernel_rfl) (by kernel_rfl) (fun _ _ _ h => h) (by rfl) ?_ (by assumption) ?_
    rotate_left
    · intro X hSX
      try dsimp only at hSX
      go_simp <;> with_reducible rfl
    simp only [Act.put, List.setIfInBounds_toArray, List.set_cons_zero, List.set_cons_succ]
    refine held_take (i := 7) (v := ?_) rfl (by kernel_rfl) (by kernel_rfl) (by kernel_rfl) (fun _ _ _ h => h) (by rfl) ?_ (by assumption) ?_
    rotate_left
    · intro X hSX
      try dsimp only at hSX
      go_simp <;> with_reducible rfl
    simp only [Act.put, List.setIfInBounds_toArray, List.set_cons_zero, List.set_cons_succ]
    refine held_take (i := 8) (v := ?_) rfl (by kernel_rfl) (by kernel_rfl) (by kernel_rfl) (fun _ _ _ h => h) (by rfl) ?_ (by assumption) ?_
    rotate_left
    · intro X hSX
      try dsimp only at hSX
      go_simp <;> with_reducible rfl
    simp only [Act.put, List.setIfInBounds_toArray, List.set_cons_zero, List.set_cons_succ]
    refine held_take (i := 9) (v := ?_) rfl (by kernel_rfl) (by kernel_rfl) (by kernel_rfl) (fun _ _ _ h => h) (by rfl) ?_ (by assumption) ?_
    rotate_left
    · intro X hSX
      try dsimp only at hSX
      go_simp <;> with_reducible rfl
    simp only [Act.put, List.setIfInBounds_toArray, List.set_cons_zero, List.set_cons_succ]
    refine held_skip (i := 10) rfl (by kernel_rfl) (by kernel_rfl) (by kernel_rfl) (fun _ _ _ h => h) (by rfl) (by assumption) ?_
    simp only [Act.put, List.setIfInBounds_toArray, List.set_cons_zero, List.set_cons_succ]
    refine held_skip (i := 11) rfl (by kernel_rfl) (by kernel_rfl) (by kernel_rfl) (fun _ _ _ h => h) (by rfl) (by assumption) ?_
    simp only [Act.put, List.setIfInBounds_toArray, List.set_cons_zero, List.set_cons_succ]
    refine held_skip (i := 12) rfl (by kernel_rfl) (by kernel_rfl) (by kernel_rfl) (fun _ _ _ h => h) (by rfl) (by assumption) ?_
    simp only [Act.put, List.setIfInBounds_toArray, List.set_cons_zero, List.set_cons_succ]
    refine held_skip (i := 13) rfl (by kernel_rfl) (by kernel_rfl) (by kernel_rfl) (fun _ _ _ h => h) (by rfl) (by assumption) ?_
    simp only [Act.put, List.setIfInBounds_toArray, List.set_cons_zero, List.set_cons_succ]
    refine held_skip (i := 14) rfl (by kernel_rfl) (by kernel_rfl) (by kernel_rfl) (fun _ _ _ h => h) (by rfl) (by assumption) ?_
    simp only [Act.put, List.setIfInBounds_toArray, List.set_cons_zero, List.set_cons_succ]
    refine held_skip (i := 15) rfl (by kernel_rfl) (by kernel_rfl) (by kernel_rfl) (fun _ _ _ h => h) (by rfl) (by assumption) ?_
    simp only [Act.put, List.setIfInBounds_toArray, List.set_cons_zero, List.set_cons_succ]
    refine held_skip (i := 16) rfl (by kernel_rfl) (by kernel_rfl) (by kernel_rfl) (fun _ _ _ h => h) (by rfl) (by assumption) ?_
    simp only [Act.put, List.setIfInBounds_toArray, List.set_cons_zero, List.set_cons_succ]
    refine held_skip (i := 17) rfl (by kernel_rfl) (by kernel_rfl) (by kernel_rfl) (fun _ _ _ h => h) (by rfl) (by assumption) ?_
    simp only [Act.put, List.setIfInBounds_toArray, List.set_cons_zero, List.set_cons_succ]
    refine held_skip (i := 18) rfl (by kernel_rfl) (by kernel_rfl) (by kernel_rfl) (fun _ _ _ h => h) (by rfl) (by assumption) ?_
    simp only [Act.put, List.setIfInBounds_toArray, List.set_cons_zero, List.set_cons_succ]
    refine held_skip (i := 19) rfl (by kernel_rfl) (by kernel_rfl) (by kernel_rfl) (fun _ _ _ h => h) (by rfl) (by assumption) ?_
    simp only [Act.put, List.setIfInBounds_toArray, List.set_cons_zero, List.set_cons_succ]
    refine held_skip (i := 20) rfl (by kernel_rfl) (by kernel_rfl) (by kernel_rfl) (fun _ _ _ h => h) (by rfl) (by assumption) ?_
    simp only [Act.put, List.setIfInBounds_toArray, List.set_cons_zero, List.set_cons_succ]
    refine held_skip (i := 21) rfl (by kernel_rfl) (by kernel_rfl) (by kernel_rfl) (fun _ _ _ h => h) (by rfl) (by assumption) ?_
    simp only [Act.put, List.setIfInBounds_toArray, List.set_cons_zero, List.set_cons_succ]
    refine held_skip (i := 22) rfl (by kernel_rfl) (by kernel_rfl) (by kernel_rfl) (fun _ _ _ h => h) (by rfl) (by assumption) ?_
    simp only [Act.put, List.setIfInBounds_toArray, List.set_cons_zero, List.set_cons_succ]
    refine held_skip (i := 23) rfl (by kernel_rfl) (by kernel_rfl) (by kernel_rfl) (fun _ _ _ h => h) (by rfl) (by assumption) ?_
    simp only [Act.put, List.setIfInBounds_toArray, List.set_cons_zero, List.set_cons_succ]
    refine held_take (i := 24) (v := ?_) rfl (by kernel_rfl) (by kernel_rfl) (by kernel_rfl) (fun _ _ _ h => h) (by rfl) ?_ (by assumption) ?_
    rotate_left
    · intro X hSX
      try dsimp only at hSX
      go_simp <;> with_reducible rfl
    simp only [Act.put, List.setIfInBounds_toArray, List.set_cons_zero, List.set_cons_succ]
    refine wpAnyH_done (by kernel_rfl) ?_ _
    refine NoPanic.normal ?_
    have HB2 := Lib.hid (HB1.out.trans (HBX.out.mono HB1.out.size))
    have HG2 := Lib.hid (HGY.out.below HBX.out HGY.out.lt)
    obtain ⟨_, g0, g1, g2, g3, g4, g5⟩ := HG2.out
    clear HBX HGY HB1
    go_wp2_with fail
    clear g0 g1 g2 g3 g4 g5
    refine (HRa.out _).mono ?_
    rintro e w11 ⟨rfl, hb⟩
    have HB11 := Lib.hid (HB2.out.trans (hb.mono HB2.out.size))
    have HG11 := Lib.hid (HG2.out.below hb HG2.out.lt)
    clear hb HB2 HG2
    obtain ⟨_, g0, g1, g2, g3, g4, g5⟩ := HG11.out
    go_wp2_with fail
    clear g0 g1 g2 g3 g4 g5
    refine (HRb.out _).mono ?_
    rintro e w12 ⟨rfl, hb⟩
    have HB12 := Lib.hid (HB11.out.trans (hb.mono HB11.out.size))
    have HG12 := Lib.hid (HG11.out.below hb HG11.out.lt)
    clear hb HB11 HG11
    obtain ⟨_, g0, g1, g2, g3, g4, g5⟩ := HG12.out
    go_wp2_with fail
    clear g0 g1 g2 g3 g4 g5
    refine (HRc.out _).mono ?_
    rintro e w13 ⟨rfl, hb⟩
    have HB13 := Lib.hid (HB12.out.trans (hb.mono HB12.out.size))
    obtain ⟨_, g0, g1, g2, g3, g4, g5⟩ := HG12.out.below hb HG12.out.lt
    clear hb HB12
    by_cases hc3 : a < b ∧ b < c ∧ b % L = 0
    · obtain ⟨h1, h2, h3⟩ := hc3
      have HE := HPT.out
      rw [if_pos ⟨by omega, by omega, h3⟩] at HE
      have hfin : (x3 - J - T == x1 + x2) = true := by rw [beq_iff_eq]; omega
      clear HE
      go_wp2_with fail
      refine (awake_any _).mono ?_
      rintro e w18 ⟨rfl, hb⟩
      have HB18 := Lib.hid (HB13.out.trans (hb.mono HB13.out.size))
      clear hb
      go_wp2
      go_ret
      exact ⟨rfl, HB18.out⟩
    · have HE := HPT.out
      rw [if_neg (by rintro ⟨h1, h2, h3⟩; exact hc3 ⟨by omega, by omega, h3⟩)] at HE
      have hfin : (x3 == x1 + x2) = true := by rw [beq_iff_eq]; omega
      clear HE
      have part : b ≤ a ∨ (a < b ∧ c ≤ b) ∨ (a < b ∧ b < c ∧ ((b % L == 0) = false)) := by
        rcases Int.lt_or_le a b with h1 | h1
        · rcases Int.lt_or_le b c with h2 | h2
          · exact .inr (.inr ⟨h1, h2, by rw [beq_eq_false_iff_ne]; exact fun h3 => hc3 ⟨h1, h2, h3⟩⟩)
          · exact .inr (.inl ⟨h1, h2⟩)
        · exact .inl h1
      clear hc3
      rcases part with h1 | ⟨h1, h2⟩ | ⟨h1, h2, h3⟩
      all_goals
        go_wp2_with fail
        refine (awake_any _).mono ?_
        rintro e w18 ⟨rfl, hb⟩
        have HB18 := Lib.hid (HB13.out.trans (hb.mono HB13.out.size))
        clear hb
        go_wp2
        go_ret
        exact ⟨rfl, HB18.out⟩
end Go.Proofs.Ytcoijhemnfnghaa
