/-
  The statement SerpentinePlaces.
-/
import Derived.Test.YtcoijhemnfnghaaSLaw1
namespace Go.Proofs.Ytcoijhemnfnghaa
open Go.RowKit
set_option linter.unusedVariables false
/-- Block of a place that a block has gives the block -/
theorem blk_place {W L S T J R b : Int} (h : hav W L S T J R b = true) : blk W L S T J R (pw W L S T J R b) (pp W L S T J R b) (pk W L S T J R b) = (b, true) :=
  blk_yes ⟨h, by unfold pw; rw [h]; rfl, by unfold pp; rw [h]; rfl, by unfold pk; rw [h]; rfl⟩
theorem pl_start {w X0 w1 w2 : World} {W L S T J R wa pa wb pb : Int} {ka kb : Bool} (hb0 : Below w.heap.size w X0) (hg : GeoAt X0 w.heap.size W L S T J R) (hb1 : Below X0.heap.size X0 w1)
    (hb2 : Below (w1.alloc (boxP wa pa ka)).heap.size (w1.alloc (boxP wa pa ka)) w2) :
    Below w.heap.size w (w2.alloc (boxP wb pb kb)) ∧ GeoAt (w2.alloc (boxP wb pb kb)) w.heap.size W L S T J R ∧ PlAt (w2.alloc (boxP wb pb kb)) w1.heap.size wa pa ka ∧ PlAt (w2.alloc (boxP wb pb kb)) w2.heap.size wb pb kb := two_start hb0 hg hb1 hb2
attribute [local irreducible] tim vld hav wr po bk blk loc pas rd farU pw pp pk capU
set_option maxRecDepth 100000 in
set_option maxHeartbeats 4000000 in
theorem law_places (W L S T J R b : Int) (w : World) :
    Calls Try.prog 3 #[geV W L S T J R, .int .i64 b] w fun e w' => e = .returned (.bool true) ∧ Below w.heap.size w w' := by
  have HB0 := Lib.hid (below_box1 w (boxG W L S T J R))
  have HG := Lib.hid (GeoAt.new w W L S T J R 23)
  have HBK := Lib.hid (fun h => blk_place (W := W) (L := L) (S := S) (T := T) (J := J) (R := R) (b := b) h)
  go_enter Try.func3, Try.ntmps3
  go_wp2_with fail
  generalize World.alloc _ _ = X0 at HB0 HG ⊢
  refine (place_any W L S T J R b X0).mono ?_
  rintro e w1 ⟨rfl, hb1⟩
  have H1 := Lib.hid hb1
  obtain ⟨glt, g0, g1, g2, g3, g4, g5⟩ := HG.out.below hb1 HG.out.lt
  clear hb1
  go_wp2_with fail
  refine (rplace_any W L S T J R b _).mono ?_
  rintro e w2 ⟨rfl, hb2⟩
  have H2 := Lib.hid (two_start (wb := pw W L S T J R b) (pb := pp W L S T J R b) (kb := pk W L S T J R b) HB0.out HG.out H1.out hb2)
  clear hb2 g0 g1 g2 g3 g4 g5 glt
  generalize pw W L S T J R b = wa at *
  generalize pp W L S T J R b = pa at *
  generalize pk W L S T J R b = ka at *
  generalize hav W L S T J R b = hh at *
  go_wp2_with fail
  generalize w1.heap.size = g7 at *
  generalize w2.heap.size = g8 at *
  generalize World.alloc w2 _ = Y at *
  have HBX := Lib.hid (Below.refl Y.heap.size Y).drew
  have hwa : (wa == wa) = true := by simp
  have hpa : (pa == pa) = true := by simp
  have hka : (ka == ka) = true := by simp
  have hhh : (hh == hh) = true := by simp
  refine wp_region_noPanic ?_
  refine wp_region_held_drew (S := fun X => Below Y.heap.size Y X) (by kernel_rfl) (HBX.out) (fun hS0 => ?_)
  refine held_take (i := 0) (v := ?_) rfl (by kernel_rfl) (by kernel_rfl) (by kernel_rfl) (fun _ _ _ h => h) (by rfl) ?_ (by assumption) ?_
  rotate_left
  · intro X hSX
    try dsimp only at hSX
    obtain ⟨_, p0, p1, p2⟩ := H2.out.2.2.1.below hSX H2.out.2.2.1.lt
    go_simp <;> with_reducible rfl
  simp only [Act.put, List.setIfInBounds_toArray, List.set_cons_zero, List.set_cons_succ]
  refine held_take (i := 1) (v := ?_) rfl (by kernel_rfl) (by kernel_rfl) (by kernel_rfl) (fun _ _ _ h => h) (by rfl) ?_ (by assumption) ?_
  rotate_left
  · intro X hSX
    try dsimp only at hSX
    obtain ⟨_, p0, p1, p2⟩ := H2.out.2.2.2.below hSX H2.out.2.2.2.lt
    go_simp <;> with_reducible rfl
  simp only [Act.put, List.setIfInBounds_toArray, List.set_cons_zero, List.set_cons_succ]
  refine held_take (i := 2) (v := ?_) rfl (by kernel_rfl) (by kernel_rfl) (by kernel_rfl) (fun _ _ _ h => h) (by rfl) ?_ (by assumption) ?_
  rotate_left
  · intro X hSX
    try dsimp only at hSX
    go_simp <;> with_reducible rfl
  simp only [Act.put, List.setIfInBounds_toArray, List.set_cons_zero, List.set_cons_succ]
  refine held_take (i := 3) (v := ?_) rfl (by kernel_rfl) (by kernel_rfl) (by kernel_rfl) (fun _ _ _ h => h) (by rfl) ?_ (by assumption) ?_
  rotate_left
  · intro X hSX
    try dsimp only at hSX
    go_simp <;> with_reducible rfl
  simp only [Act.put, List.setIfInBounds_toArray, List.set_cons_zero, List.set_cons_succ]
  refine held_take (i := 4) (v := ?_) rfl (by kernel_rfl) (by kernel_rfl) (by kernel_rfl) (fun _ _ _ h => h) (by rfl) ?_ (by assumption) ?_
  rotate_left
  · intro X hSX
    try dsimp only at hSX
    go_simp <;> with_reducible rfl
  simp only [Act.put, List.setIfInBounds_toArray, List.set_cons_zero, List.set_cons_succ]
  refine held_take (i := 5) (v := ?_) rfl (by kernel_rfl) (by kernel_rfl) (by kernel_rfl) (fun _ _ _ h => h) (by rfl) ?_ (by assumption) ?_
  rotate_left
  · intro X hSX
    try dsimp only at hSX
    go_simp <;> with_reducible rfl
  simp only [Act.put, List.setIfInBounds_toArray, List.set_cons_zero, List.set_cons_succ]
  refine held_take (i := 6) (v := ?_) rfl (by kernel_rfl) (by kernel_rfl) (by kernel_rfl) (fun _ _ _ h => h) (by rfl) ?_ (by assumption) ?_
  rotate_left
  · intro X hSX
    try dsimp only at hSX
    go_simp <;> with_reducible rfl
  simp only [Act.put, List.setIfInBounds_toArray, List.set_cons_zero, List.set_cons_succ]
  refine held_take (i := 7) (v := ?_) rfl (by kernel_rfl) (by kernel_rfl) (by kernel_rfl) (fun _ _ _ h => h) (by rfl) ?_ (by assumption) ?_
  rotate_left
  · intro X hSX
    try dsimp only at hSX
    go_simp <;> with_reducible rfl
  simp only [Act.put, List.setIfInBounds_toArray, List.set_cons_zero, List.set_cons_succ]
  refine held_take (i := 8) (v := ?_) rfl (by kernel_rfl) (by kernel_rfl) (by kernel_rfl) (fun _ _ _ h => h) (by rfl) ?_ (by assumption) ?_
  rotate_left
  · intro X hSX
    try dsimp only at hSX
    go_simp <;> with_reducible rfl
  simp only [Act.put, List.setIfInBounds_toArray, List.set_cons_zero, List.set_cons_succ]
  refine held_take (i := 9) (v := ?_) rfl (by kernel_rfl) (by kernel_rfl) (by kernel_rfl) (fun _ _ _ h => h) (by rfl) ?_ (by assumption) ?_
  rotate_left
  · intro X hSX
    try dsimp only at hSX
    obtain ⟨_, g0, g1, g2, g3, g4, g5⟩ := H2.out.2.1.below hSX H2.out.2.1.lt
    go_simp <;> with_reducible rfl
  simp only [Act.put, List.setIfInBounds_toArray, List.set_cons_zero, List.set_cons_succ]
  refine held_take (i := 11) (v := ?_) rfl (by kernel_rfl) (by kernel_rfl) (by kernel_rfl) (fun _ _ _ h => h) (by rfl) ?_ (by assumption) ?_
  rotate_left
  · intro X hSX
    try dsimp only at hSX
    obtain ⟨_, g0, g1, g2, g3, g4, g5⟩ := H2.out.2.1.below hSX H2.out.2.1.lt
    go_simp <;> with_reducible rfl
  simp only [Act.put, List.setIfInBounds_toArray, List.set_cons_zero, List.set_cons_succ]
  refine held_call (i := 10) rfl (by kernel_rfl) (by rfl) (fun K' hK' => ?_)
  go_simp
  refine (valid_any W L S T J R _).mono ?_
  rintro e w3 ⟨rfl, hb⟩
  replace HBX := Lib.hid (HBX.out.trans (hb.mono HBX.out.size))
  have hS3 := HBX.out
  clear hb
  refine held_go hK' (HBX.out) ?_
  try simp only [Act.put, List.setIfInBounds_toArray, List.set_cons_zero, List.set_cons_succ]
  refine held_call (i := 12) rfl (by kernel_rfl) (by rfl) (fun K' hK' => ?_)
  go_simp
  refine (rvalid_any W L S T J R _).mono ?_
  rintro e w4 ⟨rfl, hb⟩
  replace HBX := Lib.hid (HBX.out.trans (hb.mono HBX.out.size))
  have hS4 := HBX.out
  clear hb
  refine held_go hK' (HBX.out) ?_
  try simp only [Act.put, List.setIfInBounds_toArray, List.set_cons_zero, List.set_cons_succ]
  generalize vld W L S T J R = vv
  have hvv : (vv == vv) = true := by simp
  refine held_take (i := 13) (v := ?_) rfl (by kernel_rfl) (by kernel_rfl) (by kernel_rfl) (fun _ _ _ h => h) (by rfl) ?_ (by assumption) ?_
  rotate_left
  · intro X hSX
    try dsimp only at hSX
    go_simp <;> with_reducible rfl
  simp only [Act.put, List.setIfInBounds_toArray, List.set_cons_zero, List.set_cons_succ]
  refine held_take (i := 14) (v := ?_) rfl (by kernel_rfl) (by kernel_rfl) (by kernel_rfl) (fun _ _ _ h => h) (by rfl) ?_ (by assumption) ?_
  rotate_left
  · intro X hSX
    try dsimp only at hSX
    go_simp <;> with_reducible rfl
  simp only [Act.put, List.setIfInBounds_toArray, List.set_cons_zero, List.set_cons_succ]
  refine held_take (i := 15) (v := ?_) rfl (by kernel_rfl) (by kernel_rfl) (by kernel_rfl) (fun _ _ _ h => h) (by rfl) ?_ (by assumption) ?_
  rotate_left
  · intro X hSX
    try dsimp only at hSX
    go_simp <;> with_reducible rfl
  simp only [Act.put, List.setIfInBounds_toArray, List.set_cons_zero, List.set_cons_succ]
  refine held_take (i := 16) (v := ?_) rfl (by kernel_rfl) (by kernel_rfl) (by kernel_rfl) (fun _ _ _ h => h) (by rfl) ?_ (by assumption) ?_
  rotate_left
  · intro X hSX
    try dsimp only at hSX
    obtain ⟨_, g0, g1, g2, g3, g4, g5⟩ := H2.out.2.1.below hSX H2.out.2.1.lt
    go_simp <;> with_reducible rfl
  simp only [Act.put, List.setIfInBounds_toArray, List.set_cons_zero, List.set_cons_succ]
  refine held_take (i := 18) (v := ?_) rfl (by kernel_rfl) (by kernel_rfl) (by kernel_rfl) (fun _ _ _ h => h) (by rfl) ?_ (by assumption) ?_
  rotate_left
  · intro X hSX
    try dsimp only at hSX
    obtain ⟨_, g0, g1, g2, g3, g4, g5⟩ := H2.out.2.1.below hSX H2.out.2.1.lt
    go_simp <;> with_reducible rfl
  simp only [Act.put, List.setIfInBounds_toArray, List.set_cons_zero, List.set_cons_succ]
  refine held_call (i := 17) rfl (by kernel_rfl) (by rfl) (fun K' hK' => ?_)
  go_simp
  refine (capacity_any W L S T J R _).mono ?_
  rintro e w5 ⟨rfl, hb⟩
  replace HBX := Lib.hid (HBX.out.trans (hb.mono HBX.out.size))
  have hS5 := HBX.out
  clear hb
  refine held_go hK' (HBX.out) ?_
  try simp only [Act.put, List.setIfInBounds_toArray, List.set_cons_zero, List.set_cons_succ]
  refine held_call (i := 19) rfl (by kernel_rfl) (by rfl) (fun K' hK' => ?_)
  go_simp
  refine (rcapacity_any W L S T J R _).mono ?_
  rintro e w6 ⟨rfl, hb⟩
  replace HBX := Lib.hid (HBX.out.trans (hb.mono HBX.out.size))
  have hS6 := HBX.out
  clear hb
  refine held_go hK' (HBX.out) ?_
  try simp only [Act.put, List.setIfInBounds_toArray, List.set_cons_zero, List.set_cons_succ]
  generalize capU W L S T J R = cc
  have hcc : (cc == cc) = true := by simp
  refine held_take (i := 20) (v := ?_) rfl (by kernel_rfl) (by kernel_rfl) (by kernel_rfl) (fun _ _ _ h => h) (by rfl) ?_ (by assumption) ?_
  rotate_left
  · intro X hSX
    try dsimp only at hSX
    go_simp <;> with_reducible rfl
  simp only [Act.put, List.setIfInBounds_toArray, List.set_cons_zero, List.set_cons_succ]
  refine held_take (i := 21) (v := ?_) rfl (by kernel_rfl) (by kernel_rfl) (by kernel_rfl) (fun _ _ _ h => h) (by rfl) ?_ (by assumption) ?_
  rotate_left
  · intro X hSX
    try dsimp only at hSX
    go_simp <;> with_reducible rfl
  simp only [Act.put, List.setIfInBounds_toArray, List.set_cons_zero, List.set_cons_succ]
  refine wpAnyH_done (by kernel_rfl) ?_ _
  refine NoPanic.normal ?_
  have HB6 := Lib.hid (H2.out.1.trans (HBX.out.mono H2.out.1.size))
  obtain ⟨_, g0, g1, g2, g3, g4, g5⟩ := H2.out.2.1.below HBX.out H2.out.2.1.lt
  obtain ⟨_, p0, p1, p2⟩ := H2.out.2.2.1.below HBX.out H2.out.2.2.1.lt
  clear HBX hS3 hS4 hS5 hS6
  go_wp2_with fail
  refine (block_any W L S T J R wa pa ka _).mono ?_
  rintro e w7 ⟨rfl, hb⟩
  have HB7 := Lib.hid (HB6.out.trans (hb.mono HB6.out.size))
  clear hb g0 g1 g2 g3 g4 g5 p0 p1 p2
  cases hh
  · go_wp2_with fail
    refine (awake_any _).mono ?_
    rintro e w8 ⟨rfl, hb⟩
    have HB8 := Lib.hid (HB7.out.trans (hb.mono HB7.out.size))
    clear hb
    go_wp2
    go_ret
    exact ⟨rfl, HB8.out⟩
  · rw [HBK.out rfl]
    have hbb : (b == b) = true := by simp
    go_wp2_with fail
    refine (awake_any _).mono ?_
    rintro e w8 ⟨rfl, hb⟩
    have HB8 := Lib.hid (HB7.out.trans (hb.mono HB7.out.size))
    clear hb
    go_wp2
    go_ret
    exact ⟨rfl, HB8.out⟩
end Go.Proofs.Ytcoijhemnfnghaa
