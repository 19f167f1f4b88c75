/-
  The law package's cost.
-/
import Derived.Test.YtepmmlnopdjjdaaQSide
import Derived.Test.YtepmmlnopdjjdaaDrUnload
namespace Go.Proofs.Ytepmmlnopdjjdaa
open Go.RowKit
set_option linter.unusedVariables false
set_option linter.unusedSimpArgs false
noncomputable def cosU (m : Mdl) (W L S T J R a b k : Int) : Int :=
  if k = 0 then m.ld else if k = 1 then m.ul + loc W L S T J R a 0 else if k = 2 then loc W L S T J R a b else if k = 3 ∨ k = 4 then rd W L S T J R a (b - a) else m.cl
theorem cost_start (w : World) (m : Mdl) (W L S T J R k i n : Int) (zd : Option Addr) (zn zc : Nat) :
    Below w.heap.size w (((w.alloc (boxM m.ld m.ul m.cl m.ce m.cf)).alloc (boxG W L S T J R)).alloc (.cells #[.int .i64 k, .int .i64 i, .int .i64 n, .slice zd zn zc] 32)) ∧
    MdAt (((w.alloc (boxM m.ld m.ul m.cl m.ce m.cf)).alloc (boxG W L S T J R)).alloc (.cells #[.int .i64 k, .int .i64 i, .int .i64 n, .slice zd zn zc] 32)) w.heap.size m.ld m.ul m.cl m.ce m.cf ∧
    GeoAt (((w.alloc (boxM m.ld m.ul m.cl m.ce m.cf)).alloc (boxG W L S T J R)).alloc (.cells #[.int .i64 k, .int .i64 i, .int .i64 n, .slice zd zn zc] 32)) (w.heap.size + 1) W L S T J R ∧
    (((w.alloc (boxM m.ld m.ul m.cl m.ce m.cf)).alloc (boxG W L S T J R)).alloc (.cells #[.int .i64 k, .int .i64 i, .int .i64 n, .slice zd zn zc] 32)).cell? ⟨w.heap.size + 1 + 1, 0, none⟩ = some (.int .i64 k) := by
  have ha := allocs_at [boxM m.ld m.ul m.cl m.ce m.cf, boxG W L S T J R, .cells #[.int .i64 k, .int .i64 i, .int .i64 n, .slice zd zn zc] 32] w
  have hs := congrArg Array.size (allocs_heap [boxM m.ld m.ul m.cl m.ce m.cf, boxG W L S T J R, .cells #[.int .i64 k, .int .i64 i, .int .i64 n, .slice zd zn zc] 32] w)
  have hb := below_box3 w (boxM m.ld m.ul m.cl m.ce m.cf) (boxG W L S T J R) (.cells #[.int .i64 k, .int .i64 i, .int .i64 n, .slice zd zn zc] 32)
  simp only [List.foldl_cons, List.foldl_nil] at ha hs
  generalize World.alloc _ _ = F at *
  have h0 := ha 0; have h1 := ha 1; have h2 := ha 2
  simp only [Nat.add_zero] at h0
  have hs6 : F.heap.size = w.heap.size + 3 := by rw [hs]; simp
  refine ⟨hb, ⟨by omega, ?_, ?_, ?_, ?_, ?_⟩, ⟨by omega, ?_, ?_, ?_, ?_, ?_, ?_⟩, ?_⟩
  all_goals first
    | (rw [cells_at h0]; rfl)
    | (rw [cells_at h1]; rfl)
    | (rw [cells_at h2]; rfl)
attribute [local irreducible] loc rd cosU
set_option maxRecDepth 100000 in
set_option maxHeartbeats 4000000 in
theorem cost_any (m : Mdl) (W L S T J R a b k i n : Int) (zd : Option Addr) (zn zc : Nat) (w : World) (hul : 0 ≤ m.ul ∧ m.ul ≤ 1000000) (ha : 0 ≤ a ∧ a ≤ 1000000) (hb : 0 ≤ b ∧ b ≤ 1000000) :
    Calls Try.prog 19 #[mdV m, geV W L S T J R, .int .i64 a, .int .i64 b, .agg #[.int .i64 k, .int .i64 i, .int .i64 n, .slice zd zn zc]] w fun e w' => e = .returned (.int .i64 (cosU m W L S T J R a b k)) ∧ Below w.heap.size w w' := by
  obtain ⟨s1, s2, s3, s4⟩ := cost_start w m W L S T J R k i n zd zn zc
  have HB := Lib.hid s1
  have HM := Lib.hid s2
  have HG := Lib.hid s3
  have HS := Lib.hid s4
  clear s1 s2 s3 s4
  by_cases h0 : k = 0
  · subst h0
    have HR := Lib.hid (show cosU m W L S T J R a b 0 = m.ld by unfold cosU; rw [if_pos rfl])
    go_enter Try.func19, Try.ntmps19
    go_wp2
    go_ret
    exact ⟨by rw [HR.out]; rfl, HB.out⟩
  by_cases h1 : k = 1
  · subst h1
    have HR := Lib.hid (show cosU m W L S T J R a b 1 = m.ul + loc W L S T J R a 0 by unfold cosU; rw [if_neg (by decide), if_pos rfl])
    have hlo := loc_bd W L S T J R a 0
    have hw : IntKind.i64.wrap (m.ul + loc W L S T J R a 0) = m.ul + loc W L S T J R a 0 := by rw [IntKind.wrap_i64]; omega
    go_enter Try.func19, Try.ntmps19
    go_wp2_with fail
    generalize World.alloc _ _ = X0 at *
    have HBX := Lib.hid (Below.refl X0.heap.size X0).drew
    refine wp_region_noPanic ?_
    refine wp_region_held_drew (S := fun X => Below X0.heap.size X0 X) (by kernel_rfl) (HBX.out) (fun hS0 => ?_)
    refine held_take (i := 0) (v := ?_) rfl (by kernel_rfl) (by kernel_rfl) (by kernel_rfl) (fun _ _ _ h => h) (by rfl) ?_ (by assumption) ?_
    rotate_left
    · intro X hSX
      try dsimp only at hSX
      go_simp <;> with_reducible rfl
    simp only [Act.put, List.setIfInBounds_toArray, List.set_cons_zero, List.set_cons_succ]
    refine held_take (i := 1) (v := ?_) rfl (by kernel_rfl) (by kernel_rfl) (by kernel_rfl) (fun _ _ _ h => h) (by rfl) ?_ (by assumption) ?_
    rotate_left
    · intro X hSX
      try dsimp only at hSX
      obtain ⟨_, m0, m1, m2, m3, m4⟩ := HM.out.below hSX HM.out.lt
      go_simp <;> with_reducible rfl
    simp only [Act.put, List.setIfInBounds_toArray, List.set_cons_zero, List.set_cons_succ]
    refine held_take (i := 2) (v := ?_) rfl (by kernel_rfl) (by kernel_rfl) (by kernel_rfl) (fun _ _ _ h => h) (by rfl) ?_ (by assumption) ?_
    rotate_left
    · intro X hSX
      try dsimp only at hSX
      obtain ⟨_, g0, g1, g2, g3, g4, g5⟩ := HG.out.below hSX HG.out.lt
      go_simp <;> with_reducible rfl
    simp only [Act.put, List.setIfInBounds_toArray, List.set_cons_zero, List.set_cons_succ]
    refine held_take (i := 3) (v := ?_) rfl (by kernel_rfl) (by kernel_rfl) (by kernel_rfl) (fun _ _ _ h => h) (by rfl) ?_ (by assumption) ?_
    rotate_left
    · intro X hSX
      try dsimp only at hSX
      go_simp <;> with_reducible rfl
    simp only [Act.put, List.setIfInBounds_toArray, List.set_cons_zero, List.set_cons_succ]
    refine held_call (i := 4) rfl (by kernel_rfl) (by rfl) (fun K' hK' => ?_)
    go_simp
    refine (rlocate_any W L S T J R a 0 _).mono ?_
    rintro e w1 ⟨rfl, hb⟩
    replace HBX := Lib.hid (HBX.out.trans (hb.mono HBX.out.size))
    have hS1 := HBX.out
    clear hb
    refine held_go hK' (HBX.out) ?_
    try simp only [Act.put, List.setIfInBounds_toArray, List.set_cons_zero, List.set_cons_succ]
    refine held_take (i := 5) (v := ?_) rfl (by kernel_rfl) (by kernel_rfl) (by kernel_rfl) (fun _ _ _ h => h) (by rfl) ?_ (by assumption) ?_
    rotate_left
    · intro X hSX
      try dsimp only at hSX
      go_simp <;> with_reducible rfl
    simp only [Act.put, List.setIfInBounds_toArray, List.set_cons_zero, List.set_cons_succ]
    refine held_take (i := 6) (v := ?_) rfl (by kernel_rfl) (by kernel_rfl) (by kernel_rfl) (fun _ _ _ h => h) (by rfl) ?_ (by assumption) ?_
    rotate_left
    · intro X hSX
      try dsimp only at hSX
      go_simp <;> with_reducible rfl
    simp only [Act.put, List.setIfInBounds_toArray, List.set_cons_zero, List.set_cons_succ]
    refine wpAnyH_done (by kernel_rfl) ?_ _
    refine NoPanic.normal ?_
    go_wp2
    go_ret
    exact ⟨by rw [HR.out]; rfl, HB.out.trans (HBX.out.mono HB.out.size)⟩
  by_cases h2 : k = 2
  · subst h2
    have HR := Lib.hid (show cosU m W L S T J R a b 2 = loc W L S T J R a b by unfold cosU; rw [if_neg (by decide), if_neg (by decide), if_pos rfl])
    go_enter Try.func19, Try.ntmps19
    go_wp2_with fail
    refine (rlocate_any W L S T J R a b _).mono ?_
    rintro e w1 ⟨rfl, hb⟩
    have HB1 := Lib.hid (HB.out.trans (hb.mono HB.out.size))
    clear hb
    go_wp2
    go_ret
    exact ⟨by rw [HR.out]; rfl, HB1.out⟩
  by_cases h34 : k = 3 ∨ k = 4
  · have HR := Lib.hid (show cosU m W L S T J R a b k = rd W L S T J R a (b - a) by unfold cosU; rw [if_neg h0, if_neg h1, if_neg h2, if_pos h34])
    have hw : IntKind.i64.wrap (b - a) = b - a := by rw [IntKind.wrap_i64]; omega
    rcases h34 with h3 | h3
    all_goals
      subst h3
      go_enter Try.func19, Try.ntmps19
      go_wp2_with fail
      refine (rread_any W L S T J R a (b - a) _ (by omega) (by omega)).mono ?_
      rintro e w1 ⟨rfl, hb⟩
      have HB1 := Lib.hid (HB.out.trans (hb.mono HB.out.size))
      clear hb
      go_wp2
      go_ret
      exact ⟨by rw [HR.out]; rfl, HB1.out⟩
  have HR := Lib.hid (show cosU m W L S T J R a b k = m.cl by unfold cosU; rw [if_neg h0, if_neg h1, if_neg h2, if_neg h34])
  have h3 : ¬ k = 3 := fun h => h34 (.inl h)
  have h4 : ¬ k = 4 := fun h => h34 (.inr h)
  clear h34
  go_enter Try.func19, Try.ntmps19
  go_wp2
  go_ret
  exact ⟨by rw [HR.out]; rfl, HB.out⟩
end Go.Proofs.Ytepmmlnopdjjdaa
