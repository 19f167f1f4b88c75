/-
  Block of the program.
-/
import Derived.Test.YtcoijhemnfnghaaSPlace
namespace Go.Proofs.Ytcoijhemnfnghaa
open Go.RowKit
set_option linter.unusedVariables false
/-- block n has this place -/
def IsAt (W L S T J R a b : Int) (k : Bool) (n : Int) : Prop := hav W L S T J R n = true ∧ wr W L n = a ∧ po W L n = b ∧ bk W L n = k
open Classical in
/-- the number of the block with a place, and whether there is one -/
noncomputable def blk (W L S T J R a b : Int) (k : Bool) : Int × Bool := if h : ∃ n, IsAt W L S T J R a b k n then (Classical.choose h, true) else (0, false)
theorem blk_yes {W L S T J R a b n : Int} {k : Bool} (h : IsAt W L S T J R a b k n) : blk W L S T J R a b k = (n, true) := by
  have hex : ∃ n, IsAt W L S T J R a b k n := ⟨n, h⟩
  unfold blk
  rw [dif_pos hex]
  have hc := Classical.choose_spec hex
  rw [place_inj (hc.2.1.trans h.2.1.symm) (hc.2.2.1.trans h.2.2.1.symm) (hc.2.2.2.trans h.2.2.2.symm)]
theorem blk_no {W L S T J R a b : Int} {k : Bool} (h : ∀ n, ¬ IsAt W L S T J R a b k n) : blk W L S T J R a b k = (0, false) := by
  unfold blk
  rw [dif_neg (fun ⟨n, hn⟩ => h n hn)]
/-- the number that Block computes is that of the block, if there is one -/
theorem guess_f {W L S T J R a b n : Int} (h : IsAt W L S T J R a b false n) : wrap64 (wrap64 (a * L) + b) = n := by
  obtain ⟨h1, rfl, rfl, h4⟩ := h
  obtain ⟨v, n0, n1⟩ := hav_iff.1 h1
  obtain ⟨r0, r1, r2, r3, _⟩ := wr_bd v.w0 v.l0 n0 n1
  have hm : 0 ≤ wr W L n * L := Int.mul_nonneg r0 (by have := v.l0; omega)
  have hb := nu_back W L n
  have hc := v.c1
  rw [h4] at hb
  unfold nu at hb
  simp only [Bool.false_eq_true, if_false] at hb
  simp only [wrap64]
  omega
theorem guess_t {W L S T J R a b n : Int} (h : IsAt W L S T J R a b true n) : wrap64 (wrap64 (a * L) + wrap64 (wrap64 (L - 1) - b)) = n := by
  obtain ⟨h1, rfl, rfl, h4⟩ := h
  obtain ⟨v, n0, n1⟩ := hav_iff.1 h1
  obtain ⟨r0, r1, r2, r3, _⟩ := wr_bd v.w0 v.l0 n0 n1
  have hp := po_bd v.w0 v.l0 n0 n1
  have hm : 0 ≤ wr W L n * L := Int.mul_nonneg r0 (by have := v.l0; omega)
  have hb := nu_back W L n
  have hc := v.c1
  have hl := v.l0
  have hl1 := v.l1
  rw [h4] at hb
  unfold nu at hb
  simp only [if_true] at hb
  simp only [wrap64]
  omega
/-- what the comparison of the guess' place tells -/
theorem blk_guess {W L S T J R a b X : Int} {k : Bool} (hX : ∀ n, IsAt W L S T J R a b k n → X = n) :
    (hav W L S T J R X = false → blk W L S T J R a b k = (0, false)) ∧
    (hav W L S T J R X = true → (pw W L S T J R X = a ∧ pp W L S T J R X = b ∧ pk W L S T J R X = k → blk W L S T J R a b k = (X, true)) ∧ (¬ (pw W L S T J R X = a ∧ pp W L S T J R X = b ∧ pk W L S T J R X = k) → blk W L S T J R a b k = (0, false))) := by
  refine ⟨fun h => blk_no fun n hn => ?_, fun h => ⟨fun h2 => ?_, fun h2 => blk_no fun n hn => ?_⟩⟩
  · have := hX n hn
    subst this
    rw [hn.1] at h
    cases h
  · unfold pw pp pk at h2
    simp only [h, if_true] at h2
    exact blk_yes ⟨h, h2⟩
  · have := hX n hn
    subst this
    refine h2 ?_
    unfold pw pp pk
    simp only [h, if_true]
    exact hn.2
theorem block_start (W L S T J R a b : Int) (k : Bool) (w : World) : Below w.heap.size w ((w.alloc (boxG W L S T J R)).alloc (boxP a b k)) ∧
    GeoAt ((w.alloc (boxG W L S T J R)).alloc (boxP a b k)) w.heap.size W L S T J R ∧ PlAt ((w.alloc (boxG W L S T J R)).alloc (boxP a b k)) (w.heap.size + 1) a b k := by
  refine ⟨below_box2 _ _ _, (GeoAt.new w W L S T J R _).alloc _, ?_⟩
  have := PlAt.new (w.alloc (boxG W L S T J R)) a b k 25
  rwa [World.size_alloc] at this
attribute [local irreducible] tim vld hav pw pp pk blk
set_option maxRecDepth 100000 in
set_option maxHeartbeats 1000000 in
theorem block_f (W L S T J R a b : Int) (w : World) :
    Calls Try.prog 15 #[geV W L S T J R, plV a b false] w fun e w' => e = .returned (.tuple #[.int .i64 (blk W L S T J R a b false).1, .bool (blk W L S T J R a b false).2]) ∧ Below w.heap.size w w' := by
  obtain ⟨hb0, hg0, hp0⟩ := block_start W L S T J R a b false w
  have HB0 := Lib.hid hb0
  have HG := Lib.hid hg0
  have HP := Lib.hid hp0
  have HX := Lib.hid (blk_guess (W := W) (L := L) (S := S) (T := T) (J := J) (R := R) (a := a) (b := b) (X := wrap64 (wrap64 (a * L) + b)) (k := false) fun n => guess_f)
  clear hb0 hg0 hp0
  go_enter Try.func15, Try.ntmps15
  go_wp2_with fail
  generalize wrap64 (wrap64 (a * L) + b) = X at HX ⊢
  generalize World.alloc _ _ = X0 at HB0 HG HP ⊢
  refine (place_any W L S T J R X _).mono ?_
  rintro e w1 ⟨rfl, hb⟩
  have HB := Lib.hid (HB0.out.trans (hb.mono HB0.out.size))
  obtain ⟨ft, f0, f1, f2⟩ := HP.out.below hb HP.out.lt
  clear hb HG HP
  generalize pw W L S T J R X = pa at HX ⊢
  generalize pp W L S T J R X = pb at HX ⊢
  generalize pk W L S T J R X = kb at HX ⊢
  generalize hav W L S T J R X = hh at HX ⊢
  cases hh
  · have HY := Lib.hid (HX.out.1 rfl)
    clear HX
    go_wp2
    go_ret2
    exact ⟨by rw [HY.out]; rfl, HB.out.alloc HB.out.size _⟩
  · have HY := Lib.hid (HX.out.2 rfl)
    clear HX
    go_wp2
    all_goals go_ret2
    all_goals first
      | exact ⟨by rw [HY.out.1 ⟨by assumption, by assumption, by first | assumption | exact Bool.of_not_eq_true (by assumption) | exact Bool.of_not_eq_false (by assumption)⟩]; rfl, HB.out.alloc HB.out.size _⟩
      | exact ⟨by rw [HY.out.2 (fun h => by first | exact absurd h.1 (by assumption) | exact absurd h.2.1 (by assumption) | exact absurd h.2.2 (by assumption) | exact Bool.noConfusion (h.2.2.symm.trans (by assumption)))]; rfl, HB.out.alloc HB.out.size _⟩
set_option maxRecDepth 100000 in
set_option maxHeartbeats 1000000 in
theorem block_t (W L S T J R a b : Int) (w : World) :
    Calls Try.prog 15 #[geV W L S T J R, plV a b true] w fun e w' => e = .returned (.tuple #[.int .i64 (blk W L S T J R a b true).1, .bool (blk W L S T J R a b true).2]) ∧ Below w.heap.size w w' := by
  obtain ⟨hb0, hg0, hp0⟩ := block_start W L S T J R a b true w
  have HB0 := Lib.hid hb0
  have HG := Lib.hid hg0
  have HP := Lib.hid hp0
  have HX := Lib.hid (blk_guess (W := W) (L := L) (S := S) (T := T) (J := J) (R := R) (a := a) (b := b) (X := wrap64 (wrap64 (a * L) + wrap64 (wrap64 (L - 1) - b))) (k := true) fun n => guess_t)
  clear hb0 hg0 hp0
  go_enter Try.func15, Try.ntmps15
  go_wp2_with fail
  generalize wrap64 (wrap64 (a * L) + wrap64 (wrap64 (L - 1) - b)) = X at HX ⊢
  generalize World.alloc _ _ = X0 at HB0 HG HP ⊢
  refine (place_any W L S T J R X _).mono ?_
  rintro e w1 ⟨rfl, hb⟩
  have HB := Lib.hid (HB0.out.trans (hb.mono HB0.out.size))
  obtain ⟨ft, f0, f1, f2⟩ := HP.out.below hb HP.out.lt
  clear hb HG HP
  generalize pw W L S T J R X = pa at HX ⊢
  generalize pp W L S T J R X = pb at HX ⊢
  generalize pk W L S T J R X = kb at HX ⊢
  generalize hav W L S T J R X = hh at HX ⊢
  cases hh
  · have HY := Lib.hid (HX.out.1 rfl)
    clear HX
    go_wp2
    go_ret2
    exact ⟨by rw [HY.out]; rfl, HB.out.alloc HB.out.size _⟩
  · have HY := Lib.hid (HX.out.2 rfl)
    clear HX
    go_wp2
    all_goals go_ret2
    all_goals first
      | exact ⟨by rw [HY.out.1 ⟨by assumption, by assumption, by first | assumption | exact Bool.of_not_eq_true (by assumption) | exact Bool.of_not_eq_false (by assumption)⟩]; rfl, HB.out.alloc HB.out.size _⟩
      | exact ⟨by rw [HY.out.2 (fun h => by first | exact absurd h.1 (by assumption) | exact absurd h.2.1 (by assumption) | exact absurd h.2.2 (by assumption) | exact Bool.noConfusion (h.2.2.symm.trans (by assumption)))]; rfl, HB.out.alloc HB.out.size _⟩
end Go.Proofs.Ytcoijhemnfnghaa
