/-
  Place, of the program and of the specification.
-/
import Derived.Test.YtcoijhemnfnghaaSHas
import Derived.Test.YtcoijhemnfnghaaSRValid
namespace Go.Proofs.Ytcoijhemnfnghaa
open Go.RowKit
set_option linter.unusedVariables false
/-- the block has a place -/
noncomputable def hav (W L S T J R b : Int) : Bool := vld W L S T J R && inr W L b
theorem hav_iff {W L S T J R b : Int} : hav W L S T J R b = true ↔ Vld W L S T J R ∧ 0 ≤ b ∧ b ≤ W * L := by unfold hav; rw [Bool.and_eq_true, vld_iff, inr_iff]
theorem hav_not {W L S T J R b : Int} : hav W L S T J R b = false ↔ ¬ (Vld W L S T J R ∧ 0 ≤ b ∧ b ≤ W * L) := by rw [← hav_iff, Bool.not_eq_true]
theorem hasU_one (W L S T J R b : Int) : hasU W L S T J R [b] = hav W L S T J R b := by unfold hasU hav; simp
theorem hasU_two (W L S T J R a b : Int) : hasU W L S T J R [a, b] = (hav W L S T J R a && hav W L S T J R b) := by
  unfold hasU hav
  cases vld W L S T J R <;> simp
/-- the place of a block, as Place hands it back; the zero place if there is none -/
noncomputable def pw (W L S T J R b : Int) : Int := if hav W L S T J R b = true then wr W L b else 0
noncomputable def pp (W L S T J R b : Int) : Int := if hav W L S T J R b = true then po W L b else 0
noncomputable def pk (W L S T J R b : Int) : Bool := if hav W L S T J R b = true then bk W L b else false
attribute [local irreducible] tim vld
/-- the world behind Place's boxes -/
abbrev boxG (W L S T J R : Int) : Obj := .cells #[.int .i64 W, .int .i64 L, .int .i64 S, .int .i64 T, .int .i64 J, .int .i64 R] 23
abbrev boxP (a b : Int) (k : Bool) : Obj := .cells #[.int .i64 a, .int .i64 b, .bool k] 25
theorem place_start (W L S T J R b : Int) (w : World) : Below w.heap.size w (((w.alloc (boxG W L S T J R)).alloc (boxP 0 0 false)).alloc (.cells #[.int .i64 b] 3)) ∧
    (((w.alloc (boxG W L S T J R)).alloc (boxP 0 0 false)).alloc (.cells #[.int .i64 b] 3)).heap.size = w.heap.size + 3 ∧
    GeoAt (((w.alloc (boxG W L S T J R)).alloc (boxP 0 0 false)).alloc (.cells #[.int .i64 b] 3)) w.heap.size W L S T J R ∧
    (((w.alloc (boxG W L S T J R)).alloc (boxP 0 0 false)).alloc (.cells #[.int .i64 b] 3)).heap[w.heap.size + 1]? = some (.cells #[.int .i64 0, .int .i64 0, .bool false] 25 (0, 0)) ∧
    Lii (((w.alloc (boxG W L S T J R)).alloc (boxP 0 0 false)).alloc (.cells #[.int .i64 b] 3)) (w.heap.size + 1 + 1) 0 [b] := by
  refine ⟨below_box3 _ _ _ _, by simp, ((GeoAt.new w W L S T J R _).alloc _).alloc _, ?_, ?_⟩
  · rw [Below.heap_alloc _ _ _ (by simp)]
    have := heap_alloc_new (w.alloc (boxG W L S T J R)) (boxP 0 0 false)
    rwa [World.size_alloc] at this
  · have := Lii.one ((w.alloc (boxG W L S T J R)).alloc (boxP 0 0 false)) b 3
    rwa [World.size_alloc, World.size_alloc] at this
set_option maxRecDepth 100000 in
set_option maxHeartbeats 1000000 in
theorem place_any (W L S T J R b : Int) (w : World) :
    Calls Try.prog 9 #[geV W L S T J R, .int .i64 b] w fun e w' => e = .returned (.tuple #[plV (pw W L S T J R b) (pp W L S T J R b) (pk W L S T J R b), .bool (hav W L S T J R b)]) ∧ Below w.heap.size w w' := by
  obtain ⟨hb0, hs0, hg0, hn0, hl0⟩ := place_start W L S T J R b w
  have HB0 := Lib.hid hb0
  have HS0 := Lib.hid hs0
  have HG := Lib.hid hg0
  have HN := Lib.hid hn0
  have HL := Lib.hid hl0
  have HH := Lib.hid (hasU_one W L S T J R b)
  clear hb0 hs0 hg0 hn0 hl0
  cases hv : hav W L S T J R b
  · have HR := Lib.hid (show pw W L S T J R b = 0 ∧ pp W L S T J R b = 0 ∧ pk W L S T J R b = false by unfold pw pp pk; rw [hv]; exact ⟨rfl, rfl, rfl⟩)
    have HV := Lib.hid hv
    clear hv
    go_enter Try.func9, Try.ntmps9
    go_wp2_with fail
    generalize World.alloc _ _ = X0 at HB0 HS0 HG HN HL ⊢
    refine (has_any W L S T J R (w.heap.size + 1 + 1) 1 1 [b] X0 HL.out rfl (by omega)).mono ?_
    rw [HH.out, HV.out]
    rintro e w1 ⟨rfl, hb⟩
    have HB := Lib.hid (HB0.out.trans (hb.mono HB0.out.size))
    have HN1 := Lib.hid ((hb.block (w.heap.size + 1) (by rw [HS0.out]; omega)).trans HN.out)
    clear hb
    go_wp2_with (with_reducible refine wpList_store_pl rfl (.tmp 4) (.tmp 11) rfl (w.heap.size + 1) rfl _ _ _ rfl _ _ _ HN1.out ?_)
    refine post_cell2 (cs := #[.int .i64 0, .int .i64 0, .bool false]) rfl rfl (setRow_heap _ _ _ _ _ _ HN1.out) Try.underlying25 rfl infoPl rfl rfl ⟨by rw [HR.out.1, HR.out.2.1, HR.out.2.2]; rfl, below_set HB.out (by omega) _⟩
  · have HR := Lib.hid (show pw W L S T J R b = wr W L b ∧ pp W L S T J R b = po W L b ∧ pk W L S T J R b = bk W L b by unfold pw pp pk; rw [hv]; exact ⟨rfl, rfl, rfl⟩)
    have HV := Lib.hid hv
    obtain ⟨vv, b0, b1⟩ := hav_iff.1 hv
    have HP := Lib.hid (fun X => placeOf_any W L S T J R b X vv.w0 vv.w1 vv.l0 vv.l1 vv.c1 b0 b1)
    clear hv b0 b1 vv
    go_enter Try.func9, Try.ntmps9
    go_wp2_with fail
    generalize World.alloc _ _ = X0 at HB0 HS0 HG HN HL ⊢
    refine (has_any W L S T J R (w.heap.size + 1 + 1) 1 1 [b] X0 HL.out rfl (by omega)).mono ?_
    rw [HH.out, HV.out]
    rintro e w1 ⟨rfl, hb⟩
    have HB := Lib.hid (HB0.out.trans (hb.mono HB0.out.size))
    have HN1 := Lib.hid ((hb.block (w.heap.size + 1) (by rw [HS0.out]; omega)).trans HN.out)
    have HG1 := Lib.hid (HG.out.below hb (by rw [HS0.out]; omega))
    have HS1 := Lib.hid (Nat.le_trans (Nat.le_of_eq HS0.out.symm) hb.size)
    clear hb
    obtain ⟨_, g0, g1, g2, g3, g4, g5⟩ := HG1.out
    go_wp2_with fail
    refine (HP.out w1).mono ?_
    rintro e w2 ⟨rfl, hb⟩
    have HB2 := Lib.hid (HB.out.trans (hb.mono HB.out.size))
    have HN2 := Lib.hid ((hb.block (w.heap.size + 1) (by have := HS1.out; omega)).trans HN1.out)
    clear hb
    go_wp2_with (with_reducible refine wpList_store_pl rfl (.tmp 4) (.tmp 14) rfl (w.heap.size + 1) rfl _ _ _ rfl _ _ _ HN2.out ?_)
    refine post_cell2 (cs := #[.int .i64 (wr W L b), .int .i64 (po W L b), .bool (bk W L b)]) rfl rfl (setRow_heap _ _ _ _ _ _ HN2.out) Try.underlying25 rfl infoPl rfl rfl ⟨by rw [HR.out.1, HR.out.2.1, HR.out.2.2]; rfl, below_set HB2.out (by omega) _⟩
end Go.Proofs.Ytcoijhemnfnghaa
