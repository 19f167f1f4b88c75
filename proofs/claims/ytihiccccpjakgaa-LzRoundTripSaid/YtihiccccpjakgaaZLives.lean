/-
  The examples of the chapter: the function that checks them answers true, and lays new memory only.
-/
import Derived.Test.YtihiccccpjakgaaZRef2
import Derived.Test.YtihiccccpjakgaaConv
namespace Go.Proofs.Ytihiccccpjakgaa
open Go.RowKit
set_option linter.unusedVariables false
set_option linter.unusedSimpArgs false
theorem unq_ex1 : unq 6 [4, 97, 98, 9, 2] [] = ([97, 98, 97, 98, 97, 98], 0) := by
  have h := unq_forms 6 [.lit [97, 98], .cp 4 2] [] ⟨⟨by decide, by decide⟩, ⟨by decide, by decide, by decide, by decide, by decide⟩, trivial⟩ (by decide)
  have e : forms [.lit [97, 98], .cp 4 2] = [4, 97, 98, 9, 2] := by
    show (enc 4 ++ [97, 98]) ++ ((enc 9 ++ enc 2) ++ []) = _
    rw [enc_small 4 (by decide), enc_small 9 (by decide), enc_small 2 (by decide)]
    rfl
  have e2 : exs [] [.lit [97, 98], .cp 4 2] = [97, 98, 97, 98, 97, 98] := rfl
  rw [e, e2] at h
  exact h
theorem unq_ex2 : unq 9 [3, 1] [] = ([], 7) := by
  rw [unq_nx 9 [3, 1] [] (by decide)]
  have e : nx [3, 1] ([] : List UInt8).length (9 - ([] : List UInt8).length) = ⟨7, 0, 0, 0⟩ := by
    refine (nx_c (v := 3) (m := 1) (by decide +kernel) (by decide) (by decide)).trans ?_
    exact nxc_r (d := 1) (p := 1) (by decide +kernel) (.inr (by decide))
  rw [e]
  rfl
theorem Lie.lit (w : World) (xs : List UInt8) (cs : Array Value) (h : cs = (cellsU xs).toArray) : Lie (w.alloc (.cells cs 5)) (some ⟨w.heap.size, 0, none⟩) xs := by
  subst h
  refine ⟨.inr ⟨w.heap.size, 0, rfl, by simp, fun j hj => ?_⟩⟩
  rw [cell_of_row _ _ _ _ _ _ (heap_new _ _), Nat.zero_add]
  have := cellsU_get xs j hj
  simpa using this
set_option maxRecDepth 100000 in
set_option maxHeartbeats 800000 in
theorem lives_any (w : World) :
    Calls Try.prog 9 #[] w fun e w' => e = .returned (.bool true) ∧ Below w.heap.size w w' := by
  have l5 : ∀ W : World, Lie (W.alloc (.cells #[.int .u8 4, .int .u8 97, .int .u8 98, .int .u8 9, .int .u8 2] 5)) (some ⟨W.heap.size, 0, none⟩) [4, 97, 98, 9, 2] := fun W => Lie.lit W _ _ rfl
  have l2 : ∀ W : World, Lie (W.alloc (.cells #[.int .u8 3, .int .u8 1] 5)) (some ⟨W.heap.size, 0, none⟩) [3, 1] := fun W => Lie.lit W _ _ rfl
  have h1 := fun W => unpack_any (some ⟨W.heap.size, 0, none⟩) 5 [4, 97, 98, 9, 2] 6 _ (l5 W) (by decide) (by decide) (fun h => by cases h) (by decide)
  have h2 := fun W => unpack_any (some ⟨W.heap.size, 0, none⟩) 2 [3, 1] 9 _ (l2 W) (by decide) (by decide) (fun h => by cases h) (by decide)
  have h3 := fun W => size_any (some ⟨W.heap.size, 0, none⟩) 5 [4, 97, 98, 9, 2] 6 _ (l5 W) (by decide) (by decide) (fun h => by cases h) (by decide)
  simp only [show (6 : Int).toNat = 6 from rfl, show (9 : Int).toNat = 9 from rfl, unq_ex1, unq_ex2] at h1 h2 h3
  have H1 := Lib.hid h1
  have H2 := Lib.hid h2
  have H3 := Lib.hid h3
  have H4 := Lib.hid (fun W => bound_any 5 W (by decide))
  clear h1 h2 h3 l5 l2
  go_enter Try.func9, Try.ntmps9
  go_wp2_with fail
  refine (H1.out _).mono ?_
  rintro e w1 ⟨v1, rfl, ho1, hb1⟩
  obtain ⟨a1, c1, rfl, hl1, _, _, _⟩ := ho1.slice
  have HL1 := Lib.hid hl1
  have HB1 : Hid (Below w.heap.size w w1) := Lib.hid (((Below.refl _ _).alloc (Nat.le_refl _) _).trans (hb1.mono (Nat.le_of_lt (by simp))))
  clear ho1 hl1 hb1
  go_wp2_with fail
  refine (H2.out _).mono ?_
  rintro e w2 ⟨v2, rfl, ho2, hb2⟩
  obtain ⟨a2, c2, rfl, _, _, _, _⟩ := ho2.slice
  have HB12 : Hid (Below w1.heap.size w1 w2) := Lib.hid (((Below.refl _ _).alloc (Nat.le_refl _) _).trans (hb2.mono (Nat.le_of_lt (by simp))))
  clear ho2 hb2
  go_wp2_with fail
  refine (H3.out _).mono ?_
  rintro e w3 ⟨hv3, hb3⟩
  unfold ScV at hv3
  subst hv3
  have hb23 : Below w2.heap.size w2 w3 := ((Below.refl _ _).alloc (Nat.le_refl _) _).trans (hb3.mono (Nat.le_of_lt (by simp)))
  have hb13 := HB12.out.trans (hb23.mono HB12.out.size)
  have hcv : (convert 22 9 (.slice a1 6 c1)).run Try.prog w3 = .ok (.string ⟨#[97, 98, 97, 98, 97, 98]⟩) w3 := conv_lie c1 (HL1.out.below hb13 rfl)
  have HB3 := Lib.hid (HB1.out.trans (hb13.mono HB1.out.size))
  clear hb3 hb23 hb13
  dsimp only [List.length_cons, List.length_nil, Nat.reduceAdd]
  go_wp2_with (go_at_call 16; refine (H4.out _).mono ?_; rintro e w4 ⟨rfl, rfl⟩)
  go_ret
  exact ⟨rfl, HB3.out⟩
end Go.Proofs.Ytihiccccpjakgaa
