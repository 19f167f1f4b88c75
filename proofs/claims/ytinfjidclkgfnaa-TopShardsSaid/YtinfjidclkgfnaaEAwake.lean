/-
  The examples of chapter 6 are answered.
-/
import Derived.Test.YtinfjidclkgfnaaECheck
import Derived.Test.YtinfjidclkgfnaaERecon
import Derived.Test.YtinfjidclkgfnaaEFew
namespace Go.Proofs.Ytinfjidclkgfnaa
open Go.RowKit
/-- c is a slice that holds l -/
def Hds (w : World) (c : Value) (l : List UInt8) : Prop := ∃ ad cap, c = .slice ad l.length cap ∧ Lie w ad l ∧ l.length ≤ cap ∧ cap ≤ maxLen ∧ (ad = none → cap = 0)
theorem Hds.below {w w' : World} {c : Value} {l : List UInt8} (h : Hds w c l) (hb : Below w.heap.size w w') : Hds w' c l := by
  obtain ⟨ad, cap, e, h1, h2⟩ := h
  exact ⟨ad, cap, e, h1.below hb rfl, h2⟩
theorem Hds.alloc {w : World} {c : Value} {l : List UInt8} (h : Hds w c l) (o : Obj) : Hds (w.alloc o) c l := h.below ((Below.refl _ _).alloc (Nat.le_refl _) o)
theorem Hds.nil (w : World) : Hds w (.slice none 0 0) [] := ⟨none, 0, rfl, .nil _ _, Nat.le_refl _, Nat.zero_le _, fun _ => rfl⟩
/-- one byte written out -/
theorem Hds.one (w : World) (k : Int) (x : UInt8) (n : Nat) (hk : k = (x.toNat : Int)) (hn : n = w.heap.size) : Hds (w.alloc (.cells #[.int .u8 k] 5)) (.slice (some ⟨n, 0, none⟩) 1 1) [x] := by
  subst hn
  exact ⟨_, 1, rfl, Lie.one w k x hk, Nat.le_refl _, by unfold maxLen; omega, fun h => by cases h⟩
/-- a list of shards written out -/
theorem Lr.lits (w : World) (cs : List Value) (ls : List (List UInt8)) (n : Nat) (hn : n = w.heap.size) (hl : cs.length = ls.length) (h : ∀ i (hi : i < cs.length) (hi' : i < ls.length), Hds w (cs[i]) (ls[i])) : Lr (w.alloc (.cells cs.toArray 33)) (some ⟨n, 0, none⟩) ls := by
  subst hn
  refine ⟨.inr ⟨_, 0, rfl, by simp, fun i hi => ?_⟩⟩
  obtain ⟨ad, cap, e, h1, h2⟩ := h i (by omega) hi
  refine ⟨ad, cap, ?_, h1.below ((Below.refl _ _).alloc (Nat.le_refl _) _) rfl, h2⟩
  rw [Nat.zero_add, cell_of_row (w.alloc (.cells cs.toArray 33)) w.heap.size i cs.toArray 33 (0, 0) (heap_alloc_new w _), List.getElem?_toArray, List.getElem?_eq_getElem (by omega), e]
theorem two_at {P : Nat → Prop} (h0 : P 0) (h1 : P 1) : ∀ i, i < 2 → P i := fun i h => by
  rcases (by omega : i = 0 ∨ i = 1) with rfl | rfl
  · exact h0
  · exact h1
theorem three_at {P : Nat → Prop} (h0 : P 0) (h1 : P 1) (h2 : P 2) : ∀ i, i < 3 → P i := fun i h => by
  rcases (by omega : i = 0 ∨ i = 1 ∨ i = 2) with rfl | rfl | rfl
  · exact h0
  · exact h1
  · exact h2
theorem Lr.two (w : World) (c0 c1 : Value) (l0 l1 : List UInt8) (n : Nat) (hn : n = w.heap.size) (h0 : Hds w c0 l0) (h1 : Hds w c1 l1) : Lr (w.alloc (.cells #[c0, c1] 33)) (some ⟨n, 0, none⟩) [l0, l1] :=
  Lr.lits w [c0, c1] [l0, l1] n hn rfl fun i hi hi' => two_at (P := fun i => ∀ (hi : i < [c0, c1].length) (hi' : i < [l0, l1].length), Hds w ([c0, c1][i]) ([l0, l1][i])) (fun _ _ => h0) (fun _ _ => h1) i hi hi hi'
theorem Lr.three (w : World) (c0 c1 c2 : Value) (l0 l1 l2 : List UInt8) (n : Nat) (hn : n = w.heap.size) (h0 : Hds w c0 l0) (h1 : Hds w c1 l1) (h2 : Hds w c2 l2) : Lr (w.alloc (.cells #[c0, c1, c2] 33)) (some ⟨n, 0, none⟩) [l0, l1, l2] :=
  Lr.lits w [c0, c1, c2] [l0, l1, l2] n hn rfl fun i hi hi' => three_at (P := fun i => ∀ (hi : i < [c0, c1, c2].length) (hi' : i < [l0, l1, l2].length), Hds w ([c0, c1, c2][i]) ([l0, l1, l2][i])) (fun _ _ => h0) (fun _ _ => h1) (fun _ _ => h2) i hi hi hi'
theorem LieB.three (w : World) (b0 b1 b2 : Bool) (n : Nat) (hn : n = w.heap.size) : LieB (w.alloc (.cells #[.bool b0, .bool b1, .bool b2] 4)) (some ⟨n, 0, none⟩) [b0, b1, b2] := by
  subst hn
  refine .inr ⟨_, 0, rfl, by simp, fun i hi => ?_⟩
  rw [Nat.zero_add, cell_of_row (w.alloc (.cells #[.bool b0, .bool b1, .bool b2] 4)) w.heap.size i #[.bool b0, .bool b1, .bool b2] 4 (0, 0) (heap_alloc_new w _)]
  exact three_at (P := fun i => ∀ (hi : i < [b0, b1, b2].length), (#[Value.bool b0, .bool b1, .bool b2])[i]? = some (.bool ([b0, b1, b2][i]))) (fun _ => rfl) (fun _ => rfl) (fun _ => rfl) i hi hi
theorem ex_parE : parE [[1], [1]] 1 = 0 := by decide +kernel
theorem ex_parL : parL [[1], [1]] 1 = [[122]] := by decide +kernel
theorem ex_parR : parR [[1], [1]] 1 = [[122]] := by decide +kernel
theorem ex_recE : recE [[], [1], [122]] [false, true, true] 1 = 0 := by decide +kernel
theorem ex_chk : chkL [[1], [1], [122]] 1 = true := by decide +kernel
theorem ex_data : dataL 2 1 [[], [1], [122]] [false, true, true] = [[1], [1]] := by
  refine dataL_back (k := 2) (p := 1) [[1], [1]] rfl (by decide) (by decide) rfl (by decide) (by decide) rfl ?_
  rw [ex_parL]
  exact fun i hi => three_at (P := fun i => ∀ (hi : i < ([[], [1], [122]] : List (List UInt8)).length), [false, true, true].getD i false = true → ∃ hi' : i < ([[1], [1]] ++ [[122]] : List (List UInt8)).length, ([[], [1], [122]] : List (List UInt8))[i] = ([[1], [1]] ++ [[122]] : List (List UInt8))[i]) (fun _ h => by cases h) (fun _ _ => ⟨by decide, rfl⟩) (fun _ _ => ⟨by decide, rfl⟩) i (by simpa using hi) hi
theorem ex_recR : recR [[], [1], [122]] [false, true, true] 1 = [[1], [1], [122]] := by
  rw [show (1 : Int) = ((1 : Nat) : Int) from rfl, recR_ok (k := 2) ex_recE rfl, ex_data, ex_parL]
  rfl
attribute [local irreducible] parL parR parE recR recE chkL
set_option maxRecDepth 100000 in
set_option maxHeartbeats 2000000 in
theorem awake_any (w : World) : Calls Try.prog 16 #[] w fun e w' => e = .returned (.bool true) ∧ Below w.heap.size w w' := by
  go_enter Try.func16, Try.ntmps16
  go_wp2_with fail
  have HL1 := Lib.hid (Lr.two ((w.alloc (.cells #[.int .u8 1] 5)).alloc (.cells #[.int .u8 1] 5)) (.slice (some ⟨w.heap.size, 0, none⟩) 1 1) (.slice (some ⟨w.heap.size + 1, 0, none⟩) 1 1) [1] [1] (w.heap.size + 1 + 1) (by simp) ((Hds.one w 1 1 _ rfl rfl).alloc _) (Hds.one _ 1 1 _ rfl (by simp)))
  have HB1 := Lib.hid (((Below.refl w.heap.size w).alloc (Nat.le_refl _) (.cells #[.int .u8 1] 5)).alloc (by simp) (.cells #[.int .u8 1] 5) |>.alloc (by simp; omega) (.cells #[.slice (some ⟨w.heap.size, 0, none⟩) 1 1, .slice (some ⟨w.heap.size + 1, 0, none⟩) 1 1] 33))
  refine (parity_any _ 2 2 [[1], [1]] 1 _ HL1.out rfl (by unfold maxLen; omega) (by decide)).mono ?_
  rintro e w1 ⟨v1, rfl, ho1, hb1⟩
  rw [ex_parE]
  rw [ex_parR] at ho1
  obtain ⟨a1, c1, rfl, hl1, -⟩ := ho1.read
  have HB2 := Lib.hid (HB1.out.trans (hb1.mono HB1.out.size))
  have HL2 := Lib.hid hl1
  clear ho1 hb1 hl1 HL1 HB1
  have HL3 := Lib.hid ((Lr.three ((w1.alloc (.cells #[.int .u8 1] 5)).alloc (.cells #[.int .u8 122] 5)) (.slice none 0 0) (.slice (some ⟨w1.heap.size, 0, none⟩) 1 1) (.slice (some ⟨w1.heap.size + 1, 0, none⟩) 1 1) [] [1] [122] (w1.heap.size + 1 + 1) (by simp) (Hds.nil _) ((Hds.one w1 1 1 _ rfl rfl).alloc _) (Hds.one _ 122 122 _ rfl (by simp))).below ((Below.refl _ _).alloc (Nat.le_refl _) (.cells #[.bool false, .bool true, .bool true] 4)))
  have HH3 := Lib.hid (LieB.three (((w1.alloc (.cells #[.int .u8 1] 5)).alloc (.cells #[.int .u8 122] 5)).alloc (.cells #[.slice none 0 0, .slice (some ⟨w1.heap.size, 0, none⟩) 1 1, .slice (some ⟨w1.heap.size + 1, 0, none⟩) 1 1] 33)) false true true (w1.heap.size + 1 + 1 + 1) (by simp))
  have HB3 := Lib.hid (((((Below.refl w1.heap.size w1).alloc (Nat.le_refl _) (.cells #[.int .u8 1] 5)).alloc (by simp) (.cells #[.int .u8 122] 5)).alloc (by simp; omega) (.cells #[.slice none 0 0, .slice (some ⟨w1.heap.size, 0, none⟩) 1 1, .slice (some ⟨w1.heap.size + 1, 0, none⟩) 1 1] 33)).alloc (by simp; omega) (.cells #[.bool false, .bool true, .bool true] 4))
  go_wp2_with fail
  refine (recon_any _ _ 3 3 3 3 [[], [1], [122]] [false, true, true] 1 _ HL3.out rfl (by omega) HH3.out rfl (by omega) (by omega) (by decide)).mono ?_
  rintro e w2 ⟨a2, c2, rfl, hl2, hc2, hm2, hb2⟩
  rw [ex_recR] at hl2 hc2 ⊢
  rw [ex_recE]
  have hb12 := HB3.out.trans (hb2.mono HB3.out.size)
  have HB4 := Lib.hid (HB2.out.trans (hb12.mono HB2.out.size))
  have HL4 := Lib.hid hl2
  have HC4 : Hid (3 ≤ c2 ∧ c2 ≤ maxLen) := Lib.hid ⟨hc2, hm2⟩
  obtain ⟨b, off, rfl, -, a5, c5, f5, l5, -⟩ := (HL2.out.below hb12).row 0 (by decide)
  obtain ⟨b6, off6, rfl, -, f6⟩ := l5.ev (by decide)
  have f7 := f6 0 (by decide)
  have f8 : w2.cell? ⟨b6, off6, none⟩ = some (.int .u8 122) := by rw [Nat.add_zero] at f7; rw [f7, ev_nat]; rfl
  have f9 : w2.cell? ⟨b, off, none⟩ = some (.slice (some ⟨b6, off6, none⟩) 1 c5) := by rw [Nat.add_zero] at f5; exact f5
  have hc3 : 3 ≤ c2 := hc2
  unfold maxLen at hm2
  clear hl2 hc2 hb2 hb12 f5 l5 f6 f7 HL3 HH3 HB3
  have HL5 := Lib.hid (Lr.three (((w2.alloc (.cells #[.int .u8 1] 5)).alloc (.cells #[.int .u8 1] 5)).alloc (.cells #[.int .u8 122] 5)) (.slice (some ⟨w2.heap.size, 0, none⟩) 1 1) (.slice (some ⟨w2.heap.size + 1, 0, none⟩) 1 1) (.slice (some ⟨w2.heap.size + 1 + 1, 0, none⟩) 1 1) [1] [1] [122] (w2.heap.size + 1 + 1 + 1) (by simp) (((Hds.one w2 1 1 _ rfl rfl).alloc _).alloc _) ((Hds.one _ 1 1 _ rfl (by simp)).alloc _) (Hds.one _ 122 122 _ rfl (by simp)))
  have HB5 := Lib.hid (((((Below.refl w2.heap.size w2).alloc (Nat.le_refl _) (.cells #[.int .u8 1] 5)).alloc (by simp) (.cells #[.int .u8 1] 5)).alloc (by simp; omega) (.cells #[.int .u8 122] 5)).alloc (by simp; omega) (.cells #[.slice (some ⟨w2.heap.size, 0, none⟩) 1 1, .slice (some ⟨w2.heap.size + 1, 0, none⟩) 1 1, .slice (some ⟨w2.heap.size + 1 + 1, 0, none⟩) 1 1] 33))
  go_wp2_with fail
  refine (rsame_any a2 _ 3 3 c2 3 [[1], [1], [122]] [[1], [1], [122]] _ (HL4.out.below HB5.out) HL5.out rfl rfl (by omega)).mono ?_
  rintro e w3 ⟨rfl, hb3⟩
  rw [eqL_self]
  have hb23 := HB5.out.trans (hb3.mono HB5.out.size)
  have HB6 := Lib.hid (HB4.out.trans (hb23.mono HB4.out.size))
  have HL6 := Lib.hid (HL4.out.below hb23)
  clear hb3 hb23 HL5 HB5 f8 f9
  go_wp2_with fail
  refine (check_any a2 3 c2 [[1], [1], [122]] 1 w3 HL6.out rfl (by omega) HC4.out.1 HC4.out.2 (by omega) (by omega) (by decide)).mono ?_
  rintro e w4 ⟨rfl, hb4⟩
  rw [ex_chk]
  have HB7 := Lib.hid (HB6.out.trans (hb4.mono HB6.out.size))
  clear hb4
  go_wp2
  go_ret
  exact ⟨rfl, HB7.out⟩
end Go.Proofs.Ytinfjidclkgfnaa
