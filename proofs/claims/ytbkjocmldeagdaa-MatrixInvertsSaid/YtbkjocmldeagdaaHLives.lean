/-
  The examples of the chapter: the function that checks them answers true, and lays new memory only.
-/
import Derived.Test.YtbkjocmldeagdaaHInv
import Derived.Test.YtbkjocmldeagdaaHApp
import Derived.Test.YtbkjocmldeagdaaRMulm5
namespace Go.Proofs.Ytbkjocmldeagdaa
open Go.RowKit
theorem lit (n : Nat) (x : UInt8) (h : x.toNat = n) : ev x = (n : Int) := by rw [ev_nat, h]
theorem app_val : appL [[1, 2], [3, 4]] [5, 6] = [9, 23] := by decide +kernel
theorem cau_val : cauL 1 2 = [[142, 244]] := by decide +kernel
theorem inv_val : Inv 1 (fun _ _ => 142) (ent [[2]]) := fun i hi j hj => by
  obtain rfl : i = 0 := by omega
  obtain rfl : j = 0 := by omega
  decide +kernel
theorem rank_val : rk [[1, 2], [2, 4]] = 1 := by
  have hV : ValidL [[1, 2], [2, 4]] := (vld_iff _).1 (by decide +kernel)
  rw [rk_yes hV]
  have h1 := (Reduced.start 2 2 (ent [[1, 2], [2, 4]])).some (a := 0) (by decide) (Nat.le_refl _) (by decide) (by decide +kernel)
  have h2 := h1.none (fun i hi hi2 => by
    obtain rfl : i = 1 := by omega
    decide +kernel)
  exact h2.rank (Nat.le_refl _)
theorem lie_made (W : World) (s : Nat) (hs : s = W.heap.size) (l : List UInt8) (C : Array Value) (hC : C.toList = cellsU l) : Lie (W.alloc (.cells C 5)) (some ⟨s, 0, none⟩) l := by
  subst hs
  refine ⟨.inr ⟨W.heap.size, 0, rfl, by simp, fun j hj => ?_⟩⟩
  rw [Nat.zero_add, World.cell?_alloc_mark, ← Array.getElem?_toList, hC]
  exact cellsU_get l j hj
theorem lie_on {W : World} {ad : Option Addr} {l : List UInt8} (h : Lie W ad l) (o : Obj) : Lie (W.alloc o) ad l := h.below ((Below.refl _ _).alloc (Nat.le_refl _) o) rfl
theorem lr_one (W : World) (s n : Nat) (hs : s = W.heap.size) (a : List UInt8) (ad : Option Addr) (ha : Lie W ad a) (hn : n = a.length) (hm : n ≤ maxLen) (hd : ad = none → n = 0) : Lr (W.alloc (.cells #[.slice ad n n] 23)) (some ⟨s, 0, none⟩) [a] := by
  subst hs hn
  refine ⟨.inr ⟨W.heap.size, 0, rfl, by simp, fun j hj => ?_⟩⟩
  obtain rfl : j = 0 := by simpa using hj
  exact ⟨ad, a.length, by rw [Nat.zero_add, World.cell?_alloc_mark]; rfl, lie_on ha _, Nat.le_refl _, hm, hd⟩
theorem lr_two (W : World) (s n m : Nat) (hs : s = W.heap.size) (a b : List UInt8) (ad bd : Option Addr) (ha : Lie W ad a) (hb : Lie W bd b) (hn : n = a.length) (hm : m = b.length) (h1 : n ≤ maxLen) (h2 : m ≤ maxLen) (hd : ad = none → n = 0) (hd2 : bd = none → m = 0) :
    Lr (W.alloc (.cells #[.slice ad n n, .slice bd m m] 23)) (some ⟨s, 0, none⟩) [a, b] := by
  subst hs hn hm
  refine ⟨.inr ⟨W.heap.size, 0, rfl, by simp, fun j hj => ?_⟩⟩
  have hj2 : j = 0 ∨ j = 1 := by simp at hj; omega
  rcases hj2 with rfl | rfl
  · exact ⟨ad, a.length, by rw [Nat.zero_add, World.cell?_alloc_mark]; rfl, lie_on ha _, Nat.le_refl _, h1, hd⟩
  · exact ⟨bd, b.length, by rw [Nat.zero_add, World.cell?_alloc_mark]; rfl, lie_on hb _, Nat.le_refl _, h2, hd2⟩
/-- the first call: the product of a matrix and a vector -/
theorem app_lit (w : World) : Calls Try.prog 14 #[.slice (some ⟨w.heap.size + 1 + 1, 0, none⟩) 2 2, .slice (some ⟨w.heap.size + 1 + 1 + 1, 0, none⟩) 2 2]
    ((((w.alloc (.cells #[.int .u8 1, .int .u8 2] 5)).alloc (.cells #[.int .u8 3, .int .u8 4] 5)).alloc (.cells #[.slice (some ⟨w.heap.size, 0, none⟩) 2 2, .slice (some ⟨w.heap.size + 1, 0, none⟩) 2 2] 23)).alloc (.cells #[.int .u8 5, .int .u8 6] 5))
    fun e w' => ∃ b off cap, e = .returned (.tuple #[.slice (some ⟨b, off, none⟩) 2 cap, .bool true]) ∧ Below w.heap.size w w' ∧ ∀ w2, Below w'.heap.size w' w2 → w2.cell? ⟨b, off, none⟩ = some (.int .u8 9) ∧ w2.cell? ⟨b, off + 1, none⟩ = some (.int .u8 23) := by
  have l1 := lie_made w w.heap.size rfl [1, 2] #[.int .u8 1, .int .u8 2] rfl
  have l2 := lie_made (w.alloc (.cells #[.int .u8 1, .int .u8 2] 5)) (w.heap.size + 1) (by simp) [3, 4] #[.int .u8 3, .int .u8 4] rfl
  have l3 := lr_two ((w.alloc (.cells #[.int .u8 1, .int .u8 2] 5)).alloc (.cells #[.int .u8 3, .int .u8 4] 5)) (w.heap.size + 1 + 1) 2 2 (by simp) [1, 2] [3, 4] _ _ (lie_on l1 _) l2 rfl rfl (by decide) (by decide) (fun h => by cases h) (fun h => by cases h)
  have l4 := lie_made (((w.alloc (.cells #[.int .u8 1, .int .u8 2] 5)).alloc (.cells #[.int .u8 3, .int .u8 4] 5)).alloc (.cells #[.slice (some ⟨w.heap.size, 0, none⟩) 2 2, .slice (some ⟨w.heap.size + 1, 0, none⟩) 2 2] 23)) (w.heap.size + 1 + 1 + 1) (by simp) [5, 6] #[.int .u8 5, .int .u8 6] rfl
  have hB : Below w.heap.size w ((((w.alloc (.cells #[.int .u8 1, .int .u8 2] 5)).alloc (.cells #[.int .u8 3, .int .u8 4] 5)).alloc (.cells #[.slice (some ⟨w.heap.size, 0, none⟩) 2 2, .slice (some ⟨w.heap.size + 1, 0, none⟩) 2 2] 23)).alloc (.cells #[.int .u8 5, .int .u8 6] 5)) :=
    ((((Below.refl _ _).alloc (Nat.le_refl _) _).alloc (by simp) _).alloc (by simp; omega) _).alloc (by simp; omega) _
  refine (app_any _ _ 2 2 2 2 [[1, 2], [3, 4]] [5, 6] _ (l3.below ((Below.refl _ _).alloc (Nat.le_refl _) _)) rfl (by decide) l4 rfl (by decide)).mono ?_
  rintro e w' ⟨hb, ⟨_, ad, cap, rfl, hl, hc, _⟩ | ⟨hno, _⟩⟩
  · rw [app_val] at hl
    obtain ⟨b, off, rfl, hlt, hcc⟩ := hl.ev (by decide)
    refine ⟨b, off, cap, rfl, hB.trans (hb.mono hB.size), fun w2 h2 => ⟨?_, ?_⟩⟩
    · have := (h2.cell (p := ⟨b, off + 0, none⟩) hlt).trans (hcc 0 (by decide))
      rw [Nat.add_zero] at this
      rw [this, List.getElem_cons_zero, lit 9 9 rfl]
      rfl
    · rw [h2.cell (p := ⟨b, off + 1, none⟩) hlt, hcc 1 (by decide), List.getElem_cons_succ, List.getElem_cons_zero, lit 23 23 rfl]
      rfl
  · exact absurd ⟨(vld_iff _).1 (by decide +kernel), by decide⟩ hno
/-- the second call: an inverse -/
theorem inv_lit (w : World) : Calls Try.prog 18 #[.slice (some ⟨w.heap.size + 1, 0, none⟩) 1 1]
    ((w.alloc (.cells #[.int .u8 2] 5)).alloc (.cells #[.slice (some ⟨w.heap.size, 0, none⟩) 1 1] 23))
    fun e w' => ∃ b off cap, e = .returned (.tuple #[.slice (some ⟨b, off, none⟩) 1 cap, .bool true]) ∧ Below w.heap.size w w' ∧ Lr w' (some ⟨b, off, none⟩) [[142]] := by
  have l1 := lie_made w w.heap.size rfl [2] #[.int .u8 2] rfl
  have l2 := lr_one (w.alloc (.cells #[.int .u8 2] 5)) (w.heap.size + 1) 1 (by simp) [2] _ l1 rfl (by decide) (fun h => by cases h)
  have hB : Below w.heap.size w ((w.alloc (.cells #[.int .u8 2] 5)).alloc (.cells #[.slice (some ⟨w.heap.size, 0, none⟩) 1 1] 23)) := ((Below.refl _ _).alloc (Nat.le_refl _) _).alloc (by simp) _
  refine (invert_any _ 1 1 [[2]] _ l2 rfl (by decide)).mono ?_
  rintro e w' ⟨hb, ⟨_, _, A, ad, cap, hA, rfl, hl, _, _⟩ | ⟨hno, _⟩⟩
  · have e1 : matL 1 1 A = [[142]] := by
      rw [show [[142]] = matL 1 1 (fun _ _ => (142 : UInt8)) from rfl]
      exact matL_congr 1 1 _ _ fun i hi j hj => hA.unique inv_val i hi j hj
    have hl2 : Lr w' ad [[142]] := by rw [← e1]; exact hl
    obtain ⟨b, off, rfl, _⟩ := hl2.row 0 (by decide)
    exact ⟨b, off, cap, rfl, hB.trans (hb.mono hB.size), hl2⟩
  · exact absurd ⟨(vld_iff _).1 (by decide +kernel), rfl, _, inv_val⟩ hno
/-- the third call: a Cauchy matrix -/
theorem cau_lit (w : World) : Calls Try.prog 24 #[.int .i64 1, .int .i64 2] w fun e w' => ∃ g, e = .returned (.tuple #[.slice (some ⟨g, 0, none⟩) 1 1, .bool true]) ∧ Below w.heap.size w w' ∧ Lr w' (some ⟨g, 0, none⟩) [[142, 244]] := by
  refine (cauchy_any 1 2 w (by decide) (by decide) (by decide) (by decide)).mono ?_
  rintro e w' ⟨_, h⟩
  obtain ⟨g, rfl, hO, hb⟩ := h (by decide)
  exact ⟨g, rfl, hb, by have h := hO.lr; rw [show cauL (Int.toNat 1) (Int.toNat 2) = [[142, 244]] from cau_val] at h; exact h⟩
/-- the fourth call: a rank -/
theorem rank_lit (w : World) : Calls Try.prog 20 #[.slice (some ⟨w.heap.size + 1 + 1, 0, none⟩) 2 2]
    (((w.alloc (.cells #[.int .u8 1, .int .u8 2] 5)).alloc (.cells #[.int .u8 2, .int .u8 4] 5)).alloc (.cells #[.slice (some ⟨w.heap.size, 0, none⟩) 2 2, .slice (some ⟨w.heap.size + 1, 0, none⟩) 2 2] 23))
    fun e w' => e = .returned (.int .i64 1) ∧ Below w.heap.size w w' := by
  have l1 := lie_made w w.heap.size rfl [1, 2] #[.int .u8 1, .int .u8 2] rfl
  have l2 := lie_made (w.alloc (.cells #[.int .u8 1, .int .u8 2] 5)) (w.heap.size + 1) (by simp) [2, 4] #[.int .u8 2, .int .u8 4] rfl
  have l3 := lr_two ((w.alloc (.cells #[.int .u8 1, .int .u8 2] 5)).alloc (.cells #[.int .u8 2, .int .u8 4] 5)) (w.heap.size + 1 + 1) 2 2 (by simp) [1, 2] [2, 4] _ _ (lie_on l1 _) l2 rfl rfl (by decide) (by decide) (fun h => by cases h) (fun h => by cases h)
  have hB : Below w.heap.size w (((w.alloc (.cells #[.int .u8 1, .int .u8 2] 5)).alloc (.cells #[.int .u8 2, .int .u8 4] 5)).alloc (.cells #[.slice (some ⟨w.heap.size, 0, none⟩) 2 2, .slice (some ⟨w.heap.size + 1, 0, none⟩) 2 2] 23)) :=
    (((Below.refl _ _).alloc (Nat.le_refl _) _).alloc (by simp) _).alloc (by simp; omega) _
  refine (rank_any _ 2 2 [[1, 2], [2, 4]] _ l3 rfl (by decide)).mono ?_
  rintro e w' ⟨rfl, hb⟩
  rw [rank_val]
  exact ⟨rfl, hB.trans (hb.mono hB.size)⟩
set_option maxRecDepth 100000 in
set_option maxHeartbeats 1000000 in
theorem lives_any (w : World) :
    Calls Try.prog 9 #[] w fun e w' => e = .returned (.bool true) ∧ Below w.heap.size w w' := by
  go_enter Try.func9, Try.ntmps9
  go_wp2_with fail
  refine (app_lit w).mono ?_
  rintro e w1 ⟨b1, o1, c1, rfl, hb1, hv⟩
  have HB1 := Lib.hid hb1
  have HV := Lib.hid hv
  clear hb1 hv
  go_wp2_with fail
  refine (inv_lit w1).mono ?_
  rintro e w2 ⟨b2, o2, c2, rfl, hb2, hm⟩
  have HB2 := Lib.hid (HB1.out.trans (hb2.mono HB1.out.size))
  have HB12 := Lib.hid hb2
  have HM := Lib.hid hm
  clear hb2 hm
  go_wp2_with fail
  refine (cau_lit w2).mono ?_
  rintro e w3 ⟨g3, rfl, hb3, hc⟩
  have HB3 := Lib.hid (HB2.out.trans (hb3.mono HB2.out.size))
  have HM3 := Lib.hid (HM.out.below hb3)
  have HV142 : ValidL [[142]] := (vld_iff _).1 (by decide +kernel)
  obtain ⟨v1, v2⟩ := HV.out w3 (HB12.out.trans (hb3.mono HB12.out.size))
  obtain ⟨_, _, e1, hm1⟩ := (HM.out.below hb3).mat HV142 1 1 rfl rfl
  cases e1
  obtain ⟨b4, o4, c4, f4, -, -, k4⟩ := hm1.out w3 (.refl _ _) 0 (by decide)
  have f5 := k4 0 (by decide)
  rw [Nat.add_zero] at f4 f5
  rw [show ent [[142]] 0 0 = 142 from rfl, lit 142 142 rfl] at f5
  obtain ⟨_, _, e2, hc1⟩ := hc.mat ((vld_iff _).1 (by decide +kernel)) 1 2 rfl rfl
  cases e2
  obtain ⟨b6, o6, c6, f6, -, -, k6⟩ := hc1.out w3 (.refl _ _) 0 (by decide)
  have f7 := k6 0 (by decide)
  have f8 := k6 1 (by decide)
  rw [Nat.add_zero] at f6 f7
  rw [show ent [[142, 244]] 0 0 = 142 from rfl, lit 142 142 rfl] at f7
  rw [show ent [[142, 244]] 0 1 = 244 from rfl, lit 244 244 rfl] at f8
  have HV3 := Lib.hid HV142
  clear hb3 hc hm1 hc1 k4 k6 HV142
  go_wp2_with fail
  refine (rank_lit w3).mono ?_
  rintro e w4 ⟨rfl, hb4⟩
  have HB4 := Lib.hid (HB3.out.trans (hb4.mono HB3.out.size))
  have HM4 := Lib.hid (HM3.out.below hb4)
  clear hb4
  go_wp2_with fail
  refine (valid_any _ 1 c2 [[142]] w4 HM4.out rfl (by decide)).mono ?_
  rintro e w' ⟨rfl, rfl⟩
  rw [vld_yes HV3.out]
  go_wp2
  go_ret
  exact ⟨rfl, HB4.out⟩
end Go.Proofs.Ytbkjocmldeagdaa
