/-
  The law of stage 6 of package top: which shards it takes; its example is answered.
-/
import Derived.Test.YtinfjidclkgfnaaETopM
import Derived.Test.YtinfjidclkgfnaaQField
import Derived.Test.YtinfjidclkgfnaaConv
import Derived.BigQuiet
namespace Go.Proofs.Ytinfjidclkgfnaa
open Go.RowKit
/-- which shards the law takes -/
def shB (ls : List (List UInt8)) : Bool := decide ((∀ r ∈ ls, r.length ≤ 40 ∧ r.length = cols ls) ∧ 1 ≤ ls.length ∧ ls.length ≤ 8)
theorem shB_yes {ls : List (List UInt8)} (h : shB ls = true) : sameL ls = true ∧ (∀ r ∈ ls, r.length ≤ 40) ∧ 1 ≤ ls.length ∧ ls.length ≤ 8 := by
  have h1 := of_decide_eq_true h
  exact ⟨(sameL_iff ls).2 fun r hr => (h1.1 r hr).2, fun r hr => (h1.1 r hr).1, h1.2⟩
set_option maxRecDepth 100000 in
set_option maxHeartbeats 1000000 in
theorem shards_any (ad : Option Addr) (n cap : Nat) (ls : List (List UInt8)) (w : World) (hl : Lr w ad ls) (hn : n = ls.length) (hm : n ≤ maxLen) :
    Calls Try.prog 26 #[.slice ad n cap] w fun e w' => e = .returned (.bool (shB ls)) ∧ Below w.heap.size w w' := by
  have HL := Lib.hid hl
  have HN := Lib.hid hn
  have HC := Lib.hid (cols_first ls)
  have HX : Hid (∀ j (h : j < ls.length), ¬ ((ls[j]).length ≤ 40 ∧ (ls[j]).length = cols ls) → shB ls = false) := Lib.hid fun j h hne => decide_eq_false fun e => hne (e.1 _ (List.getElem_mem h))
  have HE : Hid (¬ (1 ≤ n ∧ n ≤ 8) → shB ls = false) := Lib.hid fun h => decide_eq_false fun e => h (by rw [hn]; exact e.2)
  have HY : Hid ((∀ j (h : j < ls.length), (ls[j]).length ≤ 40 ∧ (ls[j]).length = cols ls) → 1 ≤ n → n ≤ 8 → shB ls = true) := Lib.hid fun h h1 h2 => decide_eq_true ⟨fun r hr => by obtain ⟨j, hj, rfl⟩ := List.mem_iff_getElem.1 hr; exact h j hj, by omega, by omega⟩
  generalize cols ls = C at HC HX HY
  unfold maxLen at hm
  clear hl hn
  go_enter Try.func26, Try.ntmps26
  go_wp2_with fail
  go_loopw [3] (fun vk wr => ∃ k : Nat, vk = .int .i64 k ∧ k ≤ n ∧ Hid (∀ j (h : j < ls.length), j < k → (ls[j]).length ≤ 40 ∧ (ls[j]).length = C) ∧ Hid (∃ q, wr = w.drewN q)) (fun vk _ => n - (intOf vk).toNat)
  case atStart => exact ⟨0, rfl, by omega, Lib.hid fun j h hj => by omega, Lib.hid ⟨0, rfl⟩⟩
  case round =>
    obtain ⟨k, rfl, hk, hall, hq⟩ := hrel
    by_cases hlt : k < n
    · have hkl : k < ls.length := by have := HN.out; omega
      have h0l : 0 < ls.length := by omega
      obtain ⟨b, off, rfl, -, a1, c1, f1, -, g1, m1, -⟩ := HL.out.row k hkl
      obtain ⟨b', off', e, -, a0, c0, f0, -, g0, m0, -⟩ := HL.out.row 0 h0l
      cases e
      rw [← HC.out h0l, Nat.add_zero] at f0
      rw [← HC.out h0l] at g0
      have HLL := Lib.hid (HX.out k hkl)
      have HKK : Hid ((ls[k]).length ≤ 40 → (ls[k]).length = C → ∀ j (h : j < ls.length), j < k + 1 → (ls[j]).length ≤ 40 ∧ (ls[j]).length = C) := Lib.hid fun h4 he j h hj => by
        rcases Nat.lt_or_ge j k with h' | h'
        · exact hall.out j h h'
        · obtain rfl : j = k := by omega
          exact ⟨h4, he⟩
      generalize (ls[k]).length = L at f1 g1 HLL HKK
      have f2 : wr.cell? ⟨b, off + k, none⟩ = some (.slice a1 L c1) := by obtain ⟨q, h⟩ := hq.out; rw [h]; exact f1
      have f3 : wr.cell? ⟨b, off, none⟩ = some (.slice a0 C c0) := by obtain ⟨q, h⟩ := hq.out; rw [h]; exact f0
      unfold maxLen at m0 m1
      have hn0 : (0 : Int) < (n : Int) := by omega
      have hn1 : 0 < n := by omega
      have hn2 : ¬ n = 0 := by omega
      have hn3 : ¬ n ≤ 0 := by omega
      clear f0 f1 hkl h0l
      by_cases h4 : L ≤ 40
      · have hd1 : decide ((40 : Int) < (L : Int)) = false := decide_eq_false (by omega)
        by_cases he : L = C
        · subst he
          have HNX := Lib.hid (HKK.out h4 rfl)
          go_wp2_with fail
          go_quiet (fail)
          go_wp2
          go_roundw
          case rel => exact ⟨k + 1, by go_num, by omega, HNX, Lib.hid (by obtain ⟨q, h⟩ := hq.out; rw [h]; exact ⟨_, by first | rfl | rw [World.drewN_drewN]⟩)⟩
          case measure => simp [intOf]; omega
        · have he' : ¬ (L : Int) = (C : Int) := by omega
          have HV := Lib.hid (HLL.out fun h => he h.2)
          go_wp2_with fail
          go_quiet (fail)
          go_wp2
          go_ret
          exact ⟨by rw [HV.out]; rfl, drewN_below w (by obtain ⟨q, h⟩ := hq.out; rw [h]; exact ⟨_, by first | rfl | rw [World.drewN_drewN]⟩)⟩
      · have hd1 : decide ((40 : Int) < (L : Int)) = true := decide_eq_true (by omega)
        have HV := Lib.hid (HLL.out fun h => h4 h.1)
        go_wp2_with fail
        go_quiet (fail)
        go_wp2
        go_ret
        exact ⟨by rw [HV.out]; rfl, drewN_below w (by obtain ⟨q, h⟩ := hq.out; rw [h]; exact ⟨_, by first | rfl | rw [World.drewN_drewN]⟩)⟩
    · have hlt2 : ¬ (k : Int) < (n : Int) := by omega
      by_cases h1 : 1 ≤ n
      rotate_left
      · have HV := Lib.hid (HE.out fun h => h1 h.1)
        go_wp2
        go_ret
        exact ⟨by rw [HV.out]; rfl, drewN_below w hq.out⟩
      have HV : Hid (shB ls = decide ((n : Int) ≤ 8)) := Lib.hid (by
        by_cases h8 : n ≤ 8
        · rw [HY.out (fun i h => hall.out i h (by have := HN.out; omega)) h1 h8]
          exact (decide_eq_true (by omega)).symm
        · rw [HE.out fun h => h8 h.2]
          exact (decide_eq_false (by omega)).symm)
      go_wp2
      go_ret
      exact ⟨by rw [HV.out]; rfl, drewN_below w hq.out⟩
theorem Hds.pair (w : World) (k0 k1 : Int) (x0 x1 : UInt8) (n : Nat) (h0 : k0 = (x0.toNat : Int)) (h1 : k1 = (x1.toNat : Int)) (hn : n = w.heap.size) : Hds (w.alloc (.cells #[.int .u8 k0, .int .u8 k1] 5)) (.slice (some ⟨n, 0, none⟩) 2 2) [x0, x1] :=
  ⟨_, 2, rfl, Lie.lit w [x0, x1] _ n (0, 0) hn (by rw [h0, h1]; rfl), Nat.le_refl _, by unfold maxLen; omega, fun h => by cases h⟩
theorem top_parE : parE [[1, 2], [3, 4]] 1 = 0 := by decide +kernel
theorem top_parL : parL [[1, 2], [3, 4]] 1 = [[143, 246]] := by decide +kernel
theorem top_parR : parR [[1, 2], [3, 4]] 1 = [[143, 246]] := by decide +kernel
theorem top_recE : recE [[], [3, 4], [143, 246]] [false, true, true] 1 = 0 := by decide +kernel
theorem top_data : dataL 2 1 [[], [3, 4], [143, 246]] [false, true, true] = [[1, 2], [3, 4]] := by
  refine dataL_back (k := 2) (p := 1) [[1, 2], [3, 4]] rfl (by decide) (by decide) rfl (by decide) (by decide) rfl ?_
  rw [top_parL]
  exact fun i hi => three_at (P := fun i => ∀ (hi : i < ([[], [3, 4], [143, 246]] : List (List UInt8)).length), [false, true, true].getD i false = true → ∃ hi' : i < ([[1, 2], [3, 4]] ++ [[143, 246]] : List (List UInt8)).length, ([[], [3, 4], [143, 246]] : List (List UInt8))[i] = ([[1, 2], [3, 4]] ++ [[143, 246]] : List (List UInt8))[i]) (fun _ h => by cases h) (fun _ _ => ⟨by decide, rfl⟩) (fun _ _ => ⟨by decide, rfl⟩) i (by simpa using hi) hi
theorem top_recR : recR [[], [3, 4], [143, 246]] [false, true, true] 1 = [[1, 2], [3, 4], [143, 246]] := by
  rw [show (1 : Int) = ((1 : Nat) : Int) from rfl, recR_ok (k := 2) top_recE rfl, top_data, top_parL]
  rfl
theorem top_one : mulU (invU 2) 2 = 1 := by decide +kernel
attribute [local irreducible] parL parR parE recR recE mulU invU
set_option maxRecDepth 100000 in
set_option maxHeartbeats 2000000 in
theorem codes_any (w : World) : Calls Try.prog 27 #[] w fun e w' => e = .returned (.bool true) ∧ Below w.heap.size w w' := by
  have h2 : ev (2 : UInt8) = 2 := by rw [ev_nat]; rfl
  go_enter Try.func27, Try.ntmps27
  go_wp2_with fail
  have HL1 := Lib.hid (Lr.two ((w.alloc (.cells #[.int .u8 1, .int .u8 2] 5)).alloc (.cells #[.int .u8 3, .int .u8 4] 5)) (.slice (some ⟨w.heap.size, 0, none⟩) 2 2) (.slice (some ⟨w.heap.size + 1, 0, none⟩) 2 2) [1, 2] [3, 4] (w.heap.size + 1 + 1) (by simp) ((Hds.pair w 1 2 1 2 _ rfl rfl rfl).alloc _) (Hds.pair _ 3 4 3 4 _ rfl rfl (by simp)))
  have HB1 := Lib.hid (((Below.refl w.heap.size w).alloc (Nat.le_refl _) (.cells #[.int .u8 1, .int .u8 2] 5)).alloc (by simp) (.cells #[.int .u8 3, .int .u8 4] 5) |>.alloc (by simp; omega) (.cells #[.slice (some ⟨w.heap.size, 0, none⟩) 2 2, .slice (some ⟨w.heap.size + 1, 0, none⟩) 2 2] 33))
  refine (parity_any _ 2 2 [[1, 2], [3, 4]] 1 _ HL1.out rfl (by unfold maxLen; omega) (by decide)).mono ?_
  rintro e w1 ⟨v1, rfl, ho1, hb1⟩
  rw [top_parE]
  rw [top_parR] at ho1
  obtain ⟨a1, c1, rfl, hl1, -⟩ := ho1.read
  have HB2 := Lib.hid (HB1.out.trans (hb1.mono HB1.out.size))
  obtain ⟨b, off, rfl, hbl, a5, c5, f5, l5, g5, m5, h5⟩ := hl1.row 0 (by decide)
  have f9 : w1.cell? ⟨b, off, none⟩ = some (.slice a5 2 c5) := by rw [Nat.add_zero] at f5; exact f5
  have f8 : (w1.alloc (.cells #[.int .u8 3, .int .u8 4] 5)).cell? ⟨b, off, none⟩ = some (.slice a5 2 c5) := (((Below.refl w1.heap.size w1).alloc (Nat.le_refl _) _).cell (p := ⟨b, off, none⟩) hbl).trans f9
  have HD5 : Hid (Hds w1 (.slice a5 2 c5) [143, 246]) := Lib.hid ⟨a5, c5, rfl, l5, g5, m5, h5⟩
  have g6 : 2 ≤ c5 := g5
  unfold maxLen at m5
  clear ho1 hb1 hl1 HL1 HB1 f5 l5 g5 h5
  have HL3 := Lib.hid ((Lr.three (w1.alloc (.cells #[.int .u8 3, .int .u8 4] 5)) (.slice none 0 0) (.slice (some ⟨w1.heap.size, 0, none⟩) 2 2) (.slice a5 2 c5) [] [3, 4] [143, 246] (w1.heap.size + 1) (by simp) (Hds.nil _) (Hds.pair w1 3 4 3 4 _ rfl rfl rfl) (HD5.out.alloc _)).below ((Below.refl _ _).alloc (Nat.le_refl _) (.cells #[.bool false, .bool true, .bool true] 4)))
  have HH3 := Lib.hid (LieB.three ((w1.alloc (.cells #[.int .u8 3, .int .u8 4] 5)).alloc (.cells #[.slice none 0 0, .slice (some ⟨w1.heap.size, 0, none⟩) 2 2, .slice a5 2 c5] 33)) false true true (w1.heap.size + 1 + 1) (by simp))
  have HB3 := Lib.hid ((((Below.refl w1.heap.size w1).alloc (Nat.le_refl _) (.cells #[.int .u8 3, .int .u8 4] 5)).alloc (by simp) (.cells #[.slice none 0 0, .slice (some ⟨w1.heap.size, 0, none⟩) 2 2, .slice a5 2 c5] 33)).alloc (by simp; omega) (.cells #[.bool false, .bool true, .bool true] 4))
  go_wp2_with fail
  refine (recon_any _ _ 3 3 3 3 [[], [3, 4], [143, 246]] [false, true, true] 1 _ HL3.out rfl (by omega) HH3.out rfl (by omega) (by omega) (by decide)).mono ?_
  rintro e w2 ⟨a2, c2, rfl, hl2, hc2, hm2, hb2⟩
  rw [top_recR] at hl2 hc2 ⊢
  rw [top_recE]
  have hb12 := HB3.out.trans (hb2.mono HB3.out.size)
  have HB4 := Lib.hid (HB2.out.trans (hb12.mono HB2.out.size))
  have HL4 := Lib.hid hl2
  clear hl2 hc2 hm2 hb2 hb12 HL3 HH3 HB3 f8 f9
  go_wp2_with fail
  have hi := inv_any 2 w2
  rw [h2] at hi
  refine hi.mono ?_
  rintro e w3 ⟨rfl, hb3⟩
  have hm : Calls Try.prog 49 #[.int .u8 (ev (invU 2)), .int .u8 2] w3 fun e w' => e = .returned (.int .u8 1) ∧ w3 = w' := by
    have h := mul_any (invU 2) 2 w3
    rw [top_one, ev_one, h2] at h
    exact h
  have HB5 := Lib.hid (HB4.out.trans (hb3.mono HB4.out.size))
  obtain ⟨b6, off6, rfl, -, a6, c6, f6, l6, -⟩ := (HL4.out.below hb3).row 0 (by decide)
  have f7 : w3.cell? ⟨b6, off6, none⟩ = some (.slice a6 2 c6) := by rw [Nat.add_zero] at f6; exact f6
  have g1 : (convert 33 9 (.slice a6 2 c6)).run Try.prog w3 = .ok (.string ⟨#[1, 2]⟩) w3 := conv_lie c6 l6
  generalize ev (invU 2) = z at hm
  clear hb3 f6 l6 hi
  go_wp2_with fail
  refine hm.mono ?_
  rintro e w4 ⟨rfl, rfl⟩
  go_wp2
  go_ret
  exact ⟨rfl, HB5.out⟩
end Go.Proofs.Ytinfjidclkgfnaa
