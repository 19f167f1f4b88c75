/-
  The examples of the chapter: the function that checks them answers true, and lays new memory only.
-/
import Derived.Test.YtgnidlhijmageaaNTop
namespace Go.Proofs.Ytgnidlhijmageaa
open Go.RowKit
theorem gv7 : gv 7 = 7 := gv_lit' 7 7 rfl
theorem gv8 : gv 8 = 8 := gv_lit' 8 8 rfl
theorem gv9 : gv 9 = 9 := gv_lit' 9 9 rfl
theorem gv5 : gv 5 = 5 := gv_lit' 5 5 rfl
theorem cells789 : (#[.int .u64 7, .int .u64 8, .int .u64 9] : Array Value).toList = cellsN [7, 8, 9] := by unfold cellsN; rw [List.map, List.map, List.map, List.map, gv7, gv8, gv9]
theorem cells5 : (#[.int .u64 5] : Array Value).toList = cellsN [5] := by unfold cellsN; rw [List.map, List.map, gv5]
theorem cells9 : (#[.int .u64 9] : Array Value).toList = cellsN [9] := by unfold cellsN; rw [List.map, List.map, gv9]
theorem spl3 : spl 3 = 2 := by decide
theorem spl2 : spl 2 = 1 := by decide
theorem root5 : rootU [5] = 5 := rootU_one [5] rfl
theorem root9 : rootU [9] = 9 := rootU_one [9] rfl
theorem root78 : rootU [7, 8] = nodeU 7 8 := by
  rw [rootU_two [7, 8] 2 rfl (by decide), spl2]
  rw [show ([7, 8] : List UInt64).take 1 = [7] from rfl, show ([7, 8] : List UInt64).drop 1 = [8] from rfl, rootU_one [7] rfl, rootU_one [8] rfl]; rfl
theorem root789 : rootU [7, 8, 9] = nodeU (nodeU 7 8) 9 := by
  rw [rootU_two [7, 8, 9] 3 rfl (by decide), spl3]
  rw [show ([7, 8, 9] : List UInt64).take 2 = [7, 8] from rfl, show ([7, 8, 9] : List UInt64).drop 2 = [9] from rfl, root78, root9]
theorem path789 : pathU [7, 8, 9] 2 = [nodeU 7 8] := by
  rw [pathU_right [7, 8, 9] 3 2 rfl (by decide) (by decide), spl3]
  rw [show ([7, 8, 9] : List UInt64).take 2 = [7, 8] from rfl, show ([7, 8, 9] : List UInt64).drop 2 = [9] from rfl, root78, pathU_one [9] _ rfl]; rfl
theorem leafNil : leafU [] = 12638153115695167455 := by decide +kernel
theorem pro789 : proI [7, 8, 9] 2 = ([nodeU 7 8], true) := by
  have := proI_yes [7, 8, 9] 2 (by decide)
  rw [path789] at this; exact this
theorem ver789 (x : UInt64) : verI (nodeU x 9) 9 2 3 [x] = true := by
  have h := verI_yes (nodeU x 9) 9 2 3 [x] (by decide)
  have e := reachU_right 9 2 3 0 [x] (by decide) rfl (by decide)
  rw [spl3] at e
  rw [e, show ([x] : List UInt64).take 0 = [] from rfl, show 2 - 2 = 0 from rfl, show 3 - 2 = 1 from rfl, reachU_one 9 0 []] at h
  exact h.trans (by simp)
theorem ext789 (x : UInt64) : extI x (nodeU x 9) 2 3 [9] = true := by
  have h := extI_yes x (nodeU x 9) 2 3 [9] (by decide) (by decide)
  have e := growU_left x 2 3 0 true [9] (by decide) (by decide) rfl (by decide)
  rw [spl3, show ([9] : List UInt64).take 0 = [] from rfl, growU_all x 2 2 [] rfl] at e
  rw [e] at h
  exact h.trans (by simp)
attribute [local irreducible] accU fnv basis byteU beU hashU nodeU spl proI preI verI extI leafU
theorem node78 (w : World) : Calls Try.prog 13 #[.int .u64 7, .int .u64 8] w fun e w' => e = .returned (.int .u64 (gv (nodeU 7 8))) ∧ Below w.heap.size w w' := by
  have h := node_any 7 8 w
  rwa [gv7, gv8] at h
theorem node9 (x : UInt64) (w : World) : Calls Try.prog 13 #[.int .u64 (gv x), .int .u64 9] w fun e w' => e = .returned (.int .u64 (gv (nodeU x 9))) ∧ Below w.heap.size w w' := by
  have h := node_any x 9 w
  rwa [gv9] at h
theorem leaf0 (w : World) : Calls Try.prog 11 #[.slice none 0 0] w fun e w' => e = .returned (.int .u64 12638153115695167455) ∧ w = w' := by
  have h := leaf_any none 0 0 [] w (.nil _ _) rfl (by decide)
  rwa [leafNil, gv_lit' 12638153115695167455 12638153115695167455 rfl] at h
theorem below_after {W w' : World} {o : Obj} (h : Below (W.alloc o).heap.size (W.alloc o) w') : Below W.heap.size W w' :=
  ((Below.refl _ _).alloc (Nat.le_refl _) o).trans (h.mono (by simp))
theorem root0 (w : World) : Calls Try.prog 18 #[.slice none 0 0] w fun e w' => e = .returned (.int .u64 14695981039346656037) ∧ Below w.heap.size w w' := by
  have h := root_go 0 [] none 0 0 w (Nat.le_refl _) (.nil _ _) rfl (by decide) (by decide) (by decide)
  unfold GivesH at h
  rwa [rootU_nil, gv_basis] at h
theorem root1 (W : World) : Calls Try.prog 18 #[.slice (some ⟨W.heap.size, 0, none⟩) 1 1] (W.alloc (.cells #[.int .u64 5] 23)) fun e w' => e = .returned (.int .u64 5) ∧ Below W.heap.size W w' := by
  have h := root_go 1 [5] (some ⟨W.heap.size, 0, none⟩) 1 1 _ (Nat.le_refl _) (Lin.lits W _ (0, 0) [5] cells5) rfl (by decide) (by decide) (by decide)
  unfold GivesH at h
  rw [root5, gv5] at h
  exact h.mono fun e w' ⟨he, hb⟩ => ⟨he, below_after hb⟩
theorem root3 (W : World) : Calls Try.prog 18 #[.slice (some ⟨W.heap.size, 0, none⟩) 3 3] (W.alloc (.cells #[.int .u64 7, .int .u64 8, .int .u64 9] 23)) fun e w' => e = .returned (.int .u64 (gv (nodeU (nodeU 7 8) 9))) ∧ Below W.heap.size W w' := by
  have h := root_go 3 [7, 8, 9] (some ⟨W.heap.size, 0, none⟩) 3 3 _ (Nat.le_refl _) (Lin.lits W _ (0, 0) [7, 8, 9] cells789) rfl (by decide) (by decide) (by decide)
  unfold GivesH at h
  rw [root789] at h
  exact h.mono fun e w' ⟨he, hb⟩ => ⟨he, below_after hb⟩
theorem proof3 (W : World) : Calls Try.prog 20 #[.slice (some ⟨W.heap.size, 0, none⟩) 3 3, .int .i64 2] (W.alloc (.cells #[.int .u64 7, .int .u64 8, .int .u64 9] 23)) fun e w' => ∃ b off cap, e = .returned (.tuple #[.slice (some ⟨b, off, none⟩) 1 cap, .bool true]) ∧ Hid (Lin w' (some ⟨b, off, none⟩) [nodeU 7 8] ∧ b < w'.heap.size ∧ 1 ≤ cap ∧ cap ≤ maxLen) ∧ Below W.heap.size W w' := by
  have h := proof_any [7, 8, 9] (some ⟨W.heap.size, 0, none⟩) 3 3 2 _ (Lin.lits W _ (0, 0) [7, 8, 9] cells789) rfl (by decide) (by decide) (by decide)
  rw [pro789] at h
  refine h.mono ?_
  rintro e w' ⟨v, rfl, ho, hb⟩
  obtain ⟨ad, cap, rfl, hl, h1, h2, _⟩ := ho.slice
  obtain ⟨b, off, rfl, hlt, _⟩ := hl.get (Nat.zero_lt_one)
  exact ⟨b, off, cap, rfl, ⟨hl, hlt, h1, h2⟩, below_after hb⟩
theorem verify3 (x : UInt64) (b off cap : Nat) (w : World) (h : Hid (Lin w (some ⟨b, off, none⟩) [x] ∧ b < w.heap.size ∧ 1 ≤ cap ∧ cap ≤ maxLen)) :
    Calls Try.prog 22 #[.int .u64 (gv (nodeU x 9)), .int .u64 9, .int .i64 2, .int .i64 3, .slice (some ⟨b, off, none⟩) 1 cap] w fun e w' => e = .returned (.bool true) ∧ Below w.heap.size w w' := by
  have h := verify_any (nodeU x 9) 9 2 3 [x] _ 1 cap w h.out.1 rfl (by decide) h.out.2.2.1 h.out.2.2.2 (by decide) (by decide) (by decide) (by decide)
  unfold GivesB at h
  rwa [ver789, gv9] at h
theorem extends3 (x : UInt64) (W : World) :
    Calls Try.prog 26 #[.int .u64 (gv x), .int .u64 (gv (nodeU x 9)), .int .i64 2, .int .i64 3, .slice (some ⟨W.heap.size, 0, none⟩) 1 1] (W.alloc (.cells #[.int .u64 9] 23)) fun e w' => e = .returned (.bool true) ∧ Below W.heap.size W w' := by
  have h := extends_any x (nodeU x 9) 2 3 [9] (some ⟨W.heap.size, 0, none⟩) 1 1 _ (Lin.lits W _ (0, 0) [9] cells9) rfl (by decide) (by decide) (by decide) (by decide) (by decide) (by decide) (by decide)
  unfold GivesB at h
  rw [ext789] at h
  exact h.mono fun e w' ⟨he, hb⟩ => ⟨he, below_after hb⟩
set_option maxRecDepth 100000 in
set_option maxHeartbeats 2000000 in
theorem awake_any (w : World) :
    Calls Try.prog 10 #[] w fun e w' => e = .returned (.bool true) ∧ Below w.heap.size w w' := by
  go_enter Try.func10, Try.ntmps10
  go_wp2_with fail
  refine (proof3 _).mono ?_
  rintro e w1 ⟨b, off, cap, rfl, hp, hb1⟩
  have HB := Lib.hid hb1
  clear hb1
  generalize hx : nodeU 7 8 = x at hp
  have hcx : w1.cell? ⟨b, off, none⟩ = some (.int .u64 (gv x)) := by
    obtain ⟨b', off', e', _, hc⟩ := hp.out.1.get (Nat.zero_lt_one)
    cases e'
    exact hc 0 (Nat.zero_lt_one)
  have HX := Lib.hid hx
  clear hx
  go_wp2_with fail
  refine (node78 _).mono ?_
  rintro e w2 ⟨rfl, hb2⟩
  rw [HX.out]
  have HP2 : Hid (Lin w2 (some ⟨b, off, none⟩) [x] ∧ b < w2.heap.size ∧ 1 ≤ cap ∧ cap ≤ maxLen) := Lib.hid ⟨hp.out.1.below hb2 rfl, Nat.lt_of_lt_of_le hp.out.2.1 hb2.size, hp.out.2.2⟩
  have HCX : Hid (w2.cell? ⟨b, off, none⟩ = some (.int .u64 (gv x))) := Lib.hid ((hb2.cell hp.out.2.1).trans hcx)
  replace HB := Lib.hid (HB.out.trans (hb2.mono HB.out.size))
  clear hb2 hp hcx
  go_wp2_with fail
  refine (leaf0 _).mono ?_
  rintro e w' ⟨rfl, rfl⟩
  go_wp2_with fail
  refine (root0 _).mono ?_
  rintro e w3 ⟨rfl, hb3⟩
  have HB3 := Lib.hid hb3
  clear hb3
  go_wp2_with fail
  refine (root1 _).mono ?_
  rintro e w4 ⟨rfl, hb4⟩
  replace HB3 := Lib.hid (HB3.out.trans (hb4.mono HB3.out.size))
  clear hb4
  go_wp2_with fail
  refine (root3 _).mono ?_
  rintro e w5 ⟨rfl, hb5⟩
  rw [HX.out]
  replace HB3 := Lib.hid (HB3.out.trans (hb5.mono HB3.out.size))
  clear hb5
  go_wp2_with fail
  refine (node9 x _).mono ?_
  rintro e w6 ⟨rfl, hb6⟩
  replace HB3 := Lib.hid (HB3.out.trans (hb6.mono HB3.out.size))
  have hcx6 : w6.cell? ⟨b, off, none⟩ = some (.int .u64 (gv x)) := (HB3.out.cell HP2.out.2.1).trans HCX.out
  clear hb6
  go_wp2_with fail
  refine (node9 x _).mono ?_
  rintro e w7 ⟨rfl, hb7⟩
  replace HB3 := Lib.hid (HB3.out.trans (hb7.mono HB3.out.size))
  have HP7 : Hid (Lin w7 (some ⟨b, off, none⟩) [x] ∧ b < w7.heap.size ∧ 1 ≤ cap ∧ cap ≤ maxLen) := Lib.hid ⟨HP2.out.1.below HB3.out rfl, Nat.lt_of_lt_of_le HP2.out.2.1 HB3.out.size, HP2.out.2.2⟩
  clear hb7 hcx6
  go_wp2_with fail
  refine (verify3 x b off cap _ HP7).mono ?_
  rintro e w8 ⟨rfl, hb8⟩
  replace HB3 := Lib.hid (HB3.out.trans (hb8.mono HB3.out.size))
  clear hb8
  go_wp2_with fail
  refine (node9 x _).mono ?_
  rintro e w9 ⟨rfl, hb9⟩
  replace HB3 := Lib.hid (HB3.out.trans (hb9.mono HB3.out.size))
  clear hb9
  go_wp2_with fail
  refine (extends3 x _).mono ?_
  rintro e w10 ⟨rfl, hb10⟩
  replace HB3 := Lib.hid (HB3.out.trans (hb10.mono HB3.out.size))
  clear hb10
  go_wp2
  go_ret
  exact ⟨rfl, HB.out.trans (HB3.out.mono HB.out.size)⟩
end Go.Proofs.Ytgnidlhijmageaa
