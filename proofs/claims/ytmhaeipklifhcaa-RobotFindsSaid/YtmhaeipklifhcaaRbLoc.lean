/-
  The program's locate.
-/
import Derived.Test.YtmhaeipklifhcaaRbSmall
namespace Go.Proofs.Ytmhaeipklifhcaa
open Go.RowKit
set_option linter.unusedVariables false
theorem ret_pair {a b : Int} {x y : Bool} (h : a = b) (h2 : x = y) : Ending.returned (.tuple #[.int .i64 a, .bool x]) = .returned (.tuple #[.int .i64 b, .bool y]) := by rw [h, h2]
theorem loc_0 {m : Rmd} {r : Rbt} {i : Int} : locR m r 0 i = if inn i 0 (m.s - 1) = true then (i, true) else (0, false) := by unfold locR; rw [if_pos rfl]
theorem loc_1 {m : Rmd} {r : Rbt} {i : Int} : locR m r 1 i = if inn i 0 (m.d - 1) = true then (m.da + i, true) else (0, false) := by unfold locR; rw [if_neg (by decide), if_pos rfl]
theorem loc_2 {m : Rmd} {r : Rbt} {i : Int} : locR m r 2 i = if i = 0 then (m.pa, true) else (0, false) := by unfold locR; rw [if_neg (by decide), if_neg (by decide), if_pos rfl]
theorem loc_3 {m : Rmd} {r : Rbt} {i : Int} : locR m r 3 i = if i = 0 then (r.p, true) else (0, false) := by unfold locR; rw [if_neg (by decide), if_neg (by decide), if_neg (by decide), if_pos rfl]
theorem loc_no {m : Rmd} {r : Rbt} {k i : Int} (h0 : k ≠ 0) (h1 : k ≠ 1) (h2 : k ≠ 2) (h3 : k ≠ 3) : locR m r k i = (0, false) := by unfold locR; rw [if_neg h0, if_neg h1, if_neg h2, if_neg h3]
attribute [local irreducible] inn
set_option maxRecDepth 100000 in
set_option maxHeartbeats 1000000 in
theorem locate_0 (m : Rmd) (r : Rbt) (ad : Option Addr) (n cap : Nat) (i : Int) (w : World) (hm : MdlR m) (p0 : 0 ≤ r.p) (p1 : r.p ≤ 100000) :
    Calls Try.prog 30 #[rmV m, roV r ad n cap, elV 0 i] w fun e w' => e = .returned (.tuple #[.int .i64 (locR m r 0 i).1, .bool (locR m r 0 i).2]) ∧ Below w.heap.size w w' := by
  obtain ⟨hB, hM, hR, hE, hS⟩ := box_mre w m r ad n cap 0 i
  have HB := Lib.hid hB
  have HM := Lib.hid hM
  have HR := Lib.hid (RoAt.of hR)
  have HE := Lib.hid (ElAt.of hE)
  have HS := Lib.hid hS
  clear hB hM hR hE hS
  obtain ⟨h1, h2, h3, h4, h5, h6, h7, h8, _, _, _, _, _, _⟩ := hm
  go_enter Try.func30, Try.ntmps30
  go_wp2_with fail
  have HB2 := Lib.hid (HB.out.alloc HB.out.size (.cells #[.int .i64 i] 3))
  have HE2 := Lib.hid (HE.out.step (below_box1 _ (.cells #[.int .i64 i] 3)))
  refine (within_1 0 (m.s - 1) i _ (w.heap.size + 3) (by rw [HS.out])).mono ?_
  rintro e w1 ⟨rfl, rfl⟩
  generalize World.alloc _ _ = X2 at *
  cases hi : inn i 0 (m.s - 1)
  · have HL := Lib.hid (show locR m r 0 i = (0, false) by rw [loc_0]; rw [if_neg (by rw [hi]; decide)])
    go_wp2
    go_ret2
    exact ⟨by rw [HL.out]; rfl, HB2.out⟩
  · obtain ⟨i0, i1⟩ := inn_iff.1 hi
    have HL := Lib.hid (show locR m r 0 i = (0 + i, true) by rw [loc_0]; rw [if_pos hi, Int.zero_add])
    obtain ⟨_, e0, e1⟩ := HE2.out
    clear hi
    go_wp2
    go_ret2
    exact ⟨by rw [HL.out]; exact ret_pair (by first | rfl | omega | (simp only; omega)) rfl, HB2.out⟩
set_option maxRecDepth 100000 in
set_option maxHeartbeats 1000000 in
theorem locate_1 (m : Rmd) (r : Rbt) (ad : Option Addr) (n cap : Nat) (i : Int) (w : World) (hm : MdlR m) (p0 : 0 ≤ r.p) (p1 : r.p ≤ 100000) :
    Calls Try.prog 30 #[rmV m, roV r ad n cap, elV 1 i] w fun e w' => e = .returned (.tuple #[.int .i64 (locR m r 1 i).1, .bool (locR m r 1 i).2]) ∧ Below w.heap.size w w' := by
  obtain ⟨hB, hM, hR, hE, hS⟩ := box_mre w m r ad n cap 1 i
  have HB := Lib.hid hB
  have HM := Lib.hid hM
  have HR := Lib.hid (RoAt.of hR)
  have HE := Lib.hid (ElAt.of hE)
  have HS := Lib.hid hS
  clear hB hM hR hE hS
  obtain ⟨h1, h2, h3, h4, h5, h6, h7, h8, _, _, _, _, _, _⟩ := hm
  go_enter Try.func30, Try.ntmps30
  go_wp2_with fail
  generalize World.alloc _ _ = X0 at *
  obtain ⟨_, g0, g1, g2, g3, g4, g5, g6⟩ := HM.out
  go_quiet (fail)
  generalize hX : World.drewN X0 _ = X1
  have HB1 := Lib.hid (show Below w.heap.size w X1 by rw [← hX]; exact below_drewN HB.out _)
  have e0 : X1.cell? ⟨w.heap.size + 2, 0, none⟩ = some (.int .i64 1) := by rw [← hX]; exact HE.out.c0
  have e1 : X1.cell? ⟨w.heap.size + 2, 1, none⟩ = some (.int .i64 i) := by rw [← hX]; exact HE.out.c1
  have HS1 := Lib.hid (show X1.heap.size = w.heap.size + 3 by rw [← hX]; exact HS.out)
  have HE1 := Lib.hid (show ElAt X1 (w.heap.size + 2) 1 i from ⟨by rw [HS1.out]; omega, e0, e1⟩)
  clear hX g0 g1 g2 g3 g4 g5 g6
  go_wp2_with fail
  refine (within_1 0 (m.d - 1) i X1 X1.heap.size rfl).mono ?_
  have HB2 := Lib.hid (HB1.out.alloc HB1.out.size (.cells #[.int .i64 i] 3))
  have HE2 := Lib.hid (HE1.out.step (below_box1 X1 (.cells #[.int .i64 i] 3)))
  clear e0 e1
  rintro e w1 ⟨rfl, rfl⟩
  generalize World.alloc _ _ = X2 at *
  cases hi : inn i 0 (m.d - 1)
  · have HL := Lib.hid (show locR m r 1 i = (0, false) by rw [loc_1]; rw [if_neg (by rw [hi]; decide)])
    go_wp2
    go_ret2
    exact ⟨by rw [HL.out]; rfl, HB2.out⟩
  · obtain ⟨i0, i1⟩ := inn_iff.1 hi
    have HL := Lib.hid (show locR m r 1 i = (m.da + i, true) by rw [loc_1]; rw [if_pos hi])
    obtain ⟨_, e0, e1⟩ := HE2.out
    clear hi
    go_wp2
    go_ret2
    exact ⟨by rw [HL.out]; exact ret_pair (by first | rfl | omega | (simp only; omega)) rfl, HB2.out⟩
set_option maxRecDepth 100000 in
set_option maxHeartbeats 1000000 in
theorem locate_2 (m : Rmd) (r : Rbt) (ad : Option Addr) (n cap : Nat) (i : Int) (w : World) (hm : MdlR m) (p0 : 0 ≤ r.p) (p1 : r.p ≤ 100000) :
    Calls Try.prog 30 #[rmV m, roV r ad n cap, elV 2 i] w fun e w' => e = .returned (.tuple #[.int .i64 (locR m r 2 i).1, .bool (locR m r 2 i).2]) ∧ Below w.heap.size w w' := by
  obtain ⟨hB, hM, hR, hE, hS⟩ := box_mre w m r ad n cap 2 i
  have HB := Lib.hid hB
  have HM := Lib.hid hM
  have HR := Lib.hid (RoAt.of hR)
  have HE := Lib.hid (ElAt.of hE)
  have HS := Lib.hid hS
  clear hB hM hR hE hS
  obtain ⟨h1, h2, h3, h4, h5, h6, h7, h8, _, _, _, _, _, _⟩ := hm
  go_enter Try.func30, Try.ntmps30
  go_wp2_with fail
  have HB2 := Lib.hid (HB.out.alloc HB.out.size (.cells #[.int .i64 i] 3))
  have HE2 := Lib.hid (HE.out.step (below_box1 _ (.cells #[.int .i64 i] 3)))
  refine (within_1 0 (0) i _ (w.heap.size + 3) (by rw [HS.out])).mono ?_
  rintro e w1 ⟨rfl, rfl⟩
  generalize World.alloc _ _ = X2 at *
  cases hi : inn i 0 (0)
  · have HL := Lib.hid (show locR m r 2 i = (0, false) by rw [loc_2]; rw [if_neg (fun h => by rw [h, inn_yes (by decide) (by decide)] at hi; cases hi)])
    go_wp2
    go_ret2
    exact ⟨by rw [HL.out]; rfl, HB2.out⟩
  · obtain ⟨i0, i1⟩ := inn_iff.1 hi
    have HL := Lib.hid (show locR m r 2 i = (m.pa + i, true) by rw [loc_2]; rw [if_pos (by omega)]; congr 1; omega)
    obtain ⟨_, e0, e1⟩ := HE2.out
    clear hi
    go_wp2
    go_ret2
    exact ⟨by rw [HL.out]; exact ret_pair (by first | rfl | omega | (simp only; omega)) rfl, HB2.out⟩
set_option maxRecDepth 100000 in
set_option maxHeartbeats 1000000 in
theorem locate_3 (m : Rmd) (r : Rbt) (ad : Option Addr) (n cap : Nat) (i : Int) (w : World) (hm : MdlR m) (p0 : 0 ≤ r.p) (p1 : r.p ≤ 100000) :
    Calls Try.prog 30 #[rmV m, roV r ad n cap, elV 3 i] w fun e w' => e = .returned (.tuple #[.int .i64 (locR m r 3 i).1, .bool (locR m r 3 i).2]) ∧ Below w.heap.size w w' := by
  obtain ⟨hB, hM, hR, hE, hS⟩ := box_mre w m r ad n cap 3 i
  have HB := Lib.hid hB
  have HM := Lib.hid hM
  have HR := Lib.hid (RoAt.of hR)
  have HE := Lib.hid (ElAt.of hE)
  have HS := Lib.hid hS
  clear hB hM hR hE hS
  obtain ⟨h1, h2, h3, h4, h5, h6, h7, h8, _, _, _, _, _, _⟩ := hm
  go_enter Try.func30, Try.ntmps30
  go_wp2_with fail
  have HB2 := Lib.hid (HB.out.alloc HB.out.size (.cells #[.int .i64 i] 3))
  have HE2 := Lib.hid (HE.out.step (below_box1 _ (.cells #[.int .i64 i] 3)))
  refine (within_1 0 (0) i _ (w.heap.size + 3) (by rw [HS.out])).mono ?_
  rintro e w1 ⟨rfl, rfl⟩
  generalize World.alloc _ _ = X2 at *
  cases hi : inn i 0 (0)
  · have HL := Lib.hid (show locR m r 3 i = (0, false) by rw [loc_3]; rw [if_neg (fun h => by rw [h, inn_yes (by decide) (by decide)] at hi; cases hi)])
    go_wp2
    go_ret2
    exact ⟨by rw [HL.out]; rfl, HB2.out⟩
  · obtain ⟨i0, i1⟩ := inn_iff.1 hi
    have HL := Lib.hid (show locR m r 3 i = (r.p + i, true) by rw [loc_3]; rw [if_pos (by omega)]; congr 1; omega)
    obtain ⟨_, e0, e1⟩ := HE2.out
    clear hi
    go_wp2
    go_ret2
    exact ⟨by rw [HL.out]; exact ret_pair (by first | rfl | omega | (simp only; omega)) rfl, HB2.out⟩
set_option maxRecDepth 100000 in
set_option maxHeartbeats 1000000 in
theorem locate_any (m : Rmd) (r : Rbt) (ad : Option Addr) (n cap : Nat) (k i : Int) (w : World) (hm : MdlR m) (p0 : 0 ≤ r.p) (p1 : r.p ≤ 100000) :
    Calls Try.prog 30 #[rmV m, roV r ad n cap, elV k i] w fun e w' => e = .returned (.tuple #[.int .i64 (locR m r k i).1, .bool (locR m r k i).2]) ∧ Below w.heap.size w w' := by
  by_cases h0 : k = 0
  · subst h0; exact locate_0 m r ad n cap i w hm p0 p1
  by_cases h1 : k = 1
  · subst h1; exact locate_1 m r ad n cap i w hm p0 p1
  by_cases h2 : k = 2
  · subst h2; exact locate_2 m r ad n cap i w hm p0 p1
  by_cases h3 : k = 3
  · subst h3; exact locate_3 m r ad n cap i w hm p0 p1
  have HL := Lib.hid (loc_no (m := m) (r := r) (i := i) h0 h1 h2 h3)
  have HB := Lib.hid (box_mre w m r ad n cap k i).1
  go_enter Try.func30, Try.ntmps30
  go_wp2
  go_ret2
  exact ⟨by rw [HL.out]; rfl, HB.out⟩
end Go.Proofs.Ytmhaeipklifhcaa
