/-
  The comparisons of FirstFit and Decreasing.
-/
import Derived.Test.YtpjegenobadckaaPkSort
import Derived.Test.YtpjegenobadckaaCoVal
import Derived.Deep.LoopGhost
namespace Go.Proofs.Ytpjegenobadckaa
open Go.RowKit
set_option linter.unusedVariables false
set_option linter.unusedSimpArgs false
def cmpZ (a b : Int) : Int := if a < b then -1 else if b < a then 1 else 0
theorem isnan_any (x : Int) (w : World) : Calls Try.prog 45 #[.int .i64 x] w fun e w' => e = .returned (.bool false) ∧ w' = w := by
  have hx := ne_f (show x = x from rfl)
  go_enter Try.func45, Try.ntmps45
  go_wp2
  go_ret
  exact ⟨rfl, rfl⟩
set_option maxRecDepth 100000 in
theorem compare_any (a b : Int) (w : World) : Calls Try.prog 29 #[.int .i64 a, .int .i64 b] w fun e w' => e = .returned (.int .i64 (cmpZ a b)) ∧ w' = w := by
  have HU := Lib.hid (show cmpZ a b = _ by unfold cmpZ; rfl)
  go_enter Try.func29, Try.ntmps29
  by_cases h1 : a < b
  · have HR := Lib.hid (HU.out.trans (if_pos h1))
    clear HU
    go_wp2_with (go_at_call 45; refine (isnan_any _ _).mono ?_; rintro e w' ⟨rfl, rfl⟩)
    go_ret
    exact ⟨by rw [HR.out]; rfl, rfl⟩
  · by_cases h2 : b < a
    · have HR := Lib.hid (HU.out.trans ((if_neg h1).trans (if_pos h2)))
      clear HU
      go_wp2_with (go_at_call 45; refine (isnan_any _ _).mono ?_; rintro e w' ⟨rfl, rfl⟩)
      go_ret
      exact ⟨by rw [HR.out]; rfl, rfl⟩
    · have HR := Lib.hid (HU.out.trans ((if_neg h1).trans (if_neg h2)))
      clear HU
      go_wp2_with (go_at_call 45; refine (isnan_any _ _).mono ?_; rintro e w' ⟨rfl, rfl⟩)
      go_ret
      exact ⟨by rw [HR.out]; rfl, rfl⟩
def orZ (a b : Int) : Int := if a ≠ 0 then a else b
set_option maxRecDepth 100000 in
set_option maxHeartbeats 1000000 in
theorem or_any (a b : Int) (ad : Option Addr) (cap : Nat) (w : World) (hl : Lf inC w ad [a, b]) : Calls Try.prog 32 #[.slice ad 2 cap] w fun e w' => e = .returned (.int .i64 (orZ a b)) ∧ w' = w := by
  have HU := Lib.hid (show orZ a b = _ by unfold orZ; rfl)
  obtain ⟨bk, off, rfl, hlt, q⟩ := hl.get celI (i := 0) (by simp)
  obtain ⟨bk', off', e, -, q1⟩ := hl.get celI (i := 1) (by simp)
  cases e
  have c0 : w.cell? ⟨bk, off, none⟩ = some (.int .i64 a) := by simpa using q 0 _ (by decide) rfl
  have c1 : w.cell? ⟨bk, off + 1, none⟩ = some (.int .i64 b) := by simpa using q1 0 _ (by decide) rfl
  clear q q1 hlt hl
  go_enter Try.func32, Try.ntmps32
  go_wp2
  go_loopg [8] 2 (fun gk vk wx => ∃ k : Nat, vk = .int .i64 k ∧ k + gk = 2 ∧ w = wx ∧ Hid (0 < k → a = 0) ∧ Hid (1 < k → b = 0))
  case atStart => exact ⟨0, rfl, rfl, rfl, Lib.hid (by omega), Lib.hid (by omega)⟩
  case round =>
    obtain ⟨k, rfl, hk, rfl, h0, h1⟩ := hrel
    match k, hk with
    | 0, hk =>
      by_cases ha : a = 0
      · have ha2 := ne_f ha
        have HR : Hid (orZ a b = b) := Lib.hid (HU.out.trans (if_neg (by simpa using ha)))
        have HA0 := Lib.hid ha
        clear ha
        cases gk with
        | zero => omega
        | succ gk0 =>
          go_wp2
          go_roundg gk0
          case rel => exact ⟨1, by go_num, by omega, rfl, Lib.hid (fun _ => HA0.out), Lib.hid (by omega)⟩
          case measure => omega
      · have ha2 := ne_t ha
        have HR : Hid (orZ a b = a) := Lib.hid (HU.out.trans (if_pos ha))
        clear ha
        go_wp2
        go_ret
        exact ⟨by rw [HR.out]; rfl, rfl⟩
    | 1, hk =>
      have HR : Hid (orZ a b = b) := Lib.hid (HU.out.trans (if_neg (by simpa using h0.out (by omega))))
      by_cases hb : b = 0
      · have hb2 := ne_f hb
        have HB0 := Lib.hid hb
        clear hb
        cases gk with
        | zero => omega
        | succ gk0 =>
          go_wp2
          go_roundg gk0
          case rel => exact ⟨2, by go_num, by omega, rfl, Lib.hid (fun _ => h0.out (by omega)), Lib.hid (fun _ => HB0.out)⟩
          case measure => omega
      · have hb2 := ne_t hb
        clear hb
        go_wp2
        go_ret
        exact ⟨by rw [HR.out]; rfl, rfl⟩
    | 2, hk =>
      have HR : Hid (orZ a b = 0) := Lib.hid (by rw [HU.out, if_neg (by simpa using h0.out (by omega)), h1.out (by omega)])
      go_wp2
      go_ret
      exact ⟨by rw [HR.out]; rfl, rfl⟩
    | k + 3, hk => omega
/-- how Decreasing compares -/
def cfD (L : List Int) (x y : Nat) : Int := orZ (cmpZ (szL L y) (szL L x)) (cmpZ x y)
theorem cmpI_inc (m : Nat) : CmpI 29 #[] m (fun x y => cmpZ x.val y.val) (fun _ => True) := ⟨fun args w => by go_simp, fun x y w _ => by
  change Calls Try.prog 29 #[.int .i64 (x.val : Int), .int .i64 (y.val : Int)] w _
  refine (compare_any _ _ w).mono ?_
  rintro e w' ⟨rfl, rfl⟩
  exact ⟨rfl, 0, #[], by rw [Sort.grow_empty]; rfl⟩⟩
set_option maxRecDepth 100000 in
set_option maxHeartbeats 2000000 in
theorem dec_cmp (L : List Int) (gb : Nat) (ad : Option Addr) (n cap a b : Nat) (w : World) (hb : w.cell? ⟨gb, 0, none⟩ = some (.slice ad n cap)) (hl : Lf inC w ad L) (hn : n = L.length) (ha : a < n) (hbn : b < n) :
    Calls Try.prog 31 #[.int .i64 (a : Int), .int .i64 (b : Int), .pointer (some ⟨gb, 0, none⟩)] w fun e w' => e = .returned (.int .i64 (cfD L a b)) ∧ ∃ q os', w' = Sort.grow (w.drewN q) os' := by
  have hal : a < L.length := by omega
  have hbl : b < L.length := by omega
  obtain ⟨bk, off, rfl, hlt, q⟩ := hl.get celI hal
  obtain ⟨bk', off', e, -, q1⟩ := hl.get celI hbl
  cases e
  have HS0 : Hid (w.cell? ⟨gb, 0, none⟩ = some (.slice (some ⟨bk, off, none⟩) n cap) ∧ w.cell? ⟨bk, off + a, none⟩ = some (.int .i64 (szL L a)) ∧ w.cell? ⟨bk, off + b, none⟩ = some (.int .i64 (szL L b))) := Lib.hid ⟨hb, by rw [szL_get hal]; simpa using q 0 _ (by decide) rfl, by rw [szL_get hbl]; simpa using q1 0 _ (by decide) rfl⟩
  have HF := Lib.hid (show cfD L a b = _ by unfold cfD; rfl)
  clear q q1 hl hb hal hbl hn
  generalize szL L a = sa at *
  generalize szL L b = sb at *
  have HLT := Lib.hid (show gb < w.heap.size ∧ bk < w.heap.size from ⟨World.block_lt_of_cell? w _ HS0.out.1, World.block_lt_of_cell? w _ HS0.out.2.1⟩)
  clear hlt
  go_enter Try.func31, Try.ntmps31
  go_wp2_with fail
  refine wp_region_noPanic ?_
  refine wp_region_held_drew (S := (fun X => X.cell? ⟨gb, 0, none⟩ = some (.slice (some ⟨bk, off, none⟩) n cap) ∧ X.cell? ⟨bk, off + a, none⟩ = some (.int .i64 sa) ∧ X.cell? ⟨bk, off + b, none⟩ = some (.int .i64 sb))) (by kernel_rfl) (HS0.out) (fun hS0 => ?_)
  refine held_take (i := 0) (v := ?_) rfl (by kernel_rfl) (by kernel_rfl) (by kernel_rfl) (fun _ _ _ h => h) (by rfl) ?_ (by assumption) ?_
  rotate_left
  · intro X hSX
    try dsimp only at hSX
    obtain ⟨p0, p1, p2⟩ := hSX
    go_simp <;> with_reducible rfl
  simp only [Act.put, List.setIfInBounds_toArray, List.set_cons_zero, List.set_cons_succ]
  refine held_take (i := 4) (v := ?_) rfl (by kernel_rfl) (by kernel_rfl) (by kernel_rfl) (fun _ _ _ h => h) (by rfl) ?_ (by assumption) ?_
  rotate_left
  · intro X hSX
    try dsimp only at hSX
    obtain ⟨p0, p1, p2⟩ := hSX
    go_simp <;> with_reducible rfl
  simp only [Act.put, List.setIfInBounds_toArray, List.set_cons_zero, List.set_cons_succ]
  refine held_take (i := 1) (v := ?_) rfl (by kernel_rfl) (by kernel_rfl) (by kernel_rfl) (fun _ _ _ h => h) (by rfl) ?_ (by assumption) ?_
  rotate_left
  · intro X hSX
    try dsimp only at hSX
    go_simp <;> with_reducible rfl
  simp only [Act.put, List.setIfInBounds_toArray, List.set_cons_zero, List.set_cons_succ]
  refine held_take (i := 5) (v := ?_) rfl (by kernel_rfl) (by kernel_rfl) (by kernel_rfl) (fun _ _ _ h => h) (by rfl) ?_ (by assumption) ?_
  rotate_left
  · intro X hSX
    try dsimp only at hSX
    go_simp <;> with_reducible rfl
  simp only [Act.put, List.setIfInBounds_toArray, List.set_cons_zero, List.set_cons_succ]
  refine held_take (i := 9) (v := ?_) rfl (by kernel_rfl) (by kernel_rfl) (by kernel_rfl) (fun _ _ _ h => h) (by rfl) ?_ (by assumption) ?_
  rotate_left
  · intro X hSX
    try dsimp only at hSX
    go_simp <;> with_reducible rfl
  simp only [Act.put, List.setIfInBounds_toArray, List.set_cons_zero, List.set_cons_succ]
  refine held_take (i := 10) (v := ?_) rfl (by kernel_rfl) (by kernel_rfl) (by kernel_rfl) (fun _ _ _ h => h) (by rfl) ?_ (by assumption) ?_
  rotate_left
  · intro X hSX
    try dsimp only at hSX
    go_simp <;> with_reducible rfl
  simp only [Act.put, List.setIfInBounds_toArray, List.set_cons_zero, List.set_cons_succ]
  refine held_take (i := 2) (v := ?_) rfl (by kernel_rfl) (by kernel_rfl) (by kernel_rfl) (fun _ _ _ h => h) (by rfl) ?_ (by assumption) ?_
  rotate_left
  · intro X hSX
    try dsimp only at hSX
    go_simp <;> with_reducible rfl
  simp only [Act.put, List.setIfInBounds_toArray, List.set_cons_zero, List.set_cons_succ]
  refine held_take (i := 6) (v := ?_) rfl (by kernel_rfl) (by kernel_rfl) (by kernel_rfl) (fun _ _ _ h => h) (by rfl) ?_ (by assumption) ?_
  rotate_left
  · intro X hSX
    try dsimp only at hSX
    go_simp <;> with_reducible rfl
  simp only [Act.put, List.setIfInBounds_toArray, List.set_cons_zero, List.set_cons_succ]
  refine held_take (i := 3) (v := ?_) rfl (by kernel_rfl) (by kernel_rfl) (by kernel_rfl) (fun _ _ _ h => h) (by rfl) ?_ (by assumption) ?_
  rotate_left
  · intro X hSX
    try dsimp only at hSX
    obtain ⟨p0, p1, p2⟩ := hSX
    go_simp <;> with_reducible rfl
  simp only [Act.put, List.setIfInBounds_toArray, List.set_cons_zero, List.set_cons_succ]
  refine held_take (i := 7) (v := ?_) rfl (by kernel_rfl) (by kernel_rfl) (by kernel_rfl) (fun _ _ _ h => h) (by rfl) ?_ (by assumption) ?_
  rotate_left
  · intro X hSX
    try dsimp only at hSX
    obtain ⟨p0, p1, p2⟩ := hSX
    go_simp <;> with_reducible rfl
  simp only [Act.put, List.setIfInBounds_toArray, List.set_cons_zero, List.set_cons_succ]
  refine held_call (i := 8) rfl (by kernel_rfl) (by rfl) (fun K' hK' => ?_)
  go_simp
  refine (compare_any sb sa _).mono ?_
  rintro e w' ⟨rfl, rfl⟩
  refine held_go hK' (hS0) ?_
  try simp only [Act.put, List.setIfInBounds_toArray, List.set_cons_zero, List.set_cons_succ]
  refine held_call (i := 11) rfl (by kernel_rfl) (by rfl) (fun K' hK' => ?_)
  go_simp
  refine (compare_any _ _ _).mono ?_
  rintro e w' ⟨rfl, rfl⟩
  refine held_go hK' (hS0) ?_
  try simp only [Act.put, List.setIfInBounds_toArray, List.set_cons_zero, List.set_cons_succ]
  generalize hc1 : cmpZ sb sa = C1 at *
  generalize hc2 : cmpZ (a : Int) (b : Int) = C2 at *
  have HC1 := Lib.hid hc1
  have HC2 := Lib.hid hc2
  clear hc1 hc2
  refine held_call (i := 12) rfl (by kernel_rfl) (by rfl) (fun K' hK' => ?_)
  go_simp
  have hS1 : (w.drew.alloc (.cells #[.int .i64 C1, .int .i64 C2] 3)).cell? ⟨gb, 0, none⟩ = some (.slice (some ⟨bk, off, none⟩) n cap) ∧ (w.drew.alloc (.cells #[.int .i64 C1, .int .i64 C2] 3)).cell? ⟨bk, off + a, none⟩ = some (.int .i64 sa) ∧ (w.drew.alloc (.cells #[.int .i64 C1, .int .i64 C2] 3)).cell? ⟨bk, off + b, none⟩ = some (.int .i64 sb) :=
    ⟨((co_box1 w.drew _).cell (p := ⟨gb, 0, none⟩) HLT.out.1).trans hS0.1, ((co_box1 w.drew _).cell (p := ⟨bk, off + a, none⟩) HLT.out.2).trans hS0.2.1, ((co_box1 w.drew _).cell (p := ⟨bk, off + b, none⟩) HLT.out.2).trans hS0.2.2⟩
  have HLI : Hid (Lf inC (w.drew.alloc (.cells #[.int .i64 C1, .int .i64 C2] 3)) (some ⟨w.drew.heap.size, 0, none⟩) [C1, C2]) := Lib.hid (Lf.lits w.drew _ _ rfl _ rfl)
  refine held_go hK' (hS1) ?_
  try simp only [Act.put, List.setIfInBounds_toArray, List.set_cons_zero, List.set_cons_succ]
  refine held_call (i := 13) rfl (by kernel_rfl) (by rfl) (fun K' hK' => ?_)
  go_simp
  refine (or_any C1 C2 _ 2 _ HLI.out).mono ?_
  rintro e w' ⟨rfl, rfl⟩
  refine held_go hK' (hS1) ?_
  try simp only [Act.put, List.setIfInBounds_toArray, List.set_cons_zero, List.set_cons_succ]
  refine held_take (i := 14) (v := ?_) rfl (by kernel_rfl) (by kernel_rfl) (by kernel_rfl) (fun _ _ _ h => h) (by rfl) ?_ (by assumption) ?_
  rotate_left
  · intro X hSX
    try dsimp only at hSX
    go_simp <;> with_reducible rfl
  simp only [Act.put, List.setIfInBounds_toArray, List.set_cons_zero, List.set_cons_succ]
  refine wpAnyH_done (by kernel_rfl) ?_ _
  refine NoPanic.normal ?_
  go_wp2_with fail
  go_ret
  exact ⟨by rw [HF.out, ← HC1.out, ← HC2.out]; rfl, 1, #[.cells #[.int .i64 C1, .int .i64 C2] 3], Sort.alloc_eq_grow _ _⟩
end Go.Proofs.Ytpjegenobadckaa
