/-
  The closures of Load, Unload and Seek, as perform calls them.
-/
import Derived.Test.YtepmmlnopdjjdaaDpPerf
import Derived.Test.YtepmmlnopdjjdaaDpMove
namespace Go.Proofs.Ytepmmlnopdjjdaa
open Go.RowKit
set_option linter.unusedVariables false
set_option linter.unusedSimpArgs false
set_option maxRecDepth 100000
section
variable {w X X' : World} {a b c0 c1 e f g : Int} {d d' : Drv} {c c' : Crt} {ad ad' : Option Addr} {cap cap' : Nat}
/-- what lies in older memory lies behind the operation -/
theorem two_old (hX : Bx w X (pfL a b c0 c1 e f g d c ad cap)) (hT : Two X X' (w.heap.size + 1) (w.heap.size + 2) d' c' ad' cap') (k : Nat) (hk : k < w.heap.size) : X'.heap[k]? = w.heap[k]? :=
  (hT.o k (Nat.lt_of_lt_of_le hk hX.b.size) (by omega) (by omega)).trans (hX.b.block k hk)
theorem two_size (hX : Bx w X (pfL a b c0 c1 e f g d c ad cap)) (hT : Two X X' (w.heap.size + 1) (w.heap.size + 2) d' c' ad' cap') : w.heap.size ≤ X'.heap.size := Nat.le_trans hX.b.size hT.b.size
theorem two_ki (hX : Bx w X (pfL a b c0 c1 e f g d c ad cap)) (hT : Two X X' (w.heap.size + 1) (w.heap.size + 2) d' c' ad' cap') {zd : Option Addr} {z : List Blk} (h : Ki w zd z) : Ki X' zd z := h.hp (fun k hk => two_old hX hT k hk) (two_size hX hT)
theorem two_cell (hX : Bx w X (pfL a b c0 c1 e f g d c ad cap)) (hT : Two X X' (w.heap.size + 1) (w.heap.size + 2) d' c' ad' cap') {p j : Nat} {v : Value} (hp : p < w.heap.size) (h : w.cell? ⟨p, j, none⟩ = some v) : X'.cell? ⟨p, j, none⟩ = some v :=
  (World.cell?_of_block (a := ⟨p, j, none⟩) (two_old hX hT p hp)).trans h
theorem run_end (hX : Bx w X (pfL a b c0 c1 e f g d c ad cap)) (hT : Two X X' (w.heap.size + 1) (w.heap.size + 2) d' c' ad' cap') (hi : CrIn X' c' ad' cap') {t : Int} : RunP w w.heap.size (fun _ => True) (d', c', t, 0) X (.returned (.tuple #[.int .i64 t, .int .i64 0])) X' := by
  have hs := hX.size
  simp only [List.length_cons, List.length_nil] at hs
  exact ⟨rfl, fun _ => ⟨ad', cap', hT.d, hT.c, hi⟩, (hT.o _ (by omega) (by omega) (by omega)).trans (hX.at_ 3 _ rfl), (hT.o _ (by omega) (by omega) (by omega)).trans (hX.at_ 4 _ rfl),
    ⟨hT.b.os, hT.b.tape, hT.b.output, hT.b.size, fun k hk => hT.o k (by omega) (by omega) (by omega)⟩, trivial⟩
theorem run_err (hX : Bx w X (pfL a b c0 c1 e f g d c ad cap)) (hb : Below X.heap.size X X') {er : Int} (her : er ≠ 0) : RunP w w.heap.size (fun _ => True) (drZ, crZ, 0, er) X (.returned (.tuple #[.int .i64 0, .int .i64 er])) X' :=
  ⟨rfl, fun h => absurd h her, (hX.next hb).at_ 3 _ rfl, (hX.next hb).at_ 4 _ rfl, hb.mono hX.b.size, trivial⟩
theorem run_two (hX : Bx w X (pfL a b c0 c1 e f g d c ad cap)) : Two X X (w.heap.size + 1) (w.heap.size + 2) d c ad cap := Two.start (hX.at_ 1 _ rfl) (hX.at_ 2 _ rfl) (by omega)
end
/-- what the closure of Seek leaves -/
noncomputable def skR (d : Drv) (c : Crt) (t : Int) : Drv × Crt × Int × Int := if 0 ≤ t ∧ t ≤ (c.l.length : Int) then (mvD d c t, mvC d c t, loc c.W c.L c.S c.T c.J c.R d.hd t, 0) else (drZ, crZ, 0, 7)
theorem skR_res {d : Drv} {c : Crt} {t : Int} : (skR d c t).2.2.2 ≠ 0 → skR d c t = (drZ, crZ, 0, (skR d c t).2.2.2) := by
  unfold skR
  intro h
  by_cases hq : 0 ≤ t ∧ t ≤ (c.l.length : Int)
  · rw [if_pos hq] at h; exact absurd rfl h
  · rw [if_neg hq]
theorem skR_small {d : Drv} {c : Crt} {t : Int} (h1 : c.l.length ≤ 4096) (h2 : ∀ b ∈ c.l, b.d.length ≤ 10000) : (skR d c t).2.2.2 = 0 → (skR d c t).2.1.l.length ≤ 4096 ∧ ∀ b ∈ (skR d c t).2.1.l, b.d.length ≤ 10000 := by
  unfold skR
  intro h
  by_cases hq : 0 ≤ t ∧ t ≤ (c.l.length : Int)
  · rw [if_pos hq]; exact ⟨h1, h2⟩
  · rw [if_neg hq] at h; exact absurd h (show ¬ ((7 : Int) = 0) by decide)
attribute [local irreducible] tim vld bar cnt okB capU allB vldC mdlU drvU due inc pas loc rd frs
set_option maxHeartbeats 4000000 in
theorem run_seek (gt : Nat) (t : Int) (a b c0 c1 e f g : Int) (d : Drv) (c : Crt) (ad : Option Addr) (cap : Nat) (w : World) (hgt : gt < w.heap.size) (hct : w.cell? ⟨gt, 0, none⟩ = some (.int .i64 t)) (hin : CrIn w c ad cap)
    (h1 : 0 ≤ d.pa ∧ d.pa ≤ 1125899906842624) (h2 : 0 ≤ d.si ∧ d.si ≤ 1125899906842624) (h3 : 0 ≤ c.pa ∧ c.pa ≤ 1125899906842624) (X : World) (hX : Bx w X (pfL a b c0 c1 e f g d c ad cap)) :
    Calls Try.prog 43 #[.pointer (some ⟨w.heap.size + 1, 0, none⟩), .pointer (some ⟨w.heap.size + 2, 0, none⟩), .pointer (some ⟨gt, 0, none⟩)] X fun e' X' =>
      RunP w w.heap.size (fun _ => True) (skR d c t) X e' X' := by
  show Calls Try.prog 43 #[.pointer (some ⟨w.heap.size + 1, 0, none⟩), .pointer (some ⟨w.heap.size + 2, 0, none⟩), .pointer (some ⟨gt, 0, none⟩)] X fun e' X' => RunP w w.heap.size (fun _ => True) (if 0 ≤ t ∧ t ≤ (c.l.length : Int) then (mvD d c t, mvC d c t, loc c.W c.L c.S c.T c.J c.R d.hd t, 0) else (drZ, crZ, 0, 7)) X e' X'
  have HX := Lib.hid hX
  have HT := Lib.hid (run_two hX)
  have HIN := Lib.hid hin
  have HCT := Lib.hid (two_cell hX (run_two hX) hgt hct)
  have HGT := Lib.hid hgt
  have HM := Lib.hid (fun Z (h : Two X Z (w.heap.size + 1) (w.heap.size + 2) d c ad cap) => dlocate_any (w.heap.size + 1) (w.heap.size + 2) d c ad cap t Z h.d h.c h.ne h1 h2 h3)
  have hcap : (c.l.length : Int) ≤ 9223372036854775807 := by have := hin.le; have := hin.mx; unfold maxLen at this; omega
  clear hX hin hct hgt h1 h2 h3
  by_cases ht0 : t < 0
  · have HR := Lib.hid (show (if 0 ≤ t ∧ t ≤ (c.l.length : Int) then (mvD d c t, mvC d c t, loc c.W c.L c.S c.T c.J c.R d.hd t, (0 : Int)) else (drZ, crZ, 0, 7)) = (drZ, crZ, 0, 7) from if_neg (by omega))
    generalize (if 0 ≤ t ∧ t ≤ (c.l.length : Int) then (mvD d c t, mvC d c t, loc c.W c.L c.S c.T c.J c.R d.hd t, (0 : Int)) else (drZ, crZ, 0, 7)) = res at *
    have hd0 : decide (t < 0) = true := decide_eq_true ht0
    go_enter Try.func43, Try.ntmps43
    go_wp2_with fail
    refine wp_region_noPanic ?_
    refine wp_region_held_drew (S := (fun Z => Z.cell? ⟨gt, 0, none⟩ = some (.int .i64 t))) (by kernel_rfl) (HCT.out) (fun hS0 => ?_)
    have HB := Lib.hid ((Below.refl X.heap.size X).drew)
    generalize World.drew X = X0 at *
    refine held_take (i := 0) (v := ?_) rfl (by kernel_rfl) (by kernel_rfl) (by kernel_rfl) (fun _ _ _ h => h) (by rfl) ?_ (by assumption) ?_
    rotate_left
    · intro X hSX
      try dsimp only at hSX
      go_simp <;> with_reducible rfl
    simp only [Act.put, List.setIfInBounds_toArray, List.set_cons_zero, List.set_cons_succ]
    refine held_take (i := 1) (v := ?_) rfl (by kernel_rfl) (by kernel_rfl) (by kernel_rfl) (fun _ _ _ h => h) (by rfl) ?_ (by assumption) ?_
    rotate_left
    · intro X hSX
      try dsimp only at hSX
      go_simp <;> with_reducible rfl
    simp only [Act.put, List.setIfInBounds_toArray, List.set_cons_zero, List.set_cons_succ]
    refine held_take (i := 2) (v := ?_) rfl (by kernel_rfl) (by kernel_rfl) (by kernel_rfl) (fun _ _ _ h => h) (by rfl) ?_ (by assumption) ?_
    rotate_left
    · intro X hSX
      try dsimp only at hSX
      go_simp <;> with_reducible rfl
    simp only [Act.put, List.setIfInBounds_toArray, List.set_cons_zero, List.set_cons_succ]
    refine held_skip (i := 3) rfl (by kernel_rfl) (by kernel_rfl) (by kernel_rfl) (fun _ _ _ h => h) (by rfl) (by assumption) ?_
    simp only [Act.put, List.setIfInBounds_toArray, List.set_cons_zero, List.set_cons_succ]
    refine held_skip (i := 4) rfl (by kernel_rfl) (by kernel_rfl) (by kernel_rfl) (fun _ _ _ h => h) (by rfl) (by assumption) ?_
    simp only [Act.put, List.setIfInBounds_toArray, List.set_cons_zero, List.set_cons_succ]
    refine held_skip (i := 5) rfl (by kernel_rfl) (by kernel_rfl) (by kernel_rfl) (fun _ _ _ h => h) (by rfl) (by assumption) ?_
    simp only [Act.put, List.setIfInBounds_toArray, List.set_cons_zero, List.set_cons_succ]
    refine held_skip (i := 6) rfl (by kernel_rfl) (by kernel_rfl) (by kernel_rfl) (fun _ _ _ h => h) (by rfl) (by assumption) ?_
    simp only [Act.put, List.setIfInBounds_toArray, List.set_cons_zero, List.set_cons_succ]
    refine held_skip (i := 7) rfl (by kernel_rfl) (by kernel_rfl) (by kernel_rfl) (fun _ _ _ h => h) (by rfl) (by assumption) ?_
    simp only [Act.put, List.setIfInBounds_toArray, List.set_cons_zero, List.set_cons_succ]
    refine held_skip (i := 8) rfl (by kernel_rfl) (by kernel_rfl) (by kernel_rfl) (fun _ _ _ h => h) (by rfl) (by assumption) ?_
    simp only [Act.put, List.setIfInBounds_toArray, List.set_cons_zero, List.set_cons_succ]
    refine held_skip (i := 9) rfl (by kernel_rfl) (by kernel_rfl) (by kernel_rfl) (fun _ _ _ h => h) (by rfl) (by assumption) ?_
    simp only [Act.put, List.setIfInBounds_toArray, List.set_cons_zero, List.set_cons_succ]
    refine held_take (i := 10) (v := ?_) rfl (by kernel_rfl) (by kernel_rfl) (by kernel_rfl) (fun _ _ _ h => h) (by rfl) ?_ (by assumption) ?_
    rotate_left
    · intro X hSX
      try dsimp only at hSX
      go_simp <;> with_reducible rfl
    simp only [Act.put, List.setIfInBounds_toArray, List.set_cons_zero, List.set_cons_succ]
    refine wpAnyH_done (by kernel_rfl) ?_ _
    refine NoPanic.normal ?_
    go_wp2_with fail
    go_ret2
    rw [HR.out]
    exact run_err HX.out HB.out (by decide)
  by_cases ht1 : (c.l.length : Int) < t
  · have HR := Lib.hid (show (if 0 ≤ t ∧ t ≤ (c.l.length : Int) then (mvD d c t, mvC d c t, loc c.W c.L c.S c.T c.J c.R d.hd t, (0 : Int)) else (drZ, crZ, 0, 7)) = (drZ, crZ, 0, 7) from if_neg (by omega))
    generalize (if 0 ≤ t ∧ t ≤ (c.l.length : Int) then (mvD d c t, mvC d c t, loc c.W c.L c.S c.T c.J c.R d.hd t, (0 : Int)) else (drZ, crZ, 0, 7)) = res at *
    have hd0 : decide (t < 0) = false := decide_eq_false ht0
    have hd1 : decide ((c.l.length : Int) < t) = true := decide_eq_true ht1
    go_enter Try.func43, Try.ntmps43
    go_wp2_with fail
    replace HT := Lib.hid (HT.out.next (Below.refl X.heap.size X).drew)
    refine wp_region_noPanic ?_
    refine wp_region_held_drew (S := (fun Z => Z.cell? ⟨gt, 0, none⟩ = some (.int .i64 t) ∧ Z.cell? ⟨w.heap.size + 2, 9, none⟩ = some (.slice ad c.l.length cap))) (by kernel_rfl) (⟨HCT.out, by obtain ⟨_, k0, k1, k2, k3, k4, k5, k6, k7, k8, k9, k10, k11, k12⟩ := HT.out.cat; exact k9⟩) (fun hS0 => ?_)
    have HB := Lib.hid ((Below.refl X.heap.size X).drew)
    generalize World.drew X = X0 at *
    refine held_take (i := 0) (v := ?_) rfl (by kernel_rfl) (by kernel_rfl) (by kernel_rfl) (fun _ _ _ h => h) (by rfl) ?_ (by assumption) ?_
    rotate_left
    · intro X hSX
      try dsimp only at hSX
      obtain ⟨s0, k9⟩ := hSX
      go_simp <;> with_reducible rfl
    simp only [Act.put, List.setIfInBounds_toArray, List.set_cons_zero, List.set_cons_succ]
    refine held_take (i := 1) (v := ?_) rfl (by kernel_rfl) (by kernel_rfl) (by kernel_rfl) (fun _ _ _ h => h) (by rfl) ?_ (by assumption) ?_
    rotate_left
    · intro X hSX
      try dsimp only at hSX
      obtain ⟨s0, k9⟩ := hSX
      go_simp <;> with_reducible rfl
    simp only [Act.put, List.setIfInBounds_toArray, List.set_cons_zero, List.set_cons_succ]
    refine held_take (i := 2) (v := ?_) rfl (by kernel_rfl) (by kernel_rfl) (by kernel_rfl) (fun _ _ _ h => h) (by rfl) ?_ (by assumption) ?_
    rotate_left
    · intro X hSX
      try dsimp only at hSX
      obtain ⟨s0, k9⟩ := hSX
      go_simp <;> with_reducible rfl
    simp only [Act.put, List.setIfInBounds_toArray, List.set_cons_zero, List.set_cons_succ]
    refine held_take (i := 3) (v := ?_) rfl (by kernel_rfl) (by kernel_rfl) (by kernel_rfl) (fun _ _ _ h => h) (by rfl) ?_ (by assumption) ?_
    rotate_left
    · intro X hSX
      try dsimp only at hSX
      obtain ⟨s0, k9⟩ := hSX
      go_simp <;> with_reducible rfl
    simp only [Act.put, List.setIfInBounds_toArray, List.set_cons_zero, List.set_cons_succ]
    refine held_take (i := 4) (v := ?_) rfl (by kernel_rfl) (by kernel_rfl) (by kernel_rfl) (fun _ _ _ h => h) (by rfl) ?_ (by assumption) ?_
    rotate_left
    · intro X hSX
      try dsimp only at hSX
      obtain ⟨s0, k9⟩ := hSX
      go_simp <;> with_reducible rfl
    simp only [Act.put, List.setIfInBounds_toArray, List.set_cons_zero, List.set_cons_succ]
    refine held_take (i := 5) (v := ?_) rfl (by kernel_rfl) (by kernel_rfl) (by kernel_rfl) (fun _ _ _ h => h) (by rfl) ?_ (by assumption) ?_
    rotate_left
    · intro X hSX
      try dsimp only at hSX
      obtain ⟨s0, k9⟩ := hSX
      go_simp <;> with_reducible rfl
    simp only [Act.put, List.setIfInBounds_toArray, List.set_cons_zero, List.set_cons_succ]
    refine held_take (i := 6) (v := ?_) rfl (by kernel_rfl) (by kernel_rfl) (by kernel_rfl) (fun _ _ _ h => h) (by rfl) ?_ (by assumption) ?_
    rotate_left
    · intro X hSX
      try dsimp only at hSX
      obtain ⟨s0, k9⟩ := hSX
      go_simp <;> with_reducible rfl
    simp only [Act.put, List.setIfInBounds_toArray, List.set_cons_zero, List.set_cons_succ]
    refine held_take (i := 7) (v := ?_) rfl (by kernel_rfl) (by kernel_rfl) (by kernel_rfl) (fun _ _ _ h => h) (by rfl) ?_ (by assumption) ?_
    rotate_left
    · intro X hSX
      try dsimp only at hSX
      obtain ⟨s0, k9⟩ := hSX
      go_simp <;> with_reducible rfl
    simp only [Act.put, List.setIfInBounds_toArray, List.set_cons_zero, List.set_cons_succ]
    refine held_take (i := 8) (v := ?_) rfl (by kernel_rfl) (by kernel_rfl) (by kernel_rfl) (fun _ _ _ h => h) (by rfl) ?_ (by assumption) ?_
    rotate_left
    · intro X hSX
      try dsimp only at hSX
      obtain ⟨s0, k9⟩ := hSX
      go_simp <;> with_reducible rfl
    simp only [Act.put, List.setIfInBounds_toArray, List.set_cons_zero, List.set_cons_succ]
    refine held_take (i := 9) (v := ?_) rfl (by kernel_rfl) (by kernel_rfl) (by kernel_rfl) (fun _ _ _ h => h) (by rfl) ?_ (by assumption) ?_
    rotate_left
    · intro X hSX
      try dsimp only at hSX
      obtain ⟨s0, k9⟩ := hSX
      go_simp <;> with_reducible rfl
    simp only [Act.put, List.setIfInBounds_toArray, List.set_cons_zero, List.set_cons_succ]
    refine held_take (i := 10) (v := ?_) rfl (by kernel_rfl) (by kernel_rfl) (by kernel_rfl) (fun _ _ _ h => h) (by rfl) ?_ (by assumption) ?_
    rotate_left
    · intro X hSX
      try dsimp only at hSX
      obtain ⟨s0, k9⟩ := hSX
      go_simp <;> with_reducible rfl
    simp only [Act.put, List.setIfInBounds_toArray, List.set_cons_zero, List.set_cons_succ]
    refine wpAnyH_done (by kernel_rfl) ?_ _
    refine NoPanic.normal ?_
    go_wp2_with fail
    go_ret2
    rw [HR.out]
    exact run_err HX.out HB.out (by decide)
  have HR := Lib.hid (show (if 0 ≤ t ∧ t ≤ (c.l.length : Int) then (mvD d c t, mvC d c t, loc c.W c.L c.S c.T c.J c.R d.hd t, (0 : Int)) else (drZ, crZ, 0, 7)) = (mvD d c t, mvC d c t, loc c.W c.L c.S c.T c.J c.R d.hd t, 0) from if_pos (by omega))
  generalize (if 0 ≤ t ∧ t ≤ (c.l.length : Int) then (mvD d c t, mvC d c t, loc c.W c.L c.S c.T c.J c.R d.hd t, (0 : Int)) else (drZ, crZ, 0, 7)) = res at *
  have hd0 : decide (t < 0) = false := decide_eq_false ht0
  have hd1 : decide ((c.l.length : Int) < t) = false := decide_eq_false ht1
  go_enter Try.func43, Try.ntmps43
  go_wp2_with fail
  replace HT := Lib.hid (HT.out.next (Below.refl X.heap.size X).drew)
  refine wp_region_noPanic ?_
  refine wp_region_held_drew (S := (fun Z => Z.cell? ⟨gt, 0, none⟩ = some (.int .i64 t) ∧ Z.cell? ⟨w.heap.size + 2, 9, none⟩ = some (.slice ad c.l.length cap))) (by kernel_rfl) (⟨HCT.out, by obtain ⟨_, k0, k1, k2, k3, k4, k5, k6, k7, k8, k9, k10, k11, k12⟩ := HT.out.cat; exact k9⟩) (fun hS0 => ?_)
  generalize World.drew X = X0 at *
  refine held_take (i := 0) (v := ?_) rfl (by kernel_rfl) (by kernel_rfl) (by kernel_rfl) (fun _ _ _ h => h) (by rfl) ?_ (by assumption) ?_
  rotate_left
  · intro X hSX
    try dsimp only at hSX
    obtain ⟨s0, k9⟩ := hSX
    go_simp <;> with_reducible rfl
  simp only [Act.put, List.setIfInBounds_toArray, List.set_cons_zero, List.set_cons_succ]
  refine held_take (i := 1) (v := ?_) rfl (by kernel_rfl) (by kernel_rfl) (by kernel_rfl) (fun _ _ _ h => h) (by rfl) ?_ (by assumption) ?_
  rotate_left
  · intro X hSX
    try dsimp only at hSX
    obtain ⟨s0, k9⟩ := hSX
    go_simp <;> with_reducible rfl
  simp only [Act.put, List.setIfInBounds_toArray, List.set_cons_zero, List.set_cons_succ]
  refine held_take (i := 2) (v := ?_) rfl (by kernel_rfl) (by kernel_rfl) (by kernel_rfl) (fun _ _ _ h => h) (by rfl) ?_ (by assumption) ?_
  rotate_left
  · intro X hSX
    try dsimp only at hSX
    obtain ⟨s0, k9⟩ := hSX
    go_simp <;> with_reducible rfl
  simp only [Act.put, List.setIfInBounds_toArray, List.set_cons_zero, List.set_cons_succ]
  refine held_take (i := 3) (v := ?_) rfl (by kernel_rfl) (by kernel_rfl) (by kernel_rfl) (fun _ _ _ h => h) (by rfl) ?_ (by assumption) ?_
  rotate_left
  · intro X hSX
    try dsimp only at hSX
    obtain ⟨s0, k9⟩ := hSX
    go_simp <;> with_reducible rfl
  simp only [Act.put, List.setIfInBounds_toArray, List.set_cons_zero, List.set_cons_succ]
  refine held_take (i := 4) (v := ?_) rfl (by kernel_rfl) (by kernel_rfl) (by kernel_rfl) (fun _ _ _ h => h) (by rfl) ?_ (by assumption) ?_
  rotate_left
  · intro X hSX
    try dsimp only at hSX
    obtain ⟨s0, k9⟩ := hSX
    go_simp <;> with_reducible rfl
  simp only [Act.put, List.setIfInBounds_toArray, List.set_cons_zero, List.set_cons_succ]
  refine held_take (i := 5) (v := ?_) rfl (by kernel_rfl) (by kernel_rfl) (by kernel_rfl) (fun _ _ _ h => h) (by rfl) ?_ (by assumption) ?_
  rotate_left
  · intro X hSX
    try dsimp only at hSX
    obtain ⟨s0, k9⟩ := hSX
    go_simp <;> with_reducible rfl
  simp only [Act.put, List.setIfInBounds_toArray, List.set_cons_zero, List.set_cons_succ]
  refine held_take (i := 6) (v := ?_) rfl (by kernel_rfl) (by kernel_rfl) (by kernel_rfl) (fun _ _ _ h => h) (by rfl) ?_ (by assumption) ?_
  rotate_left
  · intro X hSX
    try dsimp only at hSX
    obtain ⟨s0, k9⟩ := hSX
    go_simp <;> with_reducible rfl
  simp only [Act.put, List.setIfInBounds_toArray, List.set_cons_zero, List.set_cons_succ]
  refine held_take (i := 7) (v := ?_) rfl (by kernel_rfl) (by kernel_rfl) (by kernel_rfl) (fun _ _ _ h => h) (by rfl) ?_ (by assumption) ?_
  rotate_left
  · intro X hSX
    try dsimp only at hSX
    obtain ⟨s0, k9⟩ := hSX
    go_simp <;> with_reducible rfl
  simp only [Act.put, List.setIfInBounds_toArray, List.set_cons_zero, List.set_cons_succ]
  refine held_take (i := 8) (v := ?_) rfl (by kernel_rfl) (by kernel_rfl) (by kernel_rfl) (fun _ _ _ h => h) (by rfl) ?_ (by assumption) ?_
  rotate_left
  · intro X hSX
    try dsimp only at hSX
    obtain ⟨s0, k9⟩ := hSX
    go_simp <;> with_reducible rfl
  simp only [Act.put, List.setIfInBounds_toArray, List.set_cons_zero, List.set_cons_succ]
  refine held_take (i := 9) (v := ?_) rfl (by kernel_rfl) (by kernel_rfl) (by kernel_rfl) (fun _ _ _ h => h) (by rfl) ?_ (by assumption) ?_
  rotate_left
  · intro X hSX
    try dsimp only at hSX
    obtain ⟨s0, k9⟩ := hSX
    go_simp <;> with_reducible rfl
  simp only [Act.put, List.setIfInBounds_toArray, List.set_cons_zero, List.set_cons_succ]
  refine held_take (i := 10) (v := ?_) rfl (by kernel_rfl) (by kernel_rfl) (by kernel_rfl) (fun _ _ _ h => h) (by rfl) ?_ (by assumption) ?_
  rotate_left
  · intro X hSX
    try dsimp only at hSX
    obtain ⟨s0, k9⟩ := hSX
    go_simp <;> with_reducible rfl
  simp only [Act.put, List.setIfInBounds_toArray, List.set_cons_zero, List.set_cons_succ]
  refine wpAnyH_done (by kernel_rfl) ?_ _
  refine NoPanic.normal ?_
  obtain ⟨s0, k9⟩ := hS0
  go_wp2_with fail
  refine (HM.out X0 HT.out).mono ?_
  rintro e' X2 ⟨rfl, ht⟩
  have HT2 := Lib.hid (HT.out.trans ht)
  clear ht s0 k9
  go_wp2
  go_ret2
  rw [HR.out]
  exact run_end HX.out HT2.out (mvC_in ⟨two_ki HX.out HT2.out HIN.out.ki, HIN.out.le, HIN.out.mx, HIN.out.nn, HIN.out.bs⟩)
set_option maxHeartbeats 4000000 in
theorem run_unload (gm : Nat) (m : Mdl) (a b c0 c1 e f g : Int) (d : Drv) (c : Crt) (ad : Option Addr) (cap : Nat) (w : World) (hgm : gm < w.heap.size) (hcm : w.cell? ⟨gm, 1, none⟩ = some (.int .i64 m.ul)) (hm : 0 ≤ m.ul ∧ m.ul ≤ 1000000) (hin : CrIn w c ad cap)
    (h1 : 0 ≤ d.pa ∧ d.pa ≤ 1125899906842624) (h2 : 0 ≤ d.si ∧ d.si ≤ 1125899906842624) (h3 : 0 ≤ c.pa ∧ c.pa ≤ 1125899906842624) (X : World) (hX : Bx w X (pfL a b c0 c1 e f g d c ad cap)) :
    Calls Try.prog 51 #[.pointer (some ⟨w.heap.size + 1, 0, none⟩), .pointer (some ⟨w.heap.size + 2, 0, none⟩), .pointer (some ⟨gm, 0, none⟩)] X fun e' X' =>
      RunP w w.heap.size (fun _ => True) (ulD d c, mvC d c 0, loc c.W c.L c.S c.T c.J c.R d.hd 0 + m.ul, 0) X e' X' := by
  have HX := Lib.hid hX
  have HT := Lib.hid (run_two hX)
  have HIN := Lib.hid hin
  have HCM := Lib.hid (fun Z d' c' ad' cap' (h : Two X Z (w.heap.size + 1) (w.heap.size + 2) d' c' ad' cap') => two_cell hX h hgm hcm)
  have HM := Lib.hid (fun Z (h : Two X Z (w.heap.size + 1) (w.heap.size + 2) d c ad cap) => dlocate_any (w.heap.size + 1) (w.heap.size + 2) d c ad cap 0 Z h.d h.c h.ne h1 h2 h3)
  have HEM := Lib.hid (fun Z => emptied_any (mvD d c 0) Z)
  have HED := Lib.hid (show empD (mvD d c 0) = ulD d c from rfl)
  have HUD := Lib.hid (show (ulD d c).hd = 0 from rfl)
  obtain ⟨l0, l1⟩ := loc_bd c.W c.L c.S c.T c.J c.R d.hd 0
  obtain ⟨u0, u1⟩ := hm
  generalize loc c.W c.L c.S c.T c.J c.R d.hd 0 = n at *
  rw [HED.out] at HEM
  generalize m.ul = ul at *
  clear hX hin hcm hgm h1 h2 h3 HED HUD
  have hw : IntKind.i64.wrap (ul + n) = ul + n := by rw [IntKind.wrap_i64]; omega
  go_enter Try.func51, Try.ntmps51
  go_wp2_with fail
  replace HT := Lib.hid (HT.out.next (Below.refl X.heap.size X).drew)
  refine wp_region_noPanic ?_
  refine wp_region_held_drew (S := (fun Z => Z.cell? ⟨gm, 1, none⟩ = some (.int .i64 ul))) (by kernel_rfl) (HCM.out _ _ _ _ _ HT.out) (fun hS0 => ?_)
  generalize World.drew X = X0 at *
  refine held_take (i := 0) (v := ?_) rfl (by kernel_rfl) (by kernel_rfl) (by kernel_rfl) (fun _ _ _ h => h) (by rfl) ?_ (by assumption) ?_
  rotate_left
  · intro X hSX
    try dsimp only at hSX
    go_simp <;> with_reducible rfl
  simp only [Act.put, List.setIfInBounds_toArray, List.set_cons_zero, List.set_cons_succ]
  refine held_take (i := 2) (v := ?_) rfl (by kernel_rfl) (by kernel_rfl) (by kernel_rfl) (fun _ _ _ h => h) (by rfl) ?_ (by assumption) ?_
  rotate_left
  · intro X hSX
    try dsimp only at hSX
    go_simp <;> with_reducible rfl
  simp only [Act.put, List.setIfInBounds_toArray, List.set_cons_zero, List.set_cons_succ]
  refine held_take (i := 3) (v := ?_) rfl (by kernel_rfl) (by kernel_rfl) (by kernel_rfl) (fun _ _ _ h => h) (by rfl) ?_ (by assumption) ?_
  rotate_left
  · intro X hSX
    try dsimp only at hSX
    go_simp <;> with_reducible rfl
  simp only [Act.put, List.setIfInBounds_toArray, List.set_cons_zero, List.set_cons_succ]
  refine held_take (i := 1) (v := ?_) rfl (by kernel_rfl) (by kernel_rfl) (by kernel_rfl) (fun _ _ _ h => h) (by rfl) ?_ (by assumption) ?_
  rotate_left
  · intro X hSX
    try dsimp only at hSX
    go_simp <;> with_reducible rfl
  simp only [Act.put, List.setIfInBounds_toArray, List.set_cons_zero, List.set_cons_succ]
  refine held_call (i := 4) rfl (by kernel_rfl) (by rfl) (fun K' hK' => ?_)
  go_simp
  refine (HM.out X0 HT.out).mono ?_
  rintro e' X2 ⟨rfl, ht⟩
  have HT2 := Lib.hid (HT.out.trans ht)
  refine held_go hK' (HCM.out _ _ _ _ _ HT2.out) ?_
  try simp only [Act.put, List.setIfInBounds_toArray, List.set_cons_zero, List.set_cons_succ]
  clear ht HT hS0
  have hS0 := HCM.out _ _ _ _ _ HT2.out
  refine held_take (i := 5) (v := ?_) rfl (by kernel_rfl) (by kernel_rfl) (by kernel_rfl) (fun _ _ _ h => h) (by rfl) ?_ (by assumption) ?_
  rotate_left
  · intro X hSX
    try dsimp only at hSX
    go_simp <;> with_reducible rfl
  simp only [Act.put, List.setIfInBounds_toArray, List.set_cons_zero, List.set_cons_succ]
  refine held_take (i := 6) (v := ?_) rfl (by kernel_rfl) (by kernel_rfl) (by kernel_rfl) (fun _ _ _ h => h) (by rfl) ?_ (by assumption) ?_
  rotate_left
  · intro X hSX
    try dsimp only at hSX
    go_simp <;> with_reducible rfl
  simp only [Act.put, List.setIfInBounds_toArray, List.set_cons_zero, List.set_cons_succ]
  refine wpAnyH_done (by kernel_rfl) ?_ _
  refine NoPanic.normal ?_
  clear hS0
  have HRD := Lib.hid HT2.out.d
  go_wp2_with (with_reducible refine ld_dr rfl (.tmp 16) rfl (w.heap.size + 1) rfl (mvD d c 0) HRD.out ?_)
  refine (HEM.out X2).mono ?_
  rintro e' X3 ⟨rfl, hb⟩
  have HT3 := Lib.hid (HT2.out.next hb)
  clear hb HT2 HRD
  have HRD := Lib.hid HT3.out.d
  go_wp2_with (with_reducible refine wpList_store_dr rfl (.tmp 19) (.tmp 18) rfl (w.heap.size + 1) rfl _ _ _ _ _ _ rfl (mvD d c 0) HRD.out ?_)
  go_ret2
  have HT4 := HT3.out.rowd (ulD d c)
  rw [Int.add_comm n ul]
  exact run_end HX.out HT4 (mvC_in ⟨two_ki HX.out HT4 HIN.out.ki, HIN.out.le, HIN.out.mx, HIN.out.nn, HIN.out.bs⟩)
set_option maxHeartbeats 4000000 in
theorem run_load (gm : Nat) (m : Mdl) (a b c0 c1 e f g : Int) (d : Drv) (c : Crt) (ad : Option Addr) (cap : Nat) (w : World) (hgm : gm < w.heap.size) (hcm : w.cell? ⟨gm, 0, none⟩ = some (.int .i64 m.ld)) (hin : CrIn w c ad cap)
    (h1 : 0 ≤ d.lo ∧ d.lo ≤ 1125899906842624) (h3 : 0 ≤ c.lo ∧ c.lo ≤ 1125899906842624) (X : World) (hX : Bx w X (pfL a b c0 c1 e f g d c ad cap)) :
    Calls Try.prog 40 #[.pointer (some ⟨w.heap.size + 1, 0, none⟩), .pointer (some ⟨w.heap.size + 2, 0, none⟩), .pointer (some ⟨gm, 0, none⟩)] X fun e' X' =>
      RunP w w.heap.size (fun _ => True) (⟨1, c.bc, d.hd, inc d.lo 1, d.pa, d.si⟩, {c with lo := inc c.lo 1}, m.ld, 0) X e' X' := by
  have HX := Lib.hid hX
  have HT := Lib.hid (run_two hX)
  have HIN := Lib.hid hin
  have HCM := Lib.hid (fun Z d' c' ad' cap' (h : Two X Z (w.heap.size + 1) (w.heap.size + 2) d' c' ad' cap') => two_cell hX h hgm hcm)
  have HCN := Lib.hid (fun (Z : World) (p : Nat) (h : Two X Z (w.heap.size + 1) (w.heap.size + 2) ⟨1, c.bc, d.hd, d.lo, d.pa, d.si⟩ c ad cap) (hp) (hg) (hk) => count2 (p := p) h hp hg hk 1 (by omega) h1 h3)
  generalize m.ld = ld at *
  clear hX hin hcm hgm h1 h3
  obtain ⟨_, d0, d1, d2, d3, d4, d5⟩ := HT.out.dat
  obtain ⟨_, k0, k1, k2, k3, k4, k5, k6, k7, k8, k9, k10, k11, k12⟩ := HT.out.cat
  have f0 := froz_of HT.out.d 0
  have f1 := froz_of HT.out.d 1
  go_enter Try.func40, Try.ntmps40
  go_wp2_with fail
  clear d0 d1 d2 d3 d4 d5 k0 k1 k2 k3 k4 k5 k6 k7 k8 k9 k10 k11 k12 f0 f1
  replace HT := Lib.hid ((HT.out.setd 0 (.int .i64 1) ⟨1, d.bc, d.hd, d.lo, d.pa, d.si⟩ rfl).setd 1 (.string c.bc) ⟨1, c.bc, d.hd, d.lo, d.pa, d.si⟩ rfl)
  generalize World.setCell (World.setCell X _ _) _ _ = Y0 at *
  replace HT := Lib.hid (HT.out.next (Below.refl Y0.heap.size Y0).drew)
  refine wp_region_noPanic ?_
  refine wp_region_held_drew (S := (fun Z => True)) (by kernel_rfl) (trivial) (fun hS0 => ?_)
  generalize World.drew Y0 = X0 at *
  refine held_take (i := 0) (v := ?_) rfl (by kernel_rfl) (by kernel_rfl) (by kernel_rfl) (fun _ _ _ h => h) (by rfl) ?_ (by assumption) ?_
  rotate_left
  · intro X hSX
    try dsimp only at hSX
    go_simp <;> with_reducible rfl
  simp only [Act.put, List.setIfInBounds_toArray, List.set_cons_zero, List.set_cons_succ]
  refine held_take (i := 3) (v := ?_) rfl (by kernel_rfl) (by kernel_rfl) (by kernel_rfl) (fun _ _ _ h => h) (by rfl) ?_ (by assumption) ?_
  rotate_left
  · intro X hSX
    try dsimp only at hSX
    go_simp <;> with_reducible rfl
  simp only [Act.put, List.setIfInBounds_toArray, List.set_cons_zero, List.set_cons_succ]
  refine held_take (i := 1) (v := ?_) rfl (by kernel_rfl) (by kernel_rfl) (by kernel_rfl) (fun _ _ _ h => h) (by rfl) ?_ (by assumption) ?_
  rotate_left
  · intro X hSX
    try dsimp only at hSX
    go_simp <;> with_reducible rfl
  simp only [Act.put, List.setIfInBounds_toArray, List.set_cons_zero, List.set_cons_succ]
  refine held_take (i := 4) (v := ?_) rfl (by kernel_rfl) (by kernel_rfl) (by kernel_rfl) (fun _ _ _ h => h) (by rfl) ?_ (by assumption) ?_
  rotate_left
  · intro X hSX
    try dsimp only at hSX
    go_simp <;> with_reducible rfl
  simp only [Act.put, List.setIfInBounds_toArray, List.set_cons_zero, List.set_cons_succ]
  refine held_take (i := 2) (v := ?_) rfl (by kernel_rfl) (by kernel_rfl) (by kernel_rfl) (fun _ _ _ h => h) (by rfl) ?_ (by assumption) ?_
  rotate_left
  · intro X hSX
    try dsimp only at hSX
    go_simp <;> with_reducible rfl
  simp only [Act.put, List.setIfInBounds_toArray, List.set_cons_zero, List.set_cons_succ]
  refine held_take (i := 5) (v := ?_) rfl (by kernel_rfl) (by kernel_rfl) (by kernel_rfl) (fun _ _ _ h => h) (by rfl) ?_ (by assumption) ?_
  rotate_left
  · intro X hSX
    try dsimp only at hSX
    go_simp <;> with_reducible rfl
  simp only [Act.put, List.setIfInBounds_toArray, List.set_cons_zero, List.set_cons_succ]
  refine held_call (i := 6) rfl (by kernel_rfl) (by rfl) (fun K' hK' => ?_)
  go_simp
  have HPR := Lib.hid (heap_alloc_new X0 (.cells #[.pointer (some ⟨w.heap.size + 1, 3, none⟩), .pointer (some ⟨w.heap.size + 2, 11, none⟩)] 77))
  have HPG := Lib.hid (show w.heap.size + 1 ≠ X0.heap.size by have := (Array.getElem?_eq_some_iff.1 HT.out.d).1; omega)
  have HPK := Lib.hid (show w.heap.size + 2 ≠ X0.heap.size by have := (Array.getElem?_eq_some_iff.1 HT.out.c).1; omega)
  replace HT := Lib.hid (HT.out.next (below_boxC X0 (.cells #[.pointer (some ⟨w.heap.size + 1, 3, none⟩), .pointer (some ⟨w.heap.size + 2, 11, none⟩)] 77)))
  refine held_go hK' (trivial) ?_
  try simp only [Act.put, List.setIfInBounds_toArray, List.set_cons_zero, List.set_cons_succ]
  generalize World.alloc X0 _ = X1 at *
  generalize X0.heap.size = p at *
  refine held_call (i := 7) rfl (by kernel_rfl) (by rfl) (fun K' hK' => ?_)
  go_simp
  refine (HCN.out X1 p HT.out HPR.out HPG.out HPK.out).mono ?_
  rintro e' X2 ⟨rfl, ht⟩
  refine held_go hK' (trivial) ?_
  try simp only [Act.put, List.setIfInBounds_toArray, List.set_cons_zero, List.set_cons_succ]
  refine wpAnyH_done (by kernel_rfl) ?_ _
  refine NoPanic.normal ?_
  have HT2 := Lib.hid ht
  have s0 := HCM.out _ _ _ _ _ HT2.out
  clear ht HT
  go_wp2_with fail
  go_ret2
  exact run_end HX.out HT2.out ⟨two_ki HX.out HT2.out HIN.out.ki, HIN.out.le, HIN.out.mx, HIN.out.nn, HIN.out.bs⟩
end Go.Proofs.Ytepmmlnopdjjdaa
