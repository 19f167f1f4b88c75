/-
  The closure of Read, as perform calls it.
-/
import Derived.Test.YtepmmlnopdjjdaaDpRun
import Derived.Test.YtepmmlnopdjjdaaQCrd
import Derived.Test.YtepmmlnopdjjdaaDrRead
namespace Go.Proofs.Ytepmmlnopdjjdaa
open Go.RowKit
set_option linter.unusedVariables false
set_option linter.unusedSimpArgs false
set_option maxRecDepth 100000
/-- what lies in the two boxes that the closure of Read writes -/
def RdE (w : World) (gb ge : Nat) (q : List Blk × Int) (X : World) : Prop := (∀ k, k < w.heap.size → k ≠ gb → k ≠ ge → X.heap[k]? = w.heap[k]?) ∧ ∃ zd zn zc, X.heap[gb]? = some (.cells #[.slice zd zn zc] 28 (0, 0)) ∧ X.heap[ge]? = some (.cells #[.int .i64 q.2] 37 (0, 0)) ∧ zn = q.1.length ∧ Kfr X (w.heap.size + 5) zd q.1 ∧ zn ≤ zc ∧ zc ≤ maxLen ∧ (zd = none → zc = 0)
theorem RdE.keep {w : World} {gb ge : Nat} {q : List Blk × Int} {X Y : World} (h : RdE w gb ge q X) (hb : gb < w.heap.size) (he : ge < w.heap.size) (ho : ∀ k, k < X.heap.size → ¬ (w.heap.size ≤ k ∧ k < w.heap.size + 5) → Y.heap[k]? = X.heap[k]?) (hs : X.heap.size ≤ Y.heap.size) : RdE w gb ge q Y := by
  obtain ⟨h0, zd, zn, zc, h1, h2, h3, h4, h5⟩ := h
  have l1 := (Array.getElem?_eq_some_iff.1 h1).1
  have l2 := (Array.getElem?_eq_some_iff.1 h2).1
  refine ⟨fun k hk a1 a2 => ?_, zd, zn, zc, (ho gb l1 (by omega)).trans h1, (ho ge l2 (by omega)).trans h2, h3, h4.st (fun k hk hk2 => ho k hk2 (by omega)) hs (Nat.le_refl _), h5⟩
  have h6 := h0 k hk a1 a2
  have lk : k < X.heap.size := by
    rcases Nat.lt_or_ge k X.heap.size with h | h
    · exact h
    · rw [Array.getElem?_eq_none h, Array.getElem?_eq_getElem hk] at h6; cases h6
  exact (ho k lk (by omega)).trans h6
noncomputable def rdS (d : Drv) (c : Crt) (n : Int) : Drv × Crt × Int × Int :=
  if n < 1 ∨ (c.l.length : Int) - d.hd < n then (drZ, crZ, 0, 7) else (mvD d c (d.hd + ((rdR d c n).1.length : Int)), mvC d c (d.hd + ((rdR d c n).1.length : Int)), rd c.W c.L c.S c.T c.J c.R d.hd ((rdR d c n).1.length : Int), 0)
def rdQ (d : Drv) (c : Crt) (n : Int) : List Blk × Int := if n < 1 ∨ (c.l.length : Int) - d.hd < n then ([], 0) else rdR d c n
section
variable {w X : World} {a b c0 c1 e f g : Int} {d : Drv} {c : Crt} {ad : Option Addr} {cap : Nat}
theorem run_errR (hX : Bx w X (pfL a b c0 c1 e f g d c ad cap)) {X' : World} (hb : Below X.heap.size X X') {er : Int} (her : er ≠ 0) {C0 gb ge : Nat} (hC : C0 ≤ w.heap.size) (hgb : gb < w.heap.size) (hge : ge < w.heap.size)
    (h1 : w.heap[gb]? = some (.cells #[.slice none 0 0] 28 (0, 0))) (h2 : w.heap[ge]? = some (.cells #[.int .i64 0] 37 (0, 0))) : RunP w C0 (RdE w gb ge ([], 0)) (drZ, crZ, 0, er) X (.returned (.tuple #[.int .i64 0, .int .i64 er])) X' :=
  ⟨rfl, fun h => absurd h her, (hX.next hb).at_ 3 _ rfl, (hX.next hb).at_ 4 _ rfl, hb.mono (Nat.le_trans hC hX.b.size),
    ⟨fun k hk _ _ => (hX.next hb).b.block k hk, none, 0, 0, ((hX.next hb).b.block gb hgb).trans h1, ((hX.next hb).b.block ge hge).trans h2, rfl, fun _ _ _ => Ki.nil _ _, Nat.le_refl _, Nat.zero_le _, fun _ => rfl⟩⟩
end
theorem rdU_parts (m : Mdl) (d : Drv) (c : Crt) (n : Int) : rdU m d c n = if fstU m d c = 0 then ((rdS d c n).1, (rdS d c n).2.1, (rdQ d c n).1, (rdS d c n).2.2.1, if (rdS d c n).2.2.2 = 0 then (rdQ d c n).2 else (rdS d c n).2.2.2) else (drZ, crZ, [], 0, fstU m d c) := by
  unfold rdU rdS rdQ
  by_cases h1 : fstU m d c = 0
  · rw [if_pos h1, if_pos h1]
    by_cases h2 : n < 1 ∨ (c.l.length : Int) - d.hd < n
    · simp only [if_pos h2]; rfl
    · simp only [if_neg h2]; rfl
  · rw [if_neg h1, if_neg h1]
theorem rdS_res {d : Drv} {c : Crt} {n : Int} : (rdS d c n).2.2.2 ≠ 0 → rdS d c n = (drZ, crZ, 0, (rdS d c n).2.2.2) := by
  unfold rdS
  intro h
  by_cases h2 : n < 1 ∨ (c.l.length : Int) - d.hd < n
  · rw [if_pos h2]
  · rw [if_neg h2] at h; exact absurd rfl h
theorem rdS_small {d : Drv} {c : Crt} {n : Int} (h1 : c.l.length ≤ 4096) (h2 : ∀ b ∈ c.l, b.d.length ≤ 10000) : (rdS d c n).2.2.2 = 0 → (rdS d c n).2.1.l.length ≤ 4096 ∧ ∀ b ∈ (rdS d c n).2.1.l, b.d.length ≤ 10000 := by
  unfold rdS
  intro h
  by_cases h3 : n < 1 ∨ (c.l.length : Int) - d.hd < n
  · rw [if_pos h3] at h; exact absurd h (show ¬ ((7 : Int) = 0) by decide)
  · rw [if_neg h3]; exact ⟨h1, h2⟩
attribute [local irreducible] tim vld bar cnt okB capU allB vldC mdlU drvU due worn inc pas loc rd frs rdk rdR
set_option maxHeartbeats 8000000 in
theorem run_read (gn gb ge : Nat) (w0 : World) (n : Int) (a b c0 c1 e f g : Int) (d : Drv) (c : Crt) (ad : Option Addr) (cap : Nat) (w : World) (hgn : gn < w.heap.size) (hgb : gb < w.heap.size) (hge : ge < w.heap.size) (hnb : gn ≠ gb) (hne : gn ≠ ge) (hbe : gb ≠ ge) (hw0 : Below w0.heap.size w0 w) (hCb : w0.heap.size ≤ gb) (hCe : w0.heap.size ≤ ge)
    (hcn : w.cell? ⟨gn, 0, none⟩ = some (.int .i64 n)) (hrb : w.heap[gb]? = some (.cells #[.slice none 0 0] 28 (0, 0))) (hre : w.heap[ge]? = some (.cells #[.int .i64 0] 37 (0, 0))) (hin0 : CrIn w0 c ad cap)
    (hv : vldC c = true) (hn : n ≤ 9223372036854775807) (hhd : 0 ≤ d.hd ∧ d.hd ≤ 4096)
    (h1 : 0 ≤ d.pa ∧ d.pa ≤ 1125899906842624) (h2 : 0 ≤ d.si ∧ d.si ≤ 1125899906842624) (h3 : 0 ≤ c.pa ∧ c.pa ≤ 1125899906842624) (X : World) (hX : Bx w X (pfL a b c0 c1 e f g d c ad cap)) :
    Calls Try.prog 48 #[.pointer (some ⟨w.heap.size + 1, 0, none⟩), .pointer (some ⟨w.heap.size + 2, 0, none⟩), .pointer (some ⟨gn, 0, none⟩), .pointer (some ⟨gb, 0, none⟩), .pointer (some ⟨ge, 0, none⟩)] X fun e' X' =>
      RunP w w0.heap.size (RdE w gb ge (rdQ d c n)) (rdS d c n) X e' X' := by
  have hin := hin0.below hw0
  have hC := hw0.size
  have HF := Lib.hid (show rdS d c n = if n < 1 ∨ (c.l.length : Int) - d.hd < n then (drZ, crZ, 0, 7) else (mvD d c (d.hd + ((rdR d c n).1.length : Int)), mvC d c (d.hd + ((rdR d c n).1.length : Int)), rd c.W c.L c.S c.T c.J c.R d.hd ((rdR d c n).1.length : Int), 0) from rfl)
  have HQ := Lib.hid (show rdQ d c n = if n < 1 ∨ (c.l.length : Int) - d.hd < n then ([], 0) else rdR d c n from rfl)
  generalize rdS d c n = res at *
  generalize rdQ d c n = rq at *
  have hlen : c.l.length ≤ 4096 := by have h := vldC_parts hv; have := h.1.c1; have := h.2.1; omega
  have HRC := Lib.hid (show 1 ≤ n → readC (vldC c) c.l d.hd n = rdR d c n by
    intro h
    unfold readC
    rw [if_pos hv, if_neg (by omega)]
    unfold rdR
    rfl)
  have HRL := Lib.hid (show (rdR d c n).1.length ≤ 4096 by unfold rdR; exact Nat.le_trans (rdk_len _ _) (by rw [List.length_drop]; omega))
  have HX := Lib.hid hX
  have HT := Lib.hid (run_two hX)
  have HIN := Lib.hid hin
  have HCN := Lib.hid (fun Z d' c' ad' cap' (h : Two X Z (w.heap.size + 1) (w.heap.size + 2) d' c' ad' cap') => two_cell hX h hgn hcn)
  have HRB := Lib.hid (fun Z d' c' ad' cap' (h : Two X Z (w.heap.size + 1) (w.heap.size + 2) d' c' ad' cap') => (two_old hX h gb hgb).trans hrb)
  have HRE := Lib.hid (fun Z d' c' ad' cap' (h : Two X Z (w.heap.size + 1) (w.heap.size + 2) d' c' ad' cap') => (two_old hX h ge hge).trans hre)
  have HRR := Lib.hid (fun Z (h : Two X Z (w.heap.size + 1) (w.heap.size + 2) d c ad cap) => ctread_any c ad cap d.hd n Z ⟨two_ki hX h hin.ki, hin.le, hin.mx, hin.nn, hin.bs⟩ (by omega) hn)
  have HXS := Lib.hid (show w.heap.size + 5 ≤ X.heap.size from hX.size)
  have HER := Lib.hid (fun X' (hb : Below X.heap.size X X') => run_errR hX hb (er := 7) (by decide) hC hgb hge hrb hre)
  have HB0 := Lib.hid (Below.refl X.heap.size X)
  have HI0 := Lib.hid hin0
  have HW0 := Lib.hid hw0
  have HG := Lib.hid (show (gn < w.heap.size ∧ gb < w.heap.size ∧ ge < w.heap.size) ∧ (gn ≠ gb ∧ gn ≠ ge ∧ gb ≠ ge) ∧ (w0.heap.size ≤ w.heap.size ∧ w0.heap.size ≤ gb ∧ w0.heap.size ≤ ge) from ⟨⟨hgn, hgb, hge⟩, ⟨hnb, hne, hbe⟩, ⟨hC, hCb, hCe⟩⟩)
  clear hX hin hin0 hw0 hcn hgn hgb hge hrb hre hv hC hCb hCe hnb hne hbe
  obtain ⟨a0, a1⟩ := hhd
  by_cases hn1 : n < 1
  · have HR := Lib.hid (show res = (drZ, crZ, 0, 7) by rw [HF.out, if_pos (.inl hn1)])
    have HR2 := Lib.hid (show rq = ([], 0) by rw [HQ.out, if_pos (.inl hn1)])
    have hd0 : decide (n < 1) = true := decide_eq_true hn1
    go_enter Try.func48, Try.ntmps48
    go_wp2_with fail
    replace HT := Lib.hid (HT.out.next (Below.refl X.heap.size X).drew)
    replace HB0 := Lib.hid HB0.out.drew
    refine wp_region_noPanic ?_
    refine wp_region_held_drew (S := (fun Z => Z.cell? ⟨gn, 0, none⟩ = some (.int .i64 n))) (by kernel_rfl) (HCN.out _ _ _ _ _ HT.out) (fun hS0 => ?_)
    generalize World.drew X = X0 at *
    refine held_take (i := 0) (v := ?_) rfl (by kernel_rfl) (by kernel_rfl) (by kernel_rfl) (fun _ _ _ h => h) (by rfl) ?_ (by assumption) ?_
    rotate_left
    · intro X hSX
      try dsimp only at hSX
      go_simp <;> with_reducible rfl
    simp only [Act.put, List.setIfInBounds_toArray, List.set_cons_zero, List.set_cons_succ]
    refine held_take (i := 1) (v := ?_) rfl (by kernel_rfl) (by kernel_rfl) (by kernel_rfl) (fun _ _ _ h => h) (by rfl) ?_ (by assumption) ?_
    rotate_left
    · intro X hSX
      try dsimp only at hSX
      go_simp <;> with_reducible rfl
    simp only [Act.put, List.setIfInBounds_toArray, List.set_cons_zero, List.set_cons_succ]
    refine held_take (i := 2) (v := ?_) rfl (by kernel_rfl) (by kernel_rfl) (by kernel_rfl) (fun _ _ _ h => h) (by rfl) ?_ (by assumption) ?_
    rotate_left
    · intro X hSX
      try dsimp only at hSX
      go_simp <;> with_reducible rfl
    simp only [Act.put, List.setIfInBounds_toArray, List.set_cons_zero, List.set_cons_succ]
    refine held_skip (i := 3) rfl (by kernel_rfl) (by kernel_rfl) (by kernel_rfl) (fun _ _ _ h => h) (by rfl) (by assumption) ?_
    simp only [Act.put, List.setIfInBounds_toArray, List.set_cons_zero, List.set_cons_succ]
    refine held_skip (i := 4) rfl (by kernel_rfl) (by kernel_rfl) (by kernel_rfl) (fun _ _ _ h => h) (by rfl) (by assumption) ?_
    simp only [Act.put, List.setIfInBounds_toArray, List.set_cons_zero, List.set_cons_succ]
    refine held_skip (i := 5) rfl (by kernel_rfl) (by kernel_rfl) (by kernel_rfl) (fun _ _ _ h => h) (by rfl) (by assumption) ?_
    simp only [Act.put, List.setIfInBounds_toArray, List.set_cons_zero, List.set_cons_succ]
    refine held_skip (i := 6) rfl (by kernel_rfl) (by kernel_rfl) (by kernel_rfl) (fun _ _ _ h => h) (by rfl) (by assumption) ?_
    simp only [Act.put, List.setIfInBounds_toArray, List.set_cons_zero, List.set_cons_succ]
    refine held_skip (i := 7) rfl (by kernel_rfl) (by kernel_rfl) (by kernel_rfl) (fun _ _ _ h => h) (by rfl) (by assumption) ?_
    simp only [Act.put, List.setIfInBounds_toArray, List.set_cons_zero, List.set_cons_succ]
    refine held_skip (i := 8) rfl (by kernel_rfl) (by kernel_rfl) (by kernel_rfl) (fun _ _ _ h => h) (by rfl) (by assumption) ?_
    simp only [Act.put, List.setIfInBounds_toArray, List.set_cons_zero, List.set_cons_succ]
    refine held_skip (i := 9) rfl (by kernel_rfl) (by kernel_rfl) (by kernel_rfl) (fun _ _ _ h => h) (by rfl) (by assumption) ?_
    simp only [Act.put, List.setIfInBounds_toArray, List.set_cons_zero, List.set_cons_succ]
    refine held_skip (i := 10) rfl (by kernel_rfl) (by kernel_rfl) (by kernel_rfl) (fun _ _ _ h => h) (by rfl) (by assumption) ?_
    simp only [Act.put, List.setIfInBounds_toArray, List.set_cons_zero, List.set_cons_succ]
    refine held_skip (i := 11) rfl (by kernel_rfl) (by kernel_rfl) (by kernel_rfl) (fun _ _ _ h => h) (by rfl) (by assumption) ?_
    simp only [Act.put, List.setIfInBounds_toArray, List.set_cons_zero, List.set_cons_succ]
    refine held_skip (i := 12) rfl (by kernel_rfl) (by kernel_rfl) (by kernel_rfl) (fun _ _ _ h => h) (by rfl) (by assumption) ?_
    simp only [Act.put, List.setIfInBounds_toArray, List.set_cons_zero, List.set_cons_succ]
    refine held_skip (i := 13) rfl (by kernel_rfl) (by kernel_rfl) (by kernel_rfl) (fun _ _ _ h => h) (by rfl) (by assumption) ?_
    simp only [Act.put, List.setIfInBounds_toArray, List.set_cons_zero, List.set_cons_succ]
    refine held_skip (i := 14) rfl (by kernel_rfl) (by kernel_rfl) (by kernel_rfl) (fun _ _ _ h => h) (by rfl) (by assumption) ?_
    simp only [Act.put, List.setIfInBounds_toArray, List.set_cons_zero, List.set_cons_succ]
    refine held_take (i := 15) (v := ?_) rfl (by kernel_rfl) (by kernel_rfl) (by kernel_rfl) (fun _ _ _ h => h) (by rfl) ?_ (by assumption) ?_
    rotate_left
    · intro X hSX
      try dsimp only at hSX
      go_simp <;> with_reducible rfl
    simp only [Act.put, List.setIfInBounds_toArray, List.set_cons_zero, List.set_cons_succ]
    refine wpAnyH_done (by kernel_rfl) ?_ _
    refine NoPanic.normal ?_
    go_wp2_with fail
    go_ret2
    rw [HR.out, HR2.out]
    exact HER.out _ HB0.out
  have hd0 : decide (n < 1) = false := decide_eq_false hn1
  have hwl : IntKind.i64.wrap ((c.l.length : Int) - d.hd) = (c.l.length : Int) - d.hd := by rw [IntKind.wrap_i64]; omega
  by_cases hn2 : (c.l.length : Int) - d.hd < n
  · have HR := Lib.hid (show res = (drZ, crZ, 0, 7) by rw [HF.out, if_pos (.inr hn2)])
    have HR2 := Lib.hid (show rq = ([], 0) by rw [HQ.out, if_pos (.inr hn2)])
    have hd1 : decide ((c.l.length : Int) - d.hd < n) = true := decide_eq_true hn2
    go_enter Try.func48, Try.ntmps48
    go_wp2_with fail
    replace HT := Lib.hid (HT.out.next (Below.refl X.heap.size X).drew)
    replace HB0 := Lib.hid HB0.out.drew
    refine wp_region_noPanic ?_
    refine wp_region_held_drew (S := (fun Z => Two X Z (w.heap.size + 1) (w.heap.size + 2) d c ad cap)) (by kernel_rfl) (HT.out) (fun hS0 => ?_)
    generalize World.drew X = X0 at *
    refine held_take (i := 0) (v := ?_) rfl (by kernel_rfl) (by kernel_rfl) (by kernel_rfl) (fun _ _ _ h => h) (by rfl) ?_ (by assumption) ?_
    rotate_left
    · intro X hSX
      try dsimp only at hSX
      have s0 := HCN.out _ _ _ _ _ hSX
      go_simp <;> with_reducible rfl
    simp only [Act.put, List.setIfInBounds_toArray, List.set_cons_zero, List.set_cons_succ]
    refine held_take (i := 1) (v := ?_) rfl (by kernel_rfl) (by kernel_rfl) (by kernel_rfl) (fun _ _ _ h => h) (by rfl) ?_ (by assumption) ?_
    rotate_left
    · intro X hSX
      try dsimp only at hSX
      have s0 := HCN.out _ _ _ _ _ hSX
      go_simp <;> with_reducible rfl
    simp only [Act.put, List.setIfInBounds_toArray, List.set_cons_zero, List.set_cons_succ]
    refine held_take (i := 2) (v := ?_) rfl (by kernel_rfl) (by kernel_rfl) (by kernel_rfl) (fun _ _ _ h => h) (by rfl) ?_ (by assumption) ?_
    rotate_left
    · intro X hSX
      try dsimp only at hSX
      have s0 := HCN.out _ _ _ _ _ hSX
      go_simp <;> with_reducible rfl
    simp only [Act.put, List.setIfInBounds_toArray, List.set_cons_zero, List.set_cons_succ]
    refine held_take (i := 3) (v := ?_) rfl (by kernel_rfl) (by kernel_rfl) (by kernel_rfl) (fun _ _ _ h => h) (by rfl) ?_ (by assumption) ?_
    rotate_left
    · intro X hSX
      try dsimp only at hSX
      have s0 := HCN.out _ _ _ _ _ hSX
      go_simp <;> with_reducible rfl
    simp only [Act.put, List.setIfInBounds_toArray, List.set_cons_zero, List.set_cons_succ]
    refine held_take (i := 4) (v := ?_) rfl (by kernel_rfl) (by kernel_rfl) (by kernel_rfl) (fun _ _ _ h => h) (by rfl) ?_ (by assumption) ?_
    rotate_left
    · intro X hSX
      try dsimp only at hSX
      have s0 := HCN.out _ _ _ _ _ hSX
      go_simp <;> with_reducible rfl
    simp only [Act.put, List.setIfInBounds_toArray, List.set_cons_zero, List.set_cons_succ]
    refine held_take (i := 9) (v := ?_) rfl (by kernel_rfl) (by kernel_rfl) (by kernel_rfl) (fun _ _ _ h => h) (by rfl) ?_ (by assumption) ?_
    rotate_left
    · intro X hSX
      try dsimp only at hSX
      have s0 := HCN.out _ _ _ _ _ hSX
      go_simp <;> with_reducible rfl
    simp only [Act.put, List.setIfInBounds_toArray, List.set_cons_zero, List.set_cons_succ]
    refine held_take (i := 5) (v := ?_) rfl (by kernel_rfl) (by kernel_rfl) (by kernel_rfl) (fun _ _ _ h => h) (by rfl) ?_ (by assumption) ?_
    rotate_left
    · intro X hSX
      try dsimp only at hSX
      go_simp <;> with_reducible rfl
    simp only [Act.put, List.setIfInBounds_toArray, List.set_cons_zero, List.set_cons_succ]
    refine held_take (i := 6) (v := ?_) rfl (by kernel_rfl) (by kernel_rfl) (by kernel_rfl) (fun _ _ _ h => h) (by rfl) ?_ (by assumption) ?_
    rotate_left
    · intro X hSX
      try dsimp only at hSX
      go_simp <;> with_reducible rfl
    simp only [Act.put, List.setIfInBounds_toArray, List.set_cons_zero, List.set_cons_succ]
    refine held_take (i := 10) (v := ?_) rfl (by kernel_rfl) (by kernel_rfl) (by kernel_rfl) (fun _ _ _ h => h) (by rfl) ?_ (by assumption) ?_
    rotate_left
    · intro X hSX
      try dsimp only at hSX
      go_simp <;> with_reducible rfl
    simp only [Act.put, List.setIfInBounds_toArray, List.set_cons_zero, List.set_cons_succ]
    refine held_take (i := 11) (v := ?_) rfl (by kernel_rfl) (by kernel_rfl) (by kernel_rfl) (fun _ _ _ h => h) (by rfl) ?_ (by assumption) ?_
    rotate_left
    · intro X hSX
      try dsimp only at hSX
      go_simp <;> with_reducible rfl
    simp only [Act.put, List.setIfInBounds_toArray, List.set_cons_zero, List.set_cons_succ]
    refine held_take (i := 7) (v := ?_) rfl (by kernel_rfl) (by kernel_rfl) (by kernel_rfl) (fun _ _ _ h => h) (by rfl) ?_ (by assumption) ?_
    rotate_left
    · intro X hSX
      try dsimp only at hSX
      obtain ⟨_, d0, d1, d2, d3, d4, d5⟩ := hSX.dat
      obtain ⟨_, k0, k1, k2, k3, k4, k5, k6, k7, k8, k9, k10, k11, k12⟩ := hSX.cat
      go_simp <;> with_reducible rfl
    simp only [Act.put, List.setIfInBounds_toArray, List.set_cons_zero, List.set_cons_succ]
    refine held_take (i := 8) (v := ?_) rfl (by kernel_rfl) (by kernel_rfl) (by kernel_rfl) (fun _ _ _ h => h) (by rfl) ?_ (by assumption) ?_
    rotate_left
    · intro X hSX
      try dsimp only at hSX
      obtain ⟨_, d0, d1, d2, d3, d4, d5⟩ := hSX.dat
      obtain ⟨_, k0, k1, k2, k3, k4, k5, k6, k7, k8, k9, k10, k11, k12⟩ := hSX.cat
      go_simp <;> with_reducible rfl
    simp only [Act.put, List.setIfInBounds_toArray, List.set_cons_zero, List.set_cons_succ]
    refine held_take (i := 12) (v := ?_) rfl (by kernel_rfl) (by kernel_rfl) (by kernel_rfl) (fun _ _ _ h => h) (by rfl) ?_ (by assumption) ?_
    rotate_left
    · intro X hSX
      try dsimp only at hSX
      obtain ⟨_, d0, d1, d2, d3, d4, d5⟩ := hSX.dat
      obtain ⟨_, k0, k1, k2, k3, k4, k5, k6, k7, k8, k9, k10, k11, k12⟩ := hSX.cat
      go_simp <;> with_reducible rfl
    simp only [Act.put, List.setIfInBounds_toArray, List.set_cons_zero, List.set_cons_succ]
    refine held_take (i := 13) (v := ?_) rfl (by kernel_rfl) (by kernel_rfl) (by kernel_rfl) (fun _ _ _ h => h) (by rfl) ?_ (by assumption) ?_
    rotate_left
    · intro X hSX
      try dsimp only at hSX
      obtain ⟨_, d0, d1, d2, d3, d4, d5⟩ := hSX.dat
      obtain ⟨_, k0, k1, k2, k3, k4, k5, k6, k7, k8, k9, k10, k11, k12⟩ := hSX.cat
      go_simp <;> with_reducible rfl
    simp only [Act.put, List.setIfInBounds_toArray, List.set_cons_zero, List.set_cons_succ]
    refine held_take (i := 14) (v := ?_) rfl (by kernel_rfl) (by kernel_rfl) (by kernel_rfl) (fun _ _ _ h => h) (by rfl) ?_ (by assumption) ?_
    rotate_left
    · intro X hSX
      try dsimp only at hSX
      obtain ⟨_, d0, d1, d2, d3, d4, d5⟩ := hSX.dat
      obtain ⟨_, k0, k1, k2, k3, k4, k5, k6, k7, k8, k9, k10, k11, k12⟩ := hSX.cat
      go_simp <;> with_reducible rfl
    simp only [Act.put, List.setIfInBounds_toArray, List.set_cons_zero, List.set_cons_succ]
    refine held_take (i := 15) (v := ?_) rfl (by kernel_rfl) (by kernel_rfl) (by kernel_rfl) (fun _ _ _ h => h) (by rfl) ?_ (by assumption) ?_
    rotate_left
    · intro X hSX
      try dsimp only at hSX
      obtain ⟨_, d0, d1, d2, d3, d4, d5⟩ := hSX.dat
      obtain ⟨_, k0, k1, k2, k3, k4, k5, k6, k7, k8, k9, k10, k11, k12⟩ := hSX.cat
      go_simp <;> with_reducible rfl
    simp only [Act.put, List.setIfInBounds_toArray, List.set_cons_zero, List.set_cons_succ]
    refine wpAnyH_done (by kernel_rfl) ?_ _
    refine NoPanic.normal ?_
    go_wp2_with fail
    go_ret2
    rw [HR.out, HR2.out]
    exact HER.out _ HB0.out
  have hd1 : decide ((c.l.length : Int) - d.hd < n) = false := decide_eq_false hn2
  replace HF := Lib.hid (show res = (mvD d c (d.hd + ((rdR d c n).1.length : Int)), mvC d c (d.hd + ((rdR d c n).1.length : Int)), rd c.W c.L c.S c.T c.J c.R d.hd ((rdR d c n).1.length : Int), 0) by rw [HF.out, if_neg (by omega)])
  replace HQ := Lib.hid (show rq = rdR d c n by rw [HQ.out, if_neg (by omega)])
  rw [HRC.out (by omega)] at HRR
  clear HRC HER
  generalize rdR d c n = q at *
  obtain ⟨q1, q2⟩ := q
  simp only at HF HRL HRR
  go_enter Try.func48, Try.ntmps48
  go_wp2_with fail
  replace HT := Lib.hid (HT.out.next (Below.refl X.heap.size X).drew)
  replace HB0 := Lib.hid HB0.out.drew
  refine wp_region_noPanic ?_
  refine wp_region_held_drew (S := (fun Z => Two X Z (w.heap.size + 1) (w.heap.size + 2) d c ad cap)) (by kernel_rfl) (HT.out) (fun hS0 => ?_)
  generalize World.drew X = X0 at *
  refine held_take (i := 0) (v := ?_) rfl (by kernel_rfl) (by kernel_rfl) (by kernel_rfl) (fun _ _ _ h => h) (by rfl) ?_ (by assumption) ?_
  rotate_left
  · intro X hSX
    try dsimp only at hSX
    have s0 := HCN.out _ _ _ _ _ hSX
    go_simp <;> with_reducible rfl
  simp only [Act.put, List.setIfInBounds_toArray, List.set_cons_zero, List.set_cons_succ]
  refine held_take (i := 1) (v := ?_) rfl (by kernel_rfl) (by kernel_rfl) (by kernel_rfl) (fun _ _ _ h => h) (by rfl) ?_ (by assumption) ?_
  rotate_left
  · intro X hSX
    try dsimp only at hSX
    have s0 := HCN.out _ _ _ _ _ hSX
    go_simp <;> with_reducible rfl
  simp only [Act.put, List.setIfInBounds_toArray, List.set_cons_zero, List.set_cons_succ]
  refine held_take (i := 2) (v := ?_) rfl (by kernel_rfl) (by kernel_rfl) (by kernel_rfl) (fun _ _ _ h => h) (by rfl) ?_ (by assumption) ?_
  rotate_left
  · intro X hSX
    try dsimp only at hSX
    have s0 := HCN.out _ _ _ _ _ hSX
    go_simp <;> with_reducible rfl
  simp only [Act.put, List.setIfInBounds_toArray, List.set_cons_zero, List.set_cons_succ]
  refine held_take (i := 3) (v := ?_) rfl (by kernel_rfl) (by kernel_rfl) (by kernel_rfl) (fun _ _ _ h => h) (by rfl) ?_ (by assumption) ?_
  rotate_left
  · intro X hSX
    try dsimp only at hSX
    have s0 := HCN.out _ _ _ _ _ hSX
    go_simp <;> with_reducible rfl
  simp only [Act.put, List.setIfInBounds_toArray, List.set_cons_zero, List.set_cons_succ]
  refine held_take (i := 4) (v := ?_) rfl (by kernel_rfl) (by kernel_rfl) (by kernel_rfl) (fun _ _ _ h => h) (by rfl) ?_ (by assumption) ?_
  rotate_left
  · intro X hSX
    try dsimp only at hSX
    have s0 := HCN.out _ _ _ _ _ hSX
    go_simp <;> with_reducible rfl
  simp only [Act.put, List.setIfInBounds_toArray, List.set_cons_zero, List.set_cons_succ]
  refine held_take (i := 9) (v := ?_) rfl (by kernel_rfl) (by kernel_rfl) (by kernel_rfl) (fun _ _ _ h => h) (by rfl) ?_ (by assumption) ?_
  rotate_left
  · intro X hSX
    try dsimp only at hSX
    have s0 := HCN.out _ _ _ _ _ hSX
    go_simp <;> with_reducible rfl
  simp only [Act.put, List.setIfInBounds_toArray, List.set_cons_zero, List.set_cons_succ]
  refine held_take (i := 5) (v := ?_) rfl (by kernel_rfl) (by kernel_rfl) (by kernel_rfl) (fun _ _ _ h => h) (by rfl) ?_ (by assumption) ?_
  rotate_left
  · intro X hSX
    try dsimp only at hSX
    go_simp <;> with_reducible rfl
  simp only [Act.put, List.setIfInBounds_toArray, List.set_cons_zero, List.set_cons_succ]
  refine held_take (i := 6) (v := ?_) rfl (by kernel_rfl) (by kernel_rfl) (by kernel_rfl) (fun _ _ _ h => h) (by rfl) ?_ (by assumption) ?_
  rotate_left
  · intro X hSX
    try dsimp only at hSX
    go_simp <;> with_reducible rfl
  simp only [Act.put, List.setIfInBounds_toArray, List.set_cons_zero, List.set_cons_succ]
  refine held_take (i := 10) (v := ?_) rfl (by kernel_rfl) (by kernel_rfl) (by kernel_rfl) (fun _ _ _ h => h) (by rfl) ?_ (by assumption) ?_
  rotate_left
  · intro X hSX
    try dsimp only at hSX
    go_simp <;> with_reducible rfl
  simp only [Act.put, List.setIfInBounds_toArray, List.set_cons_zero, List.set_cons_succ]
  refine held_take (i := 11) (v := ?_) rfl (by kernel_rfl) (by kernel_rfl) (by kernel_rfl) (fun _ _ _ h => h) (by rfl) ?_ (by assumption) ?_
  rotate_left
  · intro X hSX
    try dsimp only at hSX
    go_simp <;> with_reducible rfl
  simp only [Act.put, List.setIfInBounds_toArray, List.set_cons_zero, List.set_cons_succ]
  refine held_take (i := 7) (v := ?_) rfl (by kernel_rfl) (by kernel_rfl) (by kernel_rfl) (fun _ _ _ h => h) (by rfl) ?_ (by assumption) ?_
  rotate_left
  · intro X hSX
    try dsimp only at hSX
    obtain ⟨_, d0, d1, d2, d3, d4, d5⟩ := hSX.dat
    obtain ⟨_, k0, k1, k2, k3, k4, k5, k6, k7, k8, k9, k10, k11, k12⟩ := hSX.cat
    go_simp <;> with_reducible rfl
  simp only [Act.put, List.setIfInBounds_toArray, List.set_cons_zero, List.set_cons_succ]
  refine held_take (i := 8) (v := ?_) rfl (by kernel_rfl) (by kernel_rfl) (by kernel_rfl) (fun _ _ _ h => h) (by rfl) ?_ (by assumption) ?_
  rotate_left
  · intro X hSX
    try dsimp only at hSX
    obtain ⟨_, d0, d1, d2, d3, d4, d5⟩ := hSX.dat
    obtain ⟨_, k0, k1, k2, k3, k4, k5, k6, k7, k8, k9, k10, k11, k12⟩ := hSX.cat
    go_simp <;> with_reducible rfl
  simp only [Act.put, List.setIfInBounds_toArray, List.set_cons_zero, List.set_cons_succ]
  refine held_take (i := 12) (v := ?_) rfl (by kernel_rfl) (by kernel_rfl) (by kernel_rfl) (fun _ _ _ h => h) (by rfl) ?_ (by assumption) ?_
  rotate_left
  · intro X hSX
    try dsimp only at hSX
    obtain ⟨_, d0, d1, d2, d3, d4, d5⟩ := hSX.dat
    obtain ⟨_, k0, k1, k2, k3, k4, k5, k6, k7, k8, k9, k10, k11, k12⟩ := hSX.cat
    go_simp <;> with_reducible rfl
  simp only [Act.put, List.setIfInBounds_toArray, List.set_cons_zero, List.set_cons_succ]
  refine held_take (i := 13) (v := ?_) rfl (by kernel_rfl) (by kernel_rfl) (by kernel_rfl) (fun _ _ _ h => h) (by rfl) ?_ (by assumption) ?_
  rotate_left
  · intro X hSX
    try dsimp only at hSX
    obtain ⟨_, d0, d1, d2, d3, d4, d5⟩ := hSX.dat
    obtain ⟨_, k0, k1, k2, k3, k4, k5, k6, k7, k8, k9, k10, k11, k12⟩ := hSX.cat
    go_simp <;> with_reducible rfl
  simp only [Act.put, List.setIfInBounds_toArray, List.set_cons_zero, List.set_cons_succ]
  refine held_take (i := 14) (v := ?_) rfl (by kernel_rfl) (by kernel_rfl) (by kernel_rfl) (fun _ _ _ h => h) (by rfl) ?_ (by assumption) ?_
  rotate_left
  · intro X hSX
    try dsimp only at hSX
    obtain ⟨_, d0, d1, d2, d3, d4, d5⟩ := hSX.dat
    obtain ⟨_, k0, k1, k2, k3, k4, k5, k6, k7, k8, k9, k10, k11, k12⟩ := hSX.cat
    go_simp <;> with_reducible rfl
  simp only [Act.put, List.setIfInBounds_toArray, List.set_cons_zero, List.set_cons_succ]
  refine held_take (i := 15) (v := ?_) rfl (by kernel_rfl) (by kernel_rfl) (by kernel_rfl) (fun _ _ _ h => h) (by rfl) ?_ (by assumption) ?_
  rotate_left
  · intro X hSX
    try dsimp only at hSX
    obtain ⟨_, d0, d1, d2, d3, d4, d5⟩ := hSX.dat
    obtain ⟨_, k0, k1, k2, k3, k4, k5, k6, k7, k8, k9, k10, k11, k12⟩ := hSX.cat
    go_simp <;> with_reducible rfl
  simp only [Act.put, List.setIfInBounds_toArray, List.set_cons_zero, List.set_cons_succ]
  refine wpAnyH_done (by kernel_rfl) ?_ _
  refine NoPanic.normal ?_
  clear hS0
  go_wp2_with fail
  replace HT := Lib.hid (HT.out.next (Below.refl X0.heap.size X0).drew)
  replace HB0 := Lib.hid HB0.out.drew
  refine wp_region_noPanic ?_
  refine wp_region_held_drew (S := (fun Z => CrAt Z (w.heap.size + 2) c.bc c.W c.L c.S c.T c.J c.R c.wo c.lk ad c.l.length cap c.ep c.lo c.pa ∧ Z.cell? ⟨w.heap.size + 1, 2, none⟩ = some (.int .i64 d.hd) ∧ Z.cell? ⟨gn, 0, none⟩ = some (.int .i64 n))) (by kernel_rfl) (⟨HT.out.cat, (by obtain ⟨_, d0, d1, d2, d3, d4, d5⟩ := HT.out.dat; exact d2), HCN.out _ _ _ _ _ HT.out⟩) (fun hS0 => ?_)
  generalize World.drew X0 = X2 at *
  refine held_take (i := 0) (v := ?_) rfl (by kernel_rfl) (by kernel_rfl) (by kernel_rfl) (fun _ _ _ h => h) (by rfl) ?_ (by assumption) ?_
  rotate_left
  · intro X hSX
    try dsimp only at hSX
    go_simp <;> with_reducible rfl
  simp only [Act.put, List.setIfInBounds_toArray, List.set_cons_zero, List.set_cons_succ]
  refine held_take (i := 3) (v := ?_) rfl (by kernel_rfl) (by kernel_rfl) (by kernel_rfl) (fun _ _ _ h => h) (by rfl) ?_ (by assumption) ?_
  rotate_left
  · intro X hSX
    try dsimp only at hSX
    go_simp <;> with_reducible rfl
  simp only [Act.put, List.setIfInBounds_toArray, List.set_cons_zero, List.set_cons_succ]
  refine held_take (i := 1) (v := ?_) rfl (by kernel_rfl) (by kernel_rfl) (by kernel_rfl) (fun _ _ _ h => h) (by rfl) ?_ (by assumption) ?_
  rotate_left
  · intro X hSX
    try dsimp only at hSX
    go_simp <;> with_reducible rfl
  simp only [Act.put, List.setIfInBounds_toArray, List.set_cons_zero, List.set_cons_succ]
  refine held_take (i := 4) (v := ?_) rfl (by kernel_rfl) (by kernel_rfl) (by kernel_rfl) (fun _ _ _ h => h) (by rfl) ?_ (by assumption) ?_
  rotate_left
  · intro X hSX
    try dsimp only at hSX
    go_simp <;> with_reducible rfl
  simp only [Act.put, List.setIfInBounds_toArray, List.set_cons_zero, List.set_cons_succ]
  refine held_take (i := 5) (v := ?_) rfl (by kernel_rfl) (by kernel_rfl) (by kernel_rfl) (fun _ _ _ h => h) (by rfl) ?_ (by assumption) ?_
  rotate_left
  · intro X hSX
    try dsimp only at hSX
    go_simp <;> with_reducible rfl
  simp only [Act.put, List.setIfInBounds_toArray, List.set_cons_zero, List.set_cons_succ]
  refine held_take (i := 2) (v := ?_) rfl (by kernel_rfl) (by kernel_rfl) (by kernel_rfl) (fun _ _ _ h => h) (by rfl) ?_ (by assumption) ?_
  rotate_left
  · intro X hSX
    try dsimp only at hSX
    obtain ⟨⟨_, k0, k1, k2, k3, k4, k5, k6, k7, k8, k9, k10, k11, k12⟩, -, -⟩ := hSX
    go_simp <;> with_reducible rfl
  simp only [Act.put, List.setIfInBounds_toArray, List.set_cons_zero, List.set_cons_succ]
  refine held_take (i := 6) (v := ?_) rfl (by kernel_rfl) (by kernel_rfl) (by kernel_rfl) (fun _ _ _ h => h) (by rfl) ?_ (by assumption) ?_
  rotate_left
  · intro X hSX
    try dsimp only at hSX
    obtain ⟨-, d2, s0⟩ := hSX
    go_simp <;> with_reducible rfl
  simp only [Act.put, List.setIfInBounds_toArray, List.set_cons_zero, List.set_cons_succ]
  refine held_take (i := 7) (v := ?_) rfl (by kernel_rfl) (by kernel_rfl) (by kernel_rfl) (fun _ _ _ h => h) (by rfl) ?_ (by assumption) ?_
  rotate_left
  · intro X hSX
    try dsimp only at hSX
    obtain ⟨-, d2, s0⟩ := hSX
    go_simp <;> with_reducible rfl
  simp only [Act.put, List.setIfInBounds_toArray, List.set_cons_zero, List.set_cons_succ]
  refine held_take (i := 8) (v := ?_) rfl (by kernel_rfl) (by kernel_rfl) (by kernel_rfl) (fun _ _ _ h => h) (by rfl) ?_ (by assumption) ?_
  rotate_left
  · intro X hSX
    try dsimp only at hSX
    obtain ⟨-, d2, s0⟩ := hSX
    go_simp <;> with_reducible rfl
  simp only [Act.put, List.setIfInBounds_toArray, List.set_cons_zero, List.set_cons_succ]
  refine held_call (i := 9) rfl (by kernel_rfl) (by rfl) (fun K' hK' => ?_)
  go_simp
  refine (HRR.out X2 HT.out).mono ?_
  rintro e' X3 ⟨v, rfl, hk, hb⟩
  obtain ⟨zd, zc, rfl, -, hz1, hz2, hz3, -⟩ := hk.read
  have HKF := Lib.hid hk.fr
  have HX2 := Lib.hid HB0.out.size
  replace HT := Lib.hid (HT.out.next hb)
  replace HB0 := Lib.hid (HB0.out.trans (hb.mono HB0.out.size))
  refine held_go hK' (⟨HT.out.cat, (by obtain ⟨_, d0, d1, d2, d3, d4, d5⟩ := HT.out.dat; exact d2), HCN.out _ _ _ _ _ HT.out⟩) ?_
  try simp only [Act.put, List.setIfInBounds_toArray, List.set_cons_zero, List.set_cons_succ]
  clear hb hk hS0
  have hS0 : CrAt X3 (w.heap.size + 2) c.bc c.W c.L c.S c.T c.J c.R c.wo c.lk ad c.l.length cap c.ep c.lo c.pa ∧ X3.cell? ⟨w.heap.size + 1, 2, none⟩ = some (.int .i64 d.hd) ∧ X3.cell? ⟨gn, 0, none⟩ = some (.int .i64 n) := ⟨HT.out.cat, (by obtain ⟨_, d0, d1, d2, d3, d4, d5⟩ := HT.out.dat; exact d2), HCN.out _ _ _ _ _ HT.out⟩
  refine held_take (i := 10) (v := ?_) rfl (by kernel_rfl) (by kernel_rfl) (by kernel_rfl) (fun _ _ _ h => h) (by rfl) ?_ (by assumption) ?_
  rotate_left
  · intro X hSX
    try dsimp only at hSX
    go_simp <;> with_reducible rfl
  simp only [Act.put, List.setIfInBounds_toArray, List.set_cons_zero, List.set_cons_succ]
  refine held_take (i := 11) (v := ?_) rfl (by kernel_rfl) (by kernel_rfl) (by kernel_rfl) (fun _ _ _ h => h) (by rfl) ?_ (by assumption) ?_
  rotate_left
  · intro X hSX
    try dsimp only at hSX
    go_simp <;> with_reducible rfl
  simp only [Act.put, List.setIfInBounds_toArray, List.set_cons_zero, List.set_cons_succ]
  refine held_take (i := 12) (v := ?_) rfl (by kernel_rfl) (by kernel_rfl) (by kernel_rfl) (fun _ _ _ h => h) (by rfl) ?_ (by assumption) ?_
  rotate_left
  · intro X hSX
    try dsimp only at hSX
    go_simp <;> with_reducible rfl
  simp only [Act.put, List.setIfInBounds_toArray, List.set_cons_zero, List.set_cons_succ]
  have HRB3 := Lib.hid (HRB.out _ _ _ _ _ HT.out)
  have HRE3 := Lib.hid (HRE.out _ _ _ _ _ HT.out)
  have HO3 := Lib.hid (fun k (h : k < X.heap.size) (h1 : k ≠ w.heap.size + 1) (h2 : k ≠ w.heap.size + 2) => HT.out.o k h h1 h2)
  have b0 := cell_of_one HRB3.out
  have fb := free_of_one HRB3.out
  refine held_call (i := 13) rfl (by kernel_rfl) (by rfl) (fun K' hK' => ?_)
  go_simp
  have HG1 := Lib.hid (show (X3.setCell ⟨gb, 0, none⟩ (.slice zd q1.length zc)).heap[gb]? = some (.cells #[.slice zd q1.length zc] 28 (0, 0)) from heap_set_b X3 gb 0 _ _ _ _ HRB3.out)
  have HO1 : Hid (∀ k, k ≠ gb → (X3.setCell ⟨gb, 0, none⟩ (.slice zd q1.length zc)).heap[k]? = X3.heap[k]?) := Lib.hid (fun k h => Below.heap_setCell _ _ _ _ h)
  have HS1 := Lib.hid (show (X3.setCell ⟨gb, 0, none⟩ (.slice zd q1.length zc)).heap.size = X3.heap.size by simp [World.setCell])
  have HBL := Lib.hid ((HB0.out.mono (show w0.heap.size ≤ X.heap.size by have h1 := HG.out.2.2.1; have h2 := HXS.out; omega)).setCell (p := ⟨gb, 0, none⟩) HG.out.2.2.2.1 (.slice zd q1.length zc))
  have HD1 := Lib.hid (show (X3.setCell ⟨gb, 0, none⟩ (.slice zd q1.length zc)).heap[w.heap.size + 1]? = some (.cells (drK d) 25 (0, 0)) from (HO1.out _ (by have := HG.out.1.2.1; omega)).trans HT.out.d)
  have HC1 := Lib.hid (show (X3.setCell ⟨gb, 0, none⟩ (.slice zd q1.length zc)).heap[w.heap.size + 2]? = some (.cells (crQ c ad cap) 30 (0, 0)) from (HO1.out _ (by have := HG.out.1.2.1; omega)).trans HT.out.c)
  have HN1 : Hid ((X3.setCell ⟨gb, 0, none⟩ (.slice zd q1.length zc)).cell? ⟨gn, 0, none⟩ = some (.int .i64 n)) := Lib.hid ((World.cell?_of_block (a := ⟨gn, 0, none⟩) (HO1.out gn HG.out.2.1.1)).trans (HCN.out _ _ _ _ _ HT.out))
  refine held_go hK' (⟨CrAt.of HC1.out, (by obtain ⟨_, d0, d1, d2, d3, d4, d5⟩ := DrAt.of HD1.out; exact d2), HN1.out⟩) ?_
  try simp only [Act.put, List.setIfInBounds_toArray, List.set_cons_zero, List.set_cons_succ]
  have HRE4 := Lib.hid (show (X3.setCell ⟨gb, 0, none⟩ (.slice zd q1.length zc)).heap[ge]? = some (.cells #[.int .i64 0] 37 (0, 0)) from (HO1.out ge (Ne.symm HG.out.2.1.2.2)).trans HRE3.out)
  generalize World.setCell X3 _ _ = X4 at *
  clear hS0 b0 fb
  have hS0 : CrAt X4 (w.heap.size + 2) c.bc c.W c.L c.S c.T c.J c.R c.wo c.lk ad c.l.length cap c.ep c.lo c.pa ∧ X4.cell? ⟨w.heap.size + 1, 2, none⟩ = some (.int .i64 d.hd) ∧ X4.cell? ⟨gn, 0, none⟩ = some (.int .i64 n) := ⟨CrAt.of HC1.out, (by obtain ⟨_, d0, d1, d2, d3, d4, d5⟩ := DrAt.of HD1.out; exact d2), HN1.out⟩
  have b0 := cell_of_one HRE4.out
  have fb := free_of_one HRE4.out
  refine held_call (i := 14) rfl (by kernel_rfl) (by rfl) (fun K' hK' => ?_)
  go_simp
  have HG2 := Lib.hid (show (X4.setCell ⟨ge, 0, none⟩ (.int .i64 q2)).heap[gb]? = some (.cells #[.slice zd q1.length zc] 28 (0, 0)) from (Below.heap_setCell _ _ _ _ HG.out.2.1.2.2).trans HG1.out)
  have HE2 := Lib.hid (show (X4.setCell ⟨ge, 0, none⟩ (.int .i64 q2)).heap[ge]? = some (.cells #[.int .i64 q2] 37 (0, 0)) from heap_set_b X4 ge 0 _ _ _ _ HRE4.out)
  have HO2 : Hid (∀ k, k ≠ gb → k ≠ ge → (X4.setCell ⟨ge, 0, none⟩ (.int .i64 q2)).heap[k]? = X3.heap[k]?) := Lib.hid (fun k h h2 => (Below.heap_setCell _ _ _ _ h2).trans (HO1.out k h))
  have HS2 := Lib.hid (show (X4.setCell ⟨ge, 0, none⟩ (.int .i64 q2)).heap.size = X3.heap.size by rw [← HS1.out]; simp [World.setCell])
  replace HBL := Lib.hid (HBL.out.setCell (p := ⟨ge, 0, none⟩) HG.out.2.2.2.2 (.int .i64 q2))
  have HD2 := Lib.hid (show (X4.setCell ⟨ge, 0, none⟩ (.int .i64 q2)).heap[w.heap.size + 1]? = some (.cells (drK d) 25 (0, 0)) from (Below.heap_setCell _ _ _ _ (show w.heap.size + 1 ≠ ge by have := HG.out.1.2.2; omega)).trans HD1.out)
  have HC2 := Lib.hid (show (X4.setCell ⟨ge, 0, none⟩ (.int .i64 q2)).heap[w.heap.size + 2]? = some (.cells (crQ c ad cap) 30 (0, 0)) from (Below.heap_setCell _ _ _ _ (show w.heap.size + 2 ≠ ge by have := HG.out.1.2.2; omega)).trans HC1.out)
  have HN2 : Hid ((X4.setCell ⟨ge, 0, none⟩ (.int .i64 q2)).cell? ⟨gn, 0, none⟩ = some (.int .i64 n)) := Lib.hid ((World.cell?_of_block (a := ⟨gn, 0, none⟩) (Below.heap_setCell _ _ _ _ (show gn ≠ ge from HG.out.2.1.2.1))).trans HN1.out)
  refine held_go hK' (⟨CrAt.of HC2.out, (by obtain ⟨_, d0, d1, d2, d3, d4, d5⟩ := DrAt.of HD2.out; exact d2), HN2.out⟩) ?_
  try simp only [Act.put, List.setIfInBounds_toArray, List.set_cons_zero, List.set_cons_succ]
  generalize World.setCell X4 _ _ = Z at *
  clear hS0 b0 fb HG1 HO1 HS1 HD1 HC1 HN1 HRE4 HN2
  refine wpAnyH_done (by kernel_rfl) ?_ _
  refine NoPanic.normal ?_
  have b0 := cell_of_one HG2.out
  have hkl := HRL.out
  go_wp2_with fail
  refine (dstream_any (w.heap.size + 1) (w.heap.size + 2) d c ad cap q1.length Z HD2.out HC2.out (by omega) h1 h2 h3 (by omega) ⟨a0, a1⟩).mono ?_
  rintro e' X7 ⟨rfl, ht⟩
  have HT4 := Lib.hid ht
  clear ht b0 hkl
  go_wp2
  go_ret2
  rw [HF.out, HQ.out]
  have hz : ∀ k, k < X3.heap.size → k ≠ w.heap.size + 1 → k ≠ w.heap.size + 2 → k ≠ gb → k ≠ ge → X7.heap[k]? = X3.heap[k]? := fun k hk h1 h2 h3 h4 => (HT4.out.o k (by rw [HS2.out]; exact hk) h1 h2).trans (HO2.out k h3 h4)
  obtain ⟨⟨g1, g2, g3⟩, ⟨g4, g5, g6⟩, g7, g8, g9⟩ := HG.out
  have hxs := HXS.out
  have hx3 := HB0.out.size
  have hzz := HT4.out.b.size
  have hs2 := HS2.out
  refine ⟨rfl, fun _ => ⟨ad, cap, HT4.out.d, HT4.out.c, mvC_in ⟨HI0.out.ki.hp (fun k hk => ?_) (by omega), HI0.out.le, HI0.out.mx, HI0.out.nn, HI0.out.bs⟩⟩, ?_, ?_, ?_, ?_⟩
  · exact (hz k (by omega) (by omega) (by omega) (by omega) (by omega)).trans ((HB0.out.block k (by omega)).trans ((HX.out.b.block k (by omega)).trans (HW0.out.block k hk)))
  · exact (hz _ (by omega) (by omega) (by omega) (by omega) (by omega)).trans ((HB0.out.block _ (by omega)).trans (HX.out.at_ 3 _ rfl))
  · exact (hz _ (by omega) (by omega) (by omega) (by omega) (by omega)).trans ((HB0.out.block _ (by omega)).trans (HX.out.at_ 4 _ rfl))
  · exact HBL.out.trans ⟨HT4.out.b.os, HT4.out.b.tape, HT4.out.b.output, HT4.out.b.size, fun k hk => HT4.out.o k (by omega) (by omega) (by omega)⟩
  · have hx2 := HX2.out
    exact ⟨fun k hk a1 a2 => (hz k (by omega) (by omega) (by omega) a1 a2).trans ((HB0.out.block k (by omega)).trans (HX.out.b.block k hk)), zd, q1.length, zc, (HT4.out.o gb (by omega) (by omega) (by omega)).trans HG2.out, (HT4.out.o ge (by omega) (by omega) (by omega)).trans HE2.out, rfl, HKF.out.st (fun k hk hk2 => hz k hk2 (by omega) (by omega) (by omega) (by omega)) (by omega) (by omega), hz1, hz2, hz3⟩
end Go.Proofs.Ytepmmlnopdjjdaa
