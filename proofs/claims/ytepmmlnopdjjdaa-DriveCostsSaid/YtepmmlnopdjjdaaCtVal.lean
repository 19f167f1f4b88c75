/-
  Valid of the specification's cartridge.
-/
import Derived.Test.YtepmmlnopdjjdaaQSmall
namespace Go.Proofs.Ytepmmlnopdjjdaa
open Go.RowKit
set_option linter.unusedVariables false
/-- the cartridge lies in block g, its blocks at ad -/
structure CrAt (w : World) (g : Nat) (bc : ByteArray) (W L S T J R : Int) (wo lk : Bool) (ad : Option Addr) (n cap : Nat) (ep lo pa : Int) : Prop where
  lt : g < w.heap.size
  c0 : w.cell? ⟨g, 0, none⟩ = some (.string bc)
  c1 : w.cell? ⟨g, 1, none⟩ = some (.int .i64 W)
  c2 : w.cell? ⟨g, 2, none⟩ = some (.int .i64 L)
  c3 : w.cell? ⟨g, 3, none⟩ = some (.int .i64 S)
  c4 : w.cell? ⟨g, 4, none⟩ = some (.int .i64 T)
  c5 : w.cell? ⟨g, 5, none⟩ = some (.int .i64 J)
  c6 : w.cell? ⟨g, 6, none⟩ = some (.int .i64 R)
  c7 : w.cell? ⟨g, 7, none⟩ = some (.bool wo)
  c8 : w.cell? ⟨g, 8, none⟩ = some (.bool lk)
  c9 : w.cell? ⟨g, 9, none⟩ = some (.slice ad n cap)
  c10 : w.cell? ⟨g, 10, none⟩ = some (.int .i64 ep)
  c11 : w.cell? ⟨g, 11, none⟩ = some (.int .i64 lo)
  c12 : w.cell? ⟨g, 12, none⟩ = some (.int .i64 pa)
theorem CrAt.below {W' w : World} {B g : Nat} {bc : ByteArray} {W L S T J R : Int} {wo lk : Bool} {ad : Option Addr} {n cap : Nat} {ep lo pa : Int} (h : CrAt W' g bc W L S T J R wo lk ad n cap ep lo pa) (hb : Below B W' w) (hB : g < B) : CrAt w g bc W L S T J R wo lk ad n cap ep lo pa :=
  ⟨Nat.lt_of_lt_of_le h.lt hb.size, (hb.cell hB).trans h.c0, (hb.cell hB).trans h.c1, (hb.cell hB).trans h.c2, (hb.cell hB).trans h.c3, (hb.cell hB).trans h.c4, (hb.cell hB).trans h.c5, (hb.cell hB).trans h.c6, (hb.cell hB).trans h.c7, (hb.cell hB).trans h.c8, (hb.cell hB).trans h.c9, (hb.cell hB).trans h.c10, (hb.cell hB).trans h.c11, (hb.cell hB).trans h.c12⟩
theorem CrAt.new (w : World) (bc : ByteArray) (W L S T J R : Int) (wo lk : Bool) (ad : Option Addr) (n cap : Nat) (ep lo pa : Int) (t : TypeId) : CrAt (w.alloc (.cells #[.string bc, .int .i64 W, .int .i64 L, .int .i64 S, .int .i64 T, .int .i64 J, .int .i64 R, .bool wo, .bool lk, .slice ad n cap, .int .i64 ep, .int .i64 lo, .int .i64 pa] t)) w.heap.size bc W L S T J R wo lk ad n cap ep lo pa := by
  refine ⟨by simp, ?_, ?_, ?_, ?_, ?_, ?_, ?_, ?_, ?_, ?_, ?_, ?_, ?_⟩ <;> (rw [World.cell?_alloc_mark]; rfl)
theorem CrAt.alloc {w : World} {g : Nat} {bc : ByteArray} {W L S T J R : Int} {wo lk : Bool} {ad : Option Addr} {n cap : Nat} {ep lo pa : Int} (h : CrAt w g bc W L S T J R wo lk ad n cap ep lo pa) (o : Obj) : CrAt (w.alloc o) g bc W L S T J R wo lk ad n cap ep lo pa := h.below (below_box1 w o) h.lt
/-- the cells of a cartridge, as a value and as a box -/
abbrev crW (bc : ByteArray) (W L S T J R : Int) (wo lk : Bool) (ad : Option Addr) (n cap : Nat) (ep lo pa : Int) : Value := .agg #[.string bc, .int .i64 W, .int .i64 L, .int .i64 S, .int .i64 T, .int .i64 J, .int .i64 R, .bool wo, .bool lk, .slice ad n cap, .int .i64 ep, .int .i64 lo, .int .i64 pa]
abbrev boxK (bc : ByteArray) (W L S T J R : Int) (wo lk : Bool) (ad : Option Addr) (n cap : Nat) (ep lo pa : Int) : Obj := .cells #[.string bc, .int .i64 W, .int .i64 L, .int .i64 S, .int .i64 T, .int .i64 J, .int .i64 R, .bool wo, .bool lk, .slice ad n cap, .int .i64 ep, .int .i64 lo, .int .i64 pa] 30
/-- the value of a cartridge whose blocks lie at ad -/
abbrev crV (c : Crt) (ad : Option Addr) (cap : Nat) : Value := crW c.bc c.W c.L c.S c.T c.J c.R c.wo c.lk ad c.l.length cap c.ep c.lo c.pa
/-- all blocks are valid -/
def allB (l : List Blk) : Bool := l.all fun b => okB b.m b.d.length
noncomputable def vldC (c : Crt) : Bool := bar c.bc && (vld c.W c.L c.S c.T c.J c.R && (decide ((c.l.length : Int) ≤ capU c.W c.L c.S c.T c.J c.R) && (allB c.l && (cnt c.ep && (cnt c.lo && cnt c.pa)))))
/-- a cartridge that is passed: its blocks lie -/
structure CrIn (w : World) (c : Crt) (ad : Option Addr) (cap : Nat) : Prop where
  ki : Ki w ad c.l
  le : c.l.length ≤ cap
  mx : cap ≤ maxLen
  nn : ad = none → cap = 0
  bs : c.bc.size ≤ maxLen
theorem CrIn.below {w w' : World} {c : Crt} {ad : Option Addr} {cap : Nat} (h : CrIn w c ad cap) (hb : Below w.heap.size w w') : CrIn w' c ad cap := ⟨h.ki.below hb, h.le, h.mx, h.nn, h.bs⟩
theorem vldC_eq (bc : ByteArray) (W L S T J R : Int) (wo lk : Bool) (l : List Blk) (ep lo pa : Int) : vldC ⟨bc, W, L, S, T, J, R, wo, lk, l, ep, lo, pa⟩ = (bar bc && (vld W L S T J R && (decide ((l.length : Int) ≤ capU W L S T J R) && (allB l && (cnt ep && (cnt lo && cnt pa)))))) := rfl
theorem allB_yes {l : List Blk} (h : ∀ i (h : i < l.length), okB l[i].m l[i].d.length = true) : allB l = true := by
  unfold allB
  rw [List.all_eq_true]
  intro x hx
  obtain ⟨j, hj, rfl⟩ := List.getElem_of_mem hx
  exact h j hj
theorem allB_no {l : List Blk} {i : Nat} (h : i < l.length) (h2 : okB l[i].m l[i].d.length = false) : allB l = false := by
  unfold allB
  rw [List.all_eq_false]
  exact ⟨l[i], List.getElem_mem h, by rw [h2]; simp⟩
attribute [local irreducible] tim vld bar cnt okB capU allB vldC
set_option maxRecDepth 100000 in
set_option maxHeartbeats 4000000 in
theorem rvalc_any (c : Crt) (ad : Option Addr) (cap : Nat) (w : World) (hin : CrIn w c ad cap) :
    Calls Try.prog 55 #[crV c ad cap] w fun e w' => e = .returned (.bool (vldC c)) ∧ Below w.heap.size w w' := by
  obtain ⟨bc, W, L, S, T, J, R, wo, lk, l, ep, lo, pa⟩ := c
  obtain ⟨M, hM⟩ : ∃ M, M = l.length := ⟨_, rfl⟩
  have HV := Lib.hid (vldC_eq bc W L S T J R wo lk l ep lo pa)
  have HI := Lib.hid hin.ki
  have hbs := hin.bs
  have hlm : l.length ≤ 9223372036854775807 := Nat.le_trans hin.le hin.mx
  clear hin
  simp only at hbs HI
  show Calls Try.prog 55 #[crW bc W L S T J R wo lk ad l.length cap ep lo pa] w _
  rw [← hM] at hlm HV ⊢
  have HM := Lib.hid hM
  clear hM
  have HB0 := Lib.hid (below_box1 w (boxK bc W L S T J R wo lk ad M cap ep lo pa))
  have HC := Lib.hid (CrAt.new w bc W L S T J R wo lk ad M cap ep lo pa 30)
  replace HI := Lib.hid (HI.out.below HB0.out)
  have hcu : 0 ≤ capU W L S T J R ∧ capU W L S T J R ≤ 4096 := by
    unfold capU
    split
    · rename_i hv
      have v := vld_iff.1 hv
      have := cap_pos v.w0 v.l0; have := v.l0; have := v.c1
      omega
    · omega
  obtain ⟨c0, c1⟩ := hcu
  cases hbar : bar bc
  · rw [hbar] at HV
    have HBR := Lib.hid hbar
    clear hbar
    go_enter Try.func55, Try.ntmps55
    go_wp2_with fail
    generalize World.alloc _ _ = X0 at *
    have HBX := Lib.hid (Below.refl X0.heap.size X0).drew
    refine wp_region_noPanic ?_
    refine wp_region_held_drew (S := fun X => Below X0.heap.size X0 X) (by kernel_rfl) (HBX.out) (fun hS0 => ?_)
    refine held_take (i := 0) (v := ?_) rfl (by kernel_rfl) (by kernel_rfl) (by kernel_rfl) (fun _ _ _ h => h) (by rfl) ?_ (by assumption) ?_
    rotate_left
    · intro X hSX
      try dsimp only at hSX
      go_simp <;> with_reducible rfl
    simp only [Act.put, List.setIfInBounds_toArray, List.set_cons_zero, List.set_cons_succ]
    refine held_take (i := 1) (v := ?_) rfl (by kernel_rfl) (by kernel_rfl) (by kernel_rfl) (fun _ _ _ h => h) (by rfl) ?_ (by assumption) ?_
    rotate_left
    · intro X hSX
      try dsimp only at hSX
      obtain ⟨_, k0, k1, k2, k3, k4, k5, k6, k7, k8, k9, k10, k11, k12⟩ := HC.out.below hSX HC.out.lt
      go_simp <;> with_reducible rfl
    simp only [Act.put, List.setIfInBounds_toArray, List.set_cons_zero, List.set_cons_succ]
    refine held_call (i := 2) rfl (by kernel_rfl) (by rfl) (fun K' hK' => ?_)
    go_simp
    refine (rbar_any bc _ hbs).mono ?_
    rw [HBR.out]
    rintro e w2 ⟨rfl, rfl⟩
    refine held_go hK' (HBX.out) ?_
    try simp only [Act.put, List.setIfInBounds_toArray, List.set_cons_zero, List.set_cons_succ]
    refine held_take (i := 3) (v := ?_) rfl (by kernel_rfl) (by kernel_rfl) (by kernel_rfl) (fun _ _ _ h => h) (by rfl) ?_ (by assumption) ?_
    rotate_left
    · intro X hSX
      try dsimp only at hSX
      go_simp <;> with_reducible rfl
    simp only [Act.put, List.setIfInBounds_toArray, List.set_cons_zero, List.set_cons_succ]
    refine held_take (i := 4) (v := ?_) rfl (by kernel_rfl) (by kernel_rfl) (by kernel_rfl) (fun _ _ _ h => h) (by rfl) ?_ (by assumption) ?_
    rotate_left
    · intro X hSX
      try dsimp only at hSX
      go_simp <;> with_reducible rfl
    simp only [Act.put, List.setIfInBounds_toArray, List.set_cons_zero, List.set_cons_succ]
    refine held_skip (i := 5) rfl (by kernel_rfl) (by kernel_rfl) (by kernel_rfl) (fun _ _ _ h => h) (by rfl) (by assumption) ?_
    simp only [Act.put, List.setIfInBounds_toArray, List.set_cons_zero, List.set_cons_succ]
    refine held_skip (i := 6) rfl (by kernel_rfl) (by kernel_rfl) (by kernel_rfl) (fun _ _ _ h => h) (by rfl) (by assumption) ?_
    simp only [Act.put, List.setIfInBounds_toArray, List.set_cons_zero, List.set_cons_succ]
    refine held_skip (i := 7) rfl (by kernel_rfl) (by kernel_rfl) (by kernel_rfl) (fun _ _ _ h => h) (by rfl) (by assumption) ?_
    simp only [Act.put, List.setIfInBounds_toArray, List.set_cons_zero, List.set_cons_succ]
    refine held_skip (i := 8) rfl (by kernel_rfl) (by kernel_rfl) (by kernel_rfl) (fun _ _ _ h => h) (by rfl) (by assumption) ?_
    simp only [Act.put, List.setIfInBounds_toArray, List.set_cons_zero, List.set_cons_succ]
    refine held_take (i := 9) (v := ?_) rfl (by kernel_rfl) (by kernel_rfl) (by kernel_rfl) (fun _ _ _ h => h) (by rfl) ?_ (by assumption) ?_
    rotate_left
    · intro X hSX
      try dsimp only at hSX
      go_simp <;> with_reducible rfl
    simp only [Act.put, List.setIfInBounds_toArray, List.set_cons_zero, List.set_cons_succ]
    refine held_take (i := 10) (v := ?_) rfl (by kernel_rfl) (by kernel_rfl) (by kernel_rfl) (fun _ _ _ h => h) (by rfl) ?_ (by assumption) ?_
    rotate_left
    · intro X hSX
      try dsimp only at hSX
      go_simp <;> with_reducible rfl
    simp only [Act.put, List.setIfInBounds_toArray, List.set_cons_zero, List.set_cons_succ]
    refine held_skip (i := 11) rfl (by kernel_rfl) (by kernel_rfl) (by kernel_rfl) (fun _ _ _ h => h) (by rfl) (by assumption) ?_
    simp only [Act.put, List.setIfInBounds_toArray, List.set_cons_zero, List.set_cons_succ]
    refine held_skip (i := 12) rfl (by kernel_rfl) (by kernel_rfl) (by kernel_rfl) (fun _ _ _ h => h) (by rfl) (by assumption) ?_
    simp only [Act.put, List.setIfInBounds_toArray, List.set_cons_zero, List.set_cons_succ]
    refine held_skip (i := 13) rfl (by kernel_rfl) (by kernel_rfl) (by kernel_rfl) (fun _ _ _ h => h) (by rfl) (by assumption) ?_
    simp only [Act.put, List.setIfInBounds_toArray, List.set_cons_zero, List.set_cons_succ]
    refine held_skip (i := 14) rfl (by kernel_rfl) (by kernel_rfl) (by kernel_rfl) (fun _ _ _ h => h) (by rfl) (by assumption) ?_
    simp only [Act.put, List.setIfInBounds_toArray, List.set_cons_zero, List.set_cons_succ]
    refine held_skip (i := 15) rfl (by kernel_rfl) (by kernel_rfl) (by kernel_rfl) (fun _ _ _ h => h) (by rfl) (by assumption) ?_
    simp only [Act.put, List.setIfInBounds_toArray, List.set_cons_zero, List.set_cons_succ]
    refine held_skip (i := 16) rfl (by kernel_rfl) (by kernel_rfl) (by kernel_rfl) (fun _ _ _ h => h) (by rfl) (by assumption) ?_
    simp only [Act.put, List.setIfInBounds_toArray, List.set_cons_zero, List.set_cons_succ]
    refine held_skip (i := 17) rfl (by kernel_rfl) (by kernel_rfl) (by kernel_rfl) (fun _ _ _ h => h) (by rfl) (by assumption) ?_
    simp only [Act.put, List.setIfInBounds_toArray, List.set_cons_zero, List.set_cons_succ]
    refine held_take (i := 18) (v := ?_) rfl (by kernel_rfl) (by kernel_rfl) (by kernel_rfl) (fun _ _ _ h => h) (by rfl) ?_ (by assumption) ?_
    rotate_left
    · intro X hSX
      try dsimp only at hSX
      go_simp <;> with_reducible rfl
    simp only [Act.put, List.setIfInBounds_toArray, List.set_cons_zero, List.set_cons_succ]
    refine wpAnyH_done (by kernel_rfl) ?_ _
    refine NoPanic.normal ?_
    have HB1 := Lib.hid (HB0.out.trans (HBX.out.mono HB0.out.size))
    go_wp2
    go_ret
    exact ⟨by rw [HV.out]; rfl, HB1.out⟩
  rw [hbar] at HV
  have HBR := Lib.hid hbar
  clear hbar
  cases hvl : vld W L S T J R
  · rw [hvl] at HV
    have HVL := Lib.hid hvl
    clear hvl
    go_enter Try.func55, Try.ntmps55
    go_wp2_with fail
    generalize World.alloc _ _ = X0 at *
    have HBX := Lib.hid (Below.refl X0.heap.size X0).drew
    refine wp_region_noPanic ?_
    refine wp_region_held_drew (S := fun X => Below X0.heap.size X0 X) (by kernel_rfl) (HBX.out) (fun hS0 => ?_)
    refine held_take (i := 0) (v := ?_) rfl (by kernel_rfl) (by kernel_rfl) (by kernel_rfl) (fun _ _ _ h => h) (by rfl) ?_ (by assumption) ?_
    rotate_left
    · intro X hSX
      try dsimp only at hSX
      go_simp <;> with_reducible rfl
    simp only [Act.put, List.setIfInBounds_toArray, List.set_cons_zero, List.set_cons_succ]
    refine held_take (i := 1) (v := ?_) rfl (by kernel_rfl) (by kernel_rfl) (by kernel_rfl) (fun _ _ _ h => h) (by rfl) ?_ (by assumption) ?_
    rotate_left
    · intro X hSX
      try dsimp only at hSX
      obtain ⟨_, k0, k1, k2, k3, k4, k5, k6, k7, k8, k9, k10, k11, k12⟩ := HC.out.below hSX HC.out.lt
      go_simp <;> with_reducible rfl
    simp only [Act.put, List.setIfInBounds_toArray, List.set_cons_zero, List.set_cons_succ]
    refine held_call (i := 2) rfl (by kernel_rfl) (by rfl) (fun K' hK' => ?_)
    go_simp
    refine (rbar_any bc _ hbs).mono ?_
    rw [HBR.out]
    rintro e w2 ⟨rfl, rfl⟩
    refine held_go hK' (HBX.out) ?_
    try simp only [Act.put, List.setIfInBounds_toArray, List.set_cons_zero, List.set_cons_succ]
    refine held_take (i := 3) (v := ?_) rfl (by kernel_rfl) (by kernel_rfl) (by kernel_rfl) (fun _ _ _ h => h) (by rfl) ?_ (by assumption) ?_
    rotate_left
    · intro X hSX
      try dsimp only at hSX
      go_simp <;> with_reducible rfl
    simp only [Act.put, List.setIfInBounds_toArray, List.set_cons_zero, List.set_cons_succ]
    refine held_take (i := 4) (v := ?_) rfl (by kernel_rfl) (by kernel_rfl) (by kernel_rfl) (fun _ _ _ h => h) (by rfl) ?_ (by assumption) ?_
    rotate_left
    · intro X hSX
      try dsimp only at hSX
      go_simp <;> with_reducible rfl
    simp only [Act.put, List.setIfInBounds_toArray, List.set_cons_zero, List.set_cons_succ]
    refine held_take (i := 5) (v := ?_) rfl (by kernel_rfl) (by kernel_rfl) (by kernel_rfl) (fun _ _ _ h => h) (by rfl) ?_ (by assumption) ?_
    rotate_left
    · intro X hSX
      try dsimp only at hSX
      go_simp <;> with_reducible rfl
    simp only [Act.put, List.setIfInBounds_toArray, List.set_cons_zero, List.set_cons_succ]
    refine held_take (i := 6) (v := ?_) rfl (by kernel_rfl) (by kernel_rfl) (by kernel_rfl) (fun _ _ _ h => h) (by rfl) ?_ (by assumption) ?_
    rotate_left
    · intro X hSX
      try dsimp only at hSX
      obtain ⟨_, k0, k1, k2, k3, k4, k5, k6, k7, k8, k9, k10, k11, k12⟩ := HC.out.below hSX HC.out.lt
      go_simp <;> with_reducible rfl
    simp only [Act.put, List.setIfInBounds_toArray, List.set_cons_zero, List.set_cons_succ]
    refine held_call (i := 7) rfl (by kernel_rfl) (by rfl) (fun K' hK' => ?_)
    go_simp
    refine (rvalid_any W L S T J R _).mono ?_
    rw [HVL.out]
    rintro e w3 ⟨rfl, hb⟩
    replace HBX := Lib.hid (HBX.out.trans (hb.mono HBX.out.size))
    have hS3 := HBX.out
    clear hb
    refine held_go hK' (HBX.out) ?_
    try simp only [Act.put, List.setIfInBounds_toArray, List.set_cons_zero, List.set_cons_succ]
    refine held_take (i := 8) (v := ?_) rfl (by kernel_rfl) (by kernel_rfl) (by kernel_rfl) (fun _ _ _ h => h) (by rfl) ?_ (by assumption) ?_
    rotate_left
    · intro X hSX
      try dsimp only at hSX
      go_simp <;> with_reducible rfl
    simp only [Act.put, List.setIfInBounds_toArray, List.set_cons_zero, List.set_cons_succ]
    refine held_take (i := 9) (v := ?_) rfl (by kernel_rfl) (by kernel_rfl) (by kernel_rfl) (fun _ _ _ h => h) (by rfl) ?_ (by assumption) ?_
    rotate_left
    · intro X hSX
      try dsimp only at hSX
      go_simp <;> with_reducible rfl
    simp only [Act.put, List.setIfInBounds_toArray, List.set_cons_zero, List.set_cons_succ]
    refine held_take (i := 10) (v := ?_) rfl (by kernel_rfl) (by kernel_rfl) (by kernel_rfl) (fun _ _ _ h => h) (by rfl) ?_ (by assumption) ?_
    rotate_left
    · intro X hSX
      try dsimp only at hSX
      go_simp <;> with_reducible rfl
    simp only [Act.put, List.setIfInBounds_toArray, List.set_cons_zero, List.set_cons_succ]
    refine held_skip (i := 11) rfl (by kernel_rfl) (by kernel_rfl) (by kernel_rfl) (fun _ _ _ h => h) (by rfl) (by assumption) ?_
    simp only [Act.put, List.setIfInBounds_toArray, List.set_cons_zero, List.set_cons_succ]
    refine held_skip (i := 12) rfl (by kernel_rfl) (by kernel_rfl) (by kernel_rfl) (fun _ _ _ h => h) (by rfl) (by assumption) ?_
    simp only [Act.put, List.setIfInBounds_toArray, List.set_cons_zero, List.set_cons_succ]
    refine held_skip (i := 13) rfl (by kernel_rfl) (by kernel_rfl) (by kernel_rfl) (fun _ _ _ h => h) (by rfl) (by assumption) ?_
    simp only [Act.put, List.setIfInBounds_toArray, List.set_cons_zero, List.set_cons_succ]
    refine held_skip (i := 14) rfl (by kernel_rfl) (by kernel_rfl) (by kernel_rfl) (fun _ _ _ h => h) (by rfl) (by assumption) ?_
    simp only [Act.put, List.setIfInBounds_toArray, List.set_cons_zero, List.set_cons_succ]
    refine held_skip (i := 15) rfl (by kernel_rfl) (by kernel_rfl) (by kernel_rfl) (fun _ _ _ h => h) (by rfl) (by assumption) ?_
    simp only [Act.put, List.setIfInBounds_toArray, List.set_cons_zero, List.set_cons_succ]
    refine held_skip (i := 16) rfl (by kernel_rfl) (by kernel_rfl) (by kernel_rfl) (fun _ _ _ h => h) (by rfl) (by assumption) ?_
    simp only [Act.put, List.setIfInBounds_toArray, List.set_cons_zero, List.set_cons_succ]
    refine held_skip (i := 17) rfl (by kernel_rfl) (by kernel_rfl) (by kernel_rfl) (fun _ _ _ h => h) (by rfl) (by assumption) ?_
    simp only [Act.put, List.setIfInBounds_toArray, List.set_cons_zero, List.set_cons_succ]
    refine held_take (i := 18) (v := ?_) rfl (by kernel_rfl) (by kernel_rfl) (by kernel_rfl) (fun _ _ _ h => h) (by rfl) ?_ (by assumption) ?_
    rotate_left
    · intro X hSX
      try dsimp only at hSX
      go_simp <;> with_reducible rfl
    simp only [Act.put, List.setIfInBounds_toArray, List.set_cons_zero, List.set_cons_succ]
    refine wpAnyH_done (by kernel_rfl) ?_ _
    refine NoPanic.normal ?_
    have HB1 := Lib.hid (HB0.out.trans (HBX.out.mono HB0.out.size))
    go_wp2
    go_ret
    exact ⟨by rw [HV.out]; rfl, HB1.out⟩
  rw [hvl] at HV
  have HVL := Lib.hid hvl
  clear hvl
  by_cases hcp : (M : Int) ≤ capU W L S T J R
  rotate_left
  · have hd : decide (capU W L S T J R < (M : Int)) = true := decide_eq_true (by omega)
    rw [decide_eq_false hcp] at HV
    clear hcp
    go_enter Try.func55, Try.ntmps55
    go_wp2_with fail
    generalize World.alloc _ _ = X0 at *
    have HBX := Lib.hid (Below.refl X0.heap.size X0).drew
    refine wp_region_noPanic ?_
    refine wp_region_held_drew (S := fun X => Below X0.heap.size X0 X) (by kernel_rfl) (HBX.out) (fun hS0 => ?_)
    refine held_take (i := 0) (v := ?_) rfl (by kernel_rfl) (by kernel_rfl) (by kernel_rfl) (fun _ _ _ h => h) (by rfl) ?_ (by assumption) ?_
    rotate_left
    · intro X hSX
      try dsimp only at hSX
      go_simp <;> with_reducible rfl
    simp only [Act.put, List.setIfInBounds_toArray, List.set_cons_zero, List.set_cons_succ]
    refine held_take (i := 1) (v := ?_) rfl (by kernel_rfl) (by kernel_rfl) (by kernel_rfl) (fun _ _ _ h => h) (by rfl) ?_ (by assumption) ?_
    rotate_left
    · intro X hSX
      try dsimp only at hSX
      obtain ⟨_, k0, k1, k2, k3, k4, k5, k6, k7, k8, k9, k10, k11, k12⟩ := HC.out.below hSX HC.out.lt
      go_simp <;> with_reducible rfl
    simp only [Act.put, List.setIfInBounds_toArray, List.set_cons_zero, List.set_cons_succ]
    refine held_call (i := 2) rfl (by kernel_rfl) (by rfl) (fun K' hK' => ?_)
    go_simp
    refine (rbar_any bc _ hbs).mono ?_
    rw [HBR.out]
    rintro e w2 ⟨rfl, rfl⟩
    refine held_go hK' (HBX.out) ?_
    try simp only [Act.put, List.setIfInBounds_toArray, List.set_cons_zero, List.set_cons_succ]
    refine held_take (i := 3) (v := ?_) rfl (by kernel_rfl) (by kernel_rfl) (by kernel_rfl) (fun _ _ _ h => h) (by rfl) ?_ (by assumption) ?_
    rotate_left
    · intro X hSX
      try dsimp only at hSX
      go_simp <;> with_reducible rfl
    simp only [Act.put, List.setIfInBounds_toArray, List.set_cons_zero, List.set_cons_succ]
    refine held_take (i := 4) (v := ?_) rfl (by kernel_rfl) (by kernel_rfl) (by kernel_rfl) (fun _ _ _ h => h) (by rfl) ?_ (by assumption) ?_
    rotate_left
    · intro X hSX
      try dsimp only at hSX
      go_simp <;> with_reducible rfl
    simp only [Act.put, List.setIfInBounds_toArray, List.set_cons_zero, List.set_cons_succ]
    refine held_take (i := 5) (v := ?_) rfl (by kernel_rfl) (by kernel_rfl) (by kernel_rfl) (fun _ _ _ h => h) (by rfl) ?_ (by assumption) ?_
    rotate_left
    · intro X hSX
      try dsimp only at hSX
      go_simp <;> with_reducible rfl
    simp only [Act.put, List.setIfInBounds_toArray, List.set_cons_zero, List.set_cons_succ]
    refine held_take (i := 6) (v := ?_) rfl (by kernel_rfl) (by kernel_rfl) (by kernel_rfl) (fun _ _ _ h => h) (by rfl) ?_ (by assumption) ?_
    rotate_left
    · intro X hSX
      try dsimp only at hSX
      obtain ⟨_, k0, k1, k2, k3, k4, k5, k6, k7, k8, k9, k10, k11, k12⟩ := HC.out.below hSX HC.out.lt
      go_simp <;> with_reducible rfl
    simp only [Act.put, List.setIfInBounds_toArray, List.set_cons_zero, List.set_cons_succ]
    refine held_call (i := 7) rfl (by kernel_rfl) (by rfl) (fun K' hK' => ?_)
    go_simp
    refine (rvalid_any W L S T J R _).mono ?_
    rw [HVL.out]
    rintro e w3 ⟨rfl, hb⟩
    replace HBX := Lib.hid (HBX.out.trans (hb.mono HBX.out.size))
    have hS3 := HBX.out
    clear hb
    refine held_go hK' (HBX.out) ?_
    try simp only [Act.put, List.setIfInBounds_toArray, List.set_cons_zero, List.set_cons_succ]
    refine held_take (i := 8) (v := ?_) rfl (by kernel_rfl) (by kernel_rfl) (by kernel_rfl) (fun _ _ _ h => h) (by rfl) ?_ (by assumption) ?_
    rotate_left
    · intro X hSX
      try dsimp only at hSX
      go_simp <;> with_reducible rfl
    simp only [Act.put, List.setIfInBounds_toArray, List.set_cons_zero, List.set_cons_succ]
    refine held_take (i := 9) (v := ?_) rfl (by kernel_rfl) (by kernel_rfl) (by kernel_rfl) (fun _ _ _ h => h) (by rfl) ?_ (by assumption) ?_
    rotate_left
    · intro X hSX
      try dsimp only at hSX
      go_simp <;> with_reducible rfl
    simp only [Act.put, List.setIfInBounds_toArray, List.set_cons_zero, List.set_cons_succ]
    refine held_take (i := 10) (v := ?_) rfl (by kernel_rfl) (by kernel_rfl) (by kernel_rfl) (fun _ _ _ h => h) (by rfl) ?_ (by assumption) ?_
    rotate_left
    · intro X hSX
      try dsimp only at hSX
      go_simp <;> with_reducible rfl
    simp only [Act.put, List.setIfInBounds_toArray, List.set_cons_zero, List.set_cons_succ]
    refine held_take (i := 11) (v := ?_) rfl (by kernel_rfl) (by kernel_rfl) (by kernel_rfl) (fun _ _ _ h => h) (by rfl) ?_ (by assumption) ?_
    rotate_left
    · intro X hSX
      try dsimp only at hSX
      go_simp <;> with_reducible rfl
    simp only [Act.put, List.setIfInBounds_toArray, List.set_cons_zero, List.set_cons_succ]
    refine held_take (i := 12) (v := ?_) rfl (by kernel_rfl) (by kernel_rfl) (by kernel_rfl) (fun _ _ _ h => h) (by rfl) ?_ (by assumption) ?_
    rotate_left
    · intro X hSX
      try dsimp only at hSX
      obtain ⟨_, k0, k1, k2, k3, k4, k5, k6, k7, k8, k9, k10, k11, k12⟩ := HC.out.below hSX HC.out.lt
      go_simp <;> with_reducible rfl
    simp only [Act.put, List.setIfInBounds_toArray, List.set_cons_zero, List.set_cons_succ]
    refine held_take (i := 13) (v := ?_) rfl (by kernel_rfl) (by kernel_rfl) (by kernel_rfl) (fun _ _ _ h => h) (by rfl) ?_ (by assumption) ?_
    rotate_left
    · intro X hSX
      try dsimp only at hSX
      go_simp <;> with_reducible rfl
    simp only [Act.put, List.setIfInBounds_toArray, List.set_cons_zero, List.set_cons_succ]
    refine held_take (i := 14) (v := ?_) rfl (by kernel_rfl) (by kernel_rfl) (by kernel_rfl) (fun _ _ _ h => h) (by rfl) ?_ (by assumption) ?_
    rotate_left
    · intro X hSX
      try dsimp only at hSX
      go_simp <;> with_reducible rfl
    simp only [Act.put, List.setIfInBounds_toArray, List.set_cons_zero, List.set_cons_succ]
    refine held_take (i := 15) (v := ?_) rfl (by kernel_rfl) (by kernel_rfl) (by kernel_rfl) (fun _ _ _ h => h) (by rfl) ?_ (by assumption) ?_
    rotate_left
    · intro X hSX
      try dsimp only at hSX
      obtain ⟨_, k0, k1, k2, k3, k4, k5, k6, k7, k8, k9, k10, k11, k12⟩ := HC.out.below hSX HC.out.lt
      go_simp <;> with_reducible rfl
    simp only [Act.put, List.setIfInBounds_toArray, List.set_cons_zero, List.set_cons_succ]
    refine held_call (i := 16) rfl (by kernel_rfl) (by rfl) (fun K' hK' => ?_)
    go_simp
    refine (rcapacity_any W L S T J R _).mono ?_
    rintro e w4 ⟨rfl, hb⟩
    replace HBX := Lib.hid (HBX.out.trans (hb.mono HBX.out.size))
    have hS4 := HBX.out
    clear hb
    refine held_go hK' (HBX.out) ?_
    try simp only [Act.put, List.setIfInBounds_toArray, List.set_cons_zero, List.set_cons_succ]
    refine held_take (i := 17) (v := ?_) rfl (by kernel_rfl) (by kernel_rfl) (by kernel_rfl) (fun _ _ _ h => h) (by rfl) ?_ (by assumption) ?_
    rotate_left
    · intro X hSX
      try dsimp only at hSX
      go_simp <;> with_reducible rfl
    simp only [Act.put, List.setIfInBounds_toArray, List.set_cons_zero, List.set_cons_succ]
    refine held_take (i := 18) (v := ?_) rfl (by kernel_rfl) (by kernel_rfl) (by kernel_rfl) (fun _ _ _ h => h) (by rfl) ?_ (by assumption) ?_
    rotate_left
    · intro X hSX
      try dsimp only at hSX
      go_simp <;> with_reducible rfl
    simp only [Act.put, List.setIfInBounds_toArray, List.set_cons_zero, List.set_cons_succ]
    refine wpAnyH_done (by kernel_rfl) ?_ _
    refine NoPanic.normal ?_
    have HB1 := Lib.hid (HB0.out.trans (HBX.out.mono HB0.out.size))
    go_wp2
    go_ret
    exact ⟨by rw [HV.out]; rfl, HB1.out⟩
  have hd : decide (capU W L S T J R < (M : Int)) = false := decide_eq_false (by omega)
  rw [decide_eq_true hcp] at HV
  go_enter Try.func55, Try.ntmps55
  go_wp2_with fail
  generalize World.alloc _ _ = X0 at *
  have HBX := Lib.hid (Below.refl X0.heap.size X0).drew
  refine wp_region_noPanic ?_
  refine wp_region_held_drew (S := fun X => Below X0.heap.size X0 X) (by kernel_rfl) (HBX.out) (fun hS0 => ?_)
  refine held_take (i := 0) (v := ?_) rfl (by kernel_rfl) (by kernel_rfl) (by kernel_rfl) (fun _ _ _ h => h) (by rfl) ?_ (by assumption) ?_
  rotate_left
  · intro X hSX
    try dsimp only at hSX
    go_simp <;> with_reducible rfl
  simp only [Act.put, List.setIfInBounds_toArray, List.set_cons_zero, List.set_cons_succ]
  refine held_take (i := 1) (v := ?_) rfl (by kernel_rfl) (by kernel_rfl) (by kernel_rfl) (fun _ _ _ h => h) (by rfl) ?_ (by assumption) ?_
  rotate_left
  · intro X hSX
    try dsimp only at hSX
    obtain ⟨_, k0, k1, k2, k3, k4, k5, k6, k7, k8, k9, k10, k11, k12⟩ := HC.out.below hSX HC.out.lt
    go_simp <;> with_reducible rfl
  simp only [Act.put, List.setIfInBounds_toArray, List.set_cons_zero, List.set_cons_succ]
  refine held_call (i := 2) rfl (by kernel_rfl) (by rfl) (fun K' hK' => ?_)
  go_simp
  refine (rbar_any bc _ hbs).mono ?_
  rw [HBR.out]
  rintro e w2 ⟨rfl, rfl⟩
  refine held_go hK' (HBX.out) ?_
  try simp only [Act.put, List.setIfInBounds_toArray, List.set_cons_zero, List.set_cons_succ]
  refine held_take (i := 3) (v := ?_) rfl (by kernel_rfl) (by kernel_rfl) (by kernel_rfl) (fun _ _ _ h => h) (by rfl) ?_ (by assumption) ?_
  rotate_left
  · intro X hSX
    try dsimp only at hSX
    go_simp <;> with_reducible rfl
  simp only [Act.put, List.setIfInBounds_toArray, List.set_cons_zero, List.set_cons_succ]
  refine held_take (i := 4) (v := ?_) rfl (by kernel_rfl) (by kernel_rfl) (by kernel_rfl) (fun _ _ _ h => h) (by rfl) ?_ (by assumption) ?_
  rotate_left
  · intro X hSX
    try dsimp only at hSX
    go_simp <;> with_reducible rfl
  simp only [Act.put, List.setIfInBounds_toArray, List.set_cons_zero, List.set_cons_succ]
  refine held_take (i := 5) (v := ?_) rfl (by kernel_rfl) (by kernel_rfl) (by kernel_rfl) (fun _ _ _ h => h) (by rfl) ?_ (by assumption) ?_
  rotate_left
  · intro X hSX
    try dsimp only at hSX
    go_simp <;> with_reducible rfl
  simp only [Act.put, List.setIfInBounds_toArray, List.set_cons_zero, List.set_cons_succ]
  refine held_take (i := 6) (v := ?_) rfl (by kernel_rfl) (by kernel_rfl) (by kernel_rfl) (fun _ _ _ h => h) (by rfl) ?_ (by assumption) ?_
  rotate_left
  · intro X hSX
    try dsimp only at hSX
    obtain ⟨_, k0, k1, k2, k3, k4, k5, k6, k7, k8, k9, k10, k11, k12⟩ := HC.out.below hSX HC.out.lt
    go_simp <;> with_reducible rfl
  simp only [Act.put, List.setIfInBounds_toArray, List.set_cons_zero, List.set_cons_succ]
  refine held_call (i := 7) rfl (by kernel_rfl) (by rfl) (fun K' hK' => ?_)
  go_simp
  refine (rvalid_any W L S T J R _).mono ?_
  rw [HVL.out]
  rintro e w3 ⟨rfl, hb⟩
  replace HBX := Lib.hid (HBX.out.trans (hb.mono HBX.out.size))
  have hS3 := HBX.out
  clear hb
  refine held_go hK' (HBX.out) ?_
  try simp only [Act.put, List.setIfInBounds_toArray, List.set_cons_zero, List.set_cons_succ]
  refine held_take (i := 8) (v := ?_) rfl (by kernel_rfl) (by kernel_rfl) (by kernel_rfl) (fun _ _ _ h => h) (by rfl) ?_ (by assumption) ?_
  rotate_left
  · intro X hSX
    try dsimp only at hSX
    go_simp <;> with_reducible rfl
  simp only [Act.put, List.setIfInBounds_toArray, List.set_cons_zero, List.set_cons_succ]
  refine held_take (i := 9) (v := ?_) rfl (by kernel_rfl) (by kernel_rfl) (by kernel_rfl) (fun _ _ _ h => h) (by rfl) ?_ (by assumption) ?_
  rotate_left
  · intro X hSX
    try dsimp only at hSX
    go_simp <;> with_reducible rfl
  simp only [Act.put, List.setIfInBounds_toArray, List.set_cons_zero, List.set_cons_succ]
  refine held_take (i := 10) (v := ?_) rfl (by kernel_rfl) (by kernel_rfl) (by kernel_rfl) (fun _ _ _ h => h) (by rfl) ?_ (by assumption) ?_
  rotate_left
  · intro X hSX
    try dsimp only at hSX
    go_simp <;> with_reducible rfl
  simp only [Act.put, List.setIfInBounds_toArray, List.set_cons_zero, List.set_cons_succ]
  refine held_take (i := 11) (v := ?_) rfl (by kernel_rfl) (by kernel_rfl) (by kernel_rfl) (fun _ _ _ h => h) (by rfl) ?_ (by assumption) ?_
  rotate_left
  · intro X hSX
    try dsimp only at hSX
    go_simp <;> with_reducible rfl
  simp only [Act.put, List.setIfInBounds_toArray, List.set_cons_zero, List.set_cons_succ]
  refine held_take (i := 12) (v := ?_) rfl (by kernel_rfl) (by kernel_rfl) (by kernel_rfl) (fun _ _ _ h => h) (by rfl) ?_ (by assumption) ?_
  rotate_left
  · intro X hSX
    try dsimp only at hSX
    obtain ⟨_, k0, k1, k2, k3, k4, k5, k6, k7, k8, k9, k10, k11, k12⟩ := HC.out.below hSX HC.out.lt
    go_simp <;> with_reducible rfl
  simp only [Act.put, List.setIfInBounds_toArray, List.set_cons_zero, List.set_cons_succ]
  refine held_take (i := 13) (v := ?_) rfl (by kernel_rfl) (by kernel_rfl) (by kernel_rfl) (fun _ _ _ h => h) (by rfl) ?_ (by assumption) ?_
  rotate_left
  · intro X hSX
    try dsimp only at hSX
    go_simp <;> with_reducible rfl
  simp only [Act.put, List.setIfInBounds_toArray, List.set_cons_zero, List.set_cons_succ]
  refine held_take (i := 14) (v := ?_) rfl (by kernel_rfl) (by kernel_rfl) (by kernel_rfl) (fun _ _ _ h => h) (by rfl) ?_ (by assumption) ?_
  rotate_left
  · intro X hSX
    try dsimp only at hSX
    go_simp <;> with_reducible rfl
  simp only [Act.put, List.setIfInBounds_toArray, List.set_cons_zero, List.set_cons_succ]
  refine held_take (i := 15) (v := ?_) rfl (by kernel_rfl) (by kernel_rfl) (by kernel_rfl) (fun _ _ _ h => h) (by rfl) ?_ (by assumption) ?_
  rotate_left
  · intro X hSX
    try dsimp only at hSX
    obtain ⟨_, k0, k1, k2, k3, k4, k5, k6, k7, k8, k9, k10, k11, k12⟩ := HC.out.below hSX HC.out.lt
    go_simp <;> with_reducible rfl
  simp only [Act.put, List.setIfInBounds_toArray, List.set_cons_zero, List.set_cons_succ]
  refine held_call (i := 16) rfl (by kernel_rfl) (by rfl) (fun K' hK' => ?_)
  go_simp
  refine (rcapacity_any W L S T J R _).mono ?_
  rintro e w4 ⟨rfl, hb⟩
  replace HBX := Lib.hid (HBX.out.trans (hb.mono HBX.out.size))
  have hS4 := HBX.out
  clear hb
  refine held_go hK' (HBX.out) ?_
  try simp only [Act.put, List.setIfInBounds_toArray, List.set_cons_zero, List.set_cons_succ]
  refine held_take (i := 17) (v := ?_) rfl (by kernel_rfl) (by kernel_rfl) (by kernel_rfl) (fun _ _ _ h => h) (by rfl) ?_ (by assumption) ?_
  rotate_left
  · intro X hSX
    try dsimp only at hSX
    go_simp <;> with_reducible rfl
  simp only [Act.put, List.setIfInBounds_toArray, List.set_cons_zero, List.set_cons_succ]
  refine held_take (i := 18) (v := ?_) rfl (by kernel_rfl) (by kernel_rfl) (by kernel_rfl) (fun _ _ _ h => h) (by rfl) ?_ (by assumption) ?_
  rotate_left
  · intro X hSX
    try dsimp only at hSX
    go_simp <;> with_reducible rfl
  simp only [Act.put, List.setIfInBounds_toArray, List.set_cons_zero, List.set_cons_succ]
  refine wpAnyH_done (by kernel_rfl) ?_ _
  refine NoPanic.normal ?_
  have HB1 := Lib.hid (HB0.out.trans (HBX.out.mono HB0.out.size))
  have HC1 := Lib.hid (HC.out.below HBX.out HC.out.lt)
  have HI1 := Lib.hid (HI.out.below HBX.out)
  clear HBX HC HI hS3 hS4
  obtain ⟨_, k0, k1, k2, k3, k4, k5, k6, k7, k8, k9, k10, k11, k12⟩ := HC1.out
  go_wp2
  clear k0 k1 k2 k3 k4 k5 k6 k7 k8 k9 k10 k11 k12
  go_loopg [3] M (fun gk vk wx => ∃ k : Nat, vk = .int .i64 k ∧ k + gk = M ∧ Hid (∀ j (h : j < l.length), j < k → okB l[j].m l[j].d.length = true) ∧ Hid (Below w.heap.size w wx) ∧ Hid (CrAt wx w.heap.size bc W L S T J R wo lk ad M cap ep lo pa) ∧ Hid (Ki wx ad l))
  case atStart => exact ⟨0, rfl, by omega, Lib.hid (fun j _ hj => by omega), HB1, HC1, HI1⟩
  case round =>
    obtain ⟨k, rfl, hk, hall, hB, hC, hI⟩ := hrel
    obtain ⟨_, k0, k1, k2, k3, k4, k5, k6, k7, k8, k9, k10, k11, k12⟩ := hC.out
    cases gk with
    | zero =>
      obtain rfl : k = M := by omega
      have HA := Lib.hid (allB_yes (fun j hj => hall.out j hj (by have := HM.out; omega)))
      rw [HA.out] at HV
      go_wp2_with fail
      refine (rcnt_any ep _).mono ?_
      rintro e w5 ⟨rfl, rfl⟩
      cases he : cnt ep
      · go_wp2
        go_ret
        exact ⟨by rw [HV.out, he]; simp, hB.out⟩
      go_wp2_with fail
      refine (rcnt_any lo _).mono ?_
      rintro e w5 ⟨rfl, rfl⟩
      cases hlo : cnt lo
      · go_wp2
        go_ret
        exact ⟨by rw [HV.out, he, hlo]; simp, hB.out⟩
      go_wp2_with fail
      refine (rcnt_any pa _).mono ?_
      rintro e w5 ⟨rfl, rfl⟩
      go_wp2
      go_ret
      exact ⟨by rw [HV.out, he, hlo]; simp, hB.out⟩
    | succ gk0 =>
      have hkM : k < M := by omega
      have hkl : k < l.length := by have := HM.out; omega
      obtain ⟨b, off, ad', cap', rfl, hlt, q0, q1, q2, qr⟩ := hI.out.get hkl
      clear qr
      have HNX : okB l[k].m l[k].d.length = true → Hid (∀ j (h : j < l.length), j < k + 1 → okB l[j].m l[j].d.length = true) := fun hc => Lib.hid fun j h hj => by
        rcases Nat.lt_or_ge j k with h3 | h3
        · exact hall.out j h h3
        · obtain rfl : j = k := by omega
          exact hc
      have HNO : okB l[k].m l[k].d.length = false → Hid (allB l = false) := fun hc => Lib.hid (allB_no hkl hc)
      generalize l[k].m = xm at *
      generalize l[k].bad = xb at *
      generalize l[k].d.length = xn at *
      clear hkl
      go_wp2_with fail
      refine (rblk_any xm xb ad' xn cap' _).mono ?_
      rintro e w5 ⟨rfl, hb⟩
      have HB5 := Lib.hid (hB.out.trans (hb.mono hB.out.size))
      have HC5 := Lib.hid (hC.out.below hb hC.out.lt)
      have HI5 := Lib.hid (hI.out.below hb)
      clear hb k0 k1 k2 k3 k4 k5 k6 k7 k8 k9 k10 k11 k12 q0 q1 q2
      cases hok : okB xm xn
      · have HR := HNO hok
        clear HNX HNO hok
        go_wp2
        go_ret
        exact ⟨by rw [HV.out, HR.out]; simp, HB5.out⟩
      · have HR := HNX hok
        clear HNX HNO hok
        go_wp2
        go_roundg gk0
        case rel => exact ⟨k + 1, by go_num, by omega, HR, HB5, HC5, HI5⟩
        case measure => omega
end Go.Proofs.Ytepmmlnopdjjdaa
