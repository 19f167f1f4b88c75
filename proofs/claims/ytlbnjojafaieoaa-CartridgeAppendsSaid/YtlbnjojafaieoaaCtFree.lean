/-
  The specification's Free and Erase.
-/
import Derived.Test.YtlbnjojafaieoaaCtNew
namespace Go.Proofs.Ytlbnjojafaieoaa
open Go.RowKit
set_option linter.unusedVariables false
noncomputable def freeC (c : Crt) : Int := if (vldC c && !c.lk) = true then capU c.W c.L c.S c.T c.J c.R - (c.l.length : Int) else 0
/-- a cartridge's box: its cells, its row -/
structure CrBox (w0 w : World) (bc : ByteArray) (W L S T J R : Int) (wo lk : Bool) (ad : Option Addr) (n cap : Nat) (ep lo pa : Int) : Prop where
  at_ : CrAt w w0.heap.size bc W L S T J R wo lk ad n cap ep lo pa
  row : w.heap[w0.heap.size]? = some (.cells (crK bc W L S T J R wo lk ad n cap ep lo pa) 26 (0, 0))
theorem CrBox.below {w0 w w' : World} {bc : ByteArray} {W L S T J R : Int} {wo lk : Bool} {ad : Option Addr} {n cap : Nat} {ep lo pa : Int} (h : CrBox w0 w bc W L S T J R wo lk ad n cap ep lo pa) (hb : Below w.heap.size w w') : CrBox w0 w' bc W L S T J R wo lk ad n cap ep lo pa :=
  ⟨h.at_.below hb h.at_.lt, (hb.block _ h.at_.lt).trans h.row⟩
theorem CrBox.new (w : World) (bc : ByteArray) (W L S T J R : Int) (wo lk : Bool) (ad : Option Addr) (n cap : Nat) (ep lo pa : Int) : CrBox w (w.alloc (boxK bc W L S T J R wo lk ad n cap ep lo pa)) bc W L S T J R wo lk ad n cap ep lo pa :=
  ⟨CrAt.new w bc W L S T J R wo lk ad n cap ep lo pa _, heap_alloc_new w _⟩
theorem CrBox.frozen {w0 w : World} {bc : ByteArray} {W L S T J R : Int} {wo lk : Bool} {ad : Option Addr} {n cap : Nat} {ep lo pa : Int} (h : CrBox w0 w bc W L S T J R wo lk ad n cap ep lo pa) (i : Nat) : w.frozen? ⟨w0.heap.size, i, none⟩ = false := by
  simp [World.frozen?, h.row]
/-- the two boxes at a function's begin -/
theorem two_boxes (w : World) (bc : ByteArray) (W L S T J R : Int) (wo lk : Bool) (ad : Option Addr) (n cap : Nat) (ep lo pa : Int) :
    Below w.heap.size w ((w.alloc (boxK bc W L S T J R wo lk ad n cap ep lo pa)).alloc (boxK ⟨#[]⟩ 0 0 0 0 0 0 false false none 0 0 0 0 0)) ∧
    CrBox w ((w.alloc (boxK bc W L S T J R wo lk ad n cap ep lo pa)).alloc (boxK ⟨#[]⟩ 0 0 0 0 0 0 false false none 0 0 0 0 0)) bc W L S T J R wo lk ad n cap ep lo pa ∧
    ((w.alloc (boxK bc W L S T J R wo lk ad n cap ep lo pa)).alloc (boxK ⟨#[]⟩ 0 0 0 0 0 0 false false none 0 0 0 0 0)).heap[w.heap.size + 1]? = some (.cells (crK ⟨#[]⟩ 0 0 0 0 0 0 false false none 0 0 0 0 0) 26 (0, 0)) ∧
    w.heap.size + 2 ≤ ((w.alloc (boxK bc W L S T J R wo lk ad n cap ep lo pa)).alloc (boxK ⟨#[]⟩ 0 0 0 0 0 0 false false none 0 0 0 0 0)).heap.size :=
  ⟨below_box2 _ _ _, (CrBox.new w bc W L S T J R wo lk ad n cap ep lo pa).below (below_box1 _ _), zero_row w _, by simp⟩
/-- a function that hands back a cartridge, on its way: both boxes as they were -/
structure Way (w w' : World) (bc : ByteArray) (W L S T J R : Int) (wo lk : Bool) (ad : Option Addr) (n cap : Nat) (ep lo pa : Int) : Prop where
  b : Below w.heap.size w w'
  c : CrBox w w' bc W L S T J R wo lk ad n cap ep lo pa
  z : w'.heap[w.heap.size + 1]? = some (.cells (crK ⟨#[]⟩ 0 0 0 0 0 0 false false none 0 0 0 0 0) 26 (0, 0))
  s : w.heap.size + 2 ≤ w'.heap.size
theorem Way.start (w : World) (bc : ByteArray) (W L S T J R : Int) (wo lk : Bool) (ad : Option Addr) (n cap : Nat) (ep lo pa : Int) : Way w ((w.alloc (boxK bc W L S T J R wo lk ad n cap ep lo pa)).alloc (boxK ⟨#[]⟩ 0 0 0 0 0 0 false false none 0 0 0 0 0)) bc W L S T J R wo lk ad n cap ep lo pa := by
  obtain ⟨h1, h2, h3, h4⟩ := two_boxes w bc W L S T J R wo lk ad n cap ep lo pa
  exact ⟨h1, h2, h3, h4⟩
theorem Way.next {w X Y : World} {bc : ByteArray} {W L S T J R : Int} {wo lk : Bool} {ad : Option Addr} {n cap : Nat} {ep lo pa : Int} (h : Way w X bc W L S T J R wo lk ad n cap ep lo pa) (hb : Below X.heap.size X Y) : Way w Y bc W L S T J R wo lk ad n cap ep lo pa :=
  ⟨h.b.trans (hb.mono h.b.size), h.c.below hb, (hb.block _ (by have := h.s; omega)).trans h.z, Nat.le_trans h.s hb.size⟩
theorem capU_bd (W L S T J R : Int) : 0 ≤ capU W L S T J R ∧ capU W L S T J R ≤ 4096 := by
  unfold capU
  split
  · rename_i hv
    have v := vld_iff.1 hv
    have := cap_pos v.w0 v.l0; have := v.l0; have := v.c1
    omega
  · omega
attribute [local irreducible] tim vld bar cnt okB capU allB vldC eqK
set_option maxRecDepth 100000 in
set_option maxHeartbeats 4000000 in
theorem rfree_any (c : Crt) (ad : Option Addr) (cap : Nat) (w : World) (hin : CrIn w c ad cap) (hs : c.l.length ≤ 100000) :
    Calls Try.prog 18 #[crV c ad cap] w fun e w' => e = .returned (.int .i64 (freeC c)) ∧ Below w.heap.size w w' := by
  have HF := Lib.hid (show freeC c = if (vldC c && !c.lk) = true then capU c.W c.L c.S c.T c.J c.R - (c.l.length : Int) else 0 from rfl)
  obtain ⟨bc, W, L, S, T, J, R, wo, lk, l, ep, lo, pa⟩ := c
  have HVC := Lib.hid (fun X (h : CrIn X ⟨bc, W, L, S, T, J, R, wo, lk, l, ep, lo, pa⟩ ad cap) => rvalc_any ⟨bc, W, L, S, T, J, R, wo, lk, l, ep, lo, pa⟩ ad cap X h)
  have HI := Lib.hid hin
  clear hin
  generalize hcv : vldC ⟨bc, W, L, S, T, J, R, wo, lk, l, ep, lo, pa⟩ = vv at *
  have HVV := Lib.hid hcv
  clear hcv
  show Calls Try.prog 18 #[crW bc W L S T J R wo lk ad l.length cap ep lo pa] w _
  simp only at HF hs
  have HX := Lib.hid (fun X (h : Below w.heap.size w X) => HVC.out X (HI.out.below h))
  obtain ⟨M, hM⟩ : ∃ M, M = l.length := ⟨_, rfl⟩
  have HX2 : Hid (∀ X, Below w.heap.size w X → Calls Try.prog 15 #[crW bc W L S T J R wo lk ad M cap ep lo pa] X fun e w' => e = .returned (.bool vv) ∧ Below X.heap.size X w') := Lib.hid (by rw [hM]; exact HX.out)
  rw [← hM] at hs HF ⊢
  clear hM HVC HX HI
  have HB0 := Lib.hid (below_box1 w (boxK bc W L S T J R wo lk ad M cap ep lo pa))
  have HC := Lib.hid (CrAt.new w bc W L S T J R wo lk ad M cap ep lo pa 26)
  obtain ⟨c0, c1⟩ := capU_bd W L S T J R
  have hw1 : IntKind.i64.wrap (capU W L S T J R - (M : Int)) = capU W L S T J R - (M : Int) := by rw [IntKind.wrap_i64]; omega
  go_enter Try.func18, Try.ntmps18
  go_wp2_with fail
  generalize World.alloc _ _ = X0 at *
  refine (HX2.out X0 HB0.out).mono ?_
  rintro e w1 ⟨rfl, hb⟩
  have HB1 := Lib.hid (HB0.out.trans (hb.mono HB0.out.size))
  replace HC := Lib.hid (HC.out.below hb HC.out.lt)
  clear hb
  obtain ⟨_, k0, k1, k2, k3, k4, k5, k6, k7, k8, k9, k10, k11, k12⟩ := HC.out
  cases vv
  · go_wp2
    go_ret
    exact ⟨by rw [HF.out]; rfl, HB1.out⟩
  cases lk
  rotate_left
  · go_wp2
    go_ret
    exact ⟨by rw [HF.out]; rfl, HB1.out⟩
  have HBX := Lib.hid (Below.refl w1.heap.size w1).drew
  go_wp2_with fail
  clear k0 k1 k2 k3 k4 k5 k6 k7 k8 k9 k10 k11 k12
  refine wp_region_noPanic ?_
  refine wp_region_held_drew (S := fun X => Below w1.heap.size w1 X) (by kernel_rfl) (HBX.out) (fun hS0 => ?_)
  refine held_take (i := 0) (v := ?_) rfl (by kernel_rfl) (by kernel_rfl) (by kernel_rfl) (fun _ _ _ h => h) (by rfl) ?_ (by assumption) ?_
  rotate_left
  · intro X hSX
    try dsimp only at hSX
    go_simp <;> with_reducible rfl
  simp only [Act.put, List.setIfInBounds_toArray, List.set_cons_zero, List.set_cons_succ]
  refine held_take (i := 1) (v := ?_) rfl (by kernel_rfl) (by kernel_rfl) (by kernel_rfl) (fun _ _ _ h => h) (by rfl) ?_ (by assumption) ?_
  rotate_left
  · intro X hSX
    try dsimp only at hSX
    obtain ⟨_, k0, k1, k2, k3, k4, k5, k6, k7, k8, k9, k10, k11, k12⟩ := HC.out.below hSX HC.out.lt
    go_simp <;> with_reducible rfl
  simp only [Act.put, List.setIfInBounds_toArray, List.set_cons_zero, List.set_cons_succ]
  refine held_take (i := 3) (v := ?_) rfl (by kernel_rfl) (by kernel_rfl) (by kernel_rfl) (fun _ _ _ h => h) (by rfl) ?_ (by assumption) ?_
  rotate_left
  · intro X hSX
    try dsimp only at hSX
    go_simp <;> with_reducible rfl
  simp only [Act.put, List.setIfInBounds_toArray, List.set_cons_zero, List.set_cons_succ]
  refine held_take (i := 4) (v := ?_) rfl (by kernel_rfl) (by kernel_rfl) (by kernel_rfl) (fun _ _ _ h => h) (by rfl) ?_ (by assumption) ?_
  rotate_left
  · intro X hSX
    try dsimp only at hSX
    obtain ⟨_, k0, k1, k2, k3, k4, k5, k6, k7, k8, k9, k10, k11, k12⟩ := HC.out.below hSX HC.out.lt
    go_simp <;> with_reducible rfl
  simp only [Act.put, List.setIfInBounds_toArray, List.set_cons_zero, List.set_cons_succ]
  refine held_take (i := 5) (v := ?_) rfl (by kernel_rfl) (by kernel_rfl) (by kernel_rfl) (fun _ _ _ h => h) (by rfl) ?_ (by assumption) ?_
  rotate_left
  · intro X hSX
    try dsimp only at hSX
    go_simp <;> with_reducible rfl
  simp only [Act.put, List.setIfInBounds_toArray, List.set_cons_zero, List.set_cons_succ]
  refine held_call (i := 2) rfl (by kernel_rfl) (by rfl) (fun K' hK' => ?_)
  go_simp
  refine (rcapacity_any W L S T J R _).mono ?_
  rintro e w4 ⟨rfl, hb⟩
  replace HBX := Lib.hid (HBX.out.trans (hb.mono HBX.out.size))
  have hS4 := HBX.out
  clear hb
  refine held_go hK' (HBX.out) ?_
  try simp only [Act.put, List.setIfInBounds_toArray, List.set_cons_zero, List.set_cons_succ]
  refine held_take (i := 6) (v := ?_) rfl (by kernel_rfl) (by kernel_rfl) (by kernel_rfl) (fun _ _ _ h => h) (by rfl) ?_ (by assumption) ?_
  rotate_left
  · intro X hSX
    try dsimp only at hSX
    go_simp <;> with_reducible rfl
  simp only [Act.put, List.setIfInBounds_toArray, List.set_cons_zero, List.set_cons_succ]
  refine held_take (i := 7) (v := ?_) rfl (by kernel_rfl) (by kernel_rfl) (by kernel_rfl) (fun _ _ _ h => h) (by rfl) ?_ (by assumption) ?_
  rotate_left
  · intro X hSX
    try dsimp only at hSX
    go_simp <;> with_reducible rfl
  simp only [Act.put, List.setIfInBounds_toArray, List.set_cons_zero, List.set_cons_succ]
  refine wpAnyH_done (by kernel_rfl) ?_ _
  refine NoPanic.normal ?_
  go_wp2
  go_ret
  exact ⟨by rw [HF.out]; rfl, HB1.out.trans (HBX.out.mono HB1.out.size)⟩
end Go.Proofs.Ytlbnjojafaieoaa
