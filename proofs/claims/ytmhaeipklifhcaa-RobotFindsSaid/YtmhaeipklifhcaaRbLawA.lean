/-
  The laws RobotValids, RobotPicks and RobotPuts.
-/
import Derived.Test.YtmhaeipklifhcaaRbAwake
import Derived.Test.YtmhaeipklifhcaaRbRPick
import Derived.Test.YtmhaeipklifhcaaRbRPut
namespace Go.Proofs.Ytmhaeipklifhcaa
open Go.RowKit
set_option linter.unusedVariables false
/-- a law's boxes: model, robot, element; the robot can be handed on -/
structure Lw (w X : World) (m : Rmd) (r : Rbt) (ad : Option Addr) (n cap : Nat) (k i : Int) : Prop where
  b : Below w.heap.size w X
  s : w.heap.size + 3 ≤ X.heap.size
  md : RmAt X w.heap.size m
  row : X.heap[w.heap.size + 1]? = some (boxR r ad n cap)
  el : ElAt X (w.heap.size + 2) k i
  ri : RoIn X r ad n cap
  h : n ≤ 70
theorem Lw.next {w X Y : World} {m : Rmd} {r : Rbt} {ad : Option Addr} {n cap : Nat} {k i : Int} (h : Lw w X m r ad n cap k i) (hb : Below X.heap.size X Y) : Lw w Y m r ad n cap k i :=
  ⟨h.b.trans (hb.mono h.b.size), Nat.le_trans h.s hb.size, h.md.step hb, row_step h.row hb, h.el.step hb, h.ri.below hb, h.h⟩
theorem few_z {r : Rbt} (hz : ∀ s ∈ allR r, s.size ≤ maxLen) : ∀ s ∈ allR (fewR r), s.size ≤ maxLen := fun s hs => by
  rcases List.mem_append.1 hs with h | h
  · exact hz s (List.mem_append_left _ (List.mem_of_mem_take h))
  · exact hz s (List.mem_append_right _ h)
/-- behind 'r = few(r)' -/
theorem RmAt.row {X : World} {g b : Nat} {m : Rmd} (h : RmAt X g m) (hb : g ≠ b) (cs : Array Value) : RmAt (X.setRow b cs) g m := by
  have e : (X.setRow b cs).heap[g]? = X.heap[g]? := setRow_other _ _ _ _ hb
  exact ⟨by simpa [World.setRow] using h.lt, by simpa [World.cell?, e] using h.c0, by simpa [World.cell?, e] using h.c1, by simpa [World.cell?, e] using h.c2, by simpa [World.cell?, e] using h.c3, by simpa [World.cell?, e] using h.c4, by simpa [World.cell?, e] using h.c5, by simpa [World.cell?, e] using h.c6⟩
theorem ElAt.row {X : World} {g b : Nat} {k i : Int} (h : ElAt X g k i) (hb : g ≠ b) (cs : Array Value) : ElAt (X.setRow b cs) g k i := by
  have e : (X.setRow b cs).heap[g]? = X.heap[g]? := setRow_other _ _ _ _ hb
  exact ⟨by simpa [World.setRow] using h.lt, by simpa [World.cell?, e] using h.c0, by simpa [World.cell?, e] using h.c1⟩
/-- a robot that comes in -/
structure RoArg (w : World) (r : Rbt) (ad : Option Addr) (n cap : Nat) : Prop where
  l : Sx w ad r.l
  len : n = r.l.length
  c : n ≤ cap
  mx : cap ≤ maxLen
  nn : ad = none → cap = 0
  z : ∀ s ∈ allR r, s.size ≤ maxLen
theorem Lw.start {w X : World} {m : Rmd} {r : Rbt} {ad : Option Addr} {n n1 cap : Nat} {k i : Int} (ha : RoArg w r ad n cap) (hb : Below w.heap.size w X) (hs : w.heap.size + 3 ≤ X.heap.size) (hm : RmAt X w.heap.size m) (hr : X.heap[w.heap.size + 1]? = some (boxR r ad n cap)) (he : ElAt X (w.heap.size + 2) k i) (hn : n1 = (fewR r).l.length) (h70 : n1 ≤ 70) :
    Lw w (X.setRow (w.heap.size + 1) (roK (fewR r) ad n1 cap)) m (fewR r) ad n1 cap k i := by
  have hb2 := below_set hb (g := w.heap.size + 1) (by omega) (roK (fewR r) ad n1 cap)
  exact ⟨hb2, by simpa [World.setRow] using hs, hm.row (by omega) _, setRow_heap _ _ _ _ _ _ hr, he.row (by omega) _, ⟨(ha.l.take 70).below hb2 rfl, hn, by omega, ha.nn, few_z ha.z⟩, h70⟩
attribute [local irreducible] inn mdlR rail dst vldR trvR finR locR picR putR perR farR posR empR

set_option maxRecDepth 100000 in
set_option maxHeartbeats 4000000 in
theorem law_valids (m : Rmd) (r : Rbt) (ad : Option Addr) (n cap : Nat) (k i : Int) (b : ByteArray) (fr tt : Int) (w : World) (ha : RoArg w r ad n cap) (hfr : I64 fr) (hto : I64 tt) :
    Calls Try.prog 3 #[rmV m, roV r ad n cap, elV k i, .string b, .int .i64 fr, .int .i64 tt] w fun e w' => e = .returned (.bool true) ∧ Below w.heap.size w w' := by
  have HFR := Lib.hid hfr
  have HTO := Lib.hid hto
  clear hfr hto
  obtain ⟨hB, hM, hR, hE, hS⟩ := box_mre w m r ad n cap k i
  have HB := Lib.hid hB
  have HM := Lib.hid hM
  have HR := Lib.hid hR
  have HE := Lib.hid (ElAt.of hE)
  have HS := Lib.hid (Nat.le_of_eq hS.symm)
  have HA := Lib.hid ha
  have HF := Lib.hid (fun X (h : Below w.heap.size w X) => few_any r ad n cap X (ha.l.below h rfl) ha.len ha.c ha.mx)
  clear hB hM hR hE hS ha
  go_enter Try.func3, Try.ntmps3
  go_wp2_with fail
  generalize World.alloc _ _ = X0 at *
  refine (HF.out X0 HB.out).mono ?_
  rintro e w1 ⟨n1, rfl, hn1, h70, hb1⟩
  have HR1 := Lib.hid (row_step HR.out hb1)
  have HX := Lib.hid (Lw.start HA.out (HB.out.trans (hb1.mono HB.out.size)) (Nat.le_trans HS.out hb1.size) (HM.out.step hb1) HR1.out (HE.out.step hb1) hn1 h70)
  clear hn1 h70 hb1
  go_upto_region 2 with (with_reducible refine wpList_store_ro rfl (.tmp 7) (.tmp 26) rfl (w.heap.size + 1) rfl _ _ _ _ _ _ _ rfl r ad n cap HR1.out ?_)
  have HX1 := Lib.hid HX.out
  generalize World.setRow _ _ _ = X1 at *
  clear HX HR1 HF HM HR HE HB
  obtain ⟨f, hf⟩ : ∃ f, f = fewR r := ⟨_, rfl⟩
  rw [← hf] at HX1 ⊢
  clear hf
  obtain ⟨_, g0, g1, g2, g3, g4, g5, g6⟩ := HX1.out.md
  obtain ⟨_, k0, k1, k2, k3, k4⟩ := RoAt.of HX1.out.row
  obtain ⟨_, e0, e1⟩ := HX1.out.el
  obtain ⟨ps, hps⟩ : ∃ ps, ps = posR m f k i := ⟨_, rfl⟩
  obtain ⟨fs, hfs⟩ : ∃ fs, fs = finR f b := ⟨_, rfl⟩
  obtain ⟨es, hes⟩ : ∃ es, es = empR f.l := ⟨_, rfl⟩
  have HP := Lib.hid (fun X h => position_any m f ad n1 cap k i X h)
  have HP2 := Lib.hid (fun X h => rposition_any m f ad n1 cap k i X h)
  have HQ := Lib.hid (fun X (h : RoIn X f ad n1 cap) => find_any f ad n1 cap b X h.l h.len h.le h.z)
  have HQ2 := Lib.hid (fun X h => rfind_any f ad n1 cap b X h)
  have HE1 := Lib.hid (fun X h => empty_any f ad n1 cap X h)
  have HE2 := Lib.hid (fun X h => rempty_any f ad n1 cap X h)
  rw [← hps] at HP HP2
  rw [← hfs] at HQ HQ2
  rw [← hes] at HE1 HE2
  clear hps hfs hes
  go_wp2_with fail
  refine (HP.out X1 HX1.out.ri).mono ?_
  rintro e w2 ⟨rfl, hb2⟩
  have HX2 := Lib.hid (HX1.out.next hb2)
  clear hb2 g0 g1 g2 g3 g4 g5 g6 k0 k1 k2 k3 k4 e0 e1
  obtain ⟨_, g0, g1, g2, g3, g4, g5, g6⟩ := HX2.out.md
  obtain ⟨_, k0, k1, k2, k3, k4⟩ := RoAt.of HX2.out.row
  obtain ⟨_, e0, e1⟩ := HX2.out.el
  go_wp2_with fail
  refine (HP2.out w2 HX2.out.ri).mono ?_
  rintro e w3 ⟨rfl, hb3⟩
  have HX3 := Lib.hid (HX2.out.next hb3)
  clear hb3 g0 g1 g2 g3 g4 g5 g6 k0 k1 k2 k3 k4 e0 e1
  obtain ⟨_, g0, g1, g2, g3, g4, g5, g6⟩ := HX3.out.md
  obtain ⟨_, k0, k1, k2, k3, k4⟩ := RoAt.of HX3.out.row
  obtain ⟨_, e0, e1⟩ := HX3.out.el
  go_wp2_with fail
  refine (HQ.out w3 HX3.out.ri).mono ?_
  rintro e w4 ⟨rfl, hb4⟩
  have HX4 := Lib.hid ((HX3.out.next hb4).next (below_box1 w4 (boxE fs.1 fs.2.1)))
  have HA1 := Lib.hid (ElAt.new w4 fs.1 fs.2.1 28)
  clear hb4 g0 g1 g2 g3 g4 g5 g6 k0 k1 k2 k3 k4 e0 e1
  obtain ⟨_, g0, g1, g2, g3, g4, g5, g6⟩ := HX4.out.md
  obtain ⟨_, k0, k1, k2, k3, k4⟩ := RoAt.of HX4.out.row
  obtain ⟨_, e0, e1⟩ := HX4.out.el
  go_wp2_with fail
  clear g0 g1 g2 g3 g4 g5 g6 k0 k1 k2 k3 k4 e0 e1
  generalize w4.heap.size = p1 at *
  generalize World.alloc _ _ = X4 at *
  refine (HQ2.out X4 HX4.out.ri).mono ?_
  rintro e w5 ⟨rfl, hb5⟩
  have HX5 := Lib.hid ((HX4.out.next hb5).next (below_box1 w5 (boxE fs.1 fs.2.1)))
  have HA2 := Lib.hid (ElAt.new w5 fs.1 fs.2.1 28)
  replace HA1 := Lib.hid ((HA1.out.step hb5).step (below_box1 w5 (boxE fs.1 fs.2.1)))
  clear hb5
  obtain ⟨_, g0, g1, g2, g3, g4, g5, g6⟩ := HX5.out.md
  obtain ⟨_, k0, k1, k2, k3, k4⟩ := RoAt.of HX5.out.row
  obtain ⟨_, e0, e1⟩ := HX5.out.el
  go_wp2_with fail
  clear g0 g1 g2 g3 g4 g5 g6 k0 k1 k2 k3 k4 e0 e1
  generalize w5.heap.size = p2 at *
  generalize World.alloc _ _ = X5 at *
  refine (HE1.out X5 HX5.out.ri).mono ?_
  rintro e w6 ⟨rfl, hb6⟩
  have HX6 := Lib.hid (HX5.out.next hb6)
  replace HA1 := Lib.hid (HA1.out.step hb6)
  replace HA2 := Lib.hid (HA2.out.step hb6)
  clear hb6
  obtain ⟨_, g0, g1, g2, g3, g4, g5, g6⟩ := HX6.out.md
  obtain ⟨_, k0, k1, k2, k3, k4⟩ := RoAt.of HX6.out.row
  obtain ⟨_, e0, e1⟩ := HX6.out.el
  go_wp2_with fail
  refine (HE2.out w6 HX6.out.ri).mono ?_
  rintro e w7 ⟨rfl, hb7⟩
  have HX7 := Lib.hid (HX6.out.next hb7)
  replace HA1 := Lib.hid (HA1.out.step hb7)
  replace HA2 := Lib.hid (HA2.out.step hb7)
  clear hb7 g0 g1 g2 g3 g4 g5 g6 k0 k1 k2 k3 k4 e0 e1
  obtain ⟨_, x0, x1⟩ := HA1.out
  obtain ⟨_, y0, y1⟩ := HA2.out
  obtain ⟨f1, f2, f3⟩ := fs
  obtain ⟨q1, q2⟩ := ps
  obtain ⟨v1, v2⟩ := es
  simp only at x0 x1 y0 y1
  go_wp2_with fail
  clear x0 x1 y0 y1
  obtain ⟨vb, hvb⟩ : ∃ vb, vb = vldR m f := ⟨_, rfl⟩
  obtain ⟨tb, htb⟩ : ∃ tb, tb = trvR m fr tt := ⟨_, rfl⟩
  obtain ⟨lb, hlb⟩ : ∃ lb, lb = farR m := ⟨_, rfl⟩
  have HV := Lib.hid (fun X (h : RoIn X f ad n1 cap) => valid_any m f ad n1 cap X h.l h.len h.le h.z)
  have HV2 := Lib.hid (fun X (h : RoIn X f ad n1 cap) => rvalid_any m f ad n1 cap X h.l h.len h.le h.nn)
  have HT := Lib.hid (fun X => travel_any m fr tt X HFR.out HTO.out)
  have HT2 := Lib.hid (fun X => rtravel_any m fr tt X HFR.out HTO.out)
  have HL := Lib.hid (fun X => farthest_any m X)
  have HL2 := Lib.hid (fun X => rfarthest_any m X)
  rw [← hvb] at HV HV2
  rw [← htb] at HT HT2
  rw [← hlb] at HL HL2
  clear hvb htb hlb
  have HBX := Lib.hid (Below.refl w7.heap.size w7).drew
  refine wp_region_noPanic ?_
  refine wp_region_held_drew (S := fun X => Below w7.heap.size w7 X) (by kernel_rfl) (HBX.out) (fun hS0 => ?_)
  refine held_take (i := 0) (v := ?_) rfl (by kernel_rfl) (by kernel_rfl) (by kernel_rfl) (fun _ _ _ h => h) (by rfl) ?_ (by assumption) ?_
  rotate_left
  · intro X hSX
    try dsimp only at hSX
    obtain ⟨_, g0, g1, g2, g3, g4, g5, g6⟩ := (HX7.out.next hSX).md
    obtain ⟨_, k0, k1, k2, k3, k4⟩ := RoAt.of (HX7.out.next hSX).row
    go_simp <;> with_reducible rfl
  simp only [Act.put, List.setIfInBounds_toArray, List.set_cons_zero, List.set_cons_succ]
  refine held_take (i := 1) (v := ?_) rfl (by kernel_rfl) (by kernel_rfl) (by kernel_rfl) (fun _ _ _ h => h) (by rfl) ?_ (by assumption) ?_
  rotate_left
  · intro X hSX
    try dsimp only at hSX
    obtain ⟨_, g0, g1, g2, g3, g4, g5, g6⟩ := (HX7.out.next hSX).md
    obtain ⟨_, k0, k1, k2, k3, k4⟩ := RoAt.of (HX7.out.next hSX).row
    go_simp <;> with_reducible rfl
  simp only [Act.put, List.setIfInBounds_toArray, List.set_cons_zero, List.set_cons_succ]
  refine held_take (i := 3) (v := ?_) rfl (by kernel_rfl) (by kernel_rfl) (by kernel_rfl) (fun _ _ _ h => h) (by rfl) ?_ (by assumption) ?_
  rotate_left
  · intro X hSX
    try dsimp only at hSX
    obtain ⟨_, g0, g1, g2, g3, g4, g5, g6⟩ := (HX7.out.next hSX).md
    obtain ⟨_, k0, k1, k2, k3, k4⟩ := RoAt.of (HX7.out.next hSX).row
    go_simp <;> with_reducible rfl
  simp only [Act.put, List.setIfInBounds_toArray, List.set_cons_zero, List.set_cons_succ]
  refine held_take (i := 4) (v := ?_) rfl (by kernel_rfl) (by kernel_rfl) (by kernel_rfl) (fun _ _ _ h => h) (by rfl) ?_ (by assumption) ?_
  rotate_left
  · intro X hSX
    try dsimp only at hSX
    obtain ⟨_, g0, g1, g2, g3, g4, g5, g6⟩ := (HX7.out.next hSX).md
    obtain ⟨_, k0, k1, k2, k3, k4⟩ := RoAt.of (HX7.out.next hSX).row
    go_simp <;> with_reducible rfl
  simp only [Act.put, List.setIfInBounds_toArray, List.set_cons_zero, List.set_cons_succ]
  refine held_call (i := 2) rfl (by kernel_rfl) (by rfl) (fun K' hK' => ?_)
  go_simp
  refine (HV.out _ (HX7.out.next HBX.out).ri).mono ?_
  rintro e u1 ⟨rfl, hbu1⟩
  replace HBX := Lib.hid (HBX.out.trans (hbu1.mono HBX.out.size))
  clear hbu1
  refine held_go hK' (HBX.out) ?_
  try simp only [Act.put, List.setIfInBounds_toArray, List.set_cons_zero, List.set_cons_succ]
  refine held_call (i := 5) rfl (by kernel_rfl) (by rfl) (fun K' hK' => ?_)
  go_simp
  refine (HV2.out _ (HX7.out.next HBX.out).ri).mono ?_
  rintro e u2 ⟨rfl, hbu2⟩
  replace HBX := Lib.hid (HBX.out.trans (hbu2.mono HBX.out.size))
  clear hbu2
  refine held_go hK' (HBX.out) ?_
  try simp only [Act.put, List.setIfInBounds_toArray, List.set_cons_zero, List.set_cons_succ]
  refine held_take (i := 6) (v := ?_) rfl (by kernel_rfl) (by kernel_rfl) (by kernel_rfl) (fun _ _ _ h => h) (by rfl) ?_ (by assumption) ?_
  rotate_left
  · intro X hSX
    try dsimp only at hSX
    have hvv : (vb == vb) = true := beq_self_eq_true vb
    go_simp <;> with_reducible rfl
  simp only [Act.put, List.setIfInBounds_toArray, List.set_cons_zero, List.set_cons_succ]
  refine held_take (i := 7) (v := ?_) rfl (by kernel_rfl) (by kernel_rfl) (by kernel_rfl) (fun _ _ _ h => h) (by rfl) ?_ (by assumption) ?_
  rotate_left
  · intro X hSX
    try dsimp only at hSX
    have hvv : (vb == vb) = true := beq_self_eq_true vb
    go_simp <;> with_reducible rfl
  simp only [Act.put, List.setIfInBounds_toArray, List.set_cons_zero, List.set_cons_succ]
  refine held_take (i := 8) (v := ?_) rfl (by kernel_rfl) (by kernel_rfl) (by kernel_rfl) (fun _ _ _ h => h) (by rfl) ?_ (by assumption) ?_
  rotate_left
  · intro X hSX
    try dsimp only at hSX
    obtain ⟨_, g0, g1, g2, g3, g4, g5, g6⟩ := (HX7.out.next hSX).md
    obtain ⟨_, k0, k1, k2, k3, k4⟩ := RoAt.of (HX7.out.next hSX).row
    go_simp <;> with_reducible rfl
  simp only [Act.put, List.setIfInBounds_toArray, List.set_cons_zero, List.set_cons_succ]
  refine held_take (i := 9) (v := ?_) rfl (by kernel_rfl) (by kernel_rfl) (by kernel_rfl) (fun _ _ _ h => h) (by rfl) ?_ (by assumption) ?_
  rotate_left
  · intro X hSX
    try dsimp only at hSX
    obtain ⟨_, g0, g1, g2, g3, g4, g5, g6⟩ := (HX7.out.next hSX).md
    obtain ⟨_, k0, k1, k2, k3, k4⟩ := RoAt.of (HX7.out.next hSX).row
    go_simp <;> with_reducible rfl
  simp only [Act.put, List.setIfInBounds_toArray, List.set_cons_zero, List.set_cons_succ]
  refine held_take (i := 10) (v := ?_) rfl (by kernel_rfl) (by kernel_rfl) (by kernel_rfl) (fun _ _ _ h => h) (by rfl) ?_ (by assumption) ?_
  rotate_left
  · intro X hSX
    try dsimp only at hSX
    obtain ⟨_, g0, g1, g2, g3, g4, g5, g6⟩ := (HX7.out.next hSX).md
    obtain ⟨_, k0, k1, k2, k3, k4⟩ := RoAt.of (HX7.out.next hSX).row
    go_simp <;> with_reducible rfl
  simp only [Act.put, List.setIfInBounds_toArray, List.set_cons_zero, List.set_cons_succ]
  refine held_take (i := 12) (v := ?_) rfl (by kernel_rfl) (by kernel_rfl) (by kernel_rfl) (fun _ _ _ h => h) (by rfl) ?_ (by assumption) ?_
  rotate_left
  · intro X hSX
    try dsimp only at hSX
    obtain ⟨_, g0, g1, g2, g3, g4, g5, g6⟩ := (HX7.out.next hSX).md
    obtain ⟨_, k0, k1, k2, k3, k4⟩ := RoAt.of (HX7.out.next hSX).row
    go_simp <;> with_reducible rfl
  simp only [Act.put, List.setIfInBounds_toArray, List.set_cons_zero, List.set_cons_succ]
  refine held_take (i := 13) (v := ?_) rfl (by kernel_rfl) (by kernel_rfl) (by kernel_rfl) (fun _ _ _ h => h) (by rfl) ?_ (by assumption) ?_
  rotate_left
  · intro X hSX
    try dsimp only at hSX
    obtain ⟨_, g0, g1, g2, g3, g4, g5, g6⟩ := (HX7.out.next hSX).md
    obtain ⟨_, k0, k1, k2, k3, k4⟩ := RoAt.of (HX7.out.next hSX).row
    go_simp <;> with_reducible rfl
  simp only [Act.put, List.setIfInBounds_toArray, List.set_cons_zero, List.set_cons_succ]
  refine held_take (i := 14) (v := ?_) rfl (by kernel_rfl) (by kernel_rfl) (by kernel_rfl) (fun _ _ _ h => h) (by rfl) ?_ (by assumption) ?_
  rotate_left
  · intro X hSX
    try dsimp only at hSX
    obtain ⟨_, g0, g1, g2, g3, g4, g5, g6⟩ := (HX7.out.next hSX).md
    obtain ⟨_, k0, k1, k2, k3, k4⟩ := RoAt.of (HX7.out.next hSX).row
    go_simp <;> with_reducible rfl
  simp only [Act.put, List.setIfInBounds_toArray, List.set_cons_zero, List.set_cons_succ]
  refine held_call (i := 11) rfl (by kernel_rfl) (by rfl) (fun K' hK' => ?_)
  go_simp
  refine (HT.out _).mono ?_
  rintro e u3 ⟨rfl, hbu3⟩
  replace HBX := Lib.hid (HBX.out.trans (hbu3.mono HBX.out.size))
  clear hbu3
  refine held_go hK' (HBX.out) ?_
  try simp only [Act.put, List.setIfInBounds_toArray, List.set_cons_zero, List.set_cons_succ]
  refine held_call (i := 15) rfl (by kernel_rfl) (by rfl) (fun K' hK' => ?_)
  go_simp
  refine (HT2.out _).mono ?_
  rintro e u4 ⟨rfl, hbu4⟩
  replace HBX := Lib.hid (HBX.out.trans (hbu4.mono HBX.out.size))
  clear hbu4
  refine held_go hK' (HBX.out) ?_
  try simp only [Act.put, List.setIfInBounds_toArray, List.set_cons_zero, List.set_cons_succ]
  refine held_take (i := 16) (v := ?_) rfl (by kernel_rfl) (by kernel_rfl) (by kernel_rfl) (fun _ _ _ h => h) (by rfl) ?_ (by assumption) ?_
  rotate_left
  · intro X hSX
    try dsimp only at hSX
    have hvv : (tb == tb) = true := beq_self_eq_true tb
    go_simp <;> with_reducible rfl
  simp only [Act.put, List.setIfInBounds_toArray, List.set_cons_zero, List.set_cons_succ]
  refine held_take (i := 17) (v := ?_) rfl (by kernel_rfl) (by kernel_rfl) (by kernel_rfl) (fun _ _ _ h => h) (by rfl) ?_ (by assumption) ?_
  rotate_left
  · intro X hSX
    try dsimp only at hSX
    have hvv : (tb == tb) = true := beq_self_eq_true tb
    go_simp <;> with_reducible rfl
  simp only [Act.put, List.setIfInBounds_toArray, List.set_cons_zero, List.set_cons_succ]
  refine held_take (i := 18) (v := ?_) rfl (by kernel_rfl) (by kernel_rfl) (by kernel_rfl) (fun _ _ _ h => h) (by rfl) ?_ (by assumption) ?_
  rotate_left
  · intro X hSX
    try dsimp only at hSX
    have hvv : (tb == tb) = true := beq_self_eq_true tb
    go_simp <;> with_reducible rfl
  simp only [Act.put, List.setIfInBounds_toArray, List.set_cons_zero, List.set_cons_succ]
  refine held_take (i := 19) (v := ?_) rfl (by kernel_rfl) (by kernel_rfl) (by kernel_rfl) (fun _ _ _ h => h) (by rfl) ?_ (by assumption) ?_
  rotate_left
  · intro X hSX
    try dsimp only at hSX
    obtain ⟨_, g0, g1, g2, g3, g4, g5, g6⟩ := (HX7.out.next hSX).md
    obtain ⟨_, k0, k1, k2, k3, k4⟩ := RoAt.of (HX7.out.next hSX).row
    go_simp <;> with_reducible rfl
  simp only [Act.put, List.setIfInBounds_toArray, List.set_cons_zero, List.set_cons_succ]
  refine held_take (i := 21) (v := ?_) rfl (by kernel_rfl) (by kernel_rfl) (by kernel_rfl) (fun _ _ _ h => h) (by rfl) ?_ (by assumption) ?_
  rotate_left
  · intro X hSX
    try dsimp only at hSX
    obtain ⟨_, g0, g1, g2, g3, g4, g5, g6⟩ := (HX7.out.next hSX).md
    obtain ⟨_, k0, k1, k2, k3, k4⟩ := RoAt.of (HX7.out.next hSX).row
    go_simp <;> with_reducible rfl
  simp only [Act.put, List.setIfInBounds_toArray, List.set_cons_zero, List.set_cons_succ]
  refine held_call (i := 20) rfl (by kernel_rfl) (by rfl) (fun K' hK' => ?_)
  go_simp
  refine (HL.out _).mono ?_
  rintro e u5 ⟨rfl, hbu5⟩
  replace HBX := Lib.hid (HBX.out.trans (hbu5.mono HBX.out.size))
  clear hbu5
  refine held_go hK' (HBX.out) ?_
  try simp only [Act.put, List.setIfInBounds_toArray, List.set_cons_zero, List.set_cons_succ]
  refine held_call (i := 22) rfl (by kernel_rfl) (by rfl) (fun K' hK' => ?_)
  go_simp
  refine (HL2.out _).mono ?_
  rintro e u6 ⟨rfl, hbu6⟩
  replace HBX := Lib.hid (HBX.out.trans (hbu6.mono HBX.out.size))
  clear hbu6
  refine held_go hK' (HBX.out) ?_
  try simp only [Act.put, List.setIfInBounds_toArray, List.set_cons_zero, List.set_cons_succ]
  refine held_take (i := 23) (v := ?_) rfl (by kernel_rfl) (by kernel_rfl) (by kernel_rfl) (fun _ _ _ h => h) (by rfl) ?_ (by assumption) ?_
  rotate_left
  · intro X hSX
    try dsimp only at hSX
    have hvv : (lb == lb) = true := beq_self_eq_true lb
    go_simp <;> with_reducible rfl
  simp only [Act.put, List.setIfInBounds_toArray, List.set_cons_zero, List.set_cons_succ]
  refine held_take (i := 24) (v := ?_) rfl (by kernel_rfl) (by kernel_rfl) (by kernel_rfl) (fun _ _ _ h => h) (by rfl) ?_ (by assumption) ?_
  rotate_left
  · intro X hSX
    try dsimp only at hSX
    have hvv : (lb == lb) = true := beq_self_eq_true lb
    go_simp <;> with_reducible rfl
  simp only [Act.put, List.setIfInBounds_toArray, List.set_cons_zero, List.set_cons_succ]
  refine held_take (i := 25) (v := ?_) rfl (by kernel_rfl) (by kernel_rfl) (by kernel_rfl) (fun _ _ _ h => h) (by rfl) ?_ (by assumption) ?_
  rotate_left
  · intro X hSX
    try dsimp only at hSX
    have hvv : (lb == lb) = true := beq_self_eq_true lb
    go_simp <;> with_reducible rfl
  simp only [Act.put, List.setIfInBounds_toArray, List.set_cons_zero, List.set_cons_succ]
  refine held_call (i := 26) rfl (by kernel_rfl) (by rfl) (fun K' hK' => ?_)
  go_simp
  refine (awake_any _).mono ?_
  rintro e u7 ⟨rfl, hbu7⟩
  replace HBX := Lib.hid (HBX.out.trans (hbu7.mono HBX.out.size))
  clear hbu7
  refine held_go hK' (HBX.out) ?_
  try simp only [Act.put, List.setIfInBounds_toArray, List.set_cons_zero, List.set_cons_succ]
  refine held_take (i := 27) (v := ?_) rfl (by kernel_rfl) (by kernel_rfl) (by kernel_rfl) (fun _ _ _ h => h) (by rfl) ?_ (by assumption) ?_
  rotate_left
  · intro X hSX
    try dsimp only at hSX
    go_simp <;> with_reducible rfl
  simp only [Act.put, List.setIfInBounds_toArray, List.set_cons_zero, List.set_cons_succ]
  refine held_take (i := 28) (v := ?_) rfl (by kernel_rfl) (by kernel_rfl) (by kernel_rfl) (fun _ _ _ h => h) (by rfl) ?_ (by assumption) ?_
  rotate_left
  · intro X hSX
    try dsimp only at hSX
    go_simp <;> with_reducible rfl
  simp only [Act.put, List.setIfInBounds_toArray, List.set_cons_zero, List.set_cons_succ]
  refine wpAnyH_done (by kernel_rfl) ?_ _
  refine NoPanic.normal ?_
  have HB9 := Lib.hid (HX7.out.next HBX.out).b
  go_wp2
  go_ret
  exact ⟨rfl, HB9.out⟩
set_option maxRecDepth 100000 in
set_option maxHeartbeats 4000000 in
theorem law_picks (m : Rmd) (r : Rbt) (ad : Option Addr) (n cap : Nat) (k i : Int) (b : ByteArray) (w : World) (ha : RoArg w r ad n cap) (hb : b.size ≤ maxLen) :
    Calls Try.prog 4 #[rmV m, roV r ad n cap, elV k i, .string b] w fun e w' => e = .returned (.bool true) ∧ Below w.heap.size w w' := by
  have HBB := Lib.hid hb
  clear hb
  obtain ⟨hB, hM, hR, hE, hS⟩ := box_mre w m r ad n cap k i
  have HB := Lib.hid hB
  have HM := Lib.hid hM
  have HR := Lib.hid hR
  have HE := Lib.hid (ElAt.of hE)
  have HS := Lib.hid (Nat.le_of_eq hS.symm)
  have HA := Lib.hid ha
  have HF := Lib.hid (fun X (h : Below w.heap.size w X) => few_any r ad n cap X (ha.l.below h rfl) ha.len ha.c ha.mx)
  clear hB hM hR hE hS ha
  go_enter Try.func4, Try.ntmps4
  go_wp2_with fail
  generalize World.alloc _ _ = X0 at *
  refine (HF.out X0 HB.out).mono ?_
  rintro e w1 ⟨n1, rfl, hn1, h70, hb1⟩
  have HR1 := Lib.hid (row_step HR.out hb1)
  have HX := Lib.hid (Lw.start HA.out (HB.out.trans (hb1.mono HB.out.size)) (Nat.le_trans HS.out hb1.size) (HM.out.step hb1) HR1.out (HE.out.step hb1) hn1 h70)
  clear hn1 h70 hb1
  go_upto_region 2 with (with_reducible refine wpList_store_ro rfl (.tmp 5) (.tmp 16) rfl (w.heap.size + 1) rfl _ _ _ _ _ _ _ rfl r ad n cap HR1.out ?_)
  have HX1 := Lib.hid HX.out
  generalize World.setRow _ _ _ = X1 at *
  clear HX HR1 HF HM HR HE HB
  obtain ⟨f, hf⟩ : ∃ f, f = fewR r := ⟨_, rfl⟩
  rw [← hf] at HX1 ⊢
  clear hf
  obtain ⟨_, g0, g1, g2, g3, g4, g5, g6⟩ := HX1.out.md
  obtain ⟨_, k0, k1, k2, k3, k4⟩ := RoAt.of HX1.out.row
  obtain ⟨_, e0, e1⟩ := HX1.out.el
  obtain ⟨x, hx⟩ : ∃ x, x = picR m f k i b := ⟨_, rfl⟩
  have HP := Lib.hid (fun X h => pick_any m f ad n1 cap k i b X h)
  have HP2 := Lib.hid (fun X h => rpick_any m f ad n1 cap k i b X h)
  have HZ := Lib.hid (show Sz 70 x.1 from by rw [hx]; exact sz_pick ⟨HX1.out.ri.z, by rw [← HX1.out.ri.len]; exact HX1.out.h⟩ HBB.out)
  rw [← hx] at HP HP2
  clear hx
  go_wp2_with fail
  refine (HP.out X1 HX1.out.ri).mono ?_
  rintro e w2 ⟨a2, n2, c2, rfl, hn2, hs2, hb2⟩
  have HX2 := Lib.hid ((HX1.out.next hb2).next (below_box1 w2 (boxR x.1 a2 n2 c2)))
  have HA := Lib.hid (show RoB (w2.alloc (boxR x.1 a2 n2 c2)) w2.heap.size x.1 a2 n2 c2 from ⟨heap_new _ _, (HZ.out.in_ (by decide) hn2 hs2).below (below_box1 _ _)⟩)
  have HN2 := Lib.hid hn2
  clear hb2 hn2 hs2 g0 g1 g2 g3 g4 g5 g6 k0 k1 k2 k3 k4 e0 e1
  obtain ⟨_, g0, g1, g2, g3, g4, g5, g6⟩ := HX2.out.md
  obtain ⟨_, k0, k1, k2, k3, k4⟩ := RoAt.of HX2.out.row
  obtain ⟨_, e0, e1⟩ := HX2.out.el
  go_wp2_with fail
  clear g0 g1 g2 g3 g4 g5 g6 k0 k1 k2 k3 k4 e0 e1
  generalize w2.heap.size = p1 at *
  generalize World.alloc _ _ = X2 at *
  refine (HP2.out X2 HX2.out.ri).mono ?_
  rintro e w3 ⟨a3, n3, c3, rfl, hn3, hs3, hb3⟩
  have HX3 := Lib.hid ((HX2.out.next hb3).next (below_box1 w3 (boxR x.1 a3 n3 c3)))
  have HA1 := Lib.hid ((HA.out.next hb3).next (below_box1 w3 (boxR x.1 a3 n3 c3)))
  have HB1 := Lib.hid (show RoB (w3.alloc (boxR x.1 a3 n3 c3)) w3.heap.size x.1 a3 n3 c3 from ⟨heap_new _ _, (HZ.out.in_ (by decide) hn3 hs3).below (below_box1 _ _)⟩)
  have HNN := Lib.hid (show n3 = n2 from hn3.trans HN2.out.symm)
  obtain rfl := HNN.out
  clear hb3 hn3 hs3
  obtain ⟨_, k0, k1, k2, k3, k4⟩ := RoAt.of HA1.out.row
  obtain ⟨_, j0, j1, j2, j3, j4⟩ := RoAt.of HB1.out.row
  go_wp2_with fail
  clear k0 k1 k2 k3 k4 j0 j1 j2 j3 j4
  generalize World.alloc _ _ = X3 at *
  refine (same_any x.1 a2 a3 n3 c2 c3 X3 HA1.out.i.sx HB1.out.i.sx).mono ?_
  rintro e w4 ⟨rfl, hb4⟩
  have HX4 := Lib.hid (HX3.out.next hb4)
  clear hb4
  obtain ⟨x1, x2, x3⟩ := x
  go_wp2_with fail
  refine (awake_any _).mono ?_
  rintro e w5 ⟨rfl, hb5⟩
  have HB5 := Lib.hid (HX4.out.next hb5).b
  clear hb5
  go_wp2
  go_ret
  exact ⟨rfl, HB5.out⟩
set_option maxRecDepth 100000 in
set_option maxHeartbeats 4000000 in
theorem law_puts (m : Rmd) (r : Rbt) (ad : Option Addr) (n cap : Nat) (k i : Int) (w : World) (ha : RoArg w r ad n cap) :
    Calls Try.prog 5 #[rmV m, roV r ad n cap, elV k i] w fun e w' => e = .returned (.bool true) ∧ Below w.heap.size w w' := by
  obtain ⟨hB, hM, hR, hE, hS⟩ := box_mre w m r ad n cap k i
  have HB := Lib.hid hB
  have HM := Lib.hid hM
  have HR := Lib.hid hR
  have HE := Lib.hid (ElAt.of hE)
  have HS := Lib.hid (Nat.le_of_eq hS.symm)
  have HA := Lib.hid ha
  have HF := Lib.hid (fun X (h : Below w.heap.size w X) => few_any r ad n cap X (ha.l.below h rfl) ha.len ha.c ha.mx)
  clear hB hM hR hE hS ha
  go_enter Try.func5, Try.ntmps5
  go_wp2_with fail
  generalize World.alloc _ _ = X0 at *
  refine (HF.out X0 HB.out).mono ?_
  rintro e w1 ⟨n1, rfl, hn1, h70, hb1⟩
  have HR1 := Lib.hid (row_step HR.out hb1)
  have HX := Lib.hid (Lw.start HA.out (HB.out.trans (hb1.mono HB.out.size)) (Nat.le_trans HS.out hb1.size) (HM.out.step hb1) HR1.out (HE.out.step hb1) hn1 h70)
  clear hn1 h70 hb1
  go_upto_region 2 with (with_reducible refine wpList_store_ro rfl (.tmp 4) (.tmp 14) rfl (w.heap.size + 1) rfl _ _ _ _ _ _ _ rfl r ad n cap HR1.out ?_)
  have HX1 := Lib.hid HX.out
  generalize World.setRow _ _ _ = X1 at *
  clear HX HR1 HF HM HR HE HB
  obtain ⟨f, hf⟩ : ∃ f, f = fewR r := ⟨_, rfl⟩
  rw [← hf] at HX1 ⊢
  clear hf
  obtain ⟨_, g0, g1, g2, g3, g4, g5, g6⟩ := HX1.out.md
  obtain ⟨_, k0, k1, k2, k3, k4⟩ := RoAt.of HX1.out.row
  obtain ⟨_, e0, e1⟩ := HX1.out.el
  obtain ⟨x, hx⟩ : ∃ x, x = putR m f k i := ⟨_, rfl⟩
  have HP := Lib.hid (fun X h => put_any m f ad n1 cap k i X h)
  have HP2 := Lib.hid (fun X h => rput_any m f ad n1 cap k i X h)
  have HZ := Lib.hid (show Sz 70 x.1 from by rw [hx]; exact sz_put ⟨HX1.out.ri.z, by rw [← HX1.out.ri.len]; exact HX1.out.h⟩)
  rw [← hx] at HP HP2
  clear hx
  go_wp2_with fail
  refine (HP.out X1 HX1.out.ri).mono ?_
  rintro e w2 ⟨a2, n2, c2, rfl, hn2, hs2, hb2⟩
  have HX2 := Lib.hid ((HX1.out.next hb2).next (below_box1 w2 (boxR x.1 a2 n2 c2)))
  have HA := Lib.hid (show RoB (w2.alloc (boxR x.1 a2 n2 c2)) w2.heap.size x.1 a2 n2 c2 from ⟨heap_new _ _, (HZ.out.in_ (by decide) hn2 hs2).below (below_box1 _ _)⟩)
  have HN2 := Lib.hid hn2
  clear hb2 hn2 hs2 g0 g1 g2 g3 g4 g5 g6 k0 k1 k2 k3 k4 e0 e1
  obtain ⟨_, g0, g1, g2, g3, g4, g5, g6⟩ := HX2.out.md
  obtain ⟨_, k0, k1, k2, k3, k4⟩ := RoAt.of HX2.out.row
  obtain ⟨_, e0, e1⟩ := HX2.out.el
  go_wp2_with fail
  clear g0 g1 g2 g3 g4 g5 g6 k0 k1 k2 k3 k4 e0 e1
  generalize w2.heap.size = p1 at *
  generalize World.alloc _ _ = X2 at *
  refine (HP2.out X2 HX2.out.ri).mono ?_
  rintro e w3 ⟨a3, n3, c3, rfl, hn3, hs3, hb3⟩
  have HX3 := Lib.hid ((HX2.out.next hb3).next (below_box1 w3 (boxR x.1 a3 n3 c3)))
  have HA1 := Lib.hid ((HA.out.next hb3).next (below_box1 w3 (boxR x.1 a3 n3 c3)))
  have HB1 := Lib.hid (show RoB (w3.alloc (boxR x.1 a3 n3 c3)) w3.heap.size x.1 a3 n3 c3 from ⟨heap_new _ _, (HZ.out.in_ (by decide) hn3 hs3).below (below_box1 _ _)⟩)
  have HNN := Lib.hid (show n3 = n2 from hn3.trans HN2.out.symm)
  obtain rfl := HNN.out
  clear hb3 hn3 hs3
  obtain ⟨_, k0, k1, k2, k3, k4⟩ := RoAt.of HA1.out.row
  obtain ⟨_, j0, j1, j2, j3, j4⟩ := RoAt.of HB1.out.row
  go_wp2_with fail
  clear k0 k1 k2 k3 k4 j0 j1 j2 j3 j4
  generalize World.alloc _ _ = X3 at *
  refine (same_any x.1 a2 a3 n3 c2 c3 X3 HA1.out.i.sx HB1.out.i.sx).mono ?_
  rintro e w4 ⟨rfl, hb4⟩
  have HX4 := Lib.hid (HX3.out.next hb4)
  clear hb4
  obtain ⟨x1, x2, x3⟩ := x
  go_wp2_with fail
  refine (awake_any _).mono ?_
  rintro e w5 ⟨rfl, hb5⟩
  have HB5 := Lib.hid (HX4.out.next hb5).b
  clear hb5
  go_wp2
  go_ret
  exact ⟨rfl, HB5.out⟩
end Go.Proofs.Ytmhaeipklifhcaa
