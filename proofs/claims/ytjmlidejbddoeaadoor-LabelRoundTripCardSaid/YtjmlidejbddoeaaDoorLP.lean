/-
  Bytes that come in.
  The program's listed variables (frame's and label's) as the walks want them.
  The contracts of the package's functions, whoever wrote them; the law package's lives.
  A guarded operation that is wanted, as one without a guard.
  The law package's lives: true.
-/
import Derived.Test.YtjmlidejbddoeaaDoorLL
import Derived.Deep.Slices
import Derived.ChangeSame
import Derived.ChangeArms
import Derived.ProofKit
import Derived.LaidMore
import Derived.OpenShut
import Derived.Stop.Joined
import Derived.Test.YtjmlidejbddoeaaDoorLO
import Derived.Test.YtjmlidejbddoeaaDoorRows
import Derived.WalkKit
namespace Go.Proofs.YtjmlidejbddoeaaDoor
open Go.RowKit Go.ChangeShapes Go.WideShapes Go.Deep
set_option maxRecDepth 100000

section
variable {H : Type} {enc' : TypeId × Value → H} {w : World} {base : Nat} {spare : Nat → Bool} {held : Bool}

theorem open_bytes {r : Reach} {b0 : Nat} {v : Value} {d : DataW H} {p : List MemPlace} (hv : Value.okWide Tryd.prog w r b0 36 v) (h : DataW.Trod enc' Tryd.prog w base (fun _ => true) held 36 v d p) :
    ∃ (ad : Option Addr) (cap : Nat) (xs : List UInt8), v = .slice ad xs.length cap ∧ Lie w ad xs ∧ xs.length ≤ cap ∧ cap ≤ maxLen ∧ (ad = none → cap = 0) := by
  obtain ⟨a, len, cap, rfl⟩ := okWide_slice Tryd.underlying36 hv
  obtain ⟨fuel, hf⟩ := h
  rcases open_ints Tryd.underlying36 Tryd.underlying5 (by kernel_rfl) hf with ⟨hcs, _⟩ | ⟨x, l, c, zs, hcs, _, hl, hm, hz, _, hcell, hwz⟩
  · simp [Value.cells] at hcs
    obtain ⟨rfl, rfl, rfl⟩ := hcs
    exact ⟨none, 0, [], rfl, .nil _ _, Nat.le_refl _, Nat.zero_le _, fun _ => rfl⟩
  · simp [Value.cells] at hcs
    obtain ⟨rfl, rfl, rfl⟩ := hcs
    obtain ⟨xs, rfl, h1, h2, h3, h4⟩ := lie_of w (some x) len cap zs (.inr ⟨x, rfl, hl, hm, by simpa using hz, hcell, hwz⟩)
    exact ⟨_, cap, xs, rfl, h1, h2, h3, h4⟩
end

theorem own : ownKnob Tryd.prog.godebug = none := by kernel_rfl
theorem laidOut : laidOutB Tryd.prog = true := by kernel_rfl
end Go.Proofs.YtjmlidejbddoeaaDoor
namespace Go.Proofs.YtjmlidejbddoeaaDoor
open Go.RowKit Go.ChangeShapes Go.WideShapes Go.Deep
set_option maxRecDepth 100000
/-- The listed variables lie as the program's text says. -/
structure Lmg (w : World) : Prop where
  mag : Mag w
  u0 : w.cell? ⟨4, 0, none⟩ = some (.int .u8 65)
  u1 : w.cell? ⟨4, 1, none⟩ = some (.int .u8 90)
  l0 : w.cell? ⟨0, 0, none⟩ = some (.int .u8 97)
  l1 : w.cell? ⟨0, 1, none⟩ = some (.int .u8 122)
  d0 : w.cell? ⟨1, 0, none⟩ = some (.int .u8 48)
  d1 : w.cell? ⟨1, 1, none⟩ = some (.int .u8 57)
  h0 : w.cell? ⟨2, 0, none⟩ = some (.int .u8 45)
  h1 : w.cell? ⟨2, 1, none⟩ = some (.int .u8 45)
theorem cell_lt {w : World} {g k : Nat} {v : Value} (h : w.cell? ⟨g, k, none⟩ = some v) : g < w.heap.size := by
  rcases Nat.lt_or_ge g w.heap.size with h' | h'
  · exact h'
  · simp [World.cell?, Array.getElem?_eq_none h'] at h
theorem Lmg.step {w w' : World} (h : Lmg w) (hb : Below w.heap.size w w') : Lmg w' :=
  ⟨h.mag.step hb, (hb.cell (p := ⟨_, 0, none⟩) (cell_lt h.u0)).trans h.u0, (hb.cell (p := ⟨_, 1, none⟩) (cell_lt h.u1)).trans h.u1, (hb.cell (p := ⟨_, 0, none⟩) (cell_lt h.l0)).trans h.l0, (hb.cell (p := ⟨_, 1, none⟩) (cell_lt h.l1)).trans h.l1,
    (hb.cell (p := ⟨_, 0, none⟩) (cell_lt h.d0)).trans h.d0, (hb.cell (p := ⟨_, 1, none⟩) (cell_lt h.d1)).trans h.d1, (hb.cell (p := ⟨_, 0, none⟩) (cell_lt h.h0)).trans h.h0, (hb.cell (p := ⟨_, 1, none⟩) (cell_lt h.h1)).trans h.h1⟩
/-- The list of the row's variables. -/
abbrev laid1 {H : Type} : List (String × DataW H) := [("tapearchive/frame.magic", Rows.laid_tapearchive_frame_magic), ("tapearchive/label.upper", Rows.laid_tapearchive_label_upper), ("tapearchive/label.lower", Rows.laid_tapearchive_label_lower), ("tapearchive/label.digits", Rows.laid_tapearchive_label_digits), ("tapearchive/label.hyphen", Rows.laid_tapearchive_label_hyphen)]
theorem door_met (os : Os) (args : Array Value) : laidMetH Tryd.prog laid1 ((World.doorLaid Tryd.prog 30 os).forCall (fun _ _ => 0) ⟨#[], args, []⟩).memory :=
  laidMetH_of_parts3 (fuel := 8) (laidMet_of_run' 8 (by kernel_rfl) (by kernel_rfl)) (by kernel_rfl) (by kernel_rfl)
/-- a listed variable of two bytes -/
theorem two_cells {W : World} {n : String} {gn : Nat} {a b : Int} (e1 : Tryd.prog.globalNamed n = some gn) (e2 : (Tryd.prog.globals[gn]?).map (·.type) = some 53) {d : DataW Unit} (hdd : d = .agg [.lit (.int .u8 a), .lit (.int .u8 b)])
    (h : ∃ g t cs fuel p, Tryd.prog.globalNamed n = some g ∧ (Tryd.prog.globals[g]?).map (·.type) = some t ∧ W.var? Tryd.prog n = some cs ∧ DataW.trod (fun _ => ()) Tryd.prog W 0 (fun _ => true) false fuel t cs.toList = some (d, p)) :
    W.cell? ⟨gn, 0, none⟩ = some (.int .u8 a) ∧ W.cell? ⟨gn, 1, none⟩ = some (.int .u8 b) := by
  obtain ⟨g0, t0, cs0, f0, p0, hg0, ht0, hv0, hd0⟩ := h
  obtain rfl := Option.some.inj (e1.symm.trans hg0)
  obtain rfl := Option.some.inj (e2.symm.trans ht0)
  obtain ⟨xs, m1, rfl, hx1, hlen, hn3, hel⟩ := DataW.trod_array Tryd.underlying53 hd0
  have c1 : Tryd.prog.cellsOf 5 = 1 := by kernel_rfl
  have c2 : Tryd.prog.cellsOf 53 = 2 := by kernel_rfl
  have e0 := hel 0 (by decide)
  have e1 := hel 1 (by decide)
  rw [c1] at e0 e1
  subst hdd
  simp only [Prod.mk.injEq, DataW.agg.injEq] at hx1
  match xs, hn3, hx1, e0, e1 with
  | [x0, x1], _, hx1, e0, e1 =>
    simp only [List.map_cons, List.map_nil, List.cons.injEq] at hx1
    obtain ⟨k0, a0, b0, _⟩ := DataW.trod_int Tryd.underlying5 (show DataW.trod _ Tryd.prog W 0 _ false m1 5 _ = some x0 from e0)
    obtain ⟨k1, a1, b1, _⟩ := DataW.trod_int Tryd.underlying5 (show DataW.trod _ Tryd.prog W 0 _ false m1 5 _ = some x1 from e1)
    have hk0 : k0 = a := by rw [b0] at hx1; simpa using hx1.1.1.symm
    have hk1 : k1 = b := by rw [b1] at hx1; simpa using hx1.1.2.1.symm
    subst hk0 hk1
    have w0 := World.var?_cell hg0 hv0 0
    have w1 := World.var?_cell hg0 hv0 1
    rw [c2] at hlen
    obtain ⟨l1⟩ := cs0
    match l1, hlen, a0, a1, w0, w1 with
    | [y0, y1], _, a0, a1, w0, w1 =>
      simp at a0 a1 w0 w1
      subst a0 a1
      exact ⟨w0, w1⟩
theorem of_laid {W : World} (h : laidMetH Tryd.prog laid1 W) : Lmg W := by
  rw [MakeChecks.laidMetH_plain _ _ _ (by kernel_rfl)] at h
  obtain ⟨ps, ⟨g0, t0, cs0, f0, p0, q0, hg0, ht0, hv0, hd0, ⟨g1, t1, cs1, f1, p1, q1, hg1, ht1, hv1, hd1, ⟨g2, t2, cs2, f2, p2, q2, hg2, ht2, hv2, hd2, ⟨g3, t3, cs3, f3, p3, q3, hg3, ht3, hv3, hd3, ⟨g4, t4, cs4, f4, p4, q4, hg4, ht4, hv4, hd4, _, _⟩, _⟩, _⟩, _⟩, _⟩, _, _⟩ := h
  obtain ⟨m0, m1⟩ := two_cells (a := 167) (b := 60) (gn := 3) (by kernel_rfl) (by kernel_rfl) rfl ⟨g0, t0, cs0, f0, p0, hg0, ht0, hv0, hd0⟩
  obtain ⟨u0, u1⟩ := two_cells (a := 65) (b := 90) (gn := 4) (by kernel_rfl) (by kernel_rfl) rfl ⟨g1, t1, cs1, f1, p1, hg1, ht1, hv1, hd1⟩
  obtain ⟨l0, l1⟩ := two_cells (a := 97) (b := 122) (gn := 0) (by kernel_rfl) (by kernel_rfl) rfl ⟨g2, t2, cs2, f2, p2, hg2, ht2, hv2, hd2⟩
  obtain ⟨d0, d1⟩ := two_cells (a := 48) (b := 57) (gn := 1) (by kernel_rfl) (by kernel_rfl) rfl ⟨g3, t3, cs3, f3, p3, hg3, ht3, hv3, hd3⟩
  obtain ⟨h0, h1⟩ := two_cells (a := 45) (b := 45) (gn := 2) (by kernel_rfl) (by kernel_rfl) rfl ⟨g4, t4, cs4, f4, p4, hg4, ht4, hv4, hd4⟩
  exact ⟨⟨m0, m1⟩, u0, u1, l0, l1, d0, d1, h0, h1⟩
end Go.Proofs.YtjmlidejbddoeaaDoor
namespace Go.Proofs.YtjmlidejbddoeaaDoor
open Go.RowKit
set_option linter.unusedVariables false
/-- the six functions of the package -/
structure LbSide : Prop where
  name : ∀ (s : ByteArray) (w : World), s.size ≤ maxLen → Lmg w → Calls Tryd.prog 14 #[.string s] w fun e w' => e = .returned (.bool (nam s)) ∧ Below w.heap.size w w'
  valid : ∀ (x : Lbl) (w : World), x.Fit → Lmg w → Calls Tryd.prog 12 #[lbV x] w fun e w' => e = .returned (.bool (vldT x)) ∧ Below w.heap.size w w'
  blocks : ∀ (x : Lbl) (w : World), x.Fit → Lmg w → Calls Tryd.prog 9 #[lbV x] w (RetBk w (blkR x))
  parse : ∀ (ad : Option Addr) (n cap : Nat) (l : List Blk) (w : World), Ki w ad l → n = l.length → n ≤ cap → cap ≤ maxLen → (ad = none → cap = 0) → n ≤ 1000 → (∀ b ∈ l, b.d.length ≤ 1000) → Lmg w → Calls Tryd.prog 17 #[.slice ad n cap] w (RetL3 w (parT l))
  bytes : ∀ (ad : Option Addr) (n cap : Nat) (l : List Blk) (w : World), Ki w ad l → n = l.length → n ≤ cap → cap ≤ maxLen → (ad = none → cap = 0) → n ≤ 5000 → (∀ b ∈ l, b.d.length ≤ 1000) → Calls Tryd.prog 19 #[.slice ad n cap] w (Gives w (bytB l))
  divide : ∀ (ad : Option Addr) (n cap : Nat) (xs : List UInt8) (w : World), Lie w ad xs → n = xs.length → n ≤ cap → cap ≤ maxLen → (ad = none → cap = 0) → n ≤ 90000 → Calls Tryd.prog 22 #[.slice ad n cap] w (GivesK w (divB xs))
def exA : Lbl := ⟨⟨#[65, 49]⟩, ⟨#[112]⟩, 1, 0⟩
theorem exA_vld : vldT exA = true := by decide +kernel
theorem exA_fit : exA.Fit := ⟨by decide, by decide⟩
theorem exA_blk : blkR exA = (blkT exA, 0) := by unfold blkR; rw [exA_vld]; rfl
theorem exA_len : (bodyT exA).length = 14 := by decide +kernel
theorem exA_count : (blkT exA).length = 2 := by rw [blkT_length, exA_len]; rfl
theorem exA_two : ∃ a, blkT exA = [a, markB] ∧ a.d.length = 64 := by
  have hl : (divB (frm (bodyT exA))).length = 1 := by rw [divB_length, frm_length, exA_len]; rfl
  obtain ⟨a, ha⟩ := List.length_eq_one_iff.1 hl
  refine ⟨a, by show divB (frm (bodyT exA)) ++ [markB] = _; rw [ha]; rfl, ?_⟩
  have h0 := divB_get (frm (bodyT exA)) 0 (by omega)
  simp only [ha, List.getElem_cons_zero] at h0
  rw [h0]
  exact pad_length _
theorem exA_mark (h : 1 < (blkT exA).length) : (blkT exA)[1].m = true := by
  obtain ⟨a, ha, _⟩ := exA_two
  simp only [ha]
  rfl
theorem exA_data (h : 0 < (blkT exA).length) : (blkT exA)[0].d.length = 64 := by
  obtain ⟨a, ha, hd⟩ := exA_two
  simp only [ha]
  exact hd
theorem exA_par : parT (blkT exA) = (exA, 2, 0) := by
  have := parT_back exA_vld []
  rw [List.append_nil, exA_count] at this
  exact this
theorem par_nil : parT [] = (.zero, 0, 2) := parT_next rfl (by decide) 
theorem nam_a1 : nam ⟨#[97, 45, 49]⟩ = true := by decide +kernel
theorem nam_1a : nam ⟨#[49, 97]⟩ = false := by decide +kernel
theorem div_65 : (divB (List.replicate 65 0)).length = 2 := by rw [divB_length, List.length_replicate]; rfl
theorem blkT_data (x : Lbl) : ∀ b ∈ blkT x, b.d.length ≤ 64 := by
  intro b hb
  unfold blkT at hb
  rcases List.mem_append.1 hb with h | h
  · obtain ⟨i, _, rfl⟩ := List.mem_map.1 h
    show (pad _).length ≤ 64
    rw [pad_length]; omega
  · obtain rfl : b = markB := by simpa using h
    decide
end Go.Proofs.YtjmlidejbddoeaaDoor
namespace Go.Proofs.YtjmlidejbddoeaaDoor
open Go.RowKit
theorem wpList_unguard {P : Program} {ops : Array Oper} {rest : List Oper} {o : Oper} {a : Act} {w : World} {Q : Exit → Act → World → Prop} (hw : Region.wanted o (yielded ops a.tmps) = true)
    (h : wpList P ops Q ({ o with guard := none } :: rest) a w) : wpList P ops Q (o :: rest) a w := by
  unfold wpList at h ⊢
  rw [if_pos hw]
  rw [if_pos (show Region.wanted { o with guard := none } (yielded ops a.tmps) = true from rfl)] at h
  exact h
end Go.Proofs.YtjmlidejbddoeaaDoor
namespace Go.Proofs.YtjmlidejbddoeaaDoor
open Go.RowKit
set_option linter.unusedVariables false
attribute [local irreducible] blkT parT blkR divB bytB fldT vldT
set_option maxRecDepth 100000 in
set_option maxHeartbeats 4000000 in
theorem livesl_any (H : LbSide) (w : World) (hm : Lmg w) :
    Calls Tryd.prog 8 #[] w fun e w' => e = .returned (.bool true) ∧ Below w.heap.size w w' := by
  have HS := Lib.hid H
  have HM0 := Lib.hid (hm.step (vl_box1 w (boxL exA)))
  have HB0 := Lib.hid (vl_box1 w (boxL exA))
  have HX0 := Lib.hid (LbRow.new w exA)
  have HZ0 := Lib.hid (show w.heap.size < (w.alloc (boxL exA)).heap.size by simp)
  clear H hm
  go_enter Tryd.func8, Tryd.ntmps8
  go_wp2_with fail
  change Calls Tryd.prog 9 #[lbV exA] (w.alloc (boxL exA)) _
  generalize World.alloc w _ = X0 at *
  refine (HS.out.blocks exA _ exA_fit HM0.out).mono ?_
  rintro e X1 ⟨v1, rfl, hk1, hb1⟩
  rw [exA_blk] at hk1 ⊢
  dsimp only at hk1 ⊢
  obtain ⟨ad1, cap1, rfl, hx1, hc1, hm1, ha1, -⟩ := hk1.read
  have HK1 := Lib.hid hx1.ki
  have HM1 := Lib.hid (HM0.out.step hb1)
  have HB1 := Lib.hid (HB0.out.trans (hb1.mono (Nat.le_of_lt HZ0.out)))
  have HX1 := Lib.hid (HX0.out.below hb1 HZ0.out)
  have HZ1 := Lib.hid (Nat.lt_of_lt_of_le HZ0.out hb1.size)
  clear hk1 hx1 hb1 HM0 HB0 HX0 HZ0
  rw [exA_count] at hc1 ⊢
  go_wp2_with fail
  refine (HS.out.parse ad1 2 cap1 (blkT exA) _ HK1.out exA_count.symm hc1 hm1 ha1 (by decide) (fun b hb => by have := blkT_data exA b hb; omega) HM1.out).mono ?_
  rintro e X2 ⟨rfl, hb2⟩
  rw [exA_par]
  have HK2 := Lib.hid ((HK1.out.below hb2).below (vl_box1 X2 (boxL exA)))
  have HM2 := Lib.hid ((HM1.out.step hb2).step (vl_box1 X2 (boxL exA)))
  have HB2 := Lib.hid ((HB1.out.trans (hb2.mono (Nat.le_of_lt HZ1.out))).alloc (Nat.le_of_lt (Nat.lt_of_lt_of_le HZ1.out hb2.size)) (boxL exA))
  have HX2 := Lib.hid ((HX1.out.below hb2 HZ1.out).below (vl_box1 X2 (boxL exA)) (Nat.lt_of_lt_of_le HZ1.out hb2.size))
  have HZ2 := Lib.hid (show w.heap.size < (X2.alloc (boxL exA)).heap.size by have := HZ1.out; have := hb2.size; simp; omega)
  have HY2 := Lib.hid (LbRow.new X2 exA)
  have HV2 := Lib.hid (show X2.heap.size < (X2.alloc (boxL exA)).heap.size by simp)
  clear hb2 HK1 HM1 HB1 HX1 HZ1
  go_wp2_with fail
  change Calls Tryd.prog 17 #[.slice none 0 0] (X2.alloc (boxL exA)) _
  generalize World.alloc X2 _ = X3 at *
  generalize X2.heap.size = g3 at *
  refine (HS.out.parse none 0 0 [] _ (Ki.nil _ _) rfl (Nat.le_refl _) (Nat.zero_le _) (fun _ => rfl) (by decide) (fun b hb => by simp at hb) HM2.out).mono ?_
  rintro e X4 ⟨rfl, hb4⟩
  rw [par_nil]
  have HX4 := Lib.hid ((HX2.out.below hb4 HZ2.out).below (vl_box1 X4 (boxL .zero)) (Nat.lt_of_lt_of_le HZ2.out hb4.size))
  have HY4 := Lib.hid ((HY2.out.below hb4 HV2.out).below (vl_box1 X4 (boxL .zero)) (Nat.lt_of_lt_of_le HV2.out hb4.size))
  have HK4 := Lib.hid ((HK2.out.below hb4).below (vl_box1 X4 (boxL .zero)))
  have HB4 := Lib.hid ((HB2.out.trans (hb4.mono (Nat.le_of_lt HZ2.out))).alloc (Nat.le_of_lt (Nat.lt_of_lt_of_le HZ2.out hb4.size)) (boxL .zero))
  have HZ4 := Lib.hid (show w.heap.size < (X4.alloc (boxL .zero)).heap.size by have := HZ2.out; have := hb4.size; simp; omega)
  have HV4 := Lib.hid (show g3 < (X4.alloc (boxL .zero)).heap.size by have := HV2.out; have := hb4.size; simp; omega)
  have HM4 := Lib.hid ((HM2.out.step hb4).step (vl_box1 X4 (boxL .zero)))
  clear hb4 HX2 HY2 HK2 HB2 HM2 HZ2 HV2
  go_wp2_with fail
  change Calls Tryd.prog 14 #[.string ⟨#[97, 45, 49]⟩] (X4.alloc (boxL .zero)) _
  generalize World.alloc X4 _ = X5 at *
  refine (HS.out.name _ _ (by decide) HM4.out).mono ?_
  rintro e X6 ⟨rfl, hb6⟩
  rw [nam_a1]
  have HX6 := Lib.hid (HX4.out.below hb6 HZ4.out)
  have HY6 := Lib.hid (HY4.out.below hb6 HV4.out)
  have HK6 := Lib.hid (HK4.out.below hb6)
  have HB6 := Lib.hid (HB4.out.trans (hb6.mono (Nat.le_of_lt HZ4.out)))
  have HZ6 := Lib.hid (Nat.lt_of_lt_of_le HZ4.out hb6.size)
  have HV6 := Lib.hid (Nat.lt_of_lt_of_le HV4.out hb6.size)
  have HM6 := Lib.hid (HM4.out.step hb6)
  clear hb6 HX4 HY4 HK4 HB4 HZ4 HV4 HM4
  go_wp2_with fail
  refine (HS.out.name _ _ (by decide) HM6.out).mono ?_
  rintro e X7 ⟨rfl, hb7⟩
  rw [nam_1a]
  have HX7 := Lib.hid (HX6.out.below hb7 HZ6.out)
  have HY7 := Lib.hid (HY6.out.below hb7 HV6.out)
  have HK7 := Lib.hid (HK6.out.below hb7)
  have HB7 := Lib.hid (HB6.out.trans (hb7.mono (Nat.le_of_lt HZ6.out)))
  clear hb7 HX6 HY6 HK6 HB6 HZ6 HV6
  obtain ⟨-, c0, c1, c2, c3⟩ := HX7.out.at_
  obtain ⟨-, d0, d1, d2, d3⟩ := HY7.out.at_
  obtain ⟨b, off, e0, f0, hadr, hlt, q0, q1, q2, -⟩ := HK7.out.get (i := 0) (by rw [exA_count]; decide)
  obtain ⟨b', off', e1, f1, hadr', hlt', r0, r1, r2, -⟩ := HK7.out.get (i := 1) (by rw [exA_count]; decide)
  subst hadr
  cases hadr'
  rw [exA_data] at q2
  rw [exA_mark] at r0
  have HWB := Lib.hid HB7.out.size
  clear HX7 HY7 HK7 hlt hlt' q0 q1 r1 r2
  go_wp2_with (at_make; refine wpList_unguard rfl ?_; refine wpList_make_row rfl (.const (.int .i64 65)) (.const (.int .i64 65)) rfl 65 65 65 rfl rfl rfl rfl (by omega) ?_; intro g8 w8 hrow8 hg8 hb8; have HR8 := Lib.hid hrow8; have HB8 := Lib.hid (HB7.out.trans (hb8.mono HWB.out)); clear hrow8 hg8 hb8)
  refine (HS.out.divide _ _ _ _ _ HR8.out.lie (by rw [List.length_replicate]) (by decide) (by decide) (fun h => by cases h) (by decide)).mono ?_
  rintro e X9 ⟨v9, rfl, hk9, hb9⟩
  obtain ⟨ad9, cap9, rfl, -⟩ := hk9.read
  rw [div_65]
  have HB9 := Lib.hid (HB8.out.trans (hb9.mono HB8.out.size))
  clear hk9 hb9
  go_wp2
  go_ret
  exact ⟨rfl, HB9.out⟩
end Go.Proofs.YtjmlidejbddoeaaDoor
