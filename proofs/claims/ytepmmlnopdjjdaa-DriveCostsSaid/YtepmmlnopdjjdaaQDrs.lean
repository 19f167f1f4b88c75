/-
  Drives and models in memory; the specification's count, more, Due, Worn, model and drive.
  Which drives are valid, in the specification.
  The first checks of an operation of a drive, in the specification.
  The specification's Erase.
  Blocks that lie whatever is written to some blocks; what a call leaves of that.
-/
import Derived.Test.YtepmmlnopdjjdaaQStr
import Derived.Test.YtepmmlnopdjjdaaQCt
namespace Go.Proofs.Ytepmmlnopdjjdaa
open Go.RowKit
set_option linter.unusedVariables false
/-- a model: load, unload, clean, clean every, life of a cartridge -/
structure Mdl where
  ld : Int
  ul : Int
  cl : Int
  ce : Int
  cf : Int
/-- a drive: state, barcode, head, loads, passes, since -/
structure Drv where
  st : Int
  bc : ByteArray
  hd : Int
  lo : Int
  pa : Int
  si : Int
abbrev mdW (ld ul cl ce cf : Int) : Value := .agg #[.int .i64 ld, .int .i64 ul, .int .i64 cl, .int .i64 ce, .int .i64 cf]
abbrev mdV (m : Mdl) : Value := mdW m.ld m.ul m.cl m.ce m.cf
abbrev drW (st : Int) (bc : ByteArray) (hd lo pa si : Int) : Value := .agg #[.int .i64 st, .string bc, .int .i64 hd, .int .i64 lo, .int .i64 pa, .int .i64 si]
abbrev drV (d : Drv) : Value := drW d.st d.bc d.hd d.lo d.pa d.si
abbrev boxM (ld ul cl ce cf : Int) : Obj := .cells #[.int .i64 ld, .int .i64 ul, .int .i64 cl, .int .i64 ce, .int .i64 cf] 23
abbrev boxD (st : Int) (bc : ByteArray) (hd lo pa si : Int) : Obj := .cells #[.int .i64 st, .string bc, .int .i64 hd, .int .i64 lo, .int .i64 pa, .int .i64 si] 25
/-- the model lies in block g -/
structure MdAt (w : World) (g : Nat) (ld ul cl ce cf : Int) : Prop where
  lt : g < w.heap.size
  c0 : w.cell? ⟨g, 0, none⟩ = some (.int .i64 ld)
  c1 : w.cell? ⟨g, 1, none⟩ = some (.int .i64 ul)
  c2 : w.cell? ⟨g, 2, none⟩ = some (.int .i64 cl)
  c3 : w.cell? ⟨g, 3, none⟩ = some (.int .i64 ce)
  c4 : w.cell? ⟨g, 4, none⟩ = some (.int .i64 cf)
theorem MdAt.below {W' w : World} {B g : Nat} {ld ul cl ce cf : Int} (h : MdAt W' g ld ul cl ce cf) (hb : Below B W' w) (hB : g < B) : MdAt w g ld ul cl ce cf :=
  ⟨Nat.lt_of_lt_of_le h.lt hb.size, (hb.cell hB).trans h.c0, (hb.cell hB).trans h.c1, (hb.cell hB).trans h.c2, (hb.cell hB).trans h.c3, (hb.cell hB).trans h.c4⟩
theorem MdAt.new (w : World) (ld ul cl ce cf : Int) (t : TypeId) : MdAt (w.alloc (.cells #[.int .i64 ld, .int .i64 ul, .int .i64 cl, .int .i64 ce, .int .i64 cf] t)) w.heap.size ld ul cl ce cf := by
  refine ⟨by simp, ?_, ?_, ?_, ?_, ?_⟩ <;> (rw [World.cell?_alloc_mark]; rfl)
theorem MdAt.alloc {w : World} {g : Nat} {ld ul cl ce cf : Int} (h : MdAt w g ld ul cl ce cf) (o : Obj) : MdAt (w.alloc o) g ld ul cl ce cf := h.below (below_box1 w o) h.lt
/-- the drive lies in block g -/
structure DrAt (w : World) (g : Nat) (st : Int) (bc : ByteArray) (hd lo pa si : Int) : Prop where
  lt : g < w.heap.size
  c0 : w.cell? ⟨g, 0, none⟩ = some (.int .i64 st)
  c1 : w.cell? ⟨g, 1, none⟩ = some (.string bc)
  c2 : w.cell? ⟨g, 2, none⟩ = some (.int .i64 hd)
  c3 : w.cell? ⟨g, 3, none⟩ = some (.int .i64 lo)
  c4 : w.cell? ⟨g, 4, none⟩ = some (.int .i64 pa)
  c5 : w.cell? ⟨g, 5, none⟩ = some (.int .i64 si)
theorem DrAt.below {W' w : World} {B g : Nat} {st : Int} {bc : ByteArray} {hd lo pa si : Int} (h : DrAt W' g st bc hd lo pa si) (hb : Below B W' w) (hB : g < B) : DrAt w g st bc hd lo pa si :=
  ⟨Nat.lt_of_lt_of_le h.lt hb.size, (hb.cell hB).trans h.c0, (hb.cell hB).trans h.c1, (hb.cell hB).trans h.c2, (hb.cell hB).trans h.c3, (hb.cell hB).trans h.c4, (hb.cell hB).trans h.c5⟩
theorem DrAt.new (w : World) (st : Int) (bc : ByteArray) (hd lo pa si : Int) (t : TypeId) : DrAt (w.alloc (.cells #[.int .i64 st, .string bc, .int .i64 hd, .int .i64 lo, .int .i64 pa, .int .i64 si] t)) w.heap.size st bc hd lo pa si := by
  refine ⟨by simp, ?_, ?_, ?_, ?_, ?_, ?_⟩ <;> (rw [World.cell?_alloc_mark]; rfl)
theorem DrAt.alloc {w : World} {g : Nat} {st : Int} {bc : ByteArray} {hd lo pa si : Int} (h : DrAt w g st bc hd lo pa si) (o : Obj) : DrAt (w.alloc o) g st bc hd lo pa si := h.below (below_box1 w o) h.lt
/-- it must be cleaned -/
def due (m : Mdl) (d : Drv) : Bool := decide (0 < m.ce) && decide (m.ce ≤ d.si)
/-- it is worn out -/
def worn (m : Mdl) (c : Crt) : Bool := decide (0 < m.cf) && decide (m.cf ≤ c.pa)
/-- a counter that has increased -/
def inc (n k : Int) : Int := if 1125899906842624 < n + k then 1125899906842624 else n + k
def mdlU (m : Mdl) : Bool := tim m.ld && (tim m.ul && (tim m.cl && (cnt m.ce && cnt m.cf)))
/-- a drive is valid -/
def drvU (d : Drv) : Bool := (decide (0 ≤ d.st) && decide (d.st ≤ 2)) && (cnt d.lo && (cnt d.pa && (cnt d.si && ((decide (0 ≤ d.hd) && decide (d.hd ≤ 4096)) && (!decide (d.st = 0) || (decide (d.bc.toList = []) && decide (d.hd = 0)))))))
set_option maxRecDepth 100000 in
set_option maxHeartbeats 400000 in
theorem rdcnt_any (a : Int) (w : World) :
    Calls Try.prog 80 #[.int .i64 a] w fun e w' => e = .returned (.bool (cnt a)) ∧ w' = w := by
  go_enter Try.func80, Try.ntmps80
  go_wp2
  all_goals go_ret
  · rename_i h
    exact ⟨by unfold cnt; rw [decide_eq_true h]; rfl, rfl⟩
  · rename_i h
    exact ⟨by unfold cnt; rw [decide_eq_false (by omega)]; rfl, rfl⟩
set_option maxRecDepth 100000 in
set_option maxHeartbeats 400000 in
theorem rinc_any (a b : Int) (w : World) (ha : 0 ≤ a ∧ a ≤ 1125899906842624) (hb : 0 ≤ b ∧ b ≤ 1125899906842624) :
    Calls Try.prog 56 #[.int .i64 a, .int .i64 b] w fun e w' => e = .returned (.int .i64 (inc a b)) ∧ w' = w := by
  obtain ⟨a0, a1⟩ := ha
  obtain ⟨b0, b1⟩ := hb
  by_cases hc : 1125899906842624 < a + b
  · have HR := Lib.hid (show inc a b = 1125899906842624 from if_pos hc)
    go_enter Try.func56, Try.ntmps56
    go_wp2
    go_ret
    exact ⟨by rw [HR.out]; rfl, rfl⟩
  · have HR := Lib.hid (show inc a b = a + b from if_neg hc)
    go_enter Try.func56, Try.ntmps56
    go_wp2
    go_ret
    exact ⟨by rw [HR.out]; rfl, rfl⟩
set_option maxRecDepth 100000 in
set_option maxHeartbeats 400000 in
theorem rdue_any (m : Mdl) (d : Drv) (w : World) :
    Calls Try.prog 16 #[mdV m, drV d] w fun e w' => e = .returned (.bool (due m d)) ∧ Below w.heap.size w w' := by
  obtain ⟨ld, ul, cl, ce, cf⟩ := m
  obtain ⟨st, bc, hd, lo, pa, si⟩ := d
  have HB := Lib.hid (below_box2 w (boxM ld ul cl ce cf) (boxD st bc hd lo pa si))
  by_cases h0 : 0 < ce
  · by_cases h1 : ce ≤ si
    · have HR := Lib.hid (show due ⟨ld, ul, cl, ce, cf⟩ ⟨st, bc, hd, lo, pa, si⟩ = true by simp [due, h0, h1])
      go_enter Try.func16, Try.ntmps16
      go_wp2
      go_ret
      exact ⟨by rw [HR.out]; rfl, HB.out⟩
    · have HR := Lib.hid (show due ⟨ld, ul, cl, ce, cf⟩ ⟨st, bc, hd, lo, pa, si⟩ = false by simp [due, h0, h1])
      go_enter Try.func16, Try.ntmps16
      go_wp2
      go_ret
      exact ⟨by rw [HR.out]; rfl, HB.out⟩
  · have HR := Lib.hid (show due ⟨ld, ul, cl, ce, cf⟩ ⟨st, bc, hd, lo, pa, si⟩ = false by simp [due, h0])
    go_enter Try.func16, Try.ntmps16
    go_wp2
    go_ret
    exact ⟨by rw [HR.out]; rfl, HB.out⟩
set_option maxRecDepth 100000 in
set_option maxHeartbeats 400000 in
theorem rworn_any (m : Mdl) (c : Crt) (ad : Option Addr) (cap : Nat) (w : World) :
    Calls Try.prog 18 #[mdV m, crV c ad cap] w fun e w' => e = .returned (.bool (worn m c)) ∧ Below w.heap.size w w' := by
  obtain ⟨ld, ul, cl, ce, cf⟩ := m
  obtain ⟨bc, W, L, S, T, J, R, wo, lk, l, ep, lo, pa⟩ := c
  have HR1 := Lib.hid (show worn ⟨ld, ul, cl, ce, cf⟩ ⟨bc, W, L, S, T, J, R, wo, lk, l, ep, lo, pa⟩ = (decide (0 < cf) && decide (cf ≤ pa)) from rfl)
  show Calls Try.prog 18 #[mdW ld ul cl ce cf, crW bc W L S T J R wo lk ad l.length cap ep lo pa] w _
  generalize worn ⟨ld, ul, cl, ce, cf⟩ ⟨bc, W, L, S, T, J, R, wo, lk, l, ep, lo, pa⟩ = res at *
  generalize l.length = M
  have HB := Lib.hid (below_box2 w (boxM ld ul cl ce cf) (boxK bc W L S T J R wo lk ad M cap ep lo pa))
  by_cases h0 : 0 < cf
  · by_cases h1 : cf ≤ pa
    · have HR := Lib.hid (show res = true by rw [HR1.out]; simp [h0, h1])
      go_enter Try.func18, Try.ntmps18
      go_wp2
      go_ret
      exact ⟨by rw [HR.out]; rfl, HB.out⟩
    · have HR := Lib.hid (show res = false by rw [HR1.out]; simp [h0, h1])
      go_enter Try.func18, Try.ntmps18
      go_wp2
      go_ret
      exact ⟨by rw [HR.out]; rfl, HB.out⟩
  · have HR := Lib.hid (show res = false by rw [HR1.out]; simp [h0])
    go_enter Try.func18, Try.ntmps18
    go_wp2
    go_ret
    exact ⟨by rw [HR.out]; rfl, HB.out⟩
attribute [local irreducible] tim vld bar cnt okB capU allB vldC
set_option maxRecDepth 100000 in
set_option maxHeartbeats 1000000 in
theorem rmodel_any (m : Mdl) (w : World) :
    Calls Try.prog 53 #[mdV m] w fun e w' => e = .returned (.bool (mdlU m)) ∧ Below w.heap.size w w' := by
  obtain ⟨ld, ul, cl, ce, cf⟩ := m
  have HB := Lib.hid (below_box1 w (boxM ld ul cl ce cf))
  have HR1 := Lib.hid (show mdlU ⟨ld, ul, cl, ce, cf⟩ = (tim ld && (tim ul && (tim cl && (cnt ce && cnt cf)))) from rfl)
  generalize mdlU ⟨ld, ul, cl, ce, cf⟩ = res at *
  show Calls Try.prog 53 #[mdW ld ul cl ce cf] w _
  by_cases h1 : 0 ≤ ld ∧ ld ≤ 1000000
  rotate_left
  · have HR := Lib.hid (show res = false by rw [HR1.out, tim_no h1]; rfl)
    go_enter Try.func53, Try.ntmps53
    by_cases h0 : 0 ≤ ld
    · have h2 : ¬ ld ≤ 1000000 := by omega
      go_wp2
      go_ret
      exact ⟨by rw [HR.out]; rfl, HB.out⟩
    · go_wp2
      go_ret
      exact ⟨by rw [HR.out]; rfl, HB.out⟩
  obtain ⟨a0, a1⟩ := h1
  by_cases h1 : 0 ≤ ul ∧ ul ≤ 1000000
  rotate_left
  · have HR := Lib.hid (show res = false by rw [HR1.out, tim_no h1]; simp)
    go_enter Try.func53, Try.ntmps53
    by_cases h0 : 0 ≤ ul
    · have h2 : ¬ ul ≤ 1000000 := by omega
      go_wp2
      go_ret
      exact ⟨by rw [HR.out]; rfl, HB.out⟩
    · go_wp2
      go_ret
      exact ⟨by rw [HR.out]; rfl, HB.out⟩
  obtain ⟨b0, b1⟩ := h1
  by_cases h1 : 0 ≤ cl ∧ cl ≤ 1000000
  rotate_left
  · have HR := Lib.hid (show res = false by rw [HR1.out, tim_no h1]; simp)
    go_enter Try.func53, Try.ntmps53
    by_cases h0 : 0 ≤ cl
    · have h2 : ¬ cl ≤ 1000000 := by omega
      go_wp2
      go_ret
      exact ⟨by rw [HR.out]; rfl, HB.out⟩
    · go_wp2
      go_ret
      exact ⟨by rw [HR.out]; rfl, HB.out⟩
  obtain ⟨c0, c1⟩ := h1
  have HR := Lib.hid (show res = (cnt ce && cnt cf) by rw [HR1.out, tim_yes ⟨a0, a1⟩, tim_yes ⟨b0, b1⟩, tim_yes ⟨c0, c1⟩]; simp)
  clear HR1
  go_enter Try.func53, Try.ntmps53
  go_wp2_with fail
  refine (rdcnt_any ce _).mono ?_
  rintro e w1 ⟨rfl, rfl⟩
  cases hce : cnt ce
  · rw [hce] at HR
    go_wp2
    go_ret
    exact ⟨by rw [HR.out]; rfl, HB.out⟩
  rw [hce] at HR
  go_wp2_with fail
  refine (rdcnt_any cf _).mono ?_
  rintro e w1 ⟨rfl, rfl⟩
  cases hcf : cnt cf
  · rw [hcf] at HR
    go_wp2
    go_ret
    exact ⟨by rw [HR.out]; rfl, HB.out⟩
  rw [hcf] at HR
  go_wp2
  go_ret
  exact ⟨by rw [HR.out]; rfl, HB.out⟩
end Go.Proofs.Ytepmmlnopdjjdaa
namespace Go.Proofs.Ytepmmlnopdjjdaa
open Go.RowKit
set_option linter.unusedVariables false
theorem drvU_eq (st : Int) (bc : ByteArray) (hd lo pa si : Int) : drvU ⟨st, bc, hd, lo, pa, si⟩ = ((decide (0 ≤ st) && decide (st ≤ 2)) && (cnt lo && (cnt pa && (cnt si && ((decide (0 ≤ hd) && decide (hd ≤ 4096)) && (!decide (st = 0) || (decide (bc.toList = []) && decide (hd = 0)))))))) := rfl
attribute [local irreducible] tim vld bar cnt okB capU allB vldC
set_option maxRecDepth 100000 in
set_option maxHeartbeats 2000000 in
theorem rdrive_any (d : Drv) (w : World) :
    Calls Try.prog 54 #[drV d] w fun e w' => e = .returned (.bool (drvU d)) ∧ Below w.heap.size w w' := by
  obtain ⟨st, bc, hd, lo, pa, si⟩ := d
  have HB := Lib.hid (below_box1 w (boxD st bc hd lo pa si))
  have HR1 := Lib.hid (drvU_eq st bc hd lo pa si)
  generalize drvU ⟨st, bc, hd, lo, pa, si⟩ = res at *
  show Calls Try.prog 54 #[drW st bc hd lo pa si] w _
  by_cases h1 : 0 ≤ st
  rotate_left
  · have HR := Lib.hid (show res = false by rw [HR1.out]; simp [h1])
    clear HR1
    go_enter Try.func54, Try.ntmps54
    go_wp2
    go_ret
    exact ⟨by rw [HR.out]; rfl, HB.out⟩
  by_cases h2 : st ≤ 2
  rotate_left
  · have HR := Lib.hid (show res = false by rw [HR1.out]; simp [h2])
    clear HR1
    go_enter Try.func54, Try.ntmps54
    go_wp2
    go_ret
    exact ⟨by rw [HR.out]; rfl, HB.out⟩
  cases hlo : cnt lo
  · have HR := Lib.hid (show res = false by rw [HR1.out, hlo]; simp)
    have Clo := Lib.hid hlo
    clear HR1 hlo
    go_enter Try.func54, Try.ntmps54
    go_wp2_with fail
    refine (rdcnt_any lo _).mono ?_
    rw [Clo.out]
    rintro e w1 ⟨rfl, rfl⟩
    go_wp2
    go_ret
    exact ⟨by rw [HR.out]; rfl, HB.out⟩
  have Clo := Lib.hid hlo
  clear hlo
  cases hpa : cnt pa
  · have HR := Lib.hid (show res = false by rw [HR1.out, hpa]; simp)
    have Cpa := Lib.hid hpa
    clear HR1 hpa
    go_enter Try.func54, Try.ntmps54
    go_wp2_with fail
    refine (rdcnt_any lo _).mono ?_
    rw [Clo.out]
    rintro e w1 ⟨rfl, rfl⟩
    go_wp2_with fail
    refine (rdcnt_any pa _).mono ?_
    rw [Cpa.out]
    rintro e w1 ⟨rfl, rfl⟩
    go_wp2
    go_ret
    exact ⟨by rw [HR.out]; rfl, HB.out⟩
  have Cpa := Lib.hid hpa
  clear hpa
  cases hsi : cnt si
  · have HR := Lib.hid (show res = false by rw [HR1.out, hsi]; simp)
    have Csi := Lib.hid hsi
    clear HR1 hsi
    go_enter Try.func54, Try.ntmps54
    go_wp2_with fail
    refine (rdcnt_any lo _).mono ?_
    rw [Clo.out]
    rintro e w1 ⟨rfl, rfl⟩
    go_wp2_with fail
    refine (rdcnt_any pa _).mono ?_
    rw [Cpa.out]
    rintro e w1 ⟨rfl, rfl⟩
    go_wp2_with fail
    refine (rdcnt_any si _).mono ?_
    rw [Csi.out]
    rintro e w1 ⟨rfl, rfl⟩
    go_wp2
    go_ret
    exact ⟨by rw [HR.out]; rfl, HB.out⟩
  have Csi := Lib.hid hsi
  clear hsi
  have HR2 := Lib.hid (show res = ((decide (0 ≤ hd) && decide (hd ≤ 4096)) && (!decide (st = 0) || (decide (bc.toList = []) && decide (hd = 0)))) by rw [HR1.out, Clo.out, Cpa.out, Csi.out]; simp [h1, h2])
  clear HR1
  by_cases hq6 : 0 ≤ hd
  rotate_left
  · have HR := Lib.hid (show res = false by rw [HR2.out]; simp [hq6])
    clear HR2
    go_enter Try.func54, Try.ntmps54
    go_wp2_with fail
    refine (rdcnt_any lo _).mono ?_
    rw [Clo.out]
    rintro e w1 ⟨rfl, rfl⟩
    go_wp2_with fail
    refine (rdcnt_any pa _).mono ?_
    rw [Cpa.out]
    rintro e w1 ⟨rfl, rfl⟩
    go_wp2_with fail
    refine (rdcnt_any si _).mono ?_
    rw [Csi.out]
    rintro e w1 ⟨rfl, rfl⟩
    go_wp2
    go_ret
    exact ⟨by rw [HR.out]; rfl, HB.out⟩
  by_cases hq9 : hd ≤ 4096
  rotate_left
  · have HR := Lib.hid (show res = false by rw [HR2.out]; simp [hq9])
    clear HR2
    go_enter Try.func54, Try.ntmps54
    go_wp2_with fail
    refine (rdcnt_any lo _).mono ?_
    rw [Clo.out]
    rintro e w1 ⟨rfl, rfl⟩
    go_wp2_with fail
    refine (rdcnt_any pa _).mono ?_
    rw [Cpa.out]
    rintro e w1 ⟨rfl, rfl⟩
    go_wp2_with fail
    refine (rdcnt_any si _).mono ?_
    rw [Csi.out]
    rintro e w1 ⟨rfl, rfl⟩
    go_wp2
    go_ret
    exact ⟨by rw [HR.out]; rfl, HB.out⟩
  by_cases h0 : st = 0
  rotate_left
  · have HR := Lib.hid (show res = true by rw [HR2.out]; simp [hq6, hq9, h0])
    clear HR2
    go_enter Try.func54, Try.ntmps54
    go_wp2_with fail
    refine (rdcnt_any lo _).mono ?_
    rw [Clo.out]
    rintro e w1 ⟨rfl, rfl⟩
    go_wp2_with fail
    refine (rdcnt_any pa _).mono ?_
    rw [Cpa.out]
    rintro e w1 ⟨rfl, rfl⟩
    go_wp2_with fail
    refine (rdcnt_any si _).mono ?_
    rw [Csi.out]
    rintro e w1 ⟨rfl, rfl⟩
    go_wp2
    go_ret
    exact ⟨by rw [HR.out]; rfl, HB.out⟩
  subst h0
  by_cases hbc : bc.toList = []
  rotate_left
  · have HR := Lib.hid (show res = false by rw [HR2.out]; simp [hbc])
    clear HR2
    go_enter Try.func54, Try.ntmps54
    go_wp2_with fail
    refine (rdcnt_any lo _).mono ?_
    rw [Clo.out]
    rintro e w1 ⟨rfl, rfl⟩
    go_wp2_with fail
    refine (rdcnt_any pa _).mono ?_
    rw [Cpa.out]
    rintro e w1 ⟨rfl, rfl⟩
    go_wp2_with fail
    refine (rdcnt_any si _).mono ?_
    rw [Csi.out]
    rintro e w1 ⟨rfl, rfl⟩
    go_wp2
    go_ret
    exact ⟨by rw [HR.out]; rfl, HB.out⟩
  by_cases h0 : hd = 0
  rotate_left
  · have HR := Lib.hid (show res = false by rw [HR2.out]; simp [h0])
    clear HR2
    go_enter Try.func54, Try.ntmps54
    go_wp2_with fail
    refine (rdcnt_any lo _).mono ?_
    rw [Clo.out]
    rintro e w1 ⟨rfl, rfl⟩
    go_wp2_with fail
    refine (rdcnt_any pa _).mono ?_
    rw [Cpa.out]
    rintro e w1 ⟨rfl, rfl⟩
    go_wp2_with fail
    refine (rdcnt_any si _).mono ?_
    rw [Csi.out]
    rintro e w1 ⟨rfl, rfl⟩
    go_wp2
    go_ret
    exact ⟨by rw [HR.out, ← beq_eq_false_iff_ne.2 h0]; rfl, HB.out⟩
  subst h0
  have HR := Lib.hid (show res = true by rw [HR2.out]; simp [hbc])
  clear HR2
  go_enter Try.func54, Try.ntmps54
  go_wp2_with fail
  refine (rdcnt_any lo _).mono ?_
  rw [Clo.out]
  rintro e w1 ⟨rfl, rfl⟩
  go_wp2_with fail
  refine (rdcnt_any pa _).mono ?_
  rw [Cpa.out]
  rintro e w1 ⟨rfl, rfl⟩
  go_wp2_with fail
  refine (rdcnt_any si _).mono ?_
  rw [Csi.out]
  rintro e w1 ⟨rfl, rfl⟩
  go_wp2
  go_ret
  exact ⟨by rw [HR.out]; rfl, HB.out⟩
end Go.Proofs.Ytepmmlnopdjjdaa
namespace Go.Proofs.Ytepmmlnopdjjdaa
open Go.RowKit
set_option linter.unusedVariables false
/-- the boxes of a model, a drive and a cartridge that a function makes at its begin -/
structure Tri (w w' : World) (m : Mdl) (d : Drv) (c : Crt) (ad : Option Addr) (cap : Nat) : Prop where
  b : Below w.heap.size w w'
  m : MdAt w' w.heap.size m.ld m.ul m.cl m.ce m.cf
  d : DrAt w' (w.heap.size + 1) d.st d.bc d.hd d.lo d.pa d.si
  c : CrAt w' (w.heap.size + 2) c.bc c.W c.L c.S c.T c.J c.R c.wo c.lk ad c.l.length cap c.ep c.lo c.pa
theorem Tri.start (w : World) (m : Mdl) (d : Drv) (c : Crt) (ad : Option Addr) (cap : Nat) : Tri w (((w.alloc (.cells #[.int .i64 m.ld, .int .i64 m.ul, .int .i64 m.cl, .int .i64 m.ce, .int .i64 m.cf] 23)).alloc (.cells #[.int .i64 d.st, .string d.bc, .int .i64 d.hd, .int .i64 d.lo, .int .i64 d.pa, .int .i64 d.si] 25)).alloc (.cells #[.string c.bc, .int .i64 c.W, .int .i64 c.L, .int .i64 c.S, .int .i64 c.T, .int .i64 c.J, .int .i64 c.R, .bool c.wo, .bool c.lk, .slice ad c.l.length cap, .int .i64 c.ep, .int .i64 c.lo, .int .i64 c.pa] 30)) m d c ad cap := by
  refine ⟨below_box3 _ _ _ _, ((MdAt.new w _ _ _ _ _ _).alloc _).alloc _, ?_, ?_⟩
  · have h := (DrAt.new (w.alloc (boxM m.ld m.ul m.cl m.ce m.cf)) d.st d.bc d.hd d.lo d.pa d.si 25).alloc (boxK c.bc c.W c.L c.S c.T c.J c.R c.wo c.lk ad c.l.length cap c.ep c.lo c.pa)
    rwa [World.size_alloc] at h
  · have h := CrAt.new ((w.alloc (boxM m.ld m.ul m.cl m.ce m.cf)).alloc (boxD d.st d.bc d.hd d.lo d.pa d.si)) c.bc c.W c.L c.S c.T c.J c.R c.wo c.lk ad c.l.length cap c.ep c.lo c.pa 30
    rwa [World.size_alloc, World.size_alloc] at h
theorem Tri.next {w X Y : World} {m : Mdl} {d : Drv} {c : Crt} {ad : Option Addr} {cap : Nat} (h : Tri w X m d c ad cap) (hb : Below X.heap.size X Y) : Tri w Y m d c ad cap :=
  ⟨h.b.trans (hb.mono h.b.size), h.m.below hb h.m.lt, h.d.below hb h.d.lt, h.c.below hb h.c.lt⟩
noncomputable def fstU (m : Mdl) (d : Drv) (c : Crt) : Int :=
  if (mdlU m && (drvU d && vldC c)) = true then (if d.st = 2 then 16 else (if d.st = 0 then 13 else (if d.bc.toList = c.bc.toList then (if (c.l.length : Int) < d.hd then 8 else 0) else 11))) else 8
attribute [local irreducible] tim vld bar cnt okB capU allB vldC mdlU drvU
set_option maxRecDepth 100000 in
set_option maxHeartbeats 2000000 in
theorem rfirst_any (m : Mdl) (d : Drv) (c : Crt) (ad : Option Addr) (cap : Nat) (w : World) (hin : CrIn w c ad cap) :
    Calls Try.prog 57 #[mdV m, drV d, crV c ad cap] w fun e w' => e = .returned (.int .i64 (fstU m d c)) ∧ Below w.heap.size w w' := by
  have HF := Lib.hid (show fstU m d c = if (mdlU m && (drvU d && vldC c)) = true then (if d.st = 2 then 16 else (if d.st = 0 then 13 else (if d.bc.toList = c.bc.toList then (if (c.l.length : Int) < d.hd then 8 else 0) else 11))) else 8 from rfl)
  generalize fstU m d c = res at *
  have HT := Lib.hid (Tri.start w m d c ad cap)
  have HIN := Lib.hid hin
  have hcap : (c.l.length : Int) ≤ 9223372036854775807 := by have := hin.le; have := hin.mx; unfold maxLen at this; omega
  clear hin
  go_enter Try.func57, Try.ntmps57
  go_wp2_with fail
  generalize World.alloc _ _ = X0 at *
  refine (rmodel_any m X0).mono ?_
  rintro e w1 ⟨rfl, hb⟩
  replace HT := Lib.hid (HT.out.next hb)
  clear hb
  cases hm : mdlU m
  · have HR := Lib.hid (show res = 8 by rw [HF.out, hm]; rfl)
    clear hm
    go_wp2
    go_ret
    exact ⟨by rw [HR.out]; rfl, HT.out.b⟩
  have HM := Lib.hid hm
  clear hm
  obtain ⟨_, d0, d1, d2, d3, d4, d5⟩ := HT.out.d
  go_wp2_with fail
  refine (rdrive_any d w1).mono ?_
  rintro e w2 ⟨rfl, hb⟩
  replace HT := Lib.hid (HT.out.next hb)
  clear hb d0 d1 d2 d3 d4 d5
  cases hd : drvU d
  · have HR := Lib.hid (show res = 8 by rw [HF.out, HM.out, hd]; rfl)
    clear hd
    go_wp2
    go_ret
    exact ⟨by rw [HR.out]; rfl, HT.out.b⟩
  have HD := Lib.hid hd
  clear hd
  obtain ⟨_, k0, k1, k2, k3, k4, k5, k6, k7, k8, k9, k10, k11, k12⟩ := HT.out.c
  go_wp2_with fail
  refine (rvalc_any c ad cap w2 (HIN.out.below HT.out.b)).mono ?_
  rintro e w3 ⟨rfl, hb⟩
  replace HT := Lib.hid (HT.out.next hb)
  clear hb k0 k1 k2 k3 k4 k5 k6 k7 k8 k9 k10 k11 k12
  cases hc : vldC c
  · have HR := Lib.hid (show res = 8 by rw [HF.out, HM.out, HD.out, hc]; rfl)
    clear hc
    go_wp2
    go_ret
    exact ⟨by rw [HR.out]; rfl, HT.out.b⟩
  replace HF := Lib.hid (show res = (if d.st = 2 then 16 else (if d.st = 0 then 13 else (if d.bc.toList = c.bc.toList then (if (c.l.length : Int) < d.hd then 8 else 0) else 11))) by rw [HF.out, HM.out, HD.out, hc]; rfl)
  clear hc
  obtain ⟨_, d0, d1, d2, d3, d4, d5⟩ := HT.out.d
  obtain ⟨_, k0, k1, k2, k3, k4, k5, k6, k7, k8, k9, k10, k11, k12⟩ := HT.out.c
  by_cases h2 : d.st = 2
  · have HR := Lib.hid (show res = 16 by rw [HF.out, if_pos h2])
    go_wp2
    go_ret
    exact ⟨by rw [HR.out]; rfl, HT.out.b⟩
  by_cases h0 : d.st = 0
  · have HR := Lib.hid (show res = 13 by rw [HF.out, if_neg h2, if_pos h0])
    go_wp2
    go_ret
    exact ⟨by rw [HR.out]; rfl, HT.out.b⟩
  by_cases hbc : d.bc.toList = c.bc.toList
  · by_cases hl : (c.l.length : Int) < d.hd
    · have HR := Lib.hid (show res = 8 by rw [HF.out, if_neg h2, if_neg h0, if_pos hbc, if_pos hl])
      go_wp2
      go_ret
      exact ⟨by rw [HR.out]; rfl, HT.out.b⟩
    · have HR := Lib.hid (show res = 0 by rw [HF.out, if_neg h2, if_neg h0, if_pos hbc, if_neg hl])
      go_wp2
      go_ret
      exact ⟨by rw [HR.out]; rfl, HT.out.b⟩
  · have HR := Lib.hid (show res = 11 by rw [HF.out, if_neg h2, if_neg h0, if_neg hbc])
    have hbcb : (!d.bc.toList == c.bc.toList) = true := by simp [hbc]
    clear hbc
    go_wp2
    go_ret
    exact ⟨by rw [HR.out]; rfl, HT.out.b⟩
end Go.Proofs.Ytepmmlnopdjjdaa
namespace Go.Proofs.Ytepmmlnopdjjdaa
open Go.RowKit
set_option linter.unusedVariables false
theorem cnt_iff {n : Int} : cnt n = true ↔ 0 ≤ n ∧ n ≤ 1125899906842624 := by unfold cnt; simp
theorem vldC_parts {c : Crt} (h : vldC c = true) : Vld c.W c.L c.S c.T c.J c.R ∧ (c.l.length : Int) ≤ c.W * c.L ∧ allB c.l = true ∧ (0 ≤ c.ep ∧ c.ep ≤ 1125899906842624) := by
  unfold vldC at h
  simp only [Bool.and_eq_true, decide_eq_true_eq] at h
  obtain ⟨_, h2, h3, h4, h5, _, _⟩ := h
  have v := vld_iff.1 h2
  rw [capU_yes v] at h3
  exact ⟨v, h3, h4, cnt_iff.1 h5⟩
noncomputable def eraC (c : Crt) : Crt × Int :=
  if vldC c = true then (if (c.lk || c.wo) = true then (crZ, 17) else (if c.ep = 1125899906842624 then (crZ, 7) else ({c with l := [], ep := c.ep + 1}, 0))) else (crZ, 8)
attribute [local irreducible] tim vld bar cnt okB capU allB vldC eqK
end Go.Proofs.Ytepmmlnopdjjdaa
namespace Go.Proofs.Ytepmmlnopdjjdaa
open Go.RowKit
set_option linter.unusedVariables false
/-- the blocks lie, whatever is written to the blocks in S -/
def KnoS (w : World) (S : Nat → Prop) (ad : Option Addr) (l : List Blk) : Prop := ∀ X : World, (∀ k, ¬ S k → k < w.heap.size → X.heap[k]? = w.heap[k]?) → w.heap.size ≤ X.heap.size → Ki X ad l
/-- where the first list lies outside of some older blocks, the second one does, too -/
def KpS (w : World) (ad : Option Addr) (l : List Blk) (w' : World) (ad' : Option Addr) (l' : List Blk) : Prop := ∀ S : Nat → Prop, (∀ k, S k → k < w.heap.size) → KnoS w S ad l → KnoS w' S ad' l'
section
variable {w w' : World} {S : Nat → Prop} {ad ad' : Option Addr} {l l' : List Blk}
theorem KnoS.ki (h : KnoS w S ad l) : Ki w ad l := h w (fun _ _ _ => rfl) (Nat.le_refl _)
theorem KnoS.step (h : KnoS w S ad l) (hb : ∀ k, ¬ S k → k < w.heap.size → w'.heap[k]? = w.heap[k]?) (hs : w.heap.size ≤ w'.heap.size) : KnoS w' S ad l :=
  fun X hX hX2 => h X (fun k hk hlt => (hX k hk (Nat.lt_of_lt_of_le hlt hs)).trans (hb k hk hlt)) (Nat.le_trans hs hX2)
theorem KnoS.below (h : KnoS w S ad l) (hb : Below w.heap.size w w') : KnoS w' S ad l := h.step (fun k _ hk => hb.block k hk) hb.size
theorem KnoS.less {T : Nat → Prop} (h : KnoS w S ad l) (hT : ∀ k, T k → S k) : KnoS w T ad l := fun X hX hX2 => h X (fun k hk hlt => hX k (fun ht => hk (hT k ht)) hlt) hX2
theorem KnoS.nil (w : World) (S : Nat → Prop) (ad : Option Addr) : KnoS w S ad [] := fun X _ _ => Ki.nil X ad
theorem KpS.same (hb : Below w.heap.size w w') : KpS w ad l w' ad l := fun S hS h => h.below hb
theorem KpS.nil : KpS w ad l w' ad' [] := fun S _ _ => KnoS.nil _ _ _
theorem KpS.new (h : ∀ X : World, (∀ k, w.heap.size ≤ k → k < w'.heap.size → X.heap[k]? = w'.heap[k]?) → w'.heap.size ≤ X.heap.size → Ki X ad' l') : KpS w ad l w' ad' l' :=
  fun S hS _ X hX hX2 => h X (fun k hk hlt => hX k (fun hs => by have := hS k hs; omega) hlt) hX2
theorem Ki.hp (h : Ki w ad l) (hb : ∀ k, k < w.heap.size → w'.heap[k]? = w.heap[k]?) (hs : w.heap.size ≤ w'.heap.size) : Ki w' ad l := by
  obtain ⟨E, e, h1, h2⟩ := h
  refine ⟨E, e, ?_, fun k hk => ⟨?_, (h2 k hk).le, (h2 k hk).mx, (h2 k hk).nn⟩⟩
  · rcases h1 with h0 | ⟨b, off, e, hlt, hc⟩
    · exact .inl h0
    · exact .inr ⟨b, off, e, Nat.lt_of_lt_of_le hlt hs, fun j u hu => (World.cell?_of_block (a := ⟨b, off + j, none⟩) (hb b hlt)).trans (hc j u hu)⟩
  · rcases (h2 k hk).lie.at_ with h0 | ⟨b, off, e, hlt, hc⟩
    · exact ⟨.inl h0⟩
    · exact ⟨.inr ⟨b, off, e, Nat.lt_of_lt_of_le hlt hs, fun j hj => (World.cell?_of_block (a := ⟨b, off + j, none⟩) (hb b hlt)).trans (hc j hj)⟩⟩
theorem KnoS.of_ki (h : Ki w ad l) : KnoS w (fun _ => False) ad l := fun X hX hX2 => h.hp (fun k hk => hX k (fun h => h) hk) hX2
/-- behind a call among boxes that are newer than w -/
theorem kp_end {w0 X0 w1 W5 : World} {l1 : List Blk} {ad1 : Option Addr} (hb0 : Below w0.heap.size w0 X0) (hk : KpS X0 ad l w1 ad1 l1) (hW : ∀ k, ¬ (w0.heap.size ≤ k ∧ k < X0.heap.size) → k < w1.heap.size → W5.heap[k]? = w1.heap[k]?) (hs : w1.heap.size ≤ W5.heap.size) : KpS w0 ad l W5 ad1 l1 := by
  intro T hT h
  have h2 : KnoS X0 (fun k => T k ∨ (w0.heap.size ≤ k ∧ k < X0.heap.size)) ad l := fun X hX hX2 => h X (fun k hk hlt => (hX k (fun h => h.elim (fun h3 => hk h3) (fun h3 => by omega)) (Nat.lt_of_lt_of_le hlt hb0.size)).trans (hb0.block k hlt)) (Nat.le_trans hb0.size hX2)
  have h3 := hk _ (fun k h => h.elim (fun h4 => Nat.lt_of_lt_of_le (hT k h4) hb0.size) (fun h4 => h4.2)) h2
  exact (h3.step (fun k hk hlt => hW k (fun h5 => hk (.inr h5)) hlt) hs).less (fun k hk => .inl hk)
theorem KpS.ki (h : KpS w ad l w' ad' l') (hi : Ki w ad l) : Ki w' ad' l' := (h _ (fun k hk => absurd hk (fun h => h)) (KnoS.of_ki hi)).ki
end
end Go.Proofs.Ytepmmlnopdjjdaa
