/-
  Structs in blocks of their own: load, store, and as a first result.
  A struct as the one result, or as the first of two; a place stored into a block of its own.
  A label in a block of its own: its cells, a label stored into it, a field stored into it.
  The specification's fields: what a body says.
-/
import Derived.Test.YtjmlidejbddoeaaDoorLA
import Derived.Deep.Draws
import Derived.Test.YtjmlidejbddoeaaDoorLH
import Derived.Test.YtjmlidejbddoeaaDoorLC
namespace Go.Proofs.YtjmlidejbddoeaaDoor
open Go.RowKit
set_option linter.unusedVariables false
theorem wpList_load_agg {P : Program} {ops : Array Oper} {rest : List Oper} {o : Oper} {a : Act} {w : World} {Q : Exit → Act → World → Prop} (hgd : o.guard = none) (ty : TypeId) (x : Operand) (ho : o.op = .load ty x)
    (g : Nat) (hx : a.eval x = .pointer (some ⟨g, 0, none⟩)) (cs : Array Value) (t : TypeId) (d : TypeDesc) (hg : w.heap[g]? = some (.cells cs t (0, 0)))
    (hu : P.underlying ty = some d) (hd : (match d with | .struct _ | .array _ _ => true | _ => false) = true) (hi : (P.info? ty).map (·.size) = some cs.size)
    (h : wpList P ops Q rest (a.put o.dst (.agg cs)) w) : wpList P ops Q (o :: rest) a w := by
  refine wpList_plain hgd fun _ hK => ?_
  unfold Oper.wp execOp
  simp only [ho, hx, Instr.loadAt, Instr.sureAddr, Sem.run_bind, Sem.run_pure, Result.andThen_ok, run_loadVar_row w g t ty cs (0, 0) d hg hu hd hi]
  exact hK _ _ h
theorem wpList_store_agg {P : Program} {ops : Array Oper} {rest : List Oper} {o : Oper} {a : Act} {w : World} {Q : Exit → Act → World → Prop} (hgd : o.guard = none) (ty : TypeId) (x y : Operand) (ho : o.op = .store ty x y)
    (g : Nat) (hx : a.eval x = .pointer (some ⟨g, 0, none⟩)) (cs old : Array Value) (hy : a.eval y = .agg cs) (t : TypeId) (hg : w.heap[g]? = some (.cells old t (0, 0)))
    (hi : (P.info? ty).map (·.size) = some cs.size) (hs : old.size = cs.size) (h1 : cs.all (·.oneCell') = true)
    (h : wpList P ops Q rest (a.put o.dst undef) (w.setRow g cs)) : wpList P ops Q (o :: rest) a w := by
  refine wpList_plain hgd fun _ hK => ?_
  unfold Oper.wp execOp
  simp only [ho, hx, hy, Instr.storeAt, Instr.sureAddr, Sem.run_bind, Sem.run_pure, Result.andThen_ok, run_storeVar_row w g t ty old cs hg hi hs h1]
  exact hK _ _ h
/-- the end of a function whose first result is a struct in a block of its own, the others in slots -/
theorem post_cell3 {P : Program} {fn : Func} {R : Ending → World → Prop} {p q r : Tmp} {ty : TypeId} (h : fn.results = #[.cell p ty, .tmp q, .tmp r]) {a : Act} {w : World} {g : Nat} {cs : Array Value} {t : TypeId} {d : TypeDesc}
    (hp : a.tmps.getD p undef = .pointer (some ⟨g, 0, none⟩)) (hg : w.heap[g]? = some (.cells cs t (0, 0))) (hu : P.underlying ty = some d) (hd : (match d with | .struct _ | .array _ _ => true | _ => false) = true)
    (hi : (P.info? ty).map (·.size) = some cs.size) (hdef : a.defers = []) {x y : Value} (hx : a.tmps.getD q undef = x) (hy : a.tmps.getD r undef = y) (hR : R (.returned (.tuple #[.agg cs, x, y])) w) : bodyPost P fn R .ret a w := by
  subst hx hy
  refine bodyPost_ret (v := .tuple #[.agg cs, a.tmps.getD q undef, a.tmps.getD r undef]) ?_ hdef hR
  have e : (results fn a.tmps).run P w = ((asAddr (a.tmps.getD p undef)).run P w).andThen fun b w1 => ((loadVar ty b).run P w1).andThen fun v w2 => .ok (.tuple #[v, a.tmps.getD q undef, a.tmps.getD r undef]) w2 := by
    simp only [results, h]
    simp [Sem.run_bind, Result.andThen]
  rw [e, hp]
  simp only [asAddr, Sem.run_pure, Result.andThen, run_loadVar_row w g t ty cs (0, 0) d hg hu hd hi]
theorem heap_new (w : World) (o : Obj) : (w.alloc o).heap[w.heap.size]? = some o := heap_alloc_new w o
/-- a block that is new is written -/
theorem below_set {B g : Nat} {W w : World} (h : Below B W w) (hg : B ≤ g) (cs : Array Value) : Below B W (w.setRow g cs) :=
  ⟨h.os, h.tape, h.output, by simpa [World.setRow] using h.size, fun k hk => by rw [setRow_other _ _ _ _ (by omega)]; exact h.block k hk⟩
end Go.Proofs.YtjmlidejbddoeaaDoor
namespace Go.Proofs.YtjmlidejbddoeaaDoor
open Go.RowKit
set_option linter.unusedVariables false
theorem post_cell1 {P : Program} {fn : Func} {R : Ending → World → Prop} {p : Tmp} {ty : TypeId} (h : fn.results = #[.cell p ty]) {a : Act} {w : World} {g : Nat} {cs : Array Value} {t : TypeId} {d : TypeDesc}
    (hp : a.tmps.getD p undef = .pointer (some ⟨g, 0, none⟩)) (hg : w.heap[g]? = some (.cells cs t (0, 0))) (hu : P.underlying ty = some d) (hd : (match d with | .struct _ | .array _ _ => true | _ => false) = true)
    (hi : (P.info? ty).map (·.size) = some cs.size) (hdef : a.defers = []) (hR : R (.returned (.agg cs)) w) : bodyPost P fn R .ret a w := by
  refine bodyPost_ret (v := .agg cs) ?_ hdef hR
  have e : (results fn a.tmps).run P w = ((asAddr (a.tmps.getD p undef)).run P w).andThen fun b w1 => (loadVar ty b).run P w1 := by
    simp only [results, h]
    simp [Sem.run_bind, Result.andThen]
  rw [e, hp]
  simp only [asAddr, Sem.run_pure, Result.andThen, run_loadVar_row w g t ty cs (0, 0) d hg hu hd hi]
theorem post_cell2 {P : Program} {fn : Func} {R : Ending → World → Prop} {p q : Tmp} {ty : TypeId} (h : fn.results = #[.cell p ty, .tmp q]) {a : Act} {w : World} {g : Nat} {cs : Array Value} {t : TypeId} {d : TypeDesc}
    (hp : a.tmps.getD p undef = .pointer (some ⟨g, 0, none⟩)) (hg : w.heap[g]? = some (.cells cs t (0, 0))) (hu : P.underlying ty = some d) (hd : (match d with | .struct _ | .array _ _ => true | _ => false) = true)
    (hi : (P.info? ty).map (·.size) = some cs.size) (hdef : a.defers = []) {x : Value} (hx : a.tmps.getD q undef = x) (hR : R (.returned (.tuple #[.agg cs, x])) w) : bodyPost P fn R .ret a w := by
  subst hx
  refine bodyPost_ret (v := .tuple #[.agg cs, a.tmps.getD q undef]) ?_ hdef hR
  have e : (results fn a.tmps).run P w = ((asAddr (a.tmps.getD p undef)).run P w).andThen fun b w1 => ((loadVar ty b).run P w1).andThen fun v w2 => .ok (.tuple #[v, a.tmps.getD q undef]) w2 := by
    simp only [results, h]
    simp [Sem.run_bind, Result.andThen]
  rw [e, hp]
  simp only [asAddr, Sem.run_pure, Result.andThen, run_loadVar_row w g t ty cs (0, 0) d hg hu hd hi]
end Go.Proofs.YtjmlidejbddoeaaDoor
namespace Go.Proofs.YtjmlidejbddoeaaDoor
open Go.RowKit
set_option linter.unusedVariables false
abbrev lbC (x : Lbl) : Array Value := #[.string x.bc, .string x.pl, .int .i64 x.ep, .int .i64 x.cr]
theorem infoLb : (Tryd.prog.info? 23).map (·.size) = some 4 := by kernel_rfl
/-- the row of a label -/
def LbRow (w : World) (g : Nat) (x : Lbl) : Prop := w.heap[g]? = some (.cells (lbC x) 23 (0, 0))
theorem LbRow.row {w : World} {g : Nat} {x : Lbl} (h : LbRow w g x) : w.heap[g]? = some (.cells (lbC x) 23 (0, 0)) := h
theorem LbRow.at_ {w : World} {g : Nat} {x : Lbl} (h : LbRow w g x) : LbAt w g x := by
  refine ⟨(Array.getElem?_eq_some_iff.1 h).1, ?_, ?_, ?_, ?_⟩ <;> (rw [cell_of_row w g _ _ _ _ h]; rfl)
theorem LbRow.frozen {w : World} {g : Nat} {x : Lbl} (h : LbRow w g x) (k : Nat) : w.frozen? ⟨g, k, none⟩ = false := by
  have := h.row
  simp [World.frozen?, this]
theorem LbRow.below {W w : World} {B g : Nat} {x : Lbl} (h : LbRow W g x) (hb : Below B W w) (hB : g < B) : LbRow w g x := (hb.block g hB).trans h
theorem LbRow.new (w : World) (x : Lbl) : LbRow (w.alloc (boxL x)) w.heap.size x := heap_alloc_new w _
theorem LbRow.set0 {w : World} {g : Nat} {x : Lbl} (h : LbRow w g x) (s : ByteArray) : LbRow (w.setCell ⟨g, 0, none⟩ (.string s)) g ⟨s, x.pl, x.ep, x.cr⟩ := heap_set_b w g 0 _ _ _ _ h
theorem LbRow.set1 {w : World} {g : Nat} {x : Lbl} (h : LbRow w g x) (s : ByteArray) : LbRow (w.setCell ⟨g, 1, none⟩ (.string s)) g ⟨x.bc, s, x.ep, x.cr⟩ := heap_set_b w g 1 _ _ _ _ h
theorem LbRow.set2 {w : World} {g : Nat} {x : Lbl} (h : LbRow w g x) (n : Int) : LbRow (w.setCell ⟨g, 2, none⟩ (.int .i64 n)) g ⟨x.bc, x.pl, n, x.cr⟩ := heap_set_b w g 2 _ _ _ _ h
theorem LbRow.set3 {w : World} {g : Nat} {x : Lbl} (h : LbRow w g x) (n : Int) : LbRow (w.setCell ⟨g, 3, none⟩ (.int .i64 n)) g ⟨x.bc, x.pl, x.ep, n⟩ := heap_set_b w g 3 _ _ _ _ h
theorem LbRow.other {w : World} {g k : Nat} {x : Lbl} (h : LbRow w g x) (hk : g ≠ k) (j : Nat) (v : Value) : LbRow (w.setCell ⟨k, j, none⟩ v) g x := by
  unfold LbRow
  rw [Below.heap_setCell _ _ _ _ (by show g ≠ k; exact hk)]
  exact h
theorem LbRow.put {w : World} {g : Nat} {y : Lbl} (h : LbRow w g y) (x : Lbl) : LbRow (w.setRow g (lbC x)) g x := setRow_heap _ _ _ _ _ _ h
theorem LbRow.putOther {w : World} {g k : Nat} {x : Lbl} (h : LbRow w g x) (hk : g ≠ k) (cs : Array Value) : LbRow (w.setRow k cs) g x := (setRow_other _ _ _ _ hk).trans h
/-- a label into the block of a label -/
theorem wpList_store_lb {ops : Array Oper} {rest : List Oper} {o : Oper} {a : Act} {w : World} {Q : Exit → Act → World → Prop} (hgd : o.guard = none) (x y : Operand) (ho : o.op = .store 23 x y)
    (g : Nat) (hx : a.eval x = .pointer (some ⟨g, 0, none⟩)) (l z : Lbl) (hy : a.eval y = .agg #[.string l.bc, .string l.pl, .int .i64 l.ep, .int .i64 l.cr]) (hg : LbRow w g z)
    (h : wpList Tryd.prog ops Q rest (a.put o.dst undef) (w.setRow g (lbC l))) : wpList Tryd.prog ops Q (o :: rest) a w :=
  wpList_store_agg hgd _ x y ho g hx _ _ hy _ hg.row infoLb rfl (by simp [Value.oneCell']) h
end Go.Proofs.YtjmlidejbddoeaaDoor
namespace Go.Proofs.YtjmlidejbddoeaaDoor
open Go.RowKit
set_option linter.unusedVariables false
theorem vl_box1 (w : World) (o : Obj) : Below w.heap.size w (w.alloc o) := (Below.refl _ _).alloc (Nat.le_refl _) _
theorem vl_box2 (w : World) (o p : Obj) : Below w.heap.size w ((w.alloc o).alloc p) := (vl_box1 w o).alloc (by simp) _
theorem vl_box3 (w : World) (o p q : Obj) : Below w.heap.size w (((w.alloc o).alloc p).alloc q) := (vl_box2 w o p).alloc (by simp; omega) _
theorem volume_beq {s : ByteArray} (h : s ≠ volume) : (s.toList == [118, 111, 108, 117, 109, 101]) = false := by
  rw [beq_eq_false_iff_ne]
  intro h'
  exact h (Go.WideShapes.bytes_inj (by rw [← ByteArray.toList_eq, h']; rfl))
theorem fldT_parts {xs : List UInt8} {s1 s2 s3 : ByteArray} {p1 e1 p2 e2 p3 e3 n4 p4 e4 n5 p5 e5 : Int} (h1 : tR xs 0 24 = (s1, p1, e1)) (h2 : tR xs p1 24 = (s2, p2, e2)) (h3 : tR xs p2 24 = (s3, p3, e3)) (h4 : iR xs p3 = (n4, p4, e4)) (h5 : iR xs p4 = (n5, p5, e5)) :
    fldT xs = if e1 ≠ 0 then (.zero, e1) else if s1 ≠ volume then (.zero, 1) else if e2 ≠ 0 then (.zero, e2) else if e3 ≠ 0 then (.zero, e3) else if e4 ≠ 0 then (.zero, e4) else if e5 ≠ 0 then (.zero, e5) else
      if p5 < xs.length then (.zero, 3) else if vldT ⟨s2, s3, n4, n5⟩ = false then (.zero, 8) else (⟨s2, s3, n4, n5⟩, 0) := by
  unfold fldT
  simp only [h1, h2, h3, h4, h5]
/-- a call returns a label and a number -/
def RetL2 (w : World) (r : Lbl × Int) (e : Ending) (w' : World) : Prop := e = .returned (.tuple #[lbV r.1, .int .i64 r.2]) ∧ Below w.heap.size w w'
theorem retL2 {w w' : World} {R : Lbl × Int} {r : Lbl × Int} (h : R = r) (hb : Below w.heap.size w w') : RetL2 w R (.returned (.tuple #[.agg #[.string r.1.bc, .string r.1.pl, .int .i64 r.1.ep, .int .i64 r.1.cr], .int .i64 r.2])) w' := by subst h; exact ⟨rfl, hb⟩
theorem tR_size {xs : List UInt8} {a p e : Int} {s : ByteArray} (h : tR xs a 24 = (s, p, e)) : s.size ≤ 24 := by
  unfold tR at h
  split at h
  · cases h; decide
  split at h
  · cases h; decide
  split at h
  · cases h; decide
  · rename_i h1 h2 h3
    cases h
    simp only [ByteArray.size, List.size_toArray, List.length_take]
    omega
set_option maxRecDepth 100000 in
set_option maxHeartbeats 4000000 in
theorem rfields_any (ad : Option Addr) (n cap : Nat) (xs : List UInt8) (w : World) (hl : Lie w ad xs) (hn : n = xs.length) (hc : n ≤ cap) (hs : n ≤ 1000000) (ha : ad = none → cap = 0) :
    Calls Tryd.prog 40 #[.slice ad n cap] w (RetL2 w (fldT xs)) := by
  rcases h1 : tR xs 0 24 with ⟨s1, p1, e1⟩
  rcases h2 : tR xs p1 24 with ⟨s2, p2, e2⟩
  rcases h3 : tR xs p2 24 with ⟨s3, p3, e3⟩
  rcases h4 : iR xs p3 with ⟨n4, p4, e4⟩
  rcases h5 : iR xs p4 with ⟨n5, p5, e5⟩
  have HF := Lib.hid (fldT_parts h1 h2 h3 h4 h5)
  have HT : ∀ (a : Int) (s : ByteArray) (p e : Int), tR xs a 24 = (s, p, e) → Hid (∀ W, Below w.heap.size w W → Calls Tryd.prog 63 #[.slice ad n cap, .int .i64 a, .int .i64 24] W fun en w' => en = .returned (.tuple #[.string s, .int .i64 p, .int .i64 e]) ∧ W = w') := fun a s p e h => Lib.hid fun W hb => by
    have := rtext_any ad cap xs a 24 W (hl.below hb rfl) (by omega) (by omega) ha (by decide)
    rw [h] at this
    rw [hn]
    exact this
  have HI : ∀ (a : Int) (s : Int) (p e : Int), iR xs a = (s, p, e) → Hid (∀ W, Below w.heap.size w W → Calls Tryd.prog 64 #[.slice ad n cap, .int .i64 a] W fun en w' => en = .returned (.tuple #[.int .i64 s, .int .i64 p, .int .i64 e]) ∧ W = w') := fun a s p e h => Lib.hid fun W hb => by
    have := rint_any ad cap xs a W (hl.below hb rfl) (by omega)
    rw [h] at this
    rw [hn]
    exact this
  have C1 := HT _ _ _ _ h1
  have C2 := HT _ _ _ _ h2
  have C3 := HT _ _ _ _ h3
  have C4 := HI _ _ _ _ h4
  have C5 := HI _ _ _ _ h5
  have HV := Lib.hid (fun W => rvldT_any ⟨s2, s3, n4, n5⟩ W ⟨by have := tR_size h2; unfold maxLen; simp only; omega, by have := tR_size h3; unfold maxLen; simp only; omega⟩)
  have HVE := Lib.hid (@volume_beq s1)
  rw [← hn] at HF
  clear HT HI h1 h2 h3 h4 h5 hl hn
  by_cases g1 : e1 = 0
  rotate_left
  · have HR := Lib.hid (HF.out.trans (if_pos g1))
    have k1 : (e1 != 0) = true := by simpa using g1
    clear g1
    go_enter Tryd.func40, Tryd.ntmps40
    go_wp2_with fail
    refine (C1.out _ (vl_box1 _ _)).mono ?_
    rintro e w' ⟨rfl, rfl⟩
    go_wp2
    exact bodyPost_ret (v := .tuple #[.agg #[.string ⟨#[]⟩, .string ⟨#[]⟩, .int .i64 0, .int .i64 0], .int .i64 e1]) (by simp [results, Tryd.results40, go_sem]) rfl (retL2 HR.out (vl_box1 _ _))
  subst g1
  by_cases g2 : s1 = volume
  rotate_left
  · have HR := Lib.hid ((HF.out.trans (if_neg (by simp))).trans (if_pos g2))
    have k1 := HVE.out g2
    clear g2
    go_enter Tryd.func40, Tryd.ntmps40
    go_wp2_with fail
    refine (C1.out _ (vl_box1 _ _)).mono ?_
    rintro e w' ⟨rfl, rfl⟩
    go_wp2
    exact bodyPost_ret (v := .tuple #[.agg #[.string ⟨#[]⟩, .string ⟨#[]⟩, .int .i64 0, .int .i64 0], .int .i64 1]) (by simp [results, Tryd.results40, go_sem]) rfl (retL2 HR.out (vl_box1 _ _))
  subst g2
  have kv : (volume.toList == [118, 111, 108, 117, 109, 101]) = true := by decide +kernel
  by_cases g3 : e2 = 0
  rotate_left
  · have HR := Lib.hid (((HF.out.trans (if_neg (by simp))).trans (if_neg (by simp))).trans (if_pos g3))
    have k1 : (e2 != 0) = true := by simpa using g3
    clear g3
    go_enter Tryd.func40, Tryd.ntmps40
    go_wp2_with fail
    refine (C1.out _ (vl_box1 _ _)).mono ?_
    rintro e w' ⟨rfl, rfl⟩
    go_wp2_with fail
    refine (C2.out _ (vl_box2 _ _ _)).mono ?_
    rintro e w' ⟨rfl, rfl⟩
    go_wp2
    exact bodyPost_ret (v := .tuple #[.agg #[.string ⟨#[]⟩, .string ⟨#[]⟩, .int .i64 0, .int .i64 0], .int .i64 e2]) (by simp [results, Tryd.results40, go_sem]) rfl (retL2 HR.out (vl_box2 _ _ _))
  subst g3
  by_cases g4 : e3 = 0
  rotate_left
  · have HR := Lib.hid ((((HF.out.trans (if_neg (by simp))).trans (if_neg (by simp))).trans (if_neg (by simp))).trans (if_pos g4))
    have k1 : (e3 != 0) = true := by simpa using g4
    clear g4
    go_enter Tryd.func40, Tryd.ntmps40
    go_wp2_with fail
    refine (C1.out _ (vl_box1 _ _)).mono ?_
    rintro e w' ⟨rfl, rfl⟩
    go_wp2_with fail
    refine (C2.out _ (vl_box2 _ _ _)).mono ?_
    rintro e w' ⟨rfl, rfl⟩
    go_wp2_with fail
    refine (C3.out _ (vl_box2 _ _ _)).mono ?_
    rintro e w' ⟨rfl, rfl⟩
    go_wp2
    exact bodyPost_ret (v := .tuple #[.agg #[.string ⟨#[]⟩, .string ⟨#[]⟩, .int .i64 0, .int .i64 0], .int .i64 e3]) (by simp [results, Tryd.results40, go_sem]) rfl (retL2 HR.out (vl_box2 _ _ _))
  subst g4
  by_cases g5 : e4 = 0
  rotate_left
  · have HR := Lib.hid (((((HF.out.trans (if_neg (by simp))).trans (if_neg (by simp))).trans (if_neg (by simp))).trans (if_neg (by simp))).trans (if_pos g5))
    have k1 : (e4 != 0) = true := by simpa using g5
    clear g5
    go_enter Tryd.func40, Tryd.ntmps40
    go_wp2_with fail
    refine (C1.out _ (vl_box1 _ _)).mono ?_
    rintro e w' ⟨rfl, rfl⟩
    go_wp2_with fail
    refine (C2.out _ (vl_box2 _ _ _)).mono ?_
    rintro e w' ⟨rfl, rfl⟩
    go_wp2_with fail
    refine (C3.out _ (vl_box2 _ _ _)).mono ?_
    rintro e w' ⟨rfl, rfl⟩
    go_wp2_with fail
    refine (C4.out _ (vl_box2 _ _ _)).mono ?_
    rintro e w' ⟨rfl, rfl⟩
    go_wp2
    exact bodyPost_ret (v := .tuple #[.agg #[.string ⟨#[]⟩, .string ⟨#[]⟩, .int .i64 0, .int .i64 0], .int .i64 e4]) (by simp [results, Tryd.results40, go_sem]) rfl (retL2 HR.out (vl_box2 _ _ _))
  subst g5
  by_cases g6 : e5 = 0
  rotate_left
  · have HR := Lib.hid ((((((HF.out.trans (if_neg (by simp))).trans (if_neg (by simp))).trans (if_neg (by simp))).trans (if_neg (by simp))).trans (if_neg (by simp))).trans (if_pos g6))
    have k1 : (e5 != 0) = true := by simpa using g6
    clear g6
    go_enter Tryd.func40, Tryd.ntmps40
    go_wp2_with fail
    refine (C1.out _ (vl_box1 _ _)).mono ?_
    rintro e w' ⟨rfl, rfl⟩
    go_wp2_with fail
    refine (C2.out _ (vl_box2 _ _ _)).mono ?_
    rintro e w' ⟨rfl, rfl⟩
    go_wp2_with fail
    refine (C3.out _ (vl_box2 _ _ _)).mono ?_
    rintro e w' ⟨rfl, rfl⟩
    go_wp2_with fail
    refine (C4.out _ (vl_box2 _ _ _)).mono ?_
    rintro e w' ⟨rfl, rfl⟩
    go_wp2_with fail
    refine (C5.out _ (vl_box2 _ _ _)).mono ?_
    rintro e w' ⟨rfl, rfl⟩
    go_wp2
    exact bodyPost_ret (v := .tuple #[.agg #[.string ⟨#[]⟩, .string ⟨#[]⟩, .int .i64 0, .int .i64 0], .int .i64 e5]) (by simp [results, Tryd.results40, go_sem]) rfl (retL2 HR.out (vl_box2 _ _ _))
  subst g6
  by_cases g7 : p5 < (n : Int)
  · have HR := Lib.hid (((((((HF.out.trans (if_neg (by simp))).trans (if_neg (by simp))).trans (if_neg (by simp))).trans (if_neg (by simp))).trans (if_neg (by simp))).trans (if_neg (by simp))).trans (if_pos g7))
    go_enter Tryd.func40, Tryd.ntmps40
    go_wp2_with fail
    refine (C1.out _ (vl_box1 _ _)).mono ?_
    rintro e w' ⟨rfl, rfl⟩
    go_wp2_with fail
    refine (C2.out _ (vl_box2 _ _ _)).mono ?_
    rintro e w' ⟨rfl, rfl⟩
    go_wp2_with fail
    refine (C3.out _ (vl_box2 _ _ _)).mono ?_
    rintro e w' ⟨rfl, rfl⟩
    go_wp2_with fail
    refine (C4.out _ (vl_box2 _ _ _)).mono ?_
    rintro e w' ⟨rfl, rfl⟩
    go_wp2_with fail
    refine (C5.out _ (vl_box2 _ _ _)).mono ?_
    rintro e w' ⟨rfl, rfl⟩
    go_wp2
    exact bodyPost_ret (v := .tuple #[.agg #[.string ⟨#[]⟩, .string ⟨#[]⟩, .int .i64 0, .int .i64 0], .int .i64 3]) (by simp [results, Tryd.results40, go_sem]) rfl (retL2 HR.out (vl_box2 _ _ _))
  have HR0 := Lib.hid ((((((((HF.out.trans (if_neg (by simp))).trans (if_neg (by simp))).trans (if_neg (by simp))).trans (if_neg (by simp))).trans (if_neg (by simp))).trans (if_neg (by simp))).trans (if_neg g7)))
  clear HF
  have HX1 : Hid (LbRow ((w.alloc (boxL .zero)).alloc (boxL ⟨s2, s3, n4, n5⟩)) w.heap.size .zero) := Lib.hid ((LbRow.new w .zero).below (vl_box1 _ _) (by simp))
  have HX2 : Hid (LbRow ((w.alloc (boxL .zero)).alloc (boxL ⟨s2, s3, n4, n5⟩)) (w.heap.size + 1) ⟨s2, s3, n4, n5⟩) := Lib.hid (by have := LbRow.new (w.alloc (boxL .zero)) ⟨s2, s3, n4, n5⟩; rwa [World.size_alloc] at this)
  have HX3 : Hid (Below w.heap.size w ((w.alloc (boxL .zero)).alloc (boxL ⟨s2, s3, n4, n5⟩))) := Lib.hid (vl_box2 _ _ _)
  have HX4 : Hid (w.heap.size + 1 < ((w.alloc (boxL .zero)).alloc (boxL ⟨s2, s3, n4, n5⟩)).heap.size) := Lib.hid (by simp)
  go_enter Tryd.func40, Tryd.ntmps40
  go_wp2_with fail
  refine (C1.out _ (vl_box1 _ _)).mono ?_
  rintro e w' ⟨rfl, rfl⟩
  go_wp2_with fail
  refine (C2.out _ (vl_box2 _ _ _)).mono ?_
  rintro e w' ⟨rfl, rfl⟩
  go_wp2_with fail
  refine (C3.out _ (vl_box2 _ _ _)).mono ?_
  rintro e w' ⟨rfl, rfl⟩
  go_wp2_with fail
  refine (C4.out _ (vl_box2 _ _ _)).mono ?_
  rintro e w' ⟨rfl, rfl⟩
  go_wp2_with fail
  refine (C5.out _ (vl_box2 _ _ _)).mono ?_
  rintro e w' ⟨rfl, rfl⟩
  go_wp2_with fail
  refine (HV.out _).mono ?_
  rintro e X1 ⟨rfl, hb⟩
  have HR1 := Lib.hid (HX1.out.below hb (Nat.lt_of_succ_lt HX4.out))
  have HR2 := Lib.hid (HX2.out.below hb HX4.out)
  have HB1 := Lib.hid (HX3.out.trans (hb.mono HX3.out.size))
  clear hb HX1 HX2 HX3 HX4
  obtain ⟨-, c0, c1, c2, c3⟩ := HR2.out.at_
  try dsimp only at c0 c1 c2 c3
  generalize vldT ⟨s2, s3, n4, n5⟩ = V at *
  cases V
  · have HR := Lib.hid (HR0.out.trans (if_pos rfl))
    go_wp2_with (with_reducible refine wpList_store_lb rfl (.tmp 2) (.tmp 78) rfl w.heap.size rfl .zero .zero rfl HR1.out ?_)
    refine post_cell2 (cs := lbC .zero) (x := .int .i64 8) rfl rfl (HR1.out.put .zero).row Tryd.underlying23 rfl infoLb rfl rfl ?_
    exact retL2 HR.out (below_set HB1.out (Nat.le_refl _) _)
  · have HR := Lib.hid (HR0.out.trans (if_neg (by simp)))
    go_wp2_with (with_reducible refine wpList_store_lb rfl (.tmp 2) (.tmp 79) rfl w.heap.size rfl ⟨s2, s3, n4, n5⟩ .zero rfl HR1.out ?_)
    refine post_cell2 (cs := lbC ⟨s2, s3, n4, n5⟩) (x := .int .i64 0) rfl rfl (HR1.out.put ⟨s2, s3, n4, n5⟩).row Tryd.underlying23 rfl infoLb rfl rfl ?_
    exact retL2 HR.out (below_set HB1.out (Nat.le_refl _) _)
end Go.Proofs.YtjmlidejbddoeaaDoor
