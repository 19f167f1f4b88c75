/-
  Functions that hand back a drive and a cartridge: their five boxes, what they store, how they end.
-/
import Derived.Test.YtepmmlnopdjjdaaQDrs
import Derived.Test.YtepmmlnopdjjdaaQSmall
namespace Go.Proofs.Ytepmmlnopdjjdaa
open Go.RowKit
set_option linter.unusedVariables false
abbrev drK (d : Drv) : Array Value := #[.int .i64 d.st, .string d.bc, .int .i64 d.hd, .int .i64 d.lo, .int .i64 d.pa, .int .i64 d.si]
abbrev crQ (c : Crt) (ad : Option Addr) (cap : Nat) : Array Value := crK c.bc c.W c.L c.S c.T c.J c.R c.wo c.lk ad c.l.length cap c.ep c.lo c.pa
theorem infoD : (Try.prog.info? 25).map (·.size) = some 6 := by kernel_rfl
abbrev drZ : Drv := ⟨0, ⟨#[]⟩, 0, 0, 0, 0⟩
/-- a store of a struct, as an operation -/
theorem oper_store_agg {P : Program} {o : Oper} {a : Act} {w : World} {K : Act → World → Prop} {Q : Exit → Act → World → Prop} (ty : TypeId) (x y : Operand) (ho : o.op = .store ty x y)
    (g : Nat) (hx : a.eval x = .pointer (some ⟨g, 0, none⟩)) (cs old : Array Value) (hy : a.eval y = .agg cs) (t : TypeId) (hg : w.heap[g]? = some (.cells old t (0, 0)))
    (hi : (P.info? ty).map (·.size) = some cs.size) (hs : old.size = cs.size) (h1 : cs.all (·.oneCell') = true)
    (h : K (a.put o.dst undef) (w.setRow g cs)) : Oper.wp P o a w K Q := by
  unfold Oper.wp execOp
  simp only [ho, hx, hy, Instr.storeAt, Instr.sureAddr, Sem.run_bind, Sem.run_pure, Result.andThen_ok, run_storeVar_row w g t ty old cs hg hi hs h1]
  exact h
theorem wpList_store_dr {ops : Array Oper} {rest : List Oper} {o : Oper} {a : Act} {w : World} {Q : Exit → Act → World → Prop} (hgd : o.guard = none) (x y : Operand) (ho : o.op = .store 25 x y)
    (g : Nat) (hx : a.eval x = .pointer (some ⟨g, 0, none⟩)) (st : Int) (bc : ByteArray) (hd lo pa si : Int) (hy : a.eval y = .agg #[.int .i64 st, .string bc, .int .i64 hd, .int .i64 lo, .int .i64 pa, .int .i64 si]) (d0 : Drv) (hg : w.heap[g]? = some (.cells (drK d0) 25 (0, 0)))
    (h : wpList Try.prog ops Q rest (a.put o.dst undef) (w.setRow g #[.int .i64 st, .string bc, .int .i64 hd, .int .i64 lo, .int .i64 pa, .int .i64 si])) : wpList Try.prog ops Q (o :: rest) a w :=
  wpList_store_agg hgd _ x y ho g hx _ _ hy _ hg infoD rfl (by simp [Value.oneCell']) h
theorem oper_store_dr {o : Oper} {a : Act} {w : World} {K : Act → World → Prop} {Q : Exit → Act → World → Prop} (x y : Operand) (ho : o.op = .store 25 x y)
    (g : Nat) (hx : a.eval x = .pointer (some ⟨g, 0, none⟩)) (d : Drv) (hy : a.eval y = .agg (drK d)) (d0 : Drv) (hg : w.heap[g]? = some (.cells (drK d0) 25 (0, 0)))
    (h : K (a.put o.dst undef) (w.setRow g (drK d))) : Oper.wp Try.prog o a w K Q :=
  oper_store_agg _ x y ho g hx _ _ hy _ hg infoD rfl (by simp [Value.oneCell']) h
theorem oper_store_cq {o : Oper} {a : Act} {w : World} {K : Act → World → Prop} {Q : Exit → Act → World → Prop} (x y : Operand) (ho : o.op = .store 30 x y)
    (g : Nat) (hx : a.eval x = .pointer (some ⟨g, 0, none⟩)) (c : Crt) (ad : Option Addr) (cap : Nat) (hy : a.eval y = .agg (crQ c ad cap)) (c0 : Crt) (ad0 : Option Addr) (cap0 : Nat) (hg : w.heap[g]? = some (.cells (crQ c0 ad0 cap0) 30 (0, 0)))
    (h : K (a.put o.dst undef) (w.setRow g (crQ c ad cap))) : Oper.wp Try.prog o a w K Q :=
  oper_store_agg _ x y ho g hx _ _ hy _ hg infoC rfl (by simp [Value.oneCell']) h
theorem post_cells {P : Program} {fn : Func} {R : Ending → World → Prop} {p q : Tmp} {ty tz : TypeId} (h : fn.results = #[.cell p ty, .cell q tz]) {a : Act} {w : World} {g k : Nat} {cs ds : Array Value} {t u : TypeId} {d e : TypeDesc}
    (hp : a.tmps.getD p undef = .pointer (some ⟨g, 0, none⟩)) (hg : w.heap[g]? = some (.cells cs t (0, 0))) (hu : P.underlying ty = some d) (hd : (match d with | .struct _ | .array _ _ => true | _ => false) = true) (hi : (P.info? ty).map (·.size) = some cs.size)
    (hq : a.tmps.getD q undef = .pointer (some ⟨k, 0, none⟩)) (hk : w.heap[k]? = some (.cells ds u (0, 0))) (hv : P.underlying tz = some e) (he : (match e with | .struct _ | .array _ _ => true | _ => false) = true) (hj : (P.info? tz).map (·.size) = some ds.size)
    (hdef : a.defers = []) (hR : R (.returned (.tuple #[.agg cs, .agg ds])) w) : bodyPost P fn R .ret a w := by
  refine bodyPost_ret (v := .tuple #[.agg cs, .agg ds]) ?_ hdef hR
  have e : (results fn a.tmps).run P w = ((asAddr (a.tmps.getD p undef)).run P w).andThen fun b w1 => ((loadVar ty b).run P w1).andThen fun v w2 => ((asAddr (a.tmps.getD q undef)).run P w2).andThen fun b2 w3 => ((loadVar tz b2).run P w3).andThen fun v2 w4 => .ok (.tuple #[v, v2]) w4 := by
    simp only [results, h]
    simp [Sem.run_bind, Result.andThen]
  rw [e, hp, hq]
  simp only [asAddr, Sem.run_pure, Result.andThen, run_loadVar_row w g t ty cs (0, 0) d hg hu hd hi, run_loadVar_row w k u tz ds (0, 0) _ hk hv he hj]
theorem post_cells2 {P : Program} {fn : Func} {R : Ending → World → Prop} {p q r s : Tmp} {ty tz : TypeId} (h : fn.results = #[.cell p ty, .cell q tz, .tmp r, .tmp s]) {a : Act} {w : World} {g k : Nat} {cs ds : Array Value} {t u : TypeId} {d e : TypeDesc}
    (hp : a.tmps.getD p undef = .pointer (some ⟨g, 0, none⟩)) (hg : w.heap[g]? = some (.cells cs t (0, 0))) (hu : P.underlying ty = some d) (hd : (match d with | .struct _ | .array _ _ => true | _ => false) = true) (hi : (P.info? ty).map (·.size) = some cs.size)
    (hq : a.tmps.getD q undef = .pointer (some ⟨k, 0, none⟩)) (hk : w.heap[k]? = some (.cells ds u (0, 0))) (hv : P.underlying tz = some e) (he : (match e with | .struct _ | .array _ _ => true | _ => false) = true) (hj : (P.info? tz).map (·.size) = some ds.size)
    (hdef : a.defers = []) {x y : Value} (hx : a.tmps.getD r undef = x) (hy : a.tmps.getD s undef = y) (hR : R (.returned (.tuple #[.agg cs, .agg ds, x, y])) w) : bodyPost P fn R .ret a w := by
  subst hx hy
  refine bodyPost_ret (v := .tuple #[.agg cs, .agg ds, a.tmps.getD r undef, a.tmps.getD s undef]) ?_ hdef hR
  have e : (results fn a.tmps).run P w = ((asAddr (a.tmps.getD p undef)).run P w).andThen fun b w1 => ((loadVar ty b).run P w1).andThen fun v w2 => ((asAddr (a.tmps.getD q undef)).run P w2).andThen fun b2 w3 => ((loadVar tz b2).run P w3).andThen fun v2 w4 => .ok (.tuple #[v, v2, a.tmps.getD r undef, a.tmps.getD s undef]) w4 := by
    simp only [results, h]
    simp [Sem.run_bind, Result.andThen]
  rw [e, hp, hq]
  simp only [asAddr, Sem.run_pure, Result.andThen, run_loadVar_row w g t ty cs (0, 0) d hg hu hd hi, run_loadVar_row w k u tz ds (0, 0) _ hk hv he hj]
theorem post_cells3 {P : Program} {fn : Func} {R : Ending → World → Prop} {p q r s z : Tmp} {ty tz : TypeId} (h : fn.results = #[.cell p ty, .cell q tz, .tmp z, .tmp r, .tmp s]) {a : Act} {w : World} {g k : Nat} {cs ds : Array Value} {t u : TypeId} {d e : TypeDesc}
    (hp : a.tmps.getD p undef = .pointer (some ⟨g, 0, none⟩)) (hg : w.heap[g]? = some (.cells cs t (0, 0))) (hu : P.underlying ty = some d) (hd : (match d with | .struct _ | .array _ _ => true | _ => false) = true) (hi : (P.info? ty).map (·.size) = some cs.size)
    (hq : a.tmps.getD q undef = .pointer (some ⟨k, 0, none⟩)) (hk : w.heap[k]? = some (.cells ds u (0, 0))) (hv : P.underlying tz = some e) (he : (match e with | .struct _ | .array _ _ => true | _ => false) = true) (hj : (P.info? tz).map (·.size) = some ds.size)
    (hdef : a.defers = []) {x y v : Value} (hz : a.tmps.getD z undef = v) (hx : a.tmps.getD r undef = x) (hy : a.tmps.getD s undef = y) (hR : R (.returned (.tuple #[.agg cs, .agg ds, v, x, y])) w) : bodyPost P fn R .ret a w := by
  subst hx hy hz
  refine bodyPost_ret (v := .tuple #[.agg cs, .agg ds, a.tmps.getD z undef, a.tmps.getD r undef, a.tmps.getD s undef]) ?_ hdef hR
  have e : (results fn a.tmps).run P w = ((asAddr (a.tmps.getD p undef)).run P w).andThen fun b w1 => ((loadVar ty b).run P w1).andThen fun v w2 => ((asAddr (a.tmps.getD q undef)).run P w2).andThen fun b2 w3 => ((loadVar tz b2).run P w3).andThen fun v2 w4 => .ok (.tuple #[v, v2, a.tmps.getD z undef, a.tmps.getD r undef, a.tmps.getD s undef]) w4 := by
    simp only [results, h]
    simp [Sem.run_bind, Result.andThen]
  rw [e, hp, hq]
  simp only [asAddr, Sem.run_pure, Result.andThen, run_loadVar_row w g t ty cs (0, 0) d hg hu hd hi, run_loadVar_row w k u tz ds (0, 0) _ hk hv he hj]
theorem DrAt.of {w : World} {g : Nat} {d : Drv} (h : w.heap[g]? = some (.cells (drK d) 25 (0, 0))) : DrAt w g d.st d.bc d.hd d.lo d.pa d.si := by
  refine ⟨(Array.getElem?_eq_some_iff.1 h).1, ?_, ?_, ?_, ?_, ?_, ?_⟩ <;> (rw [cell_of_row w g _ _ _ _ h]; rfl)
theorem CrAt.of {w : World} {g : Nat} {c : Crt} {ad : Option Addr} {cap : Nat} (h : w.heap[g]? = some (.cells (crQ c ad cap) 30 (0, 0))) : CrAt w g c.bc c.W c.L c.S c.T c.J c.R c.wo c.lk ad c.l.length cap c.ep c.lo c.pa := by
  refine ⟨(Array.getElem?_eq_some_iff.1 h).1, ?_, ?_, ?_, ?_, ?_, ?_, ?_, ?_, ?_, ?_, ?_, ?_, ?_⟩ <;> (rw [cell_of_row w g _ _ _ _ h]; rfl)
theorem froz_of {w : World} {g : Nat} {cs : Array Value} {t : TypeId} (h : w.heap[g]? = some (.cells cs t (0, 0))) (i : Nat) : w.frozen? ⟨g, i, none⟩ = false := by
  simp [World.frozen?, h]
/-- the boxes of a function that hands back a drive and a cartridge: g those of the drive, of the cartridge, of both results -/
structure Fo (w w' : World) (g : Nat) (d : Drv) (c : Crt) (ad : Option Addr) (cap : Nat) (x : Drv) (y : Crt) (yd : Option Addr) (yc : Nat) : Prop where
  b : Below w.heap.size w w'
  g0 : w.heap.size ≤ g
  d : w'.heap[g]? = some (.cells (drK d) 25 (0, 0))
  c : w'.heap[g + 1]? = some (.cells (crQ c ad cap) 30 (0, 0))
  x : w'.heap[g + 2]? = some (.cells (drK x) 25 (0, 0))
  y : w'.heap[g + 3]? = some (.cells (crQ y yd yc) 30 (0, 0))
section
variable {w X Y : World} {g : Nat} {d : Drv} {c : Crt} {ad : Option Addr} {cap : Nat} {x : Drv} {y : Crt} {yd : Option Addr} {yc : Nat}
theorem Fo.next (h : Fo w X g d c ad cap x y yd yc) (hb : Below X.heap.size X Y) : Fo w Y g d c ad cap x y yd yc := by
  have hk : ∀ k o, X.heap[k]? = some o → Y.heap[k]? = some o := fun k o hk => (hb.block k (Array.getElem?_eq_some_iff.1 hk).1).trans hk
  exact ⟨h.b.trans (hb.mono h.b.size), h.g0, hk _ _ h.d, hk _ _ h.c, hk _ _ h.x, hk _ _ h.y⟩
theorem Fo.dat (h : Fo w X g d c ad cap x y yd yc) : DrAt X g d.st d.bc d.hd d.lo d.pa d.si := DrAt.of h.d
theorem Fo.cat (h : Fo w X g d c ad cap x y yd yc) : CrAt X (g + 1) c.bc c.W c.L c.S c.T c.J c.R c.wo c.lk ad c.l.length cap c.ep c.lo c.pa := CrAt.of h.c
/-- a field of the drive is set -/
theorem Fo.setd (h : Fo w X g d c ad cap x y yd yc) (i : Nat) (u : Value) (d2 : Drv) (hd : (drK d).setIfInBounds i u = drK d2) : Fo w (X.setCell ⟨g, i, none⟩ u) g d2 c ad cap x y yd yc := by
  refine ⟨h.b.setCell h.g0 _, h.g0, ?_, ?_, ?_, ?_⟩
  · rw [← hd]; exact heap_set_b X g i u _ _ _ h.d
  · rw [Below.heap_setCell _ _ _ _ (by show g + 1 ≠ g; omega)]; exact h.c
  · rw [Below.heap_setCell _ _ _ _ (by show g + 2 ≠ g; omega)]; exact h.x
  · rw [Below.heap_setCell _ _ _ _ (by show g + 3 ≠ g; omega)]; exact h.y
/-- a field of the cartridge is set -/
theorem Fo.setc (h : Fo w X g d c ad cap x y yd yc) (i : Nat) (u : Value) (c2 : Crt) (ad2 : Option Addr) (cap2 : Nat) (hd : (crQ c ad cap).setIfInBounds i u = crQ c2 ad2 cap2) : Fo w (X.setCell ⟨g + 1, i, none⟩ u) g d c2 ad2 cap2 x y yd yc := by
  refine ⟨h.b.setCell (by show w.heap.size ≤ g + 1; have := h.g0; omega) _, h.g0, ?_, ?_, ?_, ?_⟩
  · rw [Below.heap_setCell _ _ _ _ (by show g ≠ g + 1; omega)]; exact h.d
  · rw [← hd]; exact heap_set_b X (g + 1) i u _ _ _ h.c
  · rw [Below.heap_setCell _ _ _ _ (by show g + 2 ≠ g + 1; omega)]; exact h.x
  · rw [Below.heap_setCell _ _ _ _ (by show g + 3 ≠ g + 1; omega)]; exact h.y
/-- whole rows are set -/
theorem Fo.rowd (h : Fo w X g d c ad cap x y yd yc) (d2 : Drv) : Fo w (X.setRow g (drK d2)) g d2 c ad cap x y yd yc := by
  refine ⟨below_set h.b h.g0 _, h.g0, setRow_heap _ _ _ _ _ _ h.d, ?_, ?_, ?_⟩
  · rw [setRow_other _ _ _ _ (by omega)]; exact h.c
  · rw [setRow_other _ _ _ _ (by omega)]; exact h.x
  · rw [setRow_other _ _ _ _ (by omega)]; exact h.y
theorem Fo.rowc (h : Fo w X g d c ad cap x y yd yc) (c2 : Crt) (ad2 : Option Addr) (cap2 : Nat) : Fo w (X.setRow (g + 1) (crQ c2 ad2 cap2)) g d c2 ad2 cap2 x y yd yc := by
  refine ⟨below_set h.b (by have := h.g0; omega) _, h.g0, ?_, setRow_heap _ _ _ _ _ _ h.c, ?_, ?_⟩
  · rw [setRow_other _ _ _ _ (by omega)]; exact h.d
  · rw [setRow_other _ _ _ _ (by omega)]; exact h.x
  · rw [setRow_other _ _ _ _ (by omega)]; exact h.y
theorem Fo.rowx (h : Fo w X g d c ad cap x y yd yc) (x2 : Drv) : Fo w (X.setRow (g + 2) (drK x2)) g d c ad cap x2 y yd yc := by
  refine ⟨below_set h.b (by have := h.g0; omega) _, h.g0, ?_, ?_, setRow_heap _ _ _ _ _ _ h.x, ?_⟩
  · rw [setRow_other _ _ _ _ (by omega)]; exact h.d
  · rw [setRow_other _ _ _ _ (by omega)]; exact h.c
  · rw [setRow_other _ _ _ _ (by omega)]; exact h.y
theorem Fo.rowy (h : Fo w X g d c ad cap x y yd yc) (y2 : Crt) (yd2 : Option Addr) (yc2 : Nat) : Fo w (X.setRow (g + 3) (crQ y2 yd2 yc2)) g d c ad cap x y2 yd2 yc2 := by
  refine ⟨below_set h.b (by have := h.g0; omega) _, h.g0, ?_, ?_, ?_, setRow_heap _ _ _ _ _ _ h.y⟩
  · rw [setRow_other _ _ _ _ (by omega)]; exact h.d
  · rw [setRow_other _ _ _ _ (by omega)]; exact h.c
  · rw [setRow_other _ _ _ _ (by omega)]; exact h.x
end
abbrev boxDr (d : Drv) : Obj := .cells #[.int .i64 d.st, .string d.bc, .int .i64 d.hd, .int .i64 d.lo, .int .i64 d.pa, .int .i64 d.si] 25
/-- the four boxes at a function's begin, behind what it has made before -/
theorem Fo.start (w0 w : World) (h0 : Below w0.heap.size w0 w) (d : Drv) (c : Crt) (ad : Option Addr) (cap : Nat) :
    Fo w0 ((((w.alloc (.cells #[.int .i64 d.st, .string d.bc, .int .i64 d.hd, .int .i64 d.lo, .int .i64 d.pa, .int .i64 d.si] 25)).alloc (.cells #[.string c.bc, .int .i64 c.W, .int .i64 c.L, .int .i64 c.S, .int .i64 c.T, .int .i64 c.J, .int .i64 c.R, .bool c.wo, .bool c.lk, .slice ad c.l.length cap, .int .i64 c.ep, .int .i64 c.lo, .int .i64 c.pa] 30)).alloc (.cells #[.int .i64 0, .string ⟨#[]⟩, .int .i64 0, .int .i64 0, .int .i64 0, .int .i64 0] 25)).alloc (boxK ⟨#[]⟩ 0 0 0 0 0 0 false false none 0 0 0 0 0)) w.heap.size d c ad cap drZ crZ none 0 := by
  have hs := h0.size
  refine ⟨(((h0.alloc hs _).alloc (by simp; omega) _).alloc (by simp; omega) _).alloc (by simp; omega) _, hs, ?_, ?_, ?_, ?_⟩
  · rw [((below_box3 _ _ _ _).block _ (by simp))]; exact heap_alloc_new w _
  · rw [((below_box2 _ _ _).block _ (by simp))]
    have h := heap_alloc_new (w.alloc (boxDr d)) (boxK c.bc c.W c.L c.S c.T c.J c.R c.wo c.lk ad c.l.length cap c.ep c.lo c.pa)
    rwa [World.size_alloc] at h
  · rw [((below_box1 _ _).block _ (by simp))]
    have h := heap_alloc_new ((w.alloc (boxDr d)).alloc (boxK c.bc c.W c.L c.S c.T c.J c.R c.wo c.lk ad c.l.length cap c.ep c.lo c.pa)) (boxDr drZ)
    rwa [World.size_alloc, World.size_alloc] at h
  · have h := heap_alloc_new (((w.alloc (boxDr d)).alloc (boxK c.bc c.W c.L c.S c.T c.J c.R c.wo c.lk ad c.l.length cap c.ep c.lo c.pa)).alloc (boxDr drZ)) (boxK ⟨#[]⟩ 0 0 0 0 0 0 false false none 0 0 0 0 0)
    rwa [World.size_alloc, World.size_alloc, World.size_alloc] at h
/-- a model's box, and the four -/
theorem Fo.five (w : World) (m : Mdl) (d : Drv) (c : Crt) (ad : Option Addr) (cap : Nat) : ∃ W1 : World, Below w.heap.size w W1 ∧ MdAt W1 w.heap.size m.ld m.ul m.cl m.ce m.cf ∧ W1.heap.size = w.heap.size + 1 ∧
    Fo W1 (((((w.alloc (.cells #[.int .i64 m.ld, .int .i64 m.ul, .int .i64 m.cl, .int .i64 m.ce, .int .i64 m.cf] 23)).alloc (.cells #[.int .i64 d.st, .string d.bc, .int .i64 d.hd, .int .i64 d.lo, .int .i64 d.pa, .int .i64 d.si] 25)).alloc (.cells #[.string c.bc, .int .i64 c.W, .int .i64 c.L, .int .i64 c.S, .int .i64 c.T, .int .i64 c.J, .int .i64 c.R, .bool c.wo, .bool c.lk, .slice ad c.l.length cap, .int .i64 c.ep, .int .i64 c.lo, .int .i64 c.pa] 30)).alloc (.cells #[.int .i64 0, .string ⟨#[]⟩, .int .i64 0, .int .i64 0, .int .i64 0, .int .i64 0] 25)).alloc (boxK ⟨#[]⟩ 0 0 0 0 0 0 false false none 0 0 0 0 0)) (w.heap.size + 1) d c ad cap drZ crZ none 0 := by
  refine ⟨w.alloc (boxM m.ld m.ul m.cl m.ce m.cf), below_box1 _ _, MdAt.new w _ _ _ _ _ _, by simp, ?_⟩
  have h := Fo.start _ _ (Below.refl _ (w.alloc (boxM m.ld m.ul m.cl m.ce m.cf))) d c ad cap
  rwa [show (w.alloc (boxM m.ld m.ul m.cl m.ce m.cf)).heap.size = w.heap.size + 1 by simp] at h
theorem MdAt.on {w W1 X : World} {ld ul cl ce cf : Int} (h : MdAt W1 w.heap.size ld ul cl ce cf) (hb : Below W1.heap.size W1 X) : MdAt X w.heap.size ld ul cl ce cf := h.below hb h.lt
/-- the ways of a region meet -/
theorem region_meet {P : Program} {id : Nat} {ops : Array Oper} {b : Bool} {Q : Exit → Act → World → Prop} {a : Act} {w : World} (A : Act) (R : World → Prop)
    (h : (Code.region id ops b).wp P (fun e a' w' => e = .normal ∧ a' = A ∧ R w') a w) (k : ∀ X, R X → Q .normal A X) : (Code.region id ops b).wp P Q a w :=
  Code.wp_mono (fun e a' w' hh => by obtain ⟨h1, h2, h3⟩ := hh; subst h1 h2; exact k _ h3) h
theorem region_ways {P : Program} {id : Nat} {ops : Array Oper} {Q : Exit → Act → World → Prop} {a : Act} {w : World} (hm : P.follows .mixedOrders = true) (A : Act) (R0 S R : World → Prop) (h0 : R0 w.drew) (hS : ∀ X, R0 X → S X)
    (h : ∀ X, R0 X → wpAnyH P .any ops (NoPanic fun e a' w' => e = .normal ∧ a' = A ∧ R w') S ops.size (Array.replicate ops.size false) a X) (k : ∀ X, R X → Q .normal A X) : (Code.region id ops true).wp P Q a w :=
  region_meet A R (wp_region_noPanic (wp_region_held_drew hm (hS _ h0) fun _ => h _ h0)) k
theorem held_gen {P : Program} {md : Region.Mode} {ops : Array Oper} {Q : Exit → Act → World → Prop} {S : World → Prop} {fuel : Nat} {listed : Array Bool} {K' : Act → World → Prop} {a : Act} {w : World}
    (hK : Shut (∀ a w, S w → (S w → wpAnyH P md ops Q S fuel listed a w) → K' a w)) (R : World → Prop) (hR : R w) (hS : ∀ X, R X → S X) (h : ∀ X, R X → wpAnyH P md ops Q S fuel listed a X) : K' a w := hK.out a w (hS _ hR) (fun _ => h w hR)
theorem held_three {P : Program} {md : Region.Mode} {l : List Oper} {Q : Exit → Act → World → Prop} {S : World → Prop} {i j k : Nat} {oi oj ok : Oper} {fuel : Nat} {listed : Array Bool} {a : Act} {w : World} (hi : l[i]? = some oi) (hj : l[j]? = some oj) (hk : l[k]? = some ok)
    (hr : Region.ready md l.toArray listed = [i, j, k]) (hwi : Region.wanted oi (yielded l.toArray a.tmps) = true) (hwj : Region.wanted oj (yielded l.toArray a.tmps) = true) (hwk : Region.wanted ok (yielded l.toArray a.tmps) = true)
    (h1 : ∀ K' : Act → World → Prop, Shut (∀ a w, S w → (S w → wpAnyH P md l.toArray Q S fuel (listed.setIfInBounds i true) a w) → K' a w) → Oper.wp P oi a w K' Q)
    (h2 : ∀ K' : Act → World → Prop, Shut (∀ a w, S w → (S w → wpAnyH P md l.toArray Q S fuel (listed.setIfInBounds j true) a w) → K' a w) → Oper.wp P oj a w K' Q)
    (h3 : ∀ K' : Act → World → Prop, Shut (∀ a w, S w → (S w → wpAnyH P md l.toArray Q S fuel (listed.setIfInBounds k true) a w) → K' a w) → Oper.wp P ok a w K' Q) :
    wpAnyH P md l.toArray Q S (fuel + 1) listed a w :=
  wpAnyH_ready hr (by simp) (AllReadyH.cons (by rw [List.getElem?_toArray]; exact hi) (fun K hK => by rw [if_pos hwi]; exact h1 K hK)
    (AllReadyH.cons (by rw [List.getElem?_toArray]; exact hj) (fun K hK => by rw [if_pos hwj]; exact h2 K hK)
    (AllReadyH.cons (by rw [List.getElem?_toArray]; exact hk) (fun K hK => by rw [if_pos hwk]; exact h3 K hK) AllReadyH.nil)))
/-- a call hands back a drive, a cartridge, a time and an error -/
def RetDC (w : World) (ad0 : Option Addr) (l0 : List Blk) (r : Drv × Crt × Int × Int) (e : Ending) (w' : World) : Prop := ∃ ad cap, e = .returned (.tuple #[drV r.1, crV r.2.1 ad cap, .int .i64 r.2.2.1, .int .i64 r.2.2.2]) ∧ CrIn w' r.2.1 ad cap ∧ KpS w ad0 l0 w' ad r.2.1.l ∧ Below w.heap.size w w'
end Go.Proofs.Ytepmmlnopdjjdaa
