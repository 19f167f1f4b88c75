/-
  Structs in blocks of their own: load, store, and as a first result.
  The specification's Same, of two cartridges that are equal; New and Free.
  The specification's New, Free and Erase.
  The specification's Free and Erase.
-/
import Derived.Test.YtepmmlnopdjjdaaQMem
import Derived.Deep.Draws
import Derived.Test.YtepmmlnopdjjdaaQSmall
import Derived.Test.YtepmmlnopdjjdaaCtVal
namespace Go.Proofs.Ytepmmlnopdjjdaa
open Go.RowKit
set_option linter.unusedVariables false
theorem wpList_load_agg {P : Program} {ops : Array Oper} {rest : List Oper} {o : Oper} {a : Act} {w : World} {Q : Exit → Act → World → Prop} (hgd : o.guard = none) (ty : TypeId) (x : Operand) (ho : o.op = .load ty x)
    (g : Nat) (hx : a.eval x = .pointer (some ⟨g, 0, none⟩)) (cs : Array Value) (t : TypeId) (d : TypeDesc) (hg : w.heap[g]? = some (.cells cs t (0, 0)))
    (hu : P.underlying ty = some d) (hd : (match d with | .struct _ | .array _ _ => true | _ => false) = true) (hi : (P.info? ty).map (·.size) = some cs.size)
    (h : wpList P ops Q rest (a.put o.dst (.agg cs)) w) : wpList P ops Q (o :: rest) a w := by
  refine wpList_plain hgd fun _ hK => ?_
  unfold Oper.wp execOp
  simp only [ho, hx, Instr.loadAt, Instr.sureAddr, Sem.run_bind, Sem.run_pure, Result.andThen_ok, run_loadVar_row w g t ty cs (0, 0) d hg hu hd hi]
  exact hK _ _ h
theorem wpList_store_agg {P : Program} {ops : Array Oper} {rest : List Oper} {o : Oper} {a : Act} {w : World} {Q : Exit → Act → World → Prop} (hgd : o.guard = none) (ty : TypeId) (x y : Operand) (ho : o.op = .store ty x y)
    (g : Nat) (hx : a.eval x = .pointer (some ⟨g, 0, none⟩)) (cs old : Array Value) (hy : a.eval y = .agg cs) (t : TypeId) (hg : w.heap[g]? = some (.cells old t (0, 0)))
    (hi : (P.info? ty).map (·.size) = some cs.size) (hs : old.size = cs.size) (h1 : cs.all (·.oneCell') = true)
    (h : wpList P ops Q rest (a.put o.dst undef) (w.setRow g cs)) : wpList P ops Q (o :: rest) a w := by
  refine wpList_plain hgd fun _ hK => ?_
  unfold Oper.wp execOp
  simp only [ho, hx, hy, Instr.storeAt, Instr.sureAddr, Sem.run_bind, Sem.run_pure, Result.andThen_ok, run_storeVar_row w g t ty old cs hg hi hs h1]
  exact hK _ _ h
/-- the end of a function whose first result is a struct in a block of its own, the others in slots -/
theorem post_cell3 {P : Program} {fn : Func} {R : Ending → World → Prop} {p q r : Tmp} {ty : TypeId} (h : fn.results = #[.cell p ty, .tmp q, .tmp r]) {a : Act} {w : World} {g : Nat} {cs : Array Value} {t : TypeId} {d : TypeDesc}
    (hp : a.tmps.getD p undef = .pointer (some ⟨g, 0, none⟩)) (hg : w.heap[g]? = some (.cells cs t (0, 0))) (hu : P.underlying ty = some d) (hd : (match d with | .struct _ | .array _ _ => true | _ => false) = true)
    (hi : (P.info? ty).map (·.size) = some cs.size) (hdef : a.defers = []) {x y : Value} (hx : a.tmps.getD q undef = x) (hy : a.tmps.getD r undef = y) (hR : R (.returned (.tuple #[.agg cs, x, y])) w) : bodyPost P fn R .ret a w := by
  subst hx hy
  refine bodyPost_ret (v := .tuple #[.agg cs, a.tmps.getD q undef, a.tmps.getD r undef]) ?_ hdef hR
  have e : (results fn a.tmps).run P w = ((asAddr (a.tmps.getD p undef)).run P w).andThen fun b w1 => ((loadVar ty b).run P w1).andThen fun v w2 => .ok (.tuple #[v, a.tmps.getD q undef, a.tmps.getD r undef]) w2 := by
    simp only [results, h]
    simp [Sem.run_bind, Result.andThen]
  rw [e, hp]
  simp only [asAddr, Sem.run_pure, Result.andThen, run_loadVar_row w g t ty cs (0, 0) d hg hu hd hi]
theorem heap_new (w : World) (o : Obj) : (w.alloc o).heap[w.heap.size]? = some o := heap_alloc_new w o
/-- a block that is new is written -/
theorem below_set {B g : Nat} {W w : World} (h : Below B W w) (hg : B ≤ g) (cs : Array Value) : Below B W (w.setRow g cs) :=
  ⟨h.os, h.tape, h.output, by simpa [World.setRow] using h.size, fun k hk => by rw [setRow_other _ _ _ _ (by omega)]; exact h.block k hk⟩
end Go.Proofs.Ytepmmlnopdjjdaa
namespace Go.Proofs.Ytepmmlnopdjjdaa
open Go.RowKit
set_option linter.unusedVariables false
attribute [local irreducible] tim vld bar cnt okB capU allB vldC eqK
end Go.Proofs.Ytepmmlnopdjjdaa
namespace Go.Proofs.Ytepmmlnopdjjdaa
open Go.RowKit
set_option linter.unusedVariables false
theorem infoC : (Try.prog.info? 30).map (·.size) = some 13 := by kernel_rfl
/-- the zero cartridge -/
def crZ : Crt := ⟨⟨#[]⟩, 0, 0, 0, 0, 0, 0, false, false, [], 0, 0, 0⟩
/-- a call hands back a cartridge and an error -/
def RetC (w : World) (r : Crt × Int) (e : Ending) (w' : World) : Prop := ∃ ad cap, e = .returned (.tuple #[crV r.1 ad cap, .int .i64 r.2]) ∧ CrIn w' r.1 ad cap ∧ Below w.heap.size w w'
/-- the cells of a block of a cartridge -/
abbrev crK (bc : ByteArray) (W L S T J R : Int) (wo lk : Bool) (ad : Option Addr) (n cap : Nat) (ep lo pa : Int) : Array Value := #[.string bc, .int .i64 W, .int .i64 L, .int .i64 S, .int .i64 T, .int .i64 J, .int .i64 R, .bool wo, .bool lk, .slice ad n cap, .int .i64 ep, .int .i64 lo, .int .i64 pa]
theorem wpList_store_cr {ops : Array Oper} {rest : List Oper} {o : Oper} {a : Act} {w : World} {Q : Exit → Act → World → Prop} (hgd : o.guard = none) (x y : Operand) (ho : o.op = .store 30 x y)
    (g : Nat) (hx : a.eval x = .pointer (some ⟨g, 0, none⟩)) (bc : ByteArray) (W L S T J R : Int) (wo lk : Bool) (ad : Option Addr) (n cap : Nat) (ep lo pa : Int) (hy : a.eval y = .agg (crK bc W L S T J R wo lk ad n cap ep lo pa))
    (bc0 : ByteArray) (W0 L0 S0 T0 J0 R0 : Int) (wo0 lk0 : Bool) (ad0 : Option Addr) (n0 cap0 : Nat) (ep0 lo0 pa0 : Int) (hg : w.heap[g]? = some (.cells (crK bc0 W0 L0 S0 T0 J0 R0 wo0 lk0 ad0 n0 cap0 ep0 lo0 pa0) 30 (0, 0)))
    (h : wpList Try.prog ops Q rest (a.put o.dst undef) (w.setRow g (crK bc W L S T J R wo lk ad n cap ep lo pa))) : wpList Try.prog ops Q (o :: rest) a w :=
  wpList_store_agg hgd _ x y ho g hx _ _ hy _ hg infoC rfl (by simp [Value.oneCell']) h
theorem post_cellC {P : Program} {fn : Func} {R : Ending → World → Prop} {p q : Tmp} {ty : TypeId} (h : fn.results = #[.cell p ty, .tmp q]) {a : Act} {w : World} {g : Nat} {cs : Array Value} {t : TypeId} {d : TypeDesc}
    (hp : a.tmps.getD p undef = .pointer (some ⟨g, 0, none⟩)) (hg : w.heap[g]? = some (.cells cs t (0, 0))) (hu : P.underlying ty = some d) (hd : (match d with | .struct _ | .array _ _ => true | _ => false) = true)
    (hi : (P.info? ty).map (·.size) = some cs.size) (hdef : a.defers = []) {x : Value} (hx : a.tmps.getD q undef = x) (hR : R (.returned (.tuple #[.agg cs, x])) w) : bodyPost P fn R .ret a w := by
  subst hx
  refine bodyPost_ret (v := .tuple #[.agg cs, a.tmps.getD q undef]) ?_ hdef hR
  have e : (results fn a.tmps).run P w = ((asAddr (a.tmps.getD p undef)).run P w).andThen fun b w1 => ((loadVar ty b).run P w1).andThen fun v w2 => .ok (.tuple #[v, a.tmps.getD q undef]) w2 := by
    simp only [results, h]
    simp [Sem.run_bind, Result.andThen]
  rw [e, hp]
  simp only [asAddr, Sem.run_pure, Result.andThen, run_loadVar_row w g t ty cs (0, 0) d hg hu hd hi]
theorem retZ {w W' : World} {x : Int} (h : Below w.heap.size w W') : RetC w (crZ, x) (.returned (.tuple #[.agg (crK ⟨#[]⟩ 0 0 0 0 0 0 false false none 0 0 0 0 0), .int .i64 x])) W' :=
  ⟨none, 0, rfl, ⟨Ki.nil _ _, Nat.le_refl _, Nat.zero_le _, fun _ => rfl, Nat.zero_le _⟩, h⟩
noncomputable def newC (bc : ByteArray) (W L S T J R : Int) (wo : Bool) : Crt × Int :=
  if bar bc = true then (if vld W L S T J R = true then (⟨bc, W, L, S, T, J, R, wo, false, [], 0, 0, 0⟩, 0) else (crZ, 7)) else (crZ, 8)
/-- the zero cartridge's box behind another box -/
theorem zero_row (w : World) (o : Obj) : ((w.alloc o).alloc (boxK ⟨#[]⟩ 0 0 0 0 0 0 false false none 0 0 0 0 0)).heap[w.heap.size + 1]? = some (.cells (crK ⟨#[]⟩ 0 0 0 0 0 0 false false none 0 0 0 0 0) 30 (0, 0)) := by
  have := heap_alloc_new (w.alloc o) (boxK ⟨#[]⟩ 0 0 0 0 0 0 false false none 0 0 0 0 0)
  rwa [World.size_alloc] at this
attribute [local irreducible] tim vld bar cnt okB capU allB vldC eqK
end Go.Proofs.Ytepmmlnopdjjdaa
namespace Go.Proofs.Ytepmmlnopdjjdaa
open Go.RowKit
set_option linter.unusedVariables false
noncomputable def freeC (c : Crt) : Int := if (vldC c && !c.lk) = true then capU c.W c.L c.S c.T c.J c.R - (c.l.length : Int) else 0
/-- a cartridge's box: its cells, its row -/
structure CrBox (w0 w : World) (bc : ByteArray) (W L S T J R : Int) (wo lk : Bool) (ad : Option Addr) (n cap : Nat) (ep lo pa : Int) : Prop where
  at_ : CrAt w w0.heap.size bc W L S T J R wo lk ad n cap ep lo pa
  row : w.heap[w0.heap.size]? = some (.cells (crK bc W L S T J R wo lk ad n cap ep lo pa) 30 (0, 0))
theorem CrBox.below {w0 w w' : World} {bc : ByteArray} {W L S T J R : Int} {wo lk : Bool} {ad : Option Addr} {n cap : Nat} {ep lo pa : Int} (h : CrBox w0 w bc W L S T J R wo lk ad n cap ep lo pa) (hb : Below w.heap.size w w') : CrBox w0 w' bc W L S T J R wo lk ad n cap ep lo pa :=
  ⟨h.at_.below hb h.at_.lt, (hb.block _ h.at_.lt).trans h.row⟩
theorem CrBox.new (w : World) (bc : ByteArray) (W L S T J R : Int) (wo lk : Bool) (ad : Option Addr) (n cap : Nat) (ep lo pa : Int) : CrBox w (w.alloc (boxK bc W L S T J R wo lk ad n cap ep lo pa)) bc W L S T J R wo lk ad n cap ep lo pa :=
  ⟨CrAt.new w bc W L S T J R wo lk ad n cap ep lo pa _, heap_alloc_new w _⟩
theorem CrBox.frozen {w0 w : World} {bc : ByteArray} {W L S T J R : Int} {wo lk : Bool} {ad : Option Addr} {n cap : Nat} {ep lo pa : Int} (h : CrBox w0 w bc W L S T J R wo lk ad n cap ep lo pa) (i : Nat) : w.frozen? ⟨w0.heap.size, i, none⟩ = false := by
  simp [World.frozen?, h.row]
/-- the two boxes at a function's begin -/
theorem two_boxes (w : World) (bc : ByteArray) (W L S T J R : Int) (wo lk : Bool) (ad : Option Addr) (n cap : Nat) (ep lo pa : Int) :
    Below w.heap.size w ((w.alloc (boxK bc W L S T J R wo lk ad n cap ep lo pa)).alloc (boxK ⟨#[]⟩ 0 0 0 0 0 0 false false none 0 0 0 0 0)) ∧
    CrBox w ((w.alloc (boxK bc W L S T J R wo lk ad n cap ep lo pa)).alloc (boxK ⟨#[]⟩ 0 0 0 0 0 0 false false none 0 0 0 0 0)) bc W L S T J R wo lk ad n cap ep lo pa ∧
    ((w.alloc (boxK bc W L S T J R wo lk ad n cap ep lo pa)).alloc (boxK ⟨#[]⟩ 0 0 0 0 0 0 false false none 0 0 0 0 0)).heap[w.heap.size + 1]? = some (.cells (crK ⟨#[]⟩ 0 0 0 0 0 0 false false none 0 0 0 0 0) 30 (0, 0)) ∧
    w.heap.size + 2 ≤ ((w.alloc (boxK bc W L S T J R wo lk ad n cap ep lo pa)).alloc (boxK ⟨#[]⟩ 0 0 0 0 0 0 false false none 0 0 0 0 0)).heap.size :=
  ⟨below_box2 _ _ _, (CrBox.new w bc W L S T J R wo lk ad n cap ep lo pa).below (below_box1 _ _), zero_row w _, by simp⟩
/-- a function that hands back a cartridge, on its way: both boxes as they were -/
structure Way (w w' : World) (bc : ByteArray) (W L S T J R : Int) (wo lk : Bool) (ad : Option Addr) (n cap : Nat) (ep lo pa : Int) : Prop where
  b : Below w.heap.size w w'
  c : CrBox w w' bc W L S T J R wo lk ad n cap ep lo pa
  z : w'.heap[w.heap.size + 1]? = some (.cells (crK ⟨#[]⟩ 0 0 0 0 0 0 false false none 0 0 0 0 0) 30 (0, 0))
  s : w.heap.size + 2 ≤ w'.heap.size
theorem Way.start (w : World) (bc : ByteArray) (W L S T J R : Int) (wo lk : Bool) (ad : Option Addr) (n cap : Nat) (ep lo pa : Int) : Way w ((w.alloc (boxK bc W L S T J R wo lk ad n cap ep lo pa)).alloc (boxK ⟨#[]⟩ 0 0 0 0 0 0 false false none 0 0 0 0 0)) bc W L S T J R wo lk ad n cap ep lo pa := by
  obtain ⟨h1, h2, h3, h4⟩ := two_boxes w bc W L S T J R wo lk ad n cap ep lo pa
  exact ⟨h1, h2, h3, h4⟩
theorem Way.next {w X Y : World} {bc : ByteArray} {W L S T J R : Int} {wo lk : Bool} {ad : Option Addr} {n cap : Nat} {ep lo pa : Int} (h : Way w X bc W L S T J R wo lk ad n cap ep lo pa) (hb : Below X.heap.size X Y) : Way w Y bc W L S T J R wo lk ad n cap ep lo pa :=
  ⟨h.b.trans (hb.mono h.b.size), h.c.below hb, (hb.block _ (by have := h.s; omega)).trans h.z, Nat.le_trans h.s hb.size⟩
theorem capU_bd (W L S T J R : Int) : 0 ≤ capU W L S T J R ∧ capU W L S T J R ≤ 4096 := by
  unfold capU
  split
  · rename_i hv
    have v := vld_iff.1 hv
    have := cap_pos v.w0 v.l0; have := v.l0; have := v.c1
    omega
  · omega
attribute [local irreducible] tim vld bar cnt okB capU allB vldC eqK
end Go.Proofs.Ytepmmlnopdjjdaa
