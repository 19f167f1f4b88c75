/-
  Arrays of bytes in memory.
-/
import Derived.Test.YtbkjocmldeagdaaGEv
import Derived.Test.YtbkjocmldeagdaaMem
import Derived.Deep.WholeRow
import Derived.Deep.LoopGhost
import Derived.Laws.ResultCell
namespace Go.Proofs.Ytbkjocmldeagdaa
open Go.RowKit

/-- n bytes as an array's cells -/
def arr (n : Nat) (T : Nat → UInt8) : Array Value := Array.ofFn (n := n) fun i => .int .u8 (ev (T i.val))
theorem arr_size (n : Nat) (T : Nat → UInt8) : (arr n T).size = n := by simp [arr]
theorem arr_get (n : Nat) (T : Nat → UInt8) (j : Nat) (h : j < n) : (arr n T)[j]? = some (.int .u8 (ev (T j))) := by simp [arr, h]
theorem arr_congr (n : Nat) (T T' : Nat → UInt8) (h : ∀ i, i < n → T i = T' i) : arr n T = arr n T' := by
  unfold arr
  congr 1
  funext i
  rw [h i.val i.isLt]
theorem arr_set (n : Nat) (T : Nat → UInt8) (j : Nat) (v : UInt8) : (arr n T).setIfInBounds j (.int .u8 (ev v)) = arr n (fun i => if i = j then v else T i) := by
  apply Array.ext_getElem?
  intro i
  by_cases hi : i < n
  · rw [arr_get _ _ _ hi, Array.getElem?_setIfInBounds]
    by_cases hj : j = i
    · subst hj
      simp [arr_size, hi]
    · rw [if_neg hj, arr_get _ _ _ hi, if_neg (fun e => hj e.symm)]
  · rw [Array.getElem?_eq_none (by simp [arr_size]; omega), Array.getElem?_eq_none (by simp [arr_size]; omega)]
theorem arr_one (n : Nat) (T : Nat → UInt8) : (arr n T).all (·.oneCell') = true := by
  rw [Array.all_eq_true]
  intro i hi
  simp [arr, Value.oneCell']
theorem arr_zero (n : Nat) : (Array.replicate n (Value.int .u8 0)) = arr n (fun _ => 0) := by
  apply Array.ext_getElem?
  intro i
  by_cases hi : i < n
  · rw [arr_get _ _ _ hi, ev_zero]; simp [hi]
  · rw [Array.getElem?_eq_none (by simp; omega), Array.getElem?_eq_none (by simp [arr_size]; omega)]

/-! A whole array out of a block and into a block, whichever block it is. -/
theorem wp_load_arr {P : Program} {op : Oper} {a : Act} {w : World} {K : Act → World → Prop} {Q : Exit → Act → World → Prop} (ty : TypeId) (x : Operand) (ho : op.op = .load ty x)
    (g : Nat) (hx : a.eval x = .pointer (some ⟨g, 0, none⟩)) (cs : Array Value) (n : Nat) (e t : TypeId) (hg : w.heap[g]? = some (.cells cs t (0, 0)))
    (hu : P.underlying ty = some (.array n e)) (hi : (P.info? ty).map (·.size) = some cs.size)
    (h : K (a.put op.dst (.agg cs)) w) : op.wp P a w K Q := by
  unfold Oper.wp execOp
  simp only [ho, hx, Instr.loadAt, Instr.sureAddr, Sem.run_bind, Sem.run_pure, Result.andThen_ok, run_loadVar_row w g t ty cs (0, 0) _ hg hu rfl hi]
  exact h
theorem run_storeCells_arr {P : Program} (w : World) (g : Nat) (t : TypeId) (old cs : Array Value) (hg : w.heap[g]? = some (.cells old t (0, 0))) (hs : old.size = cs.size) (h1 : cs.all (·.oneCell') = true) :
    (storeCells ⟨g, 0, none⟩ cs.toList 0).run P w = .ok () (w.setRow g cs) := by
  have := run_storeCells_from (P := P) g t cs.toList 0 old w hg (by simp; omega) (fun v hv => (Array.all_eq_true_iff_forall_mem.1 h1) v (by simpa using hv))
  simpa [hs] using this
theorem results_cell_arr {fn : Func} {p : Tmp} {ty : TypeId} (h : fn.results = #[.cell p ty]) (tmps : Array Value) (P : Program) (w : World) :
    (results fn tmps).run P w = ((asAddr (tmps.getD p undef)).run P w).andThen fun a w₁ => (loadVar ty a).run P w₁ := by
  simp only [results, h]
  simp [Sem.run_bind, Result.andThen]
theorem setRow_past_arr (w : World) (g : Nat) (c : Array Value) (o : Obj) (h : g < w.heap.size) : (w.alloc o).setRow g c = (w.setRow g c).alloc o := by
  simp only [World.setRow, World.alloc]
  congr 1
  apply Array.ext_getElem?
  intro i
  rw [Array.getElem?_modify]
  by_cases h1 : g = i
  · subst h1
    rw [if_pos rfl, Array.getElem?_push, if_neg (by omega), Array.getElem?_push, if_neg (by simp; omega), Array.getElem?_modify, if_pos rfl]
  · rw [if_neg h1]
    simp only [Array.getElem?_push, Array.size_modify, Array.getElem?_modify, if_neg h1]
theorem run_storeCells_new_arr {P : Program} (w : World) (g : Nat) (hg : g = w.heap.size) (t : TypeId) (old cs : Array Value) (hs : old.size = cs.size) (h1 : cs.all (·.oneCell') = true) :
    (storeCells ⟨g, 0, none⟩ cs.toList 0).run P (w.alloc (.cells old t)) = .ok () (w.alloc (.cells cs t)) := by
  subst hg
  rw [run_storeCells_arr (P := P) _ w.heap.size t old cs (heap_alloc_last _ _) hs h1, World.setRow_alloc_new]
theorem heap_past_arr (w : World) (o : Obj) (k : Nat) (h : k < w.heap.size) : (w.alloc o).heap[k]? = w.heap[k]? := Below.heap_alloc w o k h

/-- Block g is the array of the bytes T. -/
def Arr (w : World) (g : Nat) (t : TypeId) (n : Nat) (T : Nat → UInt8) : Prop := w.heap[g]? = some (.cells (arr n T) t (0, 0))
theorem Arr.lt {w : World} {g : Nat} {t : TypeId} {n : Nat} {T : Nat → UInt8} (h : Arr w g t n T) : g < w.heap.size := (Array.getElem?_eq_some_iff.1 h).1
theorem Arr.cell {w : World} {g : Nat} {t : TypeId} {n : Nat} {T : Nat → UInt8} (h : Arr w g t n T) (i : Nat) (hi : i < n) : w.cell? ⟨g, i, none⟩ = some (.int .u8 (ev (T i))) := by
  rw [cell_of_row w g i _ t (0, 0) h]; exact arr_get n T i hi
theorem Arr.frozen {w : World} {g : Nat} {t : TypeId} {n : Nat} {T : Nat → UInt8} (h : Arr w g t n T) (i : Nat) : w.frozen? ⟨g, i, none⟩ = false := by
  unfold Arr at h
  simp [World.frozen?, h]
theorem Arr.set_ {w : World} {g : Nat} {t : TypeId} {n : Nat} {T T' : Nat → UInt8} (h : Arr w g t n T) (i : Nat) (v : UInt8) (hT : ∀ j, j < n → T' j = if j = i then v else T j) : Arr (w.setCell ⟨g, i, none⟩ (.int .u8 (ev v))) g t n T' := by
  unfold Arr at h ⊢
  rw [arr_congr n T' _ hT, ← arr_set]
  simp [World.setCell, Array.getElem?_modify, h]
theorem Arr.other {w : World} {g b i : Nat} {t : TypeId} {n : Nat} {T : Nat → UInt8} {u : Value} (h : Arr w g t n T) (hne : b ≠ g) : Arr (w.setCell ⟨b, i, none⟩ u) g t n T := by
  unfold Arr at h ⊢
  simp [World.setCell, Array.getElem?_modify, h, hne]
theorem Arr.below {w w' : World} {g B : Nat} {t : TypeId} {n : Nat} {T : Nat → UInt8} (h : Arr w g t n T) (hb : Below B w w') (hg : g < B) : Arr w' g t n T := (hb.block g hg).trans h
theorem Arr.congr {w : World} {g : Nat} {t : TypeId} {n : Nat} {T T' : Nat → UInt8} (h : Arr w g t n T) (e : ∀ i, i < n → T' i = T i) : Arr w g t n T' := by
  unfold Arr
  rw [arr_congr n T' T e]
  exact h
theorem Arr.drewN {w : World} {g m : Nat} {t : TypeId} {n : Nat} {T : Nat → UInt8} (h : Arr w g t n T) : Arr (w.drewN m) g t n T := h
theorem Arr.drew {w : World} {g : Nat} {t : TypeId} {n : Nat} {T : Nat → UInt8} (h : Arr w g t n T) : Arr w.drew g t n T := h
theorem Arr.new (w : World) (t : TypeId) (n : Nat) (T : Nat → UInt8) : Arr (w.alloc (.cells (arr n T) t)) w.heap.size t n T := heap_alloc_last _ _
theorem Arr.past {w : World} {g : Nat} {t : TypeId} {n : Nat} {T : Nat → UInt8} (h : Arr w g t n T) (o : Obj) : Arr (w.alloc o) g t n T := (heap_past_arr w o g h.lt).trans h
/-- the whole array is stored where it lies: nothing changes -/
theorem setRow_self {w : World} {g : Nat} {cs : Array Value} {t : TypeId} {fr : Nat × Nat} (h : w.heap[g]? = some (.cells cs t fr)) : w.setRow g cs = w := by
  unfold World.setRow
  congr 1
  apply Array.ext_getElem?
  intro i
  rw [Array.getElem?_modify]
  by_cases e : g = i
  · subst e; rw [if_pos rfl, h]; rfl
  · rw [if_neg e]

theorem load_arr {P : Program} {o : Oper} {a : Act} {ty : TypeId} {w : World} {g : Nat} {t : TypeId} {n : Nat} {T : Nat → UInt8} {d : TypeDesc} (x : Operand) (ho : o.op = .load ty x) (hg : Arr w g t n T) (hu : P.underlying ty = some d)
    (hd : (match d with | .struct _ | .array _ _ => true | _ => false) = true) (hi : (P.info? ty).map (·.size) = some (arr n T).size) (hx : a.eval x = .pointer (some ⟨g, 0, none⟩) := by rfl) :
    (execOp a.eval o).run P w = .ok (.value (.agg (arr n T))) w := by
  unfold execOp
  simp only [ho, hx, Instr.loadAt, Instr.sureAddr, Sem.run_bind, Sem.run_pure, Result.andThen_ok, run_loadVar_row w g t ty _ (0, 0) d hg hu hd hi]
theorem wp_store_self {P : Program} {op : Oper} {a : Act} {w : World} {K : Act → World → Prop} {Q : Exit → Act → World → Prop} (ty : TypeId) (x y : Operand) (ho : op.op = .store ty x y)
    (g : Nat) (hx : a.eval x = .pointer (some ⟨g, 0, none⟩)) (cs : Array Value) (hy : a.eval y = .agg cs) (t : TypeId) (hg : w.heap[g]? = some (.cells cs t (0, 0)))
    (hi : (P.info? ty).map (·.size) = some cs.size) (h1 : cs.all (·.oneCell') = true) (h : K (a.put op.dst undef) w) : op.wp P a w K Q := by
  unfold Oper.wp execOp
  simp only [ho, hx, hy, Instr.storeAt, Instr.sureAddr, Sem.run_bind, Sem.run_pure, Result.andThen_ok, run_storeVar_row w g t ty cs cs hg hi rfl h1, setRow_self hg]
  exact h
theorem results_cell_two {fn : Func} {p q : Tmp} {ty uy : TypeId} (h : fn.results = #[.cell p ty, .cell q uy]) (tmps : Array Value) (P : Program) (w : World) :
    (results fn tmps).run P w = ((asAddr (tmps.getD p undef)).run P w).andThen fun a w₁ => ((loadVar ty a).run P w₁).andThen fun v w₂ => ((asAddr (tmps.getD q undef)).run P w₂).andThen fun b w₃ => ((loadVar uy b).run P w₃).andThen fun u w₄ => .ok (.tuple #[v, u]) w₄ := by
  simp only [results, h]
  simp [Sem.run_bind, Result.andThen]
theorem infoP : (Try.prog.info? 48).map (fun i => (i.zero, i.size)) = some (some (.agg (Array.replicate 256 (.int .u8 0))), 256) := by kernel_rfl
theorem zeroP (w : World) : (zeroValue 48).run Try.prog w = .ok (.agg (arr 256 fun _ => 0)) w := by rw [← arr_zero]; exact (zero_of_info infoP).1 w
theorem sizeP : (Try.prog.info? 48).map (·.size) = some 256 := (zero_of_info infoP).2
end Go.Proofs.Ytbkjocmldeagdaa
