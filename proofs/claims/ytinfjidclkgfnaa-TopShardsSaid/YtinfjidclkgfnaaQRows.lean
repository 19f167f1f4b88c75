/-
  Rows by their elements.
  Which matrices are valid.
  Arrays of bytes in memory.
  Block g holds slices of bytes that lie elsewhere: read, one replaced by another, all made anew.
  Rows of which the first elements are known; Cauchy matrices.
  Rows of products; a row of the call's own behind the last one.
  Products of a matrix and a vector, element by element.
  Which factors fit.
  What an inverse is to be, on both sides.
  Matrices of the call's own, row after row.
  Plain mathematics: any k of the k + p rows of the identity matrix followed by a Cauchy matrix have an inverse; what a code recovers.
  Plain mathematics of shards: products of rows and shards, which counts are valid, which shards are chosen.
  Plain mathematics of the chosen shards: their rows have an inverse; what they determine.
-/
import Derived.Test.YtinfjidclkgfnaaQMath
import Derived.Test.YtinfjidclkgfnaaQMem
import Derived.Deep.WholeRow
import Derived.Deep.LoopGhost
import Derived.Laws.ResultCell
namespace Go.Proofs.Ytinfjidclkgfnaa
open Go.RowKit
/-- the elements of row i -/
def rowF (L : Nat) (f : Nat → UInt8) : List UInt8 := (List.range L).map f
theorem rowF_length (L : Nat) (f : Nat → UInt8) : (rowF L f).length = L := by simp [rowF]
theorem rowF_get (L : Nat) (f : Nat → UInt8) (j : Nat) (h : j < (rowF L f).length) : (rowF L f)[j] = f j := by simp [rowF]
theorem matL_rowF (r L i : Nat) (M : Nat → Nat → UInt8) (h : i < (matL r L M).length) : (matL r L M)[i] = rowF L (M i) := matL_row r L i M h
theorem sc_rowF (L : Nat) (f h : Nat → UInt8) (x : UInt8) : sc (rowF L f) (rowF L h) x = rowF L fun k => f k ^^^ mulU (h k) x := by
  have gen : ∀ l : List Nat, sc (l.map f) (l.map h) x = l.map fun k => f k ^^^ mulU (h k) x := fun l => by
    induction l with
    | nil => rfl
    | cons a l ih => simp only [List.map_cons, sc, ih]
  exact gen _
theorem zeros_rowF (L : Nat) : List.replicate L (0 : UInt8) = rowF L fun _ => 0 := by
  unfold rowF
  rw [List.map_const', List.length_range]
/-- one row of the identity matrix -/
theorem dl_row (n k : Nat) : (List.replicate n (0 : UInt8)).set k 1 = rowF n (dl k) := by
  apply List.ext_getElem
  · simp [rowF_length]
  · intro j h1 h2
    rw [List.getElem_set, rowF_get]
    by_cases e : k = j
    · subst e; rw [if_pos rfl, dl_same]
    · rw [if_neg e, dl_ne e]; simp
end Go.Proofs.Ytinfjidclkgfnaa
namespace Go.Proofs.Ytinfjidclkgfnaa
open Go.RowKit
theorem Lr.row {w : World} {ad : Option Addr} {ls : List (List UInt8)} (h : Lr w ad ls) (k : Nat) (hk : k < ls.length) :
    ∃ b off, ad = some ⟨b, off, none⟩ ∧ b < w.heap.size ∧ ∃ a1 c1, w.cell? ⟨b, off + k, none⟩ = some (.slice a1 (ls[k]).length c1) ∧ Lie w a1 (ls[k]) ∧ (ls[k]).length ≤ c1 ∧ c1 ≤ maxLen ∧ (a1 = none → c1 = 0) := by
  rcases h.at_ with h0 | ⟨b, off, e, hb, hc⟩
  · subst h0; simp at hk
  · obtain ⟨a1, c1, h1⟩ := hc k hk
    exact ⟨b, off, e, hb, a1, c1, h1⟩

/-- is the matrix valid? -/
def vld (M : List (List UInt8)) : Bool := decide (1 ≤ M.length) && decide (M.length ≤ 64) && M.all (fun r => decide (r.length = cols M)) && decide (1 ≤ cols M) && decide (cols M ≤ 64)
theorem vld_iff (M : List (List UInt8)) : vld M = true ↔ ValidL M := by
  unfold vld
  simp only [Bool.and_eq_true, decide_eq_true_eq, List.all_eq_true]
  exact ⟨fun h => ⟨h.1.1.1.1, h.1.1.1.2, h.1.1.2, h.1.2, h.2⟩, fun h => ⟨⟨⟨⟨h.pos, h.le⟩, h.row⟩, h.cpos⟩, h.cle⟩⟩
theorem vld_yes {M : List (List UInt8)} (h : ValidL M) : vld M = true := (vld_iff M).2 h
theorem vld_no {M : List (List UInt8)} (h : ¬ ValidL M) : vld M = false := by
  rw [← Bool.not_eq_true, vld_iff]; exact h
theorem cols_first (M : List (List UInt8)) (h : 0 < M.length) : cols M = (M[0]).length := by
  cases M with
  | nil => simp at h
  | cons r M => rfl
theorem valid_of (M : List (List UInt8)) (h1 : 1 ≤ M.length) (h2 : M.length ≤ 64) (h3 : ∀ i (h : i < M.length), (M[i]).length = cols M) (h4 : 1 ≤ cols M) (h5 : cols M ≤ 64) : ValidL M :=
  ⟨h1, h2, fun r hr => by obtain ⟨i, hi, rfl⟩ := List.mem_iff_getElem.1 hr; exact h3 i hi, h4, h5⟩
theorem ValidL.len {M : List (List UInt8)} (h : ValidL M) (i : Nat) (hi : i < M.length) : (M[i]).length = cols M := h.row _ (List.getElem_mem hi)

theorem ValidL.short {M : List (List UInt8)} (h : ValidL M) : ∀ r ∈ M, r.length ≤ 1000 := fun r hr => by rw [h.row r hr]; have := h.cle; omega
theorem vld_cases (M : List (List UInt8)) : (vld M = true ∧ ValidL M) ∨ (vld M = false ∧ ¬ ValidL M) := by
  by_cases h : ValidL M
  · exact .inl ⟨vld_yes h, h⟩
  · exact .inr ⟨vld_no h, h⟩
end Go.Proofs.Ytinfjidclkgfnaa
namespace Go.Proofs.Ytinfjidclkgfnaa
open Go.RowKit

/-- n bytes as an array's cells -/
def arr (n : Nat) (T : Nat → UInt8) : Array Value := Array.ofFn (n := n) fun i => .int .u8 (ev (T i.val))
theorem arr_size (n : Nat) (T : Nat → UInt8) : (arr n T).size = n := by simp [arr]
theorem arr_get (n : Nat) (T : Nat → UInt8) (j : Nat) (h : j < n) : (arr n T)[j]? = some (.int .u8 (ev (T j))) := by simp [arr, h]
theorem arr_congr (n : Nat) (T T' : Nat → UInt8) (h : ∀ i, i < n → T i = T' i) : arr n T = arr n T' := by
  unfold arr
  congr 1
  funext i
  rw [h i.val i.isLt]
theorem arr_set (n : Nat) (T : Nat → UInt8) (j : Nat) (v : UInt8) : (arr n T).setIfInBounds j (.int .u8 (ev v)) = arr n (fun i => if i = j then v else T i) := by
  apply Array.ext_getElem?
  intro i
  by_cases hi : i < n
  · rw [arr_get _ _ _ hi, Array.getElem?_setIfInBounds]
    by_cases hj : j = i
    · subst hj
      simp [arr_size, hi]
    · rw [if_neg hj, arr_get _ _ _ hi, if_neg (fun e => hj e.symm)]
  · rw [Array.getElem?_eq_none (by simp [arr_size]; omega), Array.getElem?_eq_none (by simp [arr_size]; omega)]
theorem arr_one (n : Nat) (T : Nat → UInt8) : (arr n T).all (·.oneCell') = true := by
  rw [Array.all_eq_true]
  intro i hi
  simp [arr, Value.oneCell']
theorem arr_zero (n : Nat) : (Array.replicate n (Value.int .u8 0)) = arr n (fun _ => 0) := by
  apply Array.ext_getElem?
  intro i
  by_cases hi : i < n
  · rw [arr_get _ _ _ hi, ev_zero]; simp [hi]
  · rw [Array.getElem?_eq_none (by simp; omega), Array.getElem?_eq_none (by simp [arr_size]; omega)]

/-! A whole array out of a block and into a block, whichever block it is. -/
theorem wp_load_arr {P : Program} {op : Oper} {a : Act} {w : World} {K : Act → World → Prop} {Q : Exit → Act → World → Prop} (ty : TypeId) (x : Operand) (ho : op.op = .load ty x)
    (g : Nat) (hx : a.eval x = .pointer (some ⟨g, 0, none⟩)) (cs : Array Value) (n : Nat) (e t : TypeId) (hg : w.heap[g]? = some (.cells cs t (0, 0)))
    (hu : P.underlying ty = some (.array n e)) (hi : (P.info? ty).map (·.size) = some cs.size)
    (h : K (a.put op.dst (.agg cs)) w) : op.wp P a w K Q := by
  unfold Oper.wp execOp
  simp only [ho, hx, Instr.loadAt, Instr.sureAddr, Sem.run_bind, Sem.run_pure, Result.andThen_ok, run_loadVar_row w g t ty cs (0, 0) _ hg hu rfl hi]
  exact h
theorem run_storeCells_arr {P : Program} (w : World) (g : Nat) (t : TypeId) (old cs : Array Value) (hg : w.heap[g]? = some (.cells old t (0, 0))) (hs : old.size = cs.size) (h1 : cs.all (·.oneCell') = true) :
    (storeCells ⟨g, 0, none⟩ cs.toList 0).run P w = .ok () (w.setRow g cs) := by
  have := run_storeCells_from (P := P) g t cs.toList 0 old w hg (by simp; omega) (fun v hv => (Array.all_eq_true_iff_forall_mem.1 h1) v (by simpa using hv))
  simpa [hs] using this
theorem results_cell_arr {fn : Func} {p : Tmp} {ty : TypeId} (h : fn.results = #[.cell p ty]) (tmps : Array Value) (P : Program) (w : World) :
    (results fn tmps).run P w = ((asAddr (tmps.getD p undef)).run P w).andThen fun a w₁ => (loadVar ty a).run P w₁ := by
  simp only [results, h]
  simp [Sem.run_bind, Result.andThen]
theorem setRow_past_arr (w : World) (g : Nat) (c : Array Value) (o : Obj) (h : g < w.heap.size) : (w.alloc o).setRow g c = (w.setRow g c).alloc o := by
  simp only [World.setRow, World.alloc]
  congr 1
  apply Array.ext_getElem?
  intro i
  rw [Array.getElem?_modify]
  by_cases h1 : g = i
  · subst h1
    rw [if_pos rfl, Array.getElem?_push, if_neg (by omega), Array.getElem?_push, if_neg (by simp; omega), Array.getElem?_modify, if_pos rfl]
  · rw [if_neg h1]
    simp only [Array.getElem?_push, Array.size_modify, Array.getElem?_modify, if_neg h1]
theorem run_storeCells_new_arr {P : Program} (w : World) (g : Nat) (hg : g = w.heap.size) (t : TypeId) (old cs : Array Value) (hs : old.size = cs.size) (h1 : cs.all (·.oneCell') = true) :
    (storeCells ⟨g, 0, none⟩ cs.toList 0).run P (w.alloc (.cells old t)) = .ok () (w.alloc (.cells cs t)) := by
  subst hg
  rw [run_storeCells_arr (P := P) _ w.heap.size t old cs (heap_alloc_last _ _) hs h1, World.setRow_alloc_new]
theorem heap_past_arr (w : World) (o : Obj) (k : Nat) (h : k < w.heap.size) : (w.alloc o).heap[k]? = w.heap[k]? := Below.heap_alloc w o k h

/-- Block g is the array of the bytes T. -/
def Arr (w : World) (g : Nat) (t : TypeId) (n : Nat) (T : Nat → UInt8) : Prop := w.heap[g]? = some (.cells (arr n T) t (0, 0))
theorem Arr.lt {w : World} {g : Nat} {t : TypeId} {n : Nat} {T : Nat → UInt8} (h : Arr w g t n T) : g < w.heap.size := (Array.getElem?_eq_some_iff.1 h).1
theorem Arr.cell {w : World} {g : Nat} {t : TypeId} {n : Nat} {T : Nat → UInt8} (h : Arr w g t n T) (i : Nat) (hi : i < n) : w.cell? ⟨g, i, none⟩ = some (.int .u8 (ev (T i))) := by
  rw [cell_of_row w g i _ t (0, 0) h]; exact arr_get n T i hi
theorem Arr.frozen {w : World} {g : Nat} {t : TypeId} {n : Nat} {T : Nat → UInt8} (h : Arr w g t n T) (i : Nat) : w.frozen? ⟨g, i, none⟩ = false := by
  unfold Arr at h
  simp [World.frozen?, h]
theorem Arr.set_ {w : World} {g : Nat} {t : TypeId} {n : Nat} {T T' : Nat → UInt8} (h : Arr w g t n T) (i : Nat) (v : UInt8) (hT : ∀ j, j < n → T' j = if j = i then v else T j) : Arr (w.setCell ⟨g, i, none⟩ (.int .u8 (ev v))) g t n T' := by
  unfold Arr at h ⊢
  rw [arr_congr n T' _ hT, ← arr_set]
  simp [World.setCell, Array.getElem?_modify, h]
theorem Arr.other {w : World} {g b i : Nat} {t : TypeId} {n : Nat} {T : Nat → UInt8} {u : Value} (h : Arr w g t n T) (hne : b ≠ g) : Arr (w.setCell ⟨b, i, none⟩ u) g t n T := by
  unfold Arr at h ⊢
  simp [World.setCell, Array.getElem?_modify, h, hne]
theorem Arr.below {w w' : World} {g B : Nat} {t : TypeId} {n : Nat} {T : Nat → UInt8} (h : Arr w g t n T) (hb : Below B w w') (hg : g < B) : Arr w' g t n T := (hb.block g hg).trans h
theorem Arr.congr {w : World} {g : Nat} {t : TypeId} {n : Nat} {T T' : Nat → UInt8} (h : Arr w g t n T) (e : ∀ i, i < n → T' i = T i) : Arr w g t n T' := by
  unfold Arr
  rw [arr_congr n T' T e]
  exact h
theorem Arr.drewN {w : World} {g m : Nat} {t : TypeId} {n : Nat} {T : Nat → UInt8} (h : Arr w g t n T) : Arr (w.drewN m) g t n T := h
theorem Arr.drew {w : World} {g : Nat} {t : TypeId} {n : Nat} {T : Nat → UInt8} (h : Arr w g t n T) : Arr w.drew g t n T := h
theorem Arr.new (w : World) (t : TypeId) (n : Nat) (T : Nat → UInt8) : Arr (w.alloc (.cells (arr n T) t)) w.heap.size t n T := heap_alloc_last _ _
theorem Arr.past {w : World} {g : Nat} {t : TypeId} {n : Nat} {T : Nat → UInt8} (h : Arr w g t n T) (o : Obj) : Arr (w.alloc o) g t n T := (heap_past_arr w o g h.lt).trans h
/-- the whole array is stored where it lies: nothing changes -/
theorem setRow_self {w : World} {g : Nat} {cs : Array Value} {t : TypeId} {fr : Nat × Nat} (h : w.heap[g]? = some (.cells cs t fr)) : w.setRow g cs = w := by
  unfold World.setRow
  congr 1
  apply Array.ext_getElem?
  intro i
  rw [Array.getElem?_modify]
  by_cases e : g = i
  · subst e; rw [if_pos rfl, h]; rfl
  · rw [if_neg e]

theorem load_arr {P : Program} {o : Oper} {a : Act} {ty : TypeId} {w : World} {g : Nat} {t : TypeId} {n : Nat} {T : Nat → UInt8} {d : TypeDesc} (x : Operand) (ho : o.op = .load ty x) (hg : Arr w g t n T) (hu : P.underlying ty = some d)
    (hd : (match d with | .struct _ | .array _ _ => true | _ => false) = true) (hi : (P.info? ty).map (·.size) = some (arr n T).size) (hx : a.eval x = .pointer (some ⟨g, 0, none⟩) := by rfl) :
    (execOp a.eval o).run P w = .ok (.value (.agg (arr n T))) w := by
  unfold execOp
  simp only [ho, hx, Instr.loadAt, Instr.sureAddr, Sem.run_bind, Sem.run_pure, Result.andThen_ok, run_loadVar_row w g t ty _ (0, 0) d hg hu hd hi]
theorem wp_store_self {P : Program} {op : Oper} {a : Act} {w : World} {K : Act → World → Prop} {Q : Exit → Act → World → Prop} (ty : TypeId) (x y : Operand) (ho : op.op = .store ty x y)
    (g : Nat) (hx : a.eval x = .pointer (some ⟨g, 0, none⟩)) (cs : Array Value) (hy : a.eval y = .agg cs) (t : TypeId) (hg : w.heap[g]? = some (.cells cs t (0, 0)))
    (hi : (P.info? ty).map (·.size) = some cs.size) (h1 : cs.all (·.oneCell') = true) (h : K (a.put op.dst undef) w) : op.wp P a w K Q := by
  unfold Oper.wp execOp
  simp only [ho, hx, hy, Instr.storeAt, Instr.sureAddr, Sem.run_bind, Sem.run_pure, Result.andThen_ok, run_storeVar_row w g t ty cs cs hg hi rfl h1, setRow_self hg]
  exact h
theorem results_cell_two {fn : Func} {p q : Tmp} {ty uy : TypeId} (h : fn.results = #[.cell p ty, .cell q uy]) (tmps : Array Value) (P : Program) (w : World) :
    (results fn tmps).run P w = ((asAddr (tmps.getD p undef)).run P w).andThen fun a w₁ => ((loadVar ty a).run P w₁).andThen fun v w₂ => ((asAddr (tmps.getD q undef)).run P w₂).andThen fun b w₃ => ((loadVar uy b).run P w₃).andThen fun u w₄ => .ok (.tuple #[v, u]) w₄ := by
  simp only [results, h]
  simp [Sem.run_bind, Result.andThen]
theorem infoP : (Try.prog.info? 75).map (fun i => (i.zero, i.size)) = some (some (.agg (Array.replicate 256 (.int .u8 0))), 256) := by kernel_rfl
theorem zeroP (w : World) : (zeroValue 75).run Try.prog w = .ok (.agg (arr 256 fun _ => 0)) w := by rw [← arr_zero]; exact (zero_of_info infoP).1 w
theorem sizeP : (Try.prog.info? 75).map (·.size) = some 256 := (zero_of_info infoP).2
end Go.Proofs.Ytinfjidclkgfnaa
namespace Go.Proofs.Ytinfjidclkgfnaa
open Go.RowKit

/-- The bytes l lie at ad, in a block behind g and below D. -/
def LieN (w : World) (g D : Nat) (ad : Option Addr) (l : List UInt8) : Prop := l = [] ∨ ∃ b off, ad = some ⟨b, off, none⟩ ∧ b < D ∧ g < b ∧ ∀ j (h : j < l.length), w.cell? ⟨b, off + j, none⟩ = some (.int .u8 ((l[j]'h).toNat : Int))
theorem LieN.lie {w : World} {g D : Nat} {ad : Option Addr} {l : List UInt8} (h : LieN w g D ad l) (hD : D ≤ w.heap.size) : Lie w ad l := by
  rcases h with h0 | ⟨b, off, e, hb, _, hc⟩
  · exact ⟨.inl h0⟩
  · exact ⟨.inr ⟨b, off, e, by omega, hc⟩⟩
theorem LieN.kept {w w' : World} {g D D' : Nat} {ad : Option Addr} {l : List UInt8} (h : LieN w g D ad l) (hD : D ≤ D') (hk : ∀ b, b < D → g < b → w'.heap[b]? = w.heap[b]?) : LieN w' g D' ad l := by
  rcases h with h0 | ⟨b, off, e, hb, hg, hc⟩
  · exact .inl h0
  · exact .inr ⟨b, off, e, by omega, hg, fun j hj => (World.cell?_of_block (a := ⟨b, off + j, none⟩) (hk b hb hg)).trans (hc j hj)⟩
/-- what lies behind g's world lies elsewhere -/
theorem LieN.of_own {w : World} {g B D : Nat} {v : Value} {l : List UInt8} (h : Own w B v l) (hg : g < B) (hD : w.heap.size ≤ D) : ∃ ad cap, v = .slice ad l.length cap ∧ LieN w g D ad l ∧ l.length ≤ cap ∧ cap ≤ maxLen ∧ (ad = none → cap = 0) := by
  obtain ⟨ad, cap, e, hl, h1, h2, h3⟩ := h.slice
  refine ⟨ad, cap, e, ?_, h1, h2, h3⟩
  rcases hl.at_ with h0 | ⟨b, off, e2, hb, hc⟩
  · exact .inl h0
  · have hb2 := (h.lt b (by rw [e, e2]; rfl)).1
    exact .inr ⟨b, off, e2, by omega, by omega, hc⟩

/-- Block g holds R slices of bytes, the first of which hold the rows ls; the rows lie in blocks behind g and below D. -/
structure Out (w : World) (B g R D : Nat) (ls : List (List UInt8)) : Prop where
  base : B ≤ g
  fits : ls.length ≤ R
  most : R ≤ maxLen
  ltD : g < D
  leD : D ≤ w.heap.size
  outer : ∃ cur, w.heap[g]? = some (.cells cur 33 (0, 0)) ∧ cur.size = R ∧ ∀ i (h : i < ls.length), ∃ ad cap, cur[i]? = some (.slice ad (ls[i]).length cap) ∧ LieN w g D ad (ls[i]) ∧ (ls[i]).length ≤ cap ∧ cap ≤ maxLen ∧ (ad = none → cap = 0)
section
variable {w w' : World} {B g R D : Nat} {ls : List (List UInt8)}
theorem Out.lt (h : Out w B g R D ls) : g < w.heap.size := Nat.lt_of_lt_of_le h.ltD h.leD
theorem Out.frozen (h : Out w B g R D ls) (i : Nat) : w.frozen? ⟨g, i, none⟩ = false := by
  obtain ⟨cur, h1, _⟩ := h.outer
  simp [World.frozen?, h1]
/-- what the call reads at i -/
theorem Out.get (h : Out w B g R D ls) (i : Nat) (hi : i < ls.length) : ∃ ad cap, w.cell? ⟨g, i, none⟩ = some (.slice ad (ls[i]).length cap) ∧ LieN w g D ad (ls[i]) ∧ (ls[i]).length ≤ cap ∧ cap ≤ maxLen ∧ (ad = none → cap = 0) := by
  obtain ⟨cur, h1, _, h2⟩ := h.outer
  obtain ⟨ad, cap, h3, h4⟩ := h2 i hi
  exact ⟨ad, cap, by rw [cell_of_row w g i cur 33 (0, 0) h1]; exact h3, h4⟩
theorem Out.there (h : Out w B g R D ls) (i : Nat) (hi : i < R) : ∃ u, w.cell? ⟨g, i, none⟩ = some u := by
  obtain ⟨cur, h1, h2, _⟩ := h.outer
  rw [cell_of_row w g i cur 33 (0, 0) h1]
  exact ⟨_, Array.getElem?_eq_getElem (by omega)⟩
/-- what turns only other blocks behind D leaves it -/
theorem Out.keptIn (h : Out w B g R D ls) (hs : w.heap.size ≤ w'.heap.size) (hk : ∀ b, g ≤ b → b < D → w'.heap[b]? = w.heap[b]?) : Out w' B g R D ls := by
  obtain ⟨cur, h1, h2, h3⟩ := h.outer
  refine ⟨h.base, h.fits, h.most, h.ltD, Nat.le_trans h.leD hs, cur, (hk g (Nat.le_refl _) h.ltD).trans h1, h2, fun i hi => ?_⟩
  obtain ⟨ad, cap, h4, h5, h6⟩ := h3 i hi
  exact ⟨ad, cap, h4, h5.kept (Nat.le_refl _) fun b hb hg => hk b (Nat.le_of_lt hg) hb, h6⟩
theorem Out.kept (h : Out w B g R D ls) (hs : w.heap.size ≤ w'.heap.size) (hk : ∀ b, b < D → w'.heap[b]? = w.heap[b]?) : Out w' B g R D ls := h.keptIn hs fun b _ hb => hk b hb
theorem Out.below (h : Out w B g R D ls) (hb : Below w.heap.size w w') : Out w' B g R D ls := h.kept hb.size fun b hb' => hb.block b (Nat.lt_of_lt_of_le hb' h.leD)
theorem Out.belowD (h : Out w B g R D ls) {E : Nat} (hb : Below E w w') (hE : D ≤ E) : Out w' B g R D ls := h.kept hb.size fun b hb' => hb.block b (by omega)
theorem Out.drew (h : Out w B g R D ls) : Out w.drew B g R D ls := h.kept (Nat.le_refl _) fun _ _ => rfl
theorem Out.drewN (h : Out w B g R D ls) (n : Nat) : Out (w.drewN n) B g R D ls := h.kept (Nat.le_refl _) fun _ _ => rfl
theorem Out.up (h : Out w B g R D ls) (D' : Nat) (hD : D ≤ D') (hD2 : D' ≤ w.heap.size) : Out w B g R D' ls := by
  obtain ⟨cur, h1, h2, h3⟩ := h.outer
  refine ⟨h.base, h.fits, h.most, Nat.lt_of_lt_of_le h.ltD hD, hD2, cur, h1, h2, fun i hi => ?_⟩
  obtain ⟨ad, cap, h4, h5, h6⟩ := h3 i hi
  exact ⟨ad, cap, h4, h5.kept hD fun _ _ _ => rfl, h6⟩
/-- a cell of a block behind D turns -/
theorem Out.other (h : Out w B g R D ls) (b k : Nat) (u : Value) (hb : D ≤ b) : Out (w.setCell ⟨b, k, none⟩ u) B g R D ls :=
  h.kept (by simp) fun c hc => Below.heap_setCell w ⟨b, k, none⟩ u c (by intro e; have e : c = b := e; omega)
theorem heap_set_here (w : World) (b i : Nat) (u : Value) (cur : Array Value) (t : TypeId) (fr : Nat × Nat) (h : w.heap[b]? = some (.cells cur t fr)) : (w.setCell ⟨b, i, none⟩ u).heap[b]? = some (.cells (cur.setIfInBounds i u) t fr) := by
  simp [World.setCell, Array.getElem?_modify, h]
/-- a row is replaced, or stands behind the last one -/
theorem Out.put (h : Out w B g R D ls) (i : Nat) (hi : i < R) (ad : Option Addr) (l : List UInt8) (cap : Nat) (hl : LieN w g D ad l) (h1 : l.length ≤ cap) (h2 : cap ≤ maxLen) (h3 : ad = none → cap = 0) (ls' : List (List UInt8)) (hR : ls'.length ≤ R)
    (hls : ∀ j (hj : j < ls'.length), (j = i ∧ ls'[j] = l) ∨ (j ≠ i ∧ ∃ hj' : j < ls.length, ls'[j] = ls[j])) : Out (w.setCell ⟨g, i, none⟩ (.slice ad l.length cap)) B g R D ls' := by
  obtain ⟨cur, h4, h5, h6⟩ := h.outer
  have hk : ∀ b, b < D → g < b → (w.setCell ⟨g, i, none⟩ (.slice ad l.length cap)).heap[b]? = w.heap[b]? := fun b _ hb => Below.heap_setCell w ⟨g, i, none⟩ _ b (by intro e; have e : b = g := e; omega)
  refine ⟨h.base, hR, h.most, h.ltD, by simpa using h.leD, _, heap_set_here w g i _ cur _ _ h4, by simpa using h5, fun j hj => ?_⟩
  rw [Array.getElem?_setIfInBounds]
  rcases hls j hj with ⟨rfl, e⟩ | ⟨hne, hj', e⟩
  · rw [if_pos rfl, if_pos (by omega), e]
    exact ⟨ad, cap, rfl, hl.kept (Nat.le_refl _) hk, h1, h2, h3⟩
  · rw [if_neg (fun e => hne e.symm), e]
    obtain ⟨ad', cap', h7, h8, h9⟩ := h6 j hj'
    exact ⟨ad', cap', h7, h8.kept (Nat.le_refl _) hk, h9⟩
theorem set_cases (ls : List (List UInt8)) (i : Nat) (l : List UInt8) : ∀ j (hj : j < (ls.set i l).length), (j = i ∧ (ls.set i l)[j] = l) ∨ (j ≠ i ∧ ∃ hj' : j < ls.length, (ls.set i l)[j] = ls[j]) := fun j hj => by
  rw [List.getElem_set]
  by_cases e : i = j
  · exact .inl ⟨e.symm, if_pos e⟩
  · exact .inr ⟨fun e' => e e'.symm, by simpa using hj, if_neg e⟩
theorem Out.set_ (h : Out w B g R D ls) (i : Nat) (hi : i < ls.length) (ad : Option Addr) (l : List UInt8) (cap : Nat) (hl : LieN w g D ad l) (h1 : l.length ≤ cap) (h2 : cap ≤ maxLen) (h3 : ad = none → cap = 0) : Out (w.setCell ⟨g, i, none⟩ (.slice ad l.length cap)) B g R D (ls.set i l) :=
  h.put i (Nat.lt_of_lt_of_le hi h.fits) ad l cap hl h1 h2 h3 _ (by simpa using h.fits) (set_cases ls i l)
/-- .. by a slice of the call's own, that lies behind g -/
theorem Out.setOwn (h : Out w B g R D ls) (i : Nat) (hi : i < ls.length) (v : Value) (l : List UInt8) (E : Nat) (ho : Own w E v l) (hE : g < E) : Out (w.setCell ⟨g, i, none⟩ v) B g R w.heap.size (ls.set i l) := by
  obtain ⟨ad, cap, rfl, h1, h2⟩ := LieN.of_own (g := g) ho hE (Nat.le_refl _)
  exact (h.up w.heap.size h.leD (Nat.le_refl _)).set_ i hi ad l cap h1 h2.1 h2.2.1 h2.2.2
/-- the first i rows are left -/
theorem Out.take (h : Out w B g R D ls) (i : Nat) : Out w B g R D (ls.take i) := by
  obtain ⟨cur, h1, h2, h3⟩ := h.outer
  refine ⟨h.base, by rw [List.length_take]; have := h.fits; omega, h.most, h.ltD, h.leD, cur, h1, h2, fun j hj => ?_⟩
  rw [List.length_take] at hj
  rw [List.getElem_take]
  exact h3 j (by omega)
/-- the row that stands behind the last one is known too -/
theorem Out.push (h : Out w B g R D ls) (D' : Nat) (hD : D ≤ D') (hD2 : D' ≤ w.heap.size) (hR : ls.length < R) (ad : Option Addr) (l : List UInt8) (cap : Nat) (hc : w.cell? ⟨g, ls.length, none⟩ = some (.slice ad l.length cap)) (hl : LieN w g D' ad l) (h1 : l.length ≤ cap) (h2 : cap ≤ maxLen) (h3 : ad = none → cap = 0) : Out w B g R D' (ls ++ [l]) := by
  obtain ⟨cur, h4, h5, h6⟩ := (h.up D' hD hD2).outer
  rw [cell_of_row w g _ cur 33 (0, 0) h4] at hc
  refine ⟨h.base, by rw [List.length_append]; exact hR, h.most, Nat.lt_of_lt_of_le h.ltD hD, hD2, cur, h4, h5, fun j hj => ?_⟩
  by_cases hlt : j < ls.length
  · rw [List.getElem_append_left hlt]
    exact h6 j hlt
  · have e : j = ls.length := by rw [List.length_append, List.length_singleton] at hj; omega
    subst e
    rw [List.getElem_append_right (Nat.le_refl _)]
    simp only [Nat.sub_self, List.getElem_cons_zero]
    exact ⟨ad, cap, hc, hl, h1, h2, h3⟩
theorem Out.lr (h : Out w B g R D ls) : Lr w (some ⟨g, 0, none⟩) ls := by
  refine ⟨.inr ⟨g, 0, rfl, h.lt, fun i hi => ?_⟩⟩
  obtain ⟨ad, cap, h1, h2, h3⟩ := h.get i hi
  exact ⟨ad, cap, by rw [Nat.zero_add]; exact h1, h2.lie h.leD, h3⟩
end
theorem made_nils (n : Nat) : (madeCells (Value.slice none 0 0).cells (n * 1)).toList = List.replicate n (.slice none 0 0) := by
  apply List.ext_getElem
  · simp [madeCells]
  · intro i h1 h2
    simp [madeCells, Value.cells, Nat.mod_one]
/-- n slices of bytes made anew: all nil -/
theorem wpList_make_outer {w : World} {ops : Array Oper} {rest : List Oper} {o : Oper} {a : Act} {Q : Exit → Act → World → Prop} (hgd : o.guard = none) (l c : Operand) (hop : o.op = Op.makeSlice 22 l c)
    (L C : Int) (n : Nat) (hl : a.eval l = .int .i64 L) (hc : a.eval c = .int .i64 C) (hL : L = (n : Int)) (hC : C = (n : Int)) (hn : n ≤ 100000)
    (h : ∀ g w', Out w' w.heap.size g n w'.heap.size (List.replicate n []) → Below w.heap.size w w' → wpList Try.prog ops Q rest (a.put o.dst (.slice (some ⟨g, 0, none⟩) n n)) w') : wpList Try.prog ops Q (o :: rest) a w := by
  obtain ⟨i, hi, hz0, hz1, hz2⟩ := info_l
  refine wpList_make_full w hgd l c 22 hop w.heap.size 33 i (.slice none 0 0) 1 Try.underlying22 hi hz0 hz1 .i64 .i64 L C n hl hc hL hC (by rw [hz2]; omega) (by unfold maxLen; omega) (Nat.le_refl _) (fun w' h2 h3 => ?_)
  refine h _ w' ?_ ((Below.refl _ _).grown h3 (Nat.le_refl _) (by simp))
  rcases h2.2 with ⟨h4, _⟩ | ⟨g, cap, cur, h4, _, h5, _, _, h6, h7⟩
  · cases h4
  · cases h4
    rw [made_nils] at h7
    have hlt := (Array.getElem?_eq_some_iff.1 h5).1
    refine ⟨Nat.le_refl _, by simp, by unfold maxLen; omega, hlt, Nat.le_refl _, cur, h5, by omega, fun j hj => ⟨none, 0, ?_, .inl (by simp), by simp, Nat.zero_le _, fun _ => rfl⟩⟩
    have hj' : j < n := by simpa using hj
    have h8 : (cur.toList.take (n * 1))[j]? = some (.slice none 0 0) := by rw [h7]; simp [hj']
    rw [List.getElem?_take_of_lt (by omega)] at h8
    simpa using h8
end Go.Proofs.Ytinfjidclkgfnaa
namespace Go.Proofs.Ytinfjidclkgfnaa
open Go.RowKit
theorem ofNat_xor8 (a b : Nat) : UInt8.ofNat (a ^^^ b) = UInt8.ofNat a ^^^ UInt8.ofNat b := by
  apply UInt8.toNat_inj.1
  rw [UInt8.toNat_xor, UInt8.toNat_ofNat', UInt8.toNat_ofNat', UInt8.toNat_ofNat', Nat.xor_mod_two_pow]
def cauF (c i j : Nat) : UInt8 := invU (UInt8.ofNat ((c + i) ^^^ j))
theorem cauF_eq (c i j : Nat) : invU (UInt8.ofNat (c + i) ^^^ UInt8.ofNat j) = cauF c i j := by rw [cauF, ofNat_xor8]
theorem cauL_eq (r c : Nat) : cauL r c = matL r c (cauF c) := rfl
/-- a row of which the first j elements are known -/
def progF (L j : Nat) (f : Nat → UInt8) : List UInt8 := rowF L fun q => if q < j then f q else 0
theorem progF_zero (L : Nat) (f : Nat → UInt8) : progF L 0 f = List.replicate L 0 := by
  unfold progF rowF
  simp [List.map_const']
theorem progF_length (L j : Nat) (f : Nat → UInt8) : (progF L j f).length = L := rowF_length _ _
theorem progF_next (L j : Nat) (f : Nat → UInt8) : (progF L j f).set j (f j) = progF L (j + 1) f := by
  unfold progF
  apply List.ext_getElem
  · simp [rowF_length]
  · intro q h1 h2
    rw [List.getElem_set, rowF_get, rowF_get]
    by_cases e : j = q
    · subst e; rw [if_pos rfl, if_pos (Nat.lt_succ_self _)]
    · rw [if_neg e]
      by_cases h : q < j
      · rw [if_pos h, if_pos (by omega)]
      · rw [if_neg h, if_neg (by omega)]
theorem progF_end (L : Nat) (f : Nat → UInt8) : progF L L f = rowF L f :=
  List.map_congr_left fun q hq => if_pos (by simpa using hq)
end Go.Proofs.Ytinfjidclkgfnaa
namespace Go.Proofs.Ytinfjidclkgfnaa
open Go.RowKit
theorem Rowu.own {w : World} {g B n : Nat} {R : List UInt8} (h : Rowu w g R) (hB : B ≤ g) (hn : R.length = n) (hm : n ≤ maxLen) : Own w B (.slice (some ⟨g, 0, none⟩) n n) R := by
  subst hn
  refine ⟨by rw [cellsU_length]; omega, .inr ⟨g, _, _, rfl, hB, h, Nat.le_refl _, hm, by simp [cellsU_length], ?_⟩⟩
  show ((cellsU R).toArray.toList).take _ = _
  rw [List.take_of_length_le (by simp [cellsU_length])]
theorem ent_get (M : List (List UInt8)) (i j : Nat) (hi : i < M.length) (hj : j < (M[i]).length) : (M[i])[j] = ent M i j := by simp [ent, hi, hj]
theorem ValidL.rowF {M : List (List UInt8)} (h : ValidL M) (i : Nat) (hi : i < M.length) : M[i] = Proofs.Ytinfjidclkgfnaa.rowF (cols M) (ent M i) := by
  apply List.ext_getElem
  · rw [rowF_length]; exact h.len i hi
  · intro j h1 h2
    rw [rowF_get, ent_get]
theorem Out.putLast {w : World} {B g R D : Nat} {ls : List (List UInt8)} (h : Out w B g R D ls) (k : Nat) (hk : k = ls.length) (hR : k < R) (v : Value) (l : List UInt8) (E : Nat) (ho : Own w E v l) (hE : g < E) : Out (w.setCell ⟨g, k, none⟩ v) B g R w.heap.size (ls ++ [l]) := by
  subst hk
  obtain ⟨ad, cap, rfl, h1, h2⟩ := LieN.of_own (g := g) ho hE (Nat.le_refl _)
  refine (h.up w.heap.size h.leD (Nat.le_refl _)).put ls.length hR ad l cap h1 h2.1 h2.2.1 h2.2.2 _ (by rw [List.length_append]; exact hR) fun j hj => ?_
  by_cases hlt : j < ls.length
  · exact .inr ⟨by omega, hlt, by rw [List.getElem_append_left hlt]⟩
  · have e : j = ls.length := by rw [List.length_append, List.length_singleton] at hj; omega
    subst e
    exact .inl ⟨rfl, by rw [List.getElem_append_right (Nat.le_refl _)]; simp⟩
theorem Out.setLast {w : World} {B g R D : Nat} {ls : List (List UInt8)} {l0 : List UInt8} (h : Out w B g R D (ls ++ [l0])) (k : Nat) (hk : k = ls.length) (v : Value) (l : List UInt8) (E : Nat) (ho : Own w E v l) (hE : g < E) : Out (w.setCell ⟨g, k, none⟩ v) B g R w.heap.size (ls ++ [l]) := by
  subst hk
  have h' := h.setOwn ls.length (by simp) v l E ho hE
  rwa [List.set_append_right _ _ (Nat.le_refl _), Nat.sub_self, List.set_cons_zero] at h'
theorem comb_next (j : Nat) (c : Nat → UInt8) (M : Nat → Nat → UInt8) (q : Nat) : comb (j + 1) c M q = comb j c M q ^^^ mulU (M j q) (c j) := by
  rw [mulU_comm (M j q)]
  rfl
/-- the element of the product -/
def mulF (xs ys : List (List UInt8)) (i q : Nat) : UInt8 := comb ys.length (ent xs i) (ent ys) q
theorem mulL_eq (xs ys : List (List UInt8)) : mulL xs ys = matL xs.length (cols ys) (mulF xs ys) := rfl
/-- the sum over the first j factors -/
def partF (m j : Nat) (xs ys : List (List UInt8)) (i : Nat) : List UInt8 := rowF m fun q => comb j (ent xs i) (ent ys) q
theorem partF_zero (m : Nat) (xs ys : List (List UInt8)) (i : Nat) : partF m 0 xs ys i = List.replicate m 0 := by
  rw [zeros_rowF]; rfl
theorem partF_next (m j : Nat) (xs ys : List (List UInt8)) (i : Nat) : sc (partF m j xs ys i) (rowF m (ent ys j)) (ent xs i j) = partF m (j + 1) xs ys i := by
  unfold partF
  rw [sc_rowF]
  exact List.map_congr_left fun q _ => (comb_next j (ent xs i) (ent ys) q).symm
theorem partF_end (m : Nat) (xs ys : List (List UInt8)) (i K : Nat) (hK : K = ys.length) : partF m K xs ys i = rowF m (mulF xs ys i) := by subst hK; rfl
theorem partF_length (m j : Nat) (xs ys : List (List UInt8)) (i : Nat) : (partF m j xs ys i).length = m := rowF_length _ _

end Go.Proofs.Ytinfjidclkgfnaa
namespace Go.Proofs.Ytinfjidclkgfnaa
open Go.RowKit
/-- the element of the product of a matrix and a vector, over the first j elements -/
def apF (xs : List (List UInt8)) (v : List UInt8) (j i : Nat) : UInt8 := comb j (ent xs i) (fun k _ => v.getD k 0) 0
theorem appL_eq (xs : List (List UInt8)) (v : List UInt8) : appL xs v = rowF xs.length (apF xs v v.length) := rfl
theorem apF_zero (xs : List (List UInt8)) (v : List UInt8) (i : Nat) : apF xs v 0 i = 0 := rfl
theorem apF_next (xs : List (List UInt8)) (v : List UInt8) (j i : Nat) (h : j < v.length) : apF xs v j i ^^^ mulU (ent xs i j) (v[j]) = apF xs v (j + 1) i := by
  have e : v[j] = v.getD j 0 := by simp [h]
  rw [e]
  rfl
/-- the first k elements of a row are known, the element k is x -/
def progX (L k : Nat) (f : Nat → UInt8) (x : UInt8) : List UInt8 := rowF L fun q => if q < k then f q else if q = k then x else 0
theorem progX_length (L k : Nat) (f : Nat → UInt8) (x : UInt8) : (progX L k f x).length = L := rowF_length _ _
theorem progX_get (L k : Nat) (f : Nat → UInt8) (x : UInt8) (h : k < (progX L k f x).length) : (progX L k f x)[k] = x := by
  simp [progX, rowF]
theorem progX_set (L k : Nat) (f : Nat → UInt8) (x y : UInt8) : (progX L k f x).set k y = progX L k f y := by
  unfold progX
  apply List.ext_getElem
  · simp [rowF_length]
  · intro q h1 h2
    rw [List.getElem_set, rowF_get, rowF_get]
    by_cases e : k = q
    · subst e; rw [if_pos rfl, if_neg (Nat.lt_irrefl _), if_pos rfl]
    · rw [if_neg e]
      by_cases h : q < k
      · rw [if_pos h, if_pos h]
      · rw [if_neg h, if_neg h, if_neg (fun e' => e e'.symm), if_neg (fun e' => e e'.symm)]
theorem progX_start (L k : Nat) (f : Nat → UInt8) : progX L k f 0 = progF L k f := by
  unfold progX progF
  refine List.map_congr_left fun q _ => ?_
  by_cases h : q < k
  · rw [if_pos h, if_pos h]
  · rw [if_neg h, if_neg h, ite_self]
theorem progX_end (L k : Nat) (f : Nat → UInt8) : progX L k f (f k) = progF L (k + 1) f := by
  unfold progX progF
  refine List.map_congr_left fun q _ => ?_
  by_cases h : q < k
  · rw [if_pos h, if_pos (by omega)]
  · rw [if_neg h]
    by_cases e : q = k
    · subst e; rw [if_pos rfl, if_pos (Nat.lt_succ_self _)]
    · rw [if_neg e, if_neg (by omega)]

end Go.Proofs.Ytinfjidclkgfnaa
namespace Go.Proofs.Ytinfjidclkgfnaa
/-- do they fit? -/
def Fits (xs ys : List (List UInt8)) : Prop := ValidL xs ∧ ValidL ys ∧ cols xs = ys.length
/-- do they fit? -/
def FitV (xs : List (List UInt8)) (v : List UInt8) : Prop := ValidL xs ∧ cols xs = v.length
end Go.Proofs.Ytinfjidclkgfnaa
namespace Go.Proofs.Ytinfjidclkgfnaa
open Go.RowKit
/-- the first k of n rows are those of a, the others those of b -/
def mixL (n : Nat) (a b : Nat → List UInt8) (k : Nat) : List (List UInt8) := (List.range n).map fun i => if i < k then a i else b i
theorem mixL_length (n : Nat) (a b : Nat → List UInt8) (k : Nat) : (mixL n a b k).length = n := by simp [mixL]
theorem mixL_zero (n L : Nat) (a : Nat → List UInt8) (M : Nat → Nat → UInt8) : mixL n a (fun i => rowF L (M i)) 0 = matL n L M := List.map_congr_left fun _ _ => if_neg (Nat.not_lt_zero _)
theorem mixL_full (n L : Nat) (M : Nat → Nat → UInt8) (b : Nat → List UInt8) : mixL n (fun i => rowF L (M i)) b n = matL n L M := List.map_congr_left fun i hi => if_pos (by simpa using hi)
theorem mixL_get (n : Nat) (a b : Nat → List UInt8) (k : Nat) (h : k < (mixL n a b k).length) : (mixL n a b k)[k] = b k := by
  simp [mixL]
theorem mixL_set (n : Nat) (a b : Nat → List UInt8) (k : Nat) : (mixL n a b k).set k (a k) = mixL n a b (k + 1) := by
  apply List.ext_getElem
  · simp [mixL]
  · intro i h1 h2
    rw [List.getElem_set]
    by_cases e : k = i
    · subst e; rw [if_pos rfl]; simp [mixL]
    · rw [if_neg e]
      simp only [mixL, List.getElem_map, List.getElem_range]
      by_cases h : i < k
      · rw [if_pos h, if_pos (by omega)]
      · rw [if_neg h, if_neg (by omega)]
/-- a square matrix with the identity matrix beside it -/
def joinF (n : Nat) (M : Nat → Nat → UInt8) (i j : Nat) : UInt8 := if j < n then M i j else dl i (j - n)
theorem joinF_left (n : Nat) (M : Nat → Nat → UInt8) (i j : Nat) (h : j < n) : joinF n M i j = M i j := if_pos h
theorem joinF_right (n : Nat) (M : Nat → Nat → UInt8) (i j : Nat) : joinF n M i (n + j) = dl i j := by
  unfold joinF
  rw [if_neg (by omega), Nat.add_sub_cancel_left]
theorem rowF_join (n : Nat) (M : Nat → Nat → UInt8) (i : Nat) : rowF n (M i) ++ rowF n (dl i) = rowF (n + n) (joinF n M i) := by
  apply List.ext_getElem
  · simp [rowF_length]
  · intro j h1 h2
    rw [rowF_get]
    by_cases h : j < n
    · rw [List.getElem_append_left (by rw [rowF_length]; exact h), rowF_get, joinF_left n M i j h]
    · rw [List.getElem_append_right (by rw [rowF_length]; omega), rowF_get, rowF_length]
      unfold joinF
      rw [if_neg h]
theorem rowF_drop (n : Nat) (f : Nat → UInt8) : (rowF (n + n) f).drop n = rowF n fun j => f (n + j) := by
  apply List.ext_getElem
  · simp [rowF_length]
  · intro j h1 h2
    rw [List.getElem_drop, rowF_get, rowF_get]
/-- what Invert gives -/
def InvP (w : World) (ls : List (List UInt8)) (e : Ending) (w' : World) : Prop :=
  Below w.heap.size w w' ∧
  ((ValidL ls ∧ ls.length = cols ls ∧ ∃ (A : Nat → Nat → UInt8) (ad : Option Addr) (cap : Nat), Inv ls.length A (ent ls) ∧ e = .returned (.tuple #[.slice ad ls.length cap, .bool true]) ∧ Lr w' ad (matL ls.length ls.length A) ∧ ls.length ≤ cap ∧ cap ≤ maxLen) ∨
   (¬ (ValidL ls ∧ ls.length = cols ls ∧ ∃ A, Inv ls.length A (ent ls)) ∧ e = .returned (.tuple #[.slice none 0 0, .bool false])))
theorem InvP.no {w w' : World} {ls : List (List UInt8)} (h : ¬ (ValidL ls ∧ ls.length = cols ls ∧ ∃ A, Inv ls.length A (ent ls))) (hb : Below w.heap.size w w') : InvP w ls (.returned (.tuple #[.slice none 0 0, .bool false])) w' := ⟨hb, .inr ⟨h, rfl⟩⟩
end Go.Proofs.Ytinfjidclkgfnaa
namespace Go.Proofs.Ytinfjidclkgfnaa
open Go.RowKit
theorem OMv.made (w : World) (D L : Nat) (M : Nat → Nat → UInt8) : OMv (w.alloc (.cells #[] 33)) w.heap.size D (.slice (some ⟨w.heap.size, 0, none⟩) 0 0) 0 L M :=
  ⟨[], World.ownsRow_made w #[] 0 (Nat.le_refl _) (by decide) rfl, fun i h => by simp at h, fun i j h => by simp at h⟩
theorem OMv.mono {w : World} {B D D' r L : Nat} {v : Value} {M : Nat → Nat → UInt8} (h : OMv w B D v r L M) (hD : D ≤ D') : OMv w B D' v r L M := by
  obtain ⟨cs, h1, h2, h3⟩ := h
  refine ⟨cs, h1, fun i hi => ⟨(h2 i hi).1, ?_⟩, h3⟩
  obtain ⟨k, h4, h5⟩ := (h2 i hi).2
  exact ⟨k, h4, by omega⟩
theorem OMv.lr {w : World} {B D r L : Nat} {v : Value} {M : Nat → Nat → UInt8} (h : OMv w B D v r L M) (hr : 0 < r) : ∃ ad cap, v = .slice ad r cap ∧ Lr w ad (matL r L M) ∧ r ≤ cap ∧ cap ≤ maxLen := by
  obtain ⟨g, cap, gs, cps, e, h1, h2, h3⟩ := h.open_ hr
  exact ⟨_, cap, e, h3.lr, h1, h2⟩
theorem OMv.slice {w : World} {B D r L : Nat} {v : Value} {M : Nat → Nat → UInt8} (h : OMv w B D v r L M) : ∃ ad cap, v = .slice ad r cap := by
  obtain ⟨cs, h1, _⟩ := h
  rcases h1.2 with ⟨rfl, h0⟩ | ⟨g, cap, cur, rfl, _⟩
  · subst h0; exact ⟨_, _, rfl⟩
  · exact ⟨_, _, rfl⟩
theorem OMv.lowB {w : World} {B B' D r L : Nat} {v : Value} {M : Nat → Nat → UInt8} (h : OMv w B D v r L M) (hB : B' ≤ B) : OMv w B' D v r L M := by
  obtain ⟨cs, h1, h2, h3⟩ := h
  refine ⟨cs, ⟨h1.1, ?_⟩, fun i hi => ⟨(h2 i hi).1.mono hB, (h2 i hi).2⟩, h3⟩
  rcases h1.2 with h0 | ⟨g, cap, cur, hv, hg0, hg⟩
  · exact .inl h0
  · exact .inr ⟨g, cap, cur, hv, Nat.le_trans hB hg0, hg⟩
/-- a call gives a new matrix with the rows ls -/
def GivesL (w : World) (n : Nat) (ls : List (List UInt8)) (v : Value) (w' : World) : Prop := ∃ ad cap, v = .slice ad n cap ∧ Lr w' ad ls ∧ n ≤ cap ∧ cap ≤ maxLen ∧ Below w.heap.size w w'
theorem OMv.below_lt {w w' W : World} {B D r L : Nat} {v : Value} {M : Nat → Nat → UInt8} (h : OMv w B D v r L M) (hb : Below B W w) (hB : B ≤ w.heap.size) (hg : w.grownBy w' v.ownBlock) : Below B W w' := hb.grown hg hB fun k hk => (h.lt k hk).1
theorem cell_one_at (w : World) (v : Value) (t : TypeId) (n : Nat) (hn : n = w.heap.size) : ∀ j u, [v][j]? = some u → (w.alloc (.cells #[v] t)).cell? ((⟨n, 0, none⟩ : Addr).add j) = some u := by subst hn; exact cell_one_new _ _ _
theorem rowF_def (L : Nat) (f : Nat → UInt8) : rowF L f = (List.range L).map f := rfl
end Go.Proofs.Ytinfjidclkgfnaa
namespace Go.Proofs.Ytinfjidclkgfnaa
theorem cnt_other (P : Nat → Prop) (n : Nat) : cnt P n + cnt (fun i => ¬ P i) n = n := by
  induction n with
  | zero => rfl
  | succ n ih =>
    by_cases h : P n
    · rw [cnt_yes h, cnt_no (P := fun i => ¬ P i) (fun h' => h' h)]; omega
    · rw [cnt_no h, cnt_yes (P := fun i => ¬ P i) h]; omega
/-- as many at most as there are places -/
theorem cnt_inj (R : Nat → Prop) (n : Nat) : ∀ (m : Nat) (f : Nat → Nat), (∀ t, t < m → f t < n ∧ R (f t)) → (∀ s t, s < t → t < m → f s ≠ f t) → m ≤ cnt R n := by
  induction n with
  | zero =>
    intro m f h1 _
    rcases Nat.eq_zero_or_pos m with rfl | hm
    · exact Nat.zero_le _
    · have := (h1 0 hm).1; omega
  | succ n ih =>
    intro m f h1 h2
    by_cases hex : ∃ t, t < m ∧ f t = n
    · obtain ⟨t0, ht0, e0⟩ := hex
      have hR : R n := by rw [← e0]; exact (h1 t0 ht0).2
      rw [cnt_yes hR]
      have hne : ∀ s t, s < m → t < m → s ≠ t → f s ≠ f t := fun s t hs ht hst => by
        rcases Nat.lt_or_gt_of_ne hst with h | h
        · exact h2 s t h ht
        · exact fun e => h2 t s h hs e.symm
      have hsw : ∀ t, t < m → sw t0 (m - 1) t < m := fun t ht => sw_lt ht0 (by omega) ht
      have := ih (m - 1) (fun t => f (sw t0 (m - 1) t)) (fun t ht => by
        have h3 := h1 _ (hsw t (by omega))
        refine ⟨?_, h3.2⟩
        have h4 : f (sw t0 (m - 1) t) ≠ n := by
          rw [← e0]
          refine hne _ _ (hsw t (by omega)) ht0 fun e => ?_
          have e2 := congrArg (sw t0 (m - 1)) e
          rw [sw_sw] at e2
          have e3 : sw t0 (m - 1) t0 = m - 1 := by unfold sw; rw [if_pos rfl]
          omega
        have := h3.1
        show f (sw t0 (m - 1) t) < n
        omega) (fun s t hst ht => hne _ _ (hsw s (by omega)) (hsw t (by omega)) fun e => by
          have e2 := congrArg (sw t0 (m - 1)) e
          rw [sw_sw, sw_sw] at e2
          omega)
      omega
    · have := ih m f (fun t ht => ⟨by
        have h3 := (h1 t ht).1
        have h4 : f t ≠ n := fun e => hex ⟨t, ht, e⟩
        omega, (h1 t ht).2⟩) h2
      by_cases hR : R n
      · rw [cnt_yes hR]; omega
      · rw [cnt_no hR]; exact this
/-- a list of the numbers with a property, and the sums over them -/
theorem sum_enum (P : Nat → Prop) (n : Nat) : ∃ en : Nat → Nat, (∀ t, t < cnt P n → en t < n ∧ P (en t)) ∧ (∀ s t, s < t → t < cnt P n → en s ≠ en t) ∧ (∀ j, j < n → P j → ∃ t, t < cnt P n ∧ en t = j) ∧
    ∀ f : Nat → UInt8, (∀ i, i < n → ¬ P i → f i = 0) → sumU n f = sumU (cnt P n) fun t => f (en t) := by
  induction n with
  | zero => exact ⟨id, fun t ht => absurd ht (Nat.not_lt_zero _), fun s t _ ht => absurd ht (Nat.not_lt_zero _), fun j hj => absurd hj (Nat.not_lt_zero _), fun f _ => rfl⟩
  | succ n ih =>
    obtain ⟨en, h1, h2, h3, h4⟩ := ih
    by_cases hP : P n
    · rw [cnt_yes hP]
      refine ⟨fun t => if t = cnt P n then n else en t, fun t ht => ?_, fun s t hst ht => ?_, fun j hj hPj => ?_, fun f hf => ?_⟩
      · show (if t = cnt P n then n else en t) < n + 1 ∧ P (if t = cnt P n then n else en t)
        by_cases e : t = cnt P n
        · rw [if_pos e]; exact ⟨Nat.lt_succ_self _, hP⟩
        · rw [if_neg e]
          have := h1 t (by omega)
          exact ⟨by omega, this.2⟩
      · show (if s = cnt P n then n else en s) ≠ (if t = cnt P n then n else en t)
        rw [if_neg (by omega)]
        by_cases e : t = cnt P n
        · rw [if_pos e]
          have := (h1 s (by omega)).1
          omega
        · rw [if_neg e]; exact h2 s t hst (by omega)
      · by_cases e : j = n
        · exact ⟨cnt P n, Nat.lt_succ_self _, by show (if cnt P n = cnt P n then n else _) = j; rw [if_pos rfl, e]⟩
        · obtain ⟨t, ht, et⟩ := h3 j (by omega) hPj
          exact ⟨t, by omega, by show (if t = cnt P n then n else en t) = j; rw [if_neg (by omega)]; exact et⟩
      · have e1 : sumU n f = sumU (cnt P n) fun t => f (if t = cnt P n then n else en t) := by
          rw [h4 f fun i hi => hf i (by omega)]
          exact sumU_congr _ _ _ fun t ht => by rw [if_neg (by omega)]
        show sumU n f ^^^ f n = sumU (cnt P n) (fun t => f (if t = cnt P n then n else en t)) ^^^ f (if cnt P n = cnt P n then n else en (cnt P n))
        rw [e1, if_pos rfl]
    · rw [cnt_no hP]
      refine ⟨en, fun t ht => ⟨by have := (h1 t ht).1; omega, (h1 t ht).2⟩, h2, fun j hj hPj => ?_, fun f hf => ?_⟩
      · refine h3 j ?_ hPj
        have : j ≠ n := fun e => hP (e ▸ hPj)
        omega
      · show sumU n f ^^^ f n = _
        rw [hf n (Nat.lt_succ_self _) hP, UInt8.xor_zero]
        exact h4 f fun i hi => hf i (by omega)

/-- the rows of the identity matrix followed by the Cauchy matrix -/
def encF (k i j : Nat) : UInt8 := if i < k then dl i j else cauF k (i - k) j
theorem encF_id (k i j : Nat) (h : i < k) : encF k i j = dl i j := if_pos h
theorem encF_cau (k i j : Nat) (h : k ≤ i) : encF k i j = invU (UInt8.ofNat i ^^^ UInt8.ofNat j) := by
  unfold encF
  rw [if_neg (by omega), ← cauF_eq, show k + (i - k) = i by omega]
theorem ofNat_inj8 {a b : Nat} (ha : a < 256) (hb : b < 256) (h : UInt8.ofNat a = UInt8.ofNat b) : a = b := by
  have := congrArg UInt8.toNat h
  rw [UInt8.toNat_ofNat', UInt8.toNat_ofNat'] at this
  omega
/-- any k different rows have an inverse -/
theorem code_inv (k p : Nat) (hkp : k + p ≤ 128) (s : Nat → Nat) (hs : ∀ i, i < k → s i < k + p) (hinj : ∀ i j, i < j → j < k → s i ≠ s j) : ∃ A, Inv k A fun i => encF k (s i) := by
  refine inv_of_indep k _ fun d hd => ?_
  have hne : ∀ i j, i < k → j < k → i ≠ j → s i ≠ s j := fun i j hi hj h => by
    rcases Nat.lt_or_gt_of_ne h with h' | h'
    · exact hinj i j h' hj
    · exact fun e => hinj j i h' hi e.symm
  obtain ⟨er, r1, r2, r3, r4⟩ := sum_enum (fun i => k ≤ s i) k
  obtain ⟨ec, c1, c2, _, _⟩ := sum_enum (fun j => ¬ ∃ i, i < k ∧ s i = j) k
  obtain ⟨ep, p1, p2, _, _⟩ := sum_enum (fun j => ∃ i, i < k ∧ s i = j) k
  -- as many rows of the Cauchy matrix as missing columns
  have hle : cnt (fun i => k ≤ s i) k ≤ cnt (fun j => ¬ ∃ i, i < k ∧ s i = j) k := by
    have h1 := cnt_other (fun i => k ≤ s i) k
    have h2 := cnt_other (fun j => ∃ i, i < k ∧ s i = j) k
    have hx : ∀ t, ∃ i, t < cnt (fun j => ∃ i, i < k ∧ s i = j) k → i < k ∧ s i = ep t := fun t => by
      by_cases ht : t < cnt (fun j => ∃ i, i < k ∧ s i = j) k
      · obtain ⟨i, hi⟩ := (p1 t ht).2
        exact ⟨i, fun _ => hi⟩
      · exact ⟨0, fun h => absurd h ht⟩
    obtain ⟨f, hf⟩ := Classical.axiomOfChoice hx
    have h3 := cnt_inj (fun i => ¬ k ≤ s i) k (cnt (fun j => ∃ i, i < k ∧ s i = j) k) f (fun t ht => ⟨(hf t ht).1, by
      have := (hf t ht).2
      have := (p1 t ht).1
      omega⟩) (fun a b hab hb e => p2 a b hab hb (by rw [← (hf a (by omega)).2, ← (hf b hb).2, e]))
    omega
  have hcau : ∀ i, i < k → k ≤ s i → d i = 0 := by
    intro i hi hsi
    obtain ⟨t, ht, rfl⟩ := r3 i hi hsi
    refine cauchy_indep (cnt (fun i => k ≤ s i) k) (fun t => UInt8.ofNat (s (er t))) (fun t => UInt8.ofNat (ec t)) ?_ ?_ ?_ (fun t => d (er t)) ?_ t ht
    · intro a b hab hb e
      have ha := r1 a (by omega)
      have hb' := r1 b hb
      have h1 := hs _ ha.1
      have h2 := hs _ hb'.1
      exact hne _ _ ha.1 hb'.1 (r2 a b hab hb) (ofNat_inj8 (by omega) (by omega) e)
    · intro a b hab hb e
      have h1 := (c1 a (by omega)).1
      have h2 := (c1 b (by omega)).1
      exact c2 a b hab (by omega) (ofNat_inj8 (by omega) (by omega) e)
    · intro a b ha hb e
      have h1 := r1 a ha
      have h2 := (c1 b (by omega)).1
      have h3 := hs _ h1.1
      have := ofNat_inj8 (by omega) (by omega) e
      have := h1.2
      omega
    · intro u hu
      have hcu := c1 u (by omega)
      have h := hd (ec u) hcu.1
      unfold comb at h ⊢
      rw [r4 (fun i => mulU (d i) (encF k (s i) (ec u))) fun i hi hni => by
        show mulU (d i) (encF k (s i) (ec u)) = 0
        rw [encF_id k (s i) _ (by omega), dl_ne (fun e => hcu.2 ⟨i, hi, e⟩), mulU_zero]] at h
      rw [← h]
      exact sumU_congr _ _ _ fun t ht => by rw [encF_cau k (s (er t)) _ (r1 t ht).2]
  intro i hi
  by_cases hsi : k ≤ s i
  · exact hcau i hi hsi
  · have h := hd (s i) (by omega)
    unfold comb at h
    rw [sumU_one k i _ hi fun j hj hji => by
      by_cases hsj : k ≤ s j
      · rw [hcau j hj hsj, zero_mulU]
      · show mulU (d j) (encF k (s j) (s i)) = 0
        rw [encF_id k (s j) _ (by omega), dl_ne (hne j i hj hi hji), mulU_zero]] at h
    have h' : mulU (d i) (encF k (s i) (s i)) = 0 := h
    rw [encF_id k (s i) _ (by omega), dl_same, mulU_one] at h'
    exact h'
/-- the shards determine the data -/
theorem code_back (k : Nat) (s : Nat → Nat) (A D : Nat → Nat → UInt8) (hA : Inv k A fun i => encF k (s i)) (i at_ : Nat) (hi : i < k) : comb k (A i) (fun t q => comb k (encF k (s t)) D q) at_ = D i at_ := by
  rw [comb_comb]
  rw [show comb k (fun q => comb k (A i) (fun t => encF k (s t)) q) D at_ = comb k (dl i) D at_ from comb_congr (fun q hq => hA i hi q hq) fun _ _ => rfl]
  exact comb_dl k i D at_ hi
/-- a data shard that is there is itself -/
theorem code_there (k : Nat) (s : Nat → Nat) (A : Nat → Nat → UInt8) (hA : Inv k A fun i => encF k (s i)) (t j : Nat) (ht : t < k) (hj : j < k) (hst : s t = j) (D : Nat → Nat → UInt8) (at_ : Nat) : comb k (A j) D at_ = D t at_ := by
  have h : ∀ q, q < k → A j q = dl t q := fun q hq => by
    have := hA.other t ht q hq
    rw [show comb k (encF k (s t)) A q = comb k (dl j) A q from comb_congr (fun i _ => by rw [hst]; exact encF_id k j i hj) fun _ _ => rfl, comb_dl k j A q hj] at this
    exact this
  rw [show comb k (A j) D at_ = comb k (dl t) D at_ from comb_congr h fun _ _ => rfl]
  exact comb_dl k t D at_ ht
/-- a data shard changed: the parity shards of the changed ones -/
theorem code_change (k x : Nat) (D : Nat → Nat → UInt8) (new : Nat → UInt8) (at_ : Nat) (hx : x < k) (c : Nat → UInt8) :
    comb k c (fun j q => if j = x then new q else D j q) at_ = comb k c D at_ ^^^ mulU (c x) (D x at_ ^^^ new at_) := by
  have e : ∀ j, mulU (c j) (if j = x then new at_ else D j at_) = mulU (c j) (D j at_) ^^^ (if j = x then mulU (c x) (D x at_ ^^^ new at_) else 0) := fun j => by
    by_cases h : j = x
    · subst h
      rw [if_pos rfl, if_pos rfl, mulU_xor, ← UInt8.xor_assoc, UInt8.xor_self, UInt8.zero_xor]
    · rw [if_neg h, if_neg h, UInt8.xor_zero]
  show sumU k (fun j => mulU (c j) (if j = x then new at_ else D j at_)) = _
  rw [sumU_congr k _ _ fun j _ => e j, sumU_xor, sumU_one k x (fun j => if j = x then mulU (c x) (D x at_ ^^^ new at_) else 0) hx fun j _ h => if_neg h, if_pos rfl]
  rfl
/-- the code of sums is the sum of the codes -/
theorem code_sum (k : Nat) (c : Nat → UInt8) (D E : Nat → Nat → UInt8) (at_ : Nat) : comb k c (fun j q => D j q ^^^ E j q) at_ = comb k c D at_ ^^^ comb k c E at_ := by
  show sumU k (fun j => mulU (c j) (D j at_ ^^^ E j at_)) = _
  rw [sumU_congr k _ (fun j => mulU (c j) (D j at_) ^^^ mulU (c j) (E j at_)) fun j _ => mulU_xor _ _ _, sumU_xor]
  rfl
end Go.Proofs.Ytinfjidclkgfnaa
namespace Go.Proofs.Ytinfjidclkgfnaa
open Go.RowKit
/-- are the counts valid? -/
def vc (a b : Int) : Bool := decide (1 ≤ a) && decide (0 ≤ b) && decide (b ≤ 16 - a)
theorem vc_iff (a b : Int) : vc a b = true ↔ 1 ≤ a ∧ 0 ≤ b ∧ a + b ≤ 16 := by
  unfold vc
  simp only [Bool.and_eq_true, decide_eq_true_eq]
  omega
theorem vc_no {a b : Int} (h : ¬ (1 ≤ a ∧ 0 ≤ b ∧ a + b ≤ 16)) : vc a b = false := by
  rw [← Bool.not_eq_true, vc_iff]; exact h
theorem vc_yes {a b : Int} (h : 1 ≤ a ∧ 0 ≤ b ∧ a + b ≤ 16) : vc a b = true := (vc_iff a b).2 h
/-- the number of data shards, reckoned in 64 bits: it matters only where it is exact -/
theorem vc_wrap (n : Nat) (p : Int) (hn : n ≤ 100000) (h0 : -9223372036854775808 ≤ p) (h1 : p ≤ 9223372036854775807) : vc (IntKind.i64.wrap ((n : Int) - p)) p = vc ((n : Int) - p) p := by
  rw [IntKind.wrap_i64]
  by_cases hp : 0 ≤ p
  · congr 1; omega
  · rw [vc_no (by omega), vc_no (by omega)]
/-- have all the same length? -/
def sameL (ls : List (List UInt8)) : Bool := ls.all fun r => decide (r.length = cols ls)
theorem sameL_iff (ls : List (List UInt8)) : sameL ls = true ↔ ∀ r ∈ ls, r.length = cols ls := by
  unfold sameL
  simp
theorem sameL_yes {ls : List (List UInt8)} (h : ∀ i (h : i < ls.length), (ls[i]).length = cols ls) : sameL ls = true :=
  (sameL_iff ls).2 fun r hr => by obtain ⟨i, hi, rfl⟩ := List.mem_iff_getElem.1 hr; exact h i hi
theorem sameL_no {ls : List (List UInt8)} (i : Nat) (hi : i < ls.length) (h : (ls[i]).length ≠ cols ls) : sameL ls = false := by
  rw [← Bool.not_eq_true, sameL_iff]
  exact fun h' => h (h' _ (List.getElem_mem hi))
theorem sameL_len {ls : List (List UInt8)} (h : sameL ls = true) (i : Nat) (hi : i < ls.length) : (ls[i]).length = cols ls := (sameL_iff ls).1 h _ (List.getElem_mem hi)
theorem sameL_nil : sameL [] = true := rfl
/-- a row times shards -/
def combL (c : List UInt8) (ls : List (List UInt8)) : List UInt8 := partF (cols ls) ls.length [c] ls 0
theorem combL_length (c : List UInt8) (ls : List (List UInt8)) : (combL c ls).length = cols ls := partF_length _ _ _ _ _
theorem combL_get (c : List UInt8) (ls : List (List UInt8)) (q : Nat) (h : q < (combL c ls).length) : (combL c ls)[q] = comb ls.length (fun j => c.getD j 0) (ent ls) q := by
  have gen : ∀ (f : Nat → UInt8) (l : List UInt8) (h : q < l.length), l = rowF (cols ls) f → l[q] = f q := fun f l h e => by subst e; exact rowF_get _ _ _ h
  exact gen (fun q => comb ls.length (fun j => c.getD j 0) (ent ls) q) _ h rfl
def prodL (rs ls : List (List UInt8)) : List (List UInt8) := rs.map fun r => combL r ls
theorem prodL_length (rs ls : List (List UInt8)) : (prodL rs ls).length = rs.length := by simp [prodL]
theorem prodL_get (rs ls : List (List UInt8)) (i : Nat) (h : i < rs.length) (h' : i < (prodL rs ls).length) : (prodL rs ls)[i] = combL rs[i] ls := by simp [prodL]
theorem prodL_take (rs ls : List (List UInt8)) (i : Nat) (h : i < rs.length) : prodL (rs.take (i + 1)) ls = prodL (rs.take i) ls ++ [combL rs[i] ls] := by
  unfold prodL
  rw [List.take_add_one, List.map_append]
  simp [h]
theorem prodL_row (rs ls : List (List UInt8)) : ∀ r ∈ prodL rs ls, r.length = cols ls := by
  intro r hr
  obtain ⟨c, _, rfl⟩ := List.mem_map.1 hr
  exact combL_length _ _
/-- one shard more -/
theorem part_zero (L : Nat) (c : List UInt8) (ls : List (List UInt8)) : partF L 0 [c] ls 0 = List.replicate L 0 := partF_zero _ _ _ _
theorem rowF_self (l : List UInt8) (f : Nat → UInt8) (h : ∀ j (hj : j < l.length), l[j] = f j) (L : Nat) (hL : L = l.length) : l = rowF L f := by
  subst hL
  apply List.ext_getElem
  · rw [rowF_length]
  · intro j h1 h2
    rw [rowF_get, h j h1]
theorem part_next (L : Nat) (c : List UInt8) (ls : List (List UInt8)) (j : Nat) (hj : j < ls.length) (hL : (ls[j]).length = L) (hc : j < c.length) : sc (partF L j [c] ls 0) (ls[j]) (c[j]) = partF L (j + 1) [c] ls 0 := by
  rw [← partF_next, rowF_self (ls[j]) (ent ls j) (fun q hq => ent_get ls j q hj hq) L hL.symm]
  congr 1
  simp [ent, hc]
/-- the parity shards -/
def parL (ls : List (List UInt8)) (p : Nat) : List (List UInt8) := prodL (cauL p ls.length) ls
theorem cauL_length (r c : Nat) : (cauL r c).length = r := matL_length _ _ _
theorem idL_length (n : Nat) : (idL n).length = n := matL_length _ _ _
theorem parL_length (ls : List (List UInt8)) (p : Nat) : (parL ls p).length = p := by unfold parL; rw [prodL_length, cauL_length]
theorem parL_row (ls : List (List UInt8)) (p : Nat) : ∀ r ∈ parL ls p, r.length = cols ls := prodL_row _ _
theorem cauL_row (r c : Nat) : ∀ l ∈ cauL r c, l.length = c := matL_rows _ _ _
theorem idL_row (n : Nat) : ∀ l ∈ idL n, l.length = n := matL_rows _ _ _
/-- the rows of all shards: the identity matrix, then Cauchy's -/
def encL (k p : Nat) : List (List UInt8) := idL k ++ cauL p k
theorem encL_length (k p : Nat) : (encL k p).length = k + p := by unfold encL; rw [List.length_append, idL_length, cauL_length]
theorem encL_row (k p : Nat) : ∀ l ∈ encL k p, l.length = k := fun l hl => by
  rcases List.mem_append.1 hl with h | h
  · exact idL_row k l h
  · exact cauL_row p k l h
theorem encL_cau (k p i : Nat) (h' : k + i < (encL k p).length) (h2 : i < (cauL p k).length) : (encL k p)[k + i] = (cauL p k)[i] := by
  have gen : ∀ (l : List (List UInt8)) (h' : k + i < l.length), l = idL k ++ cauL p k → l[k + i] = (cauL p k)[i] := fun l h' e => by
    subst e
    rw [List.getElem_append_right (by rw [idL_length]; omega)]
    congr 1
    rw [idL_length]; omega
  exact gen _ h' rfl

/-! ### the chosen ones -/
/-- the elements whose places are chosen -/
def pick {α : Type} : List α → List Bool → List α
  | x :: xs, true :: bs => x :: pick xs bs
  | _ :: xs, false :: bs => pick xs bs
  | _, _ => []
theorem pick_nil {α : Type} (xs : List α) : pick xs [] = [] := by cases xs <;> rfl
theorem pick_length {α : Type} (xs : List α) (bs : List Bool) (h : bs.length ≤ xs.length) : (pick xs bs).length = bs.count true := by
  induction xs generalizing bs with
  | nil =>
    have : bs = [] := List.eq_nil_of_length_eq_zero (by simpa using h)
    subst this; rfl
  | cons x xs ih =>
    cases bs with
    | nil => rfl
    | cons b bs =>
      have h' : bs.length ≤ xs.length := by simpa using h
      cases b
      · simp [pick, ih bs h']
      · simp [pick, ih bs h']
theorem pick_append {α : Type} (xs : List α) (bs : List Bool) (x : α) (b : Bool) (h : xs.length = bs.length) : pick (xs ++ [x]) (bs ++ [b]) = pick xs bs ++ if b then [x] else [] := by
  induction xs generalizing bs with
  | nil =>
    have : bs = [] := List.eq_nil_of_length_eq_zero (by simpa using h.symm)
    subst this
    cases b <;> rfl
  | cons y ys ih =>
    cases bs with
    | nil => simp at h
    | cons c bs =>
      have h' : ys.length = bs.length := by simpa using h
      cases c
      · simp [pick, ih bs h']
      · simp [pick, ih bs h']
theorem pick_take {α : Type} (xs : List α) (bs : List Bool) (i : Nat) (hx : i < xs.length) (hb : i < bs.length) : pick (xs.take (i + 1)) (bs.take (i + 1)) = pick (xs.take i) (bs.take i) ++ if bs[i] then [xs[i]] else [] := by
  rw [List.take_add_one, List.take_add_one, List.getElem?_eq_getElem hx, List.getElem?_eq_getElem hb]
  exact pick_append _ _ _ _ (by rw [List.length_take, List.length_take]; omega)
theorem pick_mem {α : Type} (xs : List α) (bs : List Bool) : ∀ x ∈ pick xs bs, x ∈ xs := by
  induction xs generalizing bs with
  | nil => intro x h; cases bs <;> simp [pick] at h
  | cons y ys ih =>
    intro x h
    cases bs with
    | nil => simp [pick] at h
    | cons c bs =>
      cases c
      · exact List.mem_cons_of_mem _ (ih bs x h)
      · rcases List.mem_cons.1 h with rfl | h
        · exact List.mem_cons_self
        · exact List.mem_cons_of_mem _ (ih bs x h)
/-- the places that are chosen, in order -/
theorem pick_place (bs : List Bool) : ∃ s : Nat → Nat, (∀ t, t < bs.count true → ∃ h : s t < bs.length, bs[s t] = true) ∧ (∀ a b, a < b → b < bs.count true → s a < s b) ∧
    ∀ {α : Type} (xs : List α) (t : Nat) (h : t < (pick xs bs).length), xs.length = bs.length → ∃ h' : s t < xs.length, (pick xs bs)[t] = xs[s t] := by
  induction bs with
  | nil => exact ⟨id, fun t h => by simp at h, fun a b _ h => by simp at h, fun xs t h => by rw [pick_nil] at h; simp at h⟩
  | cons c bs ih =>
    obtain ⟨s, h1, h2, h3⟩ := ih
    cases c
    · refine ⟨fun t => s t + 1, fun t h => ?_, fun a b hab h => ?_, fun xs t h hl => ?_⟩
      · obtain ⟨h4, h5⟩ := h1 t (by simpa using h)
        exact ⟨by simpa using h4, by simpa using h5⟩
      · have := h2 a b hab (by simpa using h)
        show s a + 1 < s b + 1
        omega
      · cases xs with
        | nil => simp at hl
        | cons x xs =>
          obtain ⟨h4, h5⟩ := h3 xs t (by simpa [pick] using h) (by simpa using hl)
          exact ⟨by simpa using h4, h5⟩
    · refine ⟨fun t => match t with | 0 => 0 | t + 1 => s t + 1, fun t h => ?_, fun a b hab h => ?_, fun xs t h hl => ?_⟩
      · cases t with
        | zero => exact ⟨by simp, rfl⟩
        | succ t =>
          obtain ⟨h4, h5⟩ := h1 t (by simpa using h)
          exact ⟨by simpa using h4, by simpa using h5⟩
      · cases b with
        | zero => omega
        | succ b =>
          cases a with
          | zero => show 0 < s b + 1; omega
          | succ a =>
            have := h2 a b (by omega) (by simpa using h)
            show s a + 1 < s b + 1
            omega
      · cases xs with
        | nil => simp at hl
        | cons x xs =>
          cases t with
          | zero => exact ⟨by simp, rfl⟩
          | succ t =>
            obtain ⟨h4, h5⟩ := h3 xs t (by simpa [pick] using h) (by simpa using hl)
            exact ⟨by simpa using h4, h5⟩
end Go.Proofs.Ytinfjidclkgfnaa
namespace Go.Proofs.Ytinfjidclkgfnaa
open Go.RowKit
theorem encL_get (k p i : Nat) (h : i < (encL k p).length) : (encL k p)[i] = rowF k (encF k i) := by
  have gen : ∀ (l : List (List UInt8)) (h : i < l.length), l = idL k ++ cauL p k → l[i] = rowF k (encF k i) := fun l h e => by
    subst e
    by_cases hi : i < k
    · rw [List.getElem_append_left (by rw [idL_length]; exact hi)]
      have g2 : ∀ (l : List (List UInt8)) (h : i < l.length), l = matL k k dl → l[i] = rowF k (encF k i) := fun l h e => by
        subst e
        rw [matL_rowF]
        exact List.map_congr_left fun q _ => (encF_id k i q hi).symm
      exact g2 _ _ rfl
    · have hl : (idL k).length ≤ i := by rw [idL_length]; omega
      rw [List.getElem_append_right hl]
      have g2 : ∀ (j : Nat) (l : List (List UInt8)) (h : j < l.length), l = matL p k (cauF k) → j = i - k → l[j] = rowF k (encF k i) := fun j l h e ej => by
        subst e ej
        rw [matL_rowF]
        exact List.map_congr_left fun q _ => by unfold encF; rw [if_neg hi]
      exact g2 _ _ _ (cauL_eq p k) (by rw [idL_length])
  exact gen _ h rfl
theorem rowF_getD (L : Nat) (f : Nat → UInt8) (j : Nat) (h : j < L) : (rowF L f).getD j 0 = f j := by simp [rowF, h]
theorem ent_row (M : List (List UInt8)) (i j L : Nat) (f : Nat → UInt8) (hi : i < M.length) (e : M[i] = rowF L f) (hj : j < L) : ent M i j = f j := by
  unfold ent
  rw [show M.getD i [] = M[i] by simp [hi], e, rowF_getD L f j hj]
/-- the rows of the first k chosen ones -/
def rowsL (k p : Nat) (hs : List Bool) : List (List UInt8) := (pick (encL k p) hs).take k
/-- the first k chosen shards -/
def knownL (k : Nat) (ls : List (List UInt8)) (hs : List Bool) : List (List UInt8) := (pick ls hs).take k
section
variable {k p : Nat} {hs : List Bool} {ls : List (List UInt8)}
theorem rows_length (hl : hs.length = k + p) (hc : k ≤ hs.count true) : (rowsL k p hs).length = k := by
  unfold rowsL
  rw [List.length_take, pick_length _ _ (by rw [encL_length]; omega)]
  omega
theorem known_length (hl : hs.length ≤ ls.length) (hc : k ≤ hs.count true) : (knownL k ls hs).length = k := by
  unfold knownL
  rw [List.length_take, pick_length _ _ hl]
  omega
theorem rows_row (r : List UInt8) (h : r ∈ rowsL k p hs) : r.length = k := encL_row k p r (pick_mem _ _ r (List.mem_of_mem_take h))
theorem known_row (hs2 : sameL (pick ls hs) = true) (hk : 1 ≤ k) : ∀ i (h : i < (knownL k ls hs).length), ((knownL k ls hs)[i]).length = cols (knownL k ls hs) := by
  have hcol : cols (knownL k ls hs) = cols (pick ls hs) := by
    unfold knownL
    obtain ⟨m, rfl⟩ : ∃ m, k = m + 1 := ⟨k - 1, by omega⟩
    cases pick ls hs <;> rfl
  intro i hi
  rw [hcol]
  exact (sameL_iff _).1 hs2 _ (List.mem_of_mem_take (List.getElem_mem hi))
/-- the places of the first k chosen ones, for all lists alike -/
theorem places (hl : hs.length = k + p) (hc : k ≤ hs.count true) : ∃ s : Nat → Nat, (∀ t, t < k → s t < k + p) ∧ (∀ i j, i < j → j < k → s i ≠ s j) ∧ (∀ t, t < k → hs.getD (s t) false = true) ∧ (∀ t (h : t < (rowsL k p hs).length), (rowsL k p hs)[t] = rowF k (encF k (s t))) ∧
    ∀ (ls : List (List UInt8)) t (h : t < (knownL k ls hs).length), ls.length = hs.length → ∃ h' : s t < ls.length, (knownL k ls hs)[t] = ls[s t] := by
  obtain ⟨s, h1, h2, h3⟩ := pick_place hs
  refine ⟨s, fun t ht => ?_, fun i j hij hj => ?_, fun t ht => ?_, fun t h => ?_, fun ls t h hll => ?_⟩
  · have := (h1 t (by omega)).1
    omega
  · have := h2 i j hij (by omega)
    omega
  · obtain ⟨h4, h5⟩ := h1 t (by omega)
    simp [h4, h5]
  · have ht : t < (pick (encL k p) hs).length := by
      unfold rowsL at h
      rw [List.length_take] at h
      omega
    obtain ⟨h4, h5⟩ := h3 (encL k p) t ht (by rw [encL_length]; exact hl.symm)
    rw [← encL_get k p (s t) h4, ← h5]
    exact List.getElem_take
  · have ht : t < (pick ls hs).length := by
      unfold knownL at h
      rw [List.length_take] at h
      omega
    obtain ⟨h4, h5⟩ := h3 ls t ht hll
    exact ⟨h4, by rw [← h5]; exact List.getElem_take⟩
theorem rows_cols (hl : hs.length = k + p) (hc : k ≤ hs.count true) (hk : 1 ≤ k) : cols (rowsL k p hs) = k := by
  have h := rows_length hl hc
  have h0 : 0 < (rowsL k p hs).length := by omega
  rw [cols_first _ h0]
  exact rows_row _ (List.getElem_mem h0)
theorem rows_valid (hl : hs.length = k + p) (hc : k ≤ hs.count true) (hk : 1 ≤ k) (hk2 : k ≤ 64) : ValidL (rowsL k p hs) := by
  have h := rows_length hl hc
  have h2 := rows_cols hl hc hk
  exact ⟨by omega, by omega, fun r hr => by rw [h2]; exact rows_row r hr, by omega, by omega⟩
theorem rows_inv (hl : hs.length = k + p) (hc : k ≤ hs.count true) (hkp : k + p ≤ 64) : ∃ A, Inv k A (ent (rowsL k p hs)) := by
  obtain ⟨s, h1, h2, _, h4, _⟩ := places hl hc
  obtain ⟨A, hA⟩ := code_inv k p (by omega) s h1 h2
  refine ⟨A, hA.congr (fun _ _ _ _ => rfl) fun i hi j hj => ?_⟩
  have hi' : i < (rowsL k p hs).length := by rw [rows_length hl hc]; exact hi
  exact (ent_row _ i j k _ hi' (h4 i hi') hj).symm
/-- the data shards that the chosen ones determine -/
noncomputable def dataL (k p : Nat) (ls : List (List UInt8)) (hs : List Bool) : List (List UInt8) := open Classical in if h : ∃ A, Inv k A (ent (rowsL k p hs)) then prodL (matL k k (Classical.choose h)) (knownL k ls hs) else []
theorem dataL_eq (A : Nat → Nat → UInt8) (hA : Inv k A (ent (rowsL k p hs))) : dataL k p ls hs = prodL (matL k k A) (knownL k ls hs) := by
  have h : ∃ A, Inv k A (ent (rowsL k p hs)) := ⟨A, hA⟩
  unfold dataL
  rw [dif_pos h, matL_congr k k _ A fun i hi j hj => (Classical.choose_spec h).unique hA i hi j hj]
theorem dataL_length (hl : hs.length = k + p) (hc : k ≤ hs.count true) (hkp : k + p ≤ 64) : (dataL k p ls hs).length = k := by
  obtain ⟨A, hA⟩ := rows_inv hl hc hkp
  rw [dataL_eq A hA, prodL_length, matL_length]
theorem dataL_row (hl : hs.length = k + p) (hc : k ≤ hs.count true) (hkp : k + p ≤ 64) : ∀ r ∈ dataL k p ls hs, r.length = cols (knownL k ls hs) := by
  obtain ⟨A, hA⟩ := rows_inv hl hc hkp
  rw [dataL_eq A hA]
  exact prodL_row _ _
/-- the chosen shards of a code word determine its data shards -/
theorem dataL_back (D : List (List UInt8)) (hD : D.length = k) (hk : 1 ≤ k) (hrow : sameL D = true) (hl : hs.length = k + p) (hc : k ≤ hs.count true) (hkp : k + p ≤ 64)
    (hls : ls.length = k + p) (h : ∀ i (hi : i < ls.length), hs.getD i false = true → ∃ hi' : i < (D ++ parL D p).length, ls[i] = (D ++ parL D p)[i]) : dataL k p ls hs = D := by
  obtain ⟨A, hA⟩ := rows_inv hl hc hkp
  obtain ⟨s, h1, h2, h3, h4, h5⟩ := places hl hc
  have hcode : ∀ i (hi : i < (D ++ parL D p).length), (D ++ parL D p)[i] = rowF (cols D) (fun q => comb k (encF k i) (ent D) q) := fun i hi => by
    by_cases hik : i < D.length
    · rw [List.getElem_append_left hik]
      refine rowF_self _ _ (fun q hq => ?_) _ (sameL_len hrow i hik).symm
      rw [ent_get D i q hik hq, show comb k (encF k i) (ent D) q = comb k (dl i) (ent D) q from comb_congr (fun t _ => encF_id k i t (by omega)) fun _ _ => rfl, comb_dl k i _ q (by omega)]
    · rw [List.getElem_append_right (by omega)]
      have hip : i - D.length < p := by rw [List.length_append, parL_length] at hi; omega
      have gen : ∀ (j : Nat) (l : List (List UInt8)) (h : j < l.length), l = parL D p → j = i - D.length → l[j] = rowF (cols D) (fun q => comb k (encF k i) (ent D) q) := fun j l h e ej => by
        subst e
        have hjc : j < (cauL p D.length).length := by rw [cauL_length]; omega
        have e1 : (parL D p)[j] = combL ((cauL p D.length)[j]) D := prodL_get _ _ j hjc h
        rw [e1]
        refine rowF_self _ _ (fun q hq => ?_) _ (combL_length _ _).symm
        rw [combL_get, show comb k (encF k i) (ent D) q = comb D.length (encF k i) (ent D) q by rw [hD]]
        refine comb_congr (fun t ht => ?_) fun _ _ => rfl
        have g3 : ∀ (l : List (List UInt8)) (h : j < l.length), l = matL p D.length (cauF D.length) → (l[j]).getD t 0 = encF k i t := fun l h e => by
          subst e
          rw [matL_rowF, rowF_getD _ _ t ht]
          unfold encF
          rw [if_neg (by omega), ej, hD]
        exact g3 _ hjc (cauL_eq _ _)
      exact gen _ _ _ rfl rfl
  have hkn : ∀ t (ht : t < (knownL k ls hs).length), (knownL k ls hs)[t] = rowF (cols D) (fun q => comb k (encF k (s t)) (ent D) q) := fun t ht => by
    have htk : t < k := by
      unfold knownL at ht
      rw [List.length_take] at ht
      omega
    obtain ⟨h6, h7⟩ := h5 ls t ht (by omega)
    obtain ⟨h8, h9⟩ := h (s t) h6 (h3 t htk)
    rw [h7, h9, hcode]
  have hkl : (knownL k ls hs).length = k := known_length (by omega) hc
  have hcol : cols (knownL k ls hs) = cols D := by
    rw [cols_first _ (by omega : 0 < (knownL k ls hs).length), hkn 0 (by omega), rowF_length]
  rw [dataL_eq A hA]
  apply List.ext_getElem
  · rw [prodL_length, matL_length, hD]
  · intro i hi1 hi2
    rw [prodL_length, matL_length] at hi1
    rw [prodL_get _ _ i (by rw [matL_length]; exact hi1)]
    apply List.ext_getElem
    · rw [combL_length, hcol, sameL_len hrow i hi2]
    · intro q hq1 hq2
      rw [combL_length, hcol] at hq1
      rw [combL_get, hkl, ent_get D i q hi2 hq2]
      rw [matL_rowF]
      refine Eq.trans (comb_congr (fun t ht => rowF_getD k (A i) t ht) fun t ht => ent_row _ t q (cols D) _ (by omega) (hkn t (by omega)) hq1) ?_
      have hA2 : Inv k A fun i => encF k (s i) := hA.congr (fun _ _ _ _ => rfl) fun i hi j hj => ent_row _ i j k _ (by rw [rows_length hl hc]; exact hi) (h4 i (by rw [rows_length hl hc]; exact hi)) hj
      exact code_back k s A (ent D) hA2 i q hi1
end
end Go.Proofs.Ytinfjidclkgfnaa
