/-
  The program's tables: the products of an element with all others; the powers of the generator and their exponents.
-/
import Derived.Test.YtkeijphhcapkdaaGStep
import Derived.Test.YtkeijphhcapkdaaMem
import Derived.Deep.WholeRow
import Derived.Deep.LoopGhost
import Derived.Laws.ResultCell
namespace Go.Proofs.Ytkeijphhcapkdaa
open Go.RowKit

/-- n bytes as an array's cells -/
def arr (n : Nat) (T : Nat → UInt8) : Array Value := Array.ofFn (n := n) fun i => .int .u8 (ev (T i.val))
theorem arr_size (n : Nat) (T : Nat → UInt8) : (arr n T).size = n := by simp [arr]
theorem arr_get (n : Nat) (T : Nat → UInt8) (j : Nat) (h : j < n) : (arr n T)[j]? = some (.int .u8 (ev (T j))) := by simp [arr, h]
theorem arr_congr (n : Nat) (T T' : Nat → UInt8) (h : ∀ i, i < n → T i = T' i) : arr n T = arr n T' := by
  unfold arr
  congr 1
  funext i
  rw [h i.val i.isLt]
theorem arr_set (n : Nat) (T : Nat → UInt8) (j : Nat) (v : UInt8) : (arr n T).setIfInBounds j (.int .u8 (ev v)) = arr n (fun i => if i = j then v else T i) := by
  apply Array.ext_getElem?
  intro i
  by_cases hi : i < n
  · rw [arr_get _ _ _ hi, Array.getElem?_setIfInBounds]
    by_cases hj : j = i
    · subst hj
      simp [arr_size, hi]
    · rw [if_neg hj, arr_get _ _ _ hi, if_neg (fun e => hj e.symm)]
  · rw [Array.getElem?_eq_none (by simp [arr_size]; omega), Array.getElem?_eq_none (by simp [arr_size]; omega)]
theorem arr_one (n : Nat) (T : Nat → UInt8) : (arr n T).all (·.oneCell') = true := by
  rw [Array.all_eq_true]
  intro i hi
  simp [arr, Value.oneCell']
theorem arr_zero (n : Nat) : (Array.replicate n (Value.int .u8 0)) = arr n (fun _ => 0) := by
  apply Array.ext_getElem?
  intro i
  by_cases hi : i < n
  · rw [arr_get _ _ _ hi, ev_zero]; simp [hi]
  · rw [Array.getElem?_eq_none (by simp; omega), Array.getElem?_eq_none (by simp [arr_size]; omega)]

/-! A whole array out of a block and into a block, whichever block it is. -/
theorem wp_load_arr {P : Program} {op : Oper} {a : Act} {w : World} {K : Act → World → Prop} {Q : Exit → Act → World → Prop} (ty : TypeId) (x : Operand) (ho : op.op = .load ty x)
    (g : Nat) (hx : a.eval x = .pointer (some ⟨g, 0, none⟩)) (cs : Array Value) (n : Nat) (e t : TypeId) (hg : w.heap[g]? = some (.cells cs t (0, 0)))
    (hu : P.underlying ty = some (.array n e)) (hi : (P.info? ty).map (·.size) = some cs.size)
    (h : K (a.put op.dst (.agg cs)) w) : op.wp P a w K Q := by
  unfold Oper.wp execOp
  simp only [ho, hx, Instr.loadAt, Instr.sureAddr, Sem.run_bind, Sem.run_pure, Result.andThen_ok, run_loadVar_row w g t ty cs (0, 0) _ hg hu rfl hi]
  exact h
theorem run_storeCells_arr {P : Program} (w : World) (g : Nat) (t : TypeId) (old cs : Array Value) (hg : w.heap[g]? = some (.cells old t (0, 0))) (hs : old.size = cs.size) (h1 : cs.all (·.oneCell') = true) :
    (storeCells ⟨g, 0, none⟩ cs.toList 0).run P w = .ok () (w.setRow g cs) := by
  have := run_storeCells_from (P := P) g t cs.toList 0 old w hg (by simp; omega) (fun v hv => (Array.all_eq_true_iff_forall_mem.1 h1) v (by simpa using hv))
  simpa [hs] using this
theorem results_cell_arr {fn : Func} {p : Tmp} {ty : TypeId} (h : fn.results = #[.cell p ty]) (tmps : Array Value) (P : Program) (w : World) :
    (results fn tmps).run P w = ((asAddr (tmps.getD p undef)).run P w).andThen fun a w₁ => (loadVar ty a).run P w₁ := by
  simp only [results, h]
  simp [Sem.run_bind, Result.andThen]
theorem setRow_past_arr (w : World) (g : Nat) (c : Array Value) (o : Obj) (h : g < w.heap.size) : (w.alloc o).setRow g c = (w.setRow g c).alloc o := by
  simp only [World.setRow, World.alloc]
  congr 1
  apply Array.ext_getElem?
  intro i
  rw [Array.getElem?_modify]
  by_cases h1 : g = i
  · subst h1
    rw [if_pos rfl, Array.getElem?_push, if_neg (by omega), Array.getElem?_push, if_neg (by simp; omega), Array.getElem?_modify, if_pos rfl]
  · rw [if_neg h1]
    simp only [Array.getElem?_push, Array.size_modify, Array.getElem?_modify, if_neg h1]
theorem run_storeCells_new_arr {P : Program} (w : World) (g : Nat) (hg : g = w.heap.size) (t : TypeId) (old cs : Array Value) (hs : old.size = cs.size) (h1 : cs.all (·.oneCell') = true) :
    (storeCells ⟨g, 0, none⟩ cs.toList 0).run P (w.alloc (.cells old t)) = .ok () (w.alloc (.cells cs t)) := by
  subst hg
  rw [run_storeCells_arr (P := P) _ w.heap.size t old cs (heap_alloc_last _ _) hs h1, World.setRow_alloc_new]
theorem heap_past_arr (w : World) (o : Obj) (k : Nat) (h : k < w.heap.size) : (w.alloc o).heap[k]? = w.heap[k]? := Below.heap_alloc w o k h

/-- the products of all elements with a -/
def prodT (a : UInt8) (i : Nat) : UInt8 := mulU (UInt8.ofNat i) a
/-- the same, below 2 x -/
def prodX (a : UInt8) (x i : Nat) : UInt8 := if i < 2 * x then prodT a i else 0
theorem prodX_zero (a : UInt8) : arr 256 (fun _ => 0) = arr 256 (prodX a 0) := arr_congr _ _ _ fun i _ => by simp [prodX]
theorem prodX_all (a : UInt8) : arr 256 (prodX a 128) = arr 256 (prodT a) := arr_congr _ _ _ fun i h => by unfold prodX; rw [if_pos (by omega)]
theorem prodX_at (a : UInt8) (x : Nat) : prodX a x x = prodT a x := by
  unfold prodX
  split
  · rfl
  · have : x = 0 := by omega
    subst this
    exact (zero_mulU a).symm
theorem twice_nat : ∀ x : Fin 128, dblU (UInt8.ofNat x.val) = UInt8.ofNat (2 * x.val) ∧ UInt8.ofNat (2 * x.val) ^^^ 1 = UInt8.ofNat (2 * x.val + 1) := by decide +kernel
theorem prodT_even (a : UInt8) (x : Nat) (hx : x < 128) : dblU (prodT a x) = prodT a (2 * x) := by
  unfold prodT
  rw [← dbl_mulU, (twice_nat ⟨x, hx⟩).1]
theorem prodT_odd (a : UInt8) (x : Nat) (hx : x < 128) : prodT a (2 * x) ^^^ a = prodT a (2 * x + 1) := by
  unfold prodT
  rw [← (twice_nat ⟨x, hx⟩).2, xor_mulU, one_mulU]
/-- .. and at 2 x too -/
def prodY (a : UInt8) (x i : Nat) : UInt8 := if i < 2 * x + 1 then prodT a i else 0
theorem prod_first (a : UInt8) (x : Nat) (hx : x < 128) : (arr 256 (prodX a x)).setIfInBounds (2 * x) (.int .u8 (ev (dblU (prodT a x)))) = arr 256 (prodY a x) := by
  rw [arr_set, prodT_even a x hx]
  refine arr_congr _ _ _ fun i _ => ?_
  unfold prodX prodY
  by_cases h : i = 2 * x
  · subst h; simp
  · rw [if_neg h]
    by_cases h2 : i < 2 * x
    · rw [if_pos h2, if_pos (by omega)]
    · rw [if_neg h2, if_neg (by omega)]
theorem prodY_at (a : UInt8) (x : Nat) : prodY a x (2 * x) = prodT a (2 * x) := by unfold prodY; rw [if_pos (by omega)]
theorem prod_second (a : UInt8) (x : Nat) (hx : x < 128) : (arr 256 (prodY a x)).setIfInBounds (2 * x + 1) (.int .u8 (ev (prodT a (2 * x) ^^^ a))) = arr 256 (prodX a (x + 1)) := by
  rw [arr_set, prodT_odd a x hx]
  refine arr_congr _ _ _ fun i _ => ?_
  unfold prodX prodY
  by_cases h : i = 2 * x + 1
  · subst h; rw [if_pos rfl, if_pos (by omega)]
  · rw [if_neg h]
    by_cases h2 : i < 2 * x + 1
    · rw [if_pos h2, if_pos (by omega)]
    · rw [if_neg h2, if_neg (by omega)]

theorem infoP : (Try.prog.info? 43).map (fun i => (i.zero, i.size)) = some (some (.agg (Array.replicate 256 (.int .u8 0))), 256) := by kernel_rfl
theorem zeroP (w : World) : (zeroValue 43).run Try.prog w = .ok (.agg (arr 256 fun _ => 0)) w := by rw [← arr_zero]; exact (zero_of_info infoP).1 w
theorem sizeP : (Try.prog.info? 43).map (·.size) = some 256 := (zero_of_info infoP).2
attribute [local irreducible] dblU lowU mulU prodT prodX prodY arr

set_option maxRecDepth 100000 in
set_option maxHeartbeats 1000000 in
theorem products_any (a : UInt8) (w : World) :
    Calls Try.prog 27 #[.int .u8 (ev a)] w fun e w' => e = .returned (.agg (arr 256 (prodT a))) ∧ Below w.heap.size w w' := by
  have hz := zeroP
  go_enter Try.func27, Try.ntmps27
  go_wp2
  rw [prodX_zero a]
  go_loopw [5] (fun vk wr => ∃ k : Nat, k ≤ 128 ∧ vk = .int .i64 k ∧ wr = (w.alloc (.cells (arr 256 (prodX a 0)) 43)).alloc (.cells (arr 256 (prodX a k)) 43)) (fun i _ => 128 - (intOf i).toNat)
  case atStart => exact ⟨0, by omega, rfl, rfl⟩
  case round =>
    obtain ⟨k, hk, rfl, rfl⟩ := hrel
    by_cases hlt : k < 128
    · have hc := arr_get 256 (prodX a k) k (by omega)
      rw [prodX_at] at hc
      have hc1 := arr_get 256 (prodX a k) (2 * k) (by omega)
      have h1 := prod_first a k hlt
      have hc2 := arr_get 256 (prodY a k) (2 * k) (by omega)
      rw [prodY_at] at hc2
      have hc3 := arr_get 256 (prodY a k) (2 * k + 1) (by omega)
      have h2 := prod_second a k hlt
      go_wp2_with fail
      refine (double_any _ _).mono ?_
      rintro e w' ⟨rfl, rfl⟩
      go_wp2_with fail
      refine (add_any _ _ _).mono ?_
      rintro e w' ⟨rfl, rfl⟩
      go_wp2
      go_roundw
      case rel => exact ⟨k + 1, by omega, by go_num, rfl⟩
      case measure => simp [intOf]; omega
    · obtain rfl : k = 128 := by omega
      rw [prodX_all]
      have hsz := Lib.hid (arr_size 256 (prodT a))
      clear hz
      go_wp2_with fail
      refine wp_load_arr (P := Try.prog) 43 (.tmp 3) rfl (w.heap.size + 1) rfl (arr 256 (prodT a)) 256 5 43 ?_ Try.underlying43 (by rw [hsz.out]; exact sizeP) ?_
      · rw [show w.heap.size + 1 = (w.alloc (.cells (arr 256 (prodX a 0)) 43)).heap.size from by simp]
        exact heap_alloc_last _ _
      go_wp2_with fail
      rw [run_storeCells_arr (P := Try.prog) _ w.heap.size 43 (arr 256 (prodX a 0)) (arr 256 (prodT a)) ?_ (by rw [arr_size, arr_size]) (arr_one _ _)]
      · rw [setRow_past_arr _ _ _ _ (by simp), World.setRow_alloc_new]
        simp only [Result.andThen]
        rw [Oper.upon_skip]
        go_wp2_with fail
        refine bodyPost_ret (v := .agg (arr 256 (prodT a))) ?_ rfl ⟨rfl, ((Below.refl _ _).alloc (Nat.le_refl _) _).alloc (by simp) _⟩
        rw [results_cell_arr rfl]
        have hrow := run_loadVar_row (P := Try.prog) ((w.alloc (.cells (arr 256 (prodT a)) 43)).alloc (.cells (arr 256 (prodT a)) 43)) w.heap.size 43 43 (arr 256 (prodT a)) (0, 0) _
          (by rw [heap_past_arr _ _ _ (by simp)]; exact heap_alloc_last _ _) Try.underlying43 rfl (by rw [arr_size]; exact sizeP)
        simp only [Act.put]
        show ((asAddr (.pointer (some ⟨w.heap.size, 0, none⟩))).run Try.prog _).andThen _ = _
        simp only [asAddr, Sem.run_pure, Result.andThen, hrow]
      · rw [heap_past_arr _ _ _ (by simp)]
        exact heap_alloc_last _ _
end Go.Proofs.Ytkeijphhcapkdaa
