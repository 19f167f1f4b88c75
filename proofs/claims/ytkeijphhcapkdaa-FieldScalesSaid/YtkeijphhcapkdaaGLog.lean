/-
  The program's powers of the generator and their exponents are those of the plain mathematics.
-/
import Derived.Test.YtkeijphhcapkdaaGTab
import Derived.Test.YtkeijphhcapkdaaHeld
namespace Go.Proofs.Ytkeijphhcapkdaa
open Go.RowKit

/-- Block g is the array of the bytes T. -/
def Arr (w : World) (g : Nat) (t : TypeId) (n : Nat) (T : Nat → UInt8) : Prop := w.heap[g]? = some (.cells (arr n T) t (0, 0))
theorem Arr.lt {w : World} {g : Nat} {t : TypeId} {n : Nat} {T : Nat → UInt8} (h : Arr w g t n T) : g < w.heap.size := (Array.getElem?_eq_some_iff.1 h).1
theorem Arr.cell {w : World} {g : Nat} {t : TypeId} {n : Nat} {T : Nat → UInt8} (h : Arr w g t n T) (i : Nat) (hi : i < n) : w.cell? ⟨g, i, none⟩ = some (.int .u8 (ev (T i))) := by
  rw [cell_of_row w g i _ t (0, 0) h]; exact arr_get n T i hi
theorem Arr.frozen {w : World} {g : Nat} {t : TypeId} {n : Nat} {T : Nat → UInt8} (h : Arr w g t n T) (i : Nat) : w.frozen? ⟨g, i, none⟩ = false := by
  unfold Arr at h
  simp [World.frozen?, h]
theorem Arr.set_ {w : World} {g : Nat} {t : TypeId} {n : Nat} {T T' : Nat → UInt8} (h : Arr w g t n T) (i : Nat) (v : UInt8) (hT : ∀ j, j < n → T' j = if j = i then v else T j) : Arr (w.setCell ⟨g, i, none⟩ (.int .u8 (ev v))) g t n T' := by
  unfold Arr at h ⊢
  rw [arr_congr n T' _ hT, ← arr_set]
  simp [World.setCell, Array.getElem?_modify, h]
theorem Arr.other {w : World} {g b i : Nat} {t : TypeId} {n : Nat} {T : Nat → UInt8} {u : Value} (h : Arr w g t n T) (hne : b ≠ g) : Arr (w.setCell ⟨b, i, none⟩ u) g t n T := by
  unfold Arr at h ⊢
  simp [World.setCell, Array.getElem?_modify, h, hne]
theorem Arr.below {w w' : World} {g B : Nat} {t : TypeId} {n : Nat} {T : Nat → UInt8} (h : Arr w g t n T) (hb : Below B w w') (hg : g < B) : Arr w' g t n T := (hb.block g hg).trans h
theorem Arr.congr {w : World} {g : Nat} {t : TypeId} {n : Nat} {T T' : Nat → UInt8} (h : Arr w g t n T) (e : ∀ i, i < n → T' i = T i) : Arr w g t n T' := by
  unfold Arr
  rw [arr_congr n T' T e]
  exact h
theorem Arr.drewN {w : World} {g m : Nat} {t : TypeId} {n : Nat} {T : Nat → UInt8} (h : Arr w g t n T) : Arr (w.drewN m) g t n T := h
theorem Arr.drew {w : World} {g : Nat} {t : TypeId} {n : Nat} {T : Nat → UInt8} (h : Arr w g t n T) : Arr w.drew g t n T := h
theorem Arr.new (w : World) (t : TypeId) (n : Nat) (T : Nat → UInt8) : Arr (w.alloc (.cells (arr n T) t)) w.heap.size t n T := heap_alloc_last _ _
theorem Arr.past {w : World} {g : Nat} {t : TypeId} {n : Nat} {T : Nat → UInt8} (h : Arr w g t n T) (o : Obj) : Arr (w.alloc o) g t n T := (heap_past_arr w o g h.lt).trans h
/-- the whole array is stored where it lies: nothing changes -/
theorem setRow_self {w : World} {g : Nat} {cs : Array Value} {t : TypeId} {fr : Nat × Nat} (h : w.heap[g]? = some (.cells cs t fr)) : w.setRow g cs = w := by
  unfold World.setRow
  congr 1
  apply Array.ext_getElem?
  intro i
  rw [Array.getElem?_modify]
  by_cases e : g = i
  · subst e; rw [if_pos rfl, h]; rfl
  · rw [if_neg e]

theorem load_arr {P : Program} {o : Oper} {a : Act} {ty : TypeId} {w : World} {g : Nat} {t : TypeId} {n : Nat} {T : Nat → UInt8} {d : TypeDesc} (x : Operand) (ho : o.op = .load ty x) (hg : Arr w g t n T) (hu : P.underlying ty = some d)
    (hd : (match d with | .struct _ | .array _ _ => true | _ => false) = true) (hi : (P.info? ty).map (·.size) = some (arr n T).size) (hx : a.eval x = .pointer (some ⟨g, 0, none⟩) := by rfl) :
    (execOp a.eval o).run P w = .ok (.value (.agg (arr n T))) w := by
  unfold execOp
  simp only [ho, hx, Instr.loadAt, Instr.sureAddr, Sem.run_bind, Sem.run_pure, Result.andThen_ok, run_loadVar_row w g t ty _ (0, 0) d hg hu hd hi]
theorem wp_store_self {P : Program} {op : Oper} {a : Act} {w : World} {K : Act → World → Prop} {Q : Exit → Act → World → Prop} (ty : TypeId) (x y : Operand) (ho : op.op = .store ty x y)
    (g : Nat) (hx : a.eval x = .pointer (some ⟨g, 0, none⟩)) (cs : Array Value) (hy : a.eval y = .agg cs) (t : TypeId) (hg : w.heap[g]? = some (.cells cs t (0, 0)))
    (hi : (P.info? ty).map (·.size) = some cs.size) (h1 : cs.all (·.oneCell') = true) (h : K (a.put op.dst undef) w) : op.wp P a w K Q := by
  unfold Oper.wp execOp
  simp only [ho, hx, hy, Instr.storeAt, Instr.sureAddr, Sem.run_bind, Sem.run_pure, Result.andThen_ok, run_storeVar_row w g t ty cs cs hg hi rfl h1, setRow_self hg]
  exact h
theorem results_cell_two {fn : Func} {p q : Tmp} {ty uy : TypeId} (h : fn.results = #[.cell p ty, .cell q uy]) (tmps : Array Value) (P : Program) (w : World) :
    (results fn tmps).run P w = ((asAddr (tmps.getD p undef)).run P w).andThen fun a w₁ => ((loadVar ty a).run P w₁).andThen fun v w₂ => ((asAddr (tmps.getD q undef)).run P w₂).andThen fun b w₃ => ((loadVar uy b).run P w₃).andThen fun u w₄ => .ok (.tuple #[v, u]) w₄ := by
  simp only [results, h]
  simp [Sem.run_bind, Result.andThen]

def powX (k i : Nat) : UInt8 := if i < k then gp i else 0
def expX (k i : Nat) : UInt8 := UInt8.ofNat (expA k (UInt8.ofNat i))
def expT (i : Nat) : UInt8 := UInt8.ofNat (logU (UInt8.ofNat i))
theorem powX_next (k j : Nat) : powX (k + 1) j = if j = k then gp k else powX k j := by
  unfold powX
  by_cases h : j = k
  · subst h; rw [if_pos (by omega), if_pos rfl]
  · rw [if_neg h]
    by_cases h2 : j < k
    · rw [if_pos h2, if_pos (by omega)]
    · rw [if_neg h2, if_neg (by omega)]
theorem expX_next (k j : Nat) (hj : j < 256) : expX (k + 1) j = if j = (gp k).toNat then UInt8.ofNat k else expX k j := by
  unfold expX
  have e : (UInt8.ofNat j = gp k) ↔ j = (gp k).toNat := by
    constructor
    · intro h; rw [← h, UInt8.toNat_ofNat']; omega
    · intro h; rw [h, UInt8.ofNat_toNat]
  simp only [expA]
  by_cases h : j = (gp k).toNat
  · rw [if_pos (e.2 h), if_pos h]
  · rw [if_neg (fun h' => h (e.1 h')), if_neg h]
theorem powX_all (i : Nat) (hi : i < 255) : gp i = powX 255 i := by unfold powX; rw [if_pos hi]

theorem expT_all (i : Nat) (_ : i < 256) : expT i = expX 255 i := rfl
theorem gp_next (k : Nat) : dblU (gp k) = gp (k + 1) := rfl
theorem infoE : (Try.prog.info? 42).map (fun i => (i.zero, i.size)) = some (some (.agg (Array.replicate 255 (.int .u8 0))), 255) := by kernel_rfl
theorem zeroE (w : World) : (zeroValue 42).run Try.prog w = .ok (.agg (arr 255 fun _ => 0)) w := by rw [← arr_zero]; exact (zero_of_info infoE).1 w
theorem sizeE : (Try.prog.info? 42).map (·.size) = some 255 := (zero_of_info infoE).2
theorem start_pow : arr 255 (fun _ => 0) = arr 255 (powX 0) := arr_congr _ _ _ fun i _ => by simp [powX]
theorem start_exp : arr 256 (fun _ => 0) = arr 256 (expX 0) := arr_congr _ _ _ fun i _ => by simp [expX, expA]
attribute [local irreducible] dblU lowU mulU powX expX expT arr gp expA

set_option maxRecDepth 100000 in
set_option maxHeartbeats 1000000 in
theorem logs_any (w : World) :
    Calls Try.prog 26 #[] w fun e w' => e = .returned (.tuple #[.agg (arr 255 gp), .agg (arr 256 expT)]) ∧ Below w.heap.size w w' := by
  have hz := zeroP
  have hz2 := zeroE
  go_enter Try.func26, Try.ntmps26
  go_wp2
  rw [start_pow, start_exp]
  clear hz hz2
  go_loopw [2, 4] (fun ve vk wr => ∃ k : Nat, k ≤ 255 ∧ vk = .int .i64 k ∧ ve = .int .u8 (ev (gp k)) ∧ Hid (Arr wr w.heap.size 42 255 (powX k)) ∧ Hid (Arr wr (w.heap.size + 1) 43 256 (expX k)) ∧ Hid (Below w.heap.size w wr)) (fun _ i _ => 255 - (intOf i).toNat)
  case atStart => exact ⟨0, by omega, rfl, by simp [gp, ev_one], Lib.hid ((Arr.new _ _ _ _).past _), Lib.hid (by have := Arr.new (w.alloc (.cells (arr 255 (powX 0)) 42)) 43 256 (expX 0); simpa using this), Lib.hid (((Below.refl _ _).alloc (Nat.le_refl _) _).alloc (by simp) _)⟩
  case round =>
    obtain ⟨k, hk, rfl, rfl, hp, he, hb⟩ := hrel
    by_cases hlt : k < 255
    · have hpc := hp.out.cell k hlt
      have hpf := hp.out.frozen k
      have x0 := ev_lo (gp k)
      have x1 := ev_hi (gp k)
      have hj : (ev (gp k)).toNat = (gp k).toNat := by rw [ev_nat]; rfl
      have hec := he.out.cell (ev (gp k)).toNat (by omega)
      have hef := he.out.frozen (ev (gp k)).toNat
      have HJ := Lib.hid hj
      clear hj
      have HP : Hid (Arr ((wr.setCell ⟨w.heap.size, k, none⟩ (.int .u8 (ev (gp k)))).setCell ⟨w.heap.size + 1, (ev (gp k)).toNat, none⟩ (.int .u8 (k : Int))) w.heap.size 42 255 (powX (k + 1))) :=
        Lib.hid ((hp.out.set_ k (gp k) (fun j _ => powX_next k j)).other (by omega))
      have HE : Hid (Arr ((wr.setCell ⟨w.heap.size, k, none⟩ (.int .u8 (ev (gp k)))).setCell ⟨w.heap.size + 1, (ev (gp k)).toNat, none⟩ (.int .u8 (k : Int))) (w.heap.size + 1) 43 256 (expX (k + 1))) :=
        Lib.hid (by rw [ev_lit k (by omega), HJ.out]; exact (he.out.other (by omega)).set_ _ (UInt8.ofNat k) (fun j hj => expX_next k j hj))
      have HB : Hid (Below w.heap.size w ((wr.setCell ⟨w.heap.size, k, none⟩ (.int .u8 (ev (gp k)))).setCell ⟨w.heap.size + 1, (ev (gp k)).toNat, none⟩ (.int .u8 (k : Int)))) :=
        Lib.hid ((hb.out.setCell (Nat.le_refl _) _).setCell (by show w.heap.size ≤ w.heap.size + 1; omega) _)
      have HG : Hid (Value.int .u8 (ev (dblU (gp k))) = .int .u8 (ev (gp (k + 1)))) := Lib.hid (by rw [gp_next])
      clear hp he hb
      go_wp2_with fail
      refine (double_any _ _).mono ?_
      rintro e w' ⟨rfl, rfl⟩
      clear hpc hpf hec hef
      generalize World.setCell (World.setCell wr _ _) _ _ = w2 at HP HE HB ⊢
      go_wp2
      go_roundw
      case rel => exact ⟨k + 1, by omega, by go_num, HG.out, HP, HE, HB⟩
      case measure => simp [intOf]; omega
    · obtain rfl : k = 255 := by omega
      have HP : Hid (Arr wr w.heap.size 42 255 gp) := Lib.hid (hp.out.congr powX_all)
      have HE : Hid (Arr wr (w.heap.size + 1) 43 256 expT) := Lib.hid (he.out.congr expT_all)
      clear hp he
      go_wp2_with fail
      refine wp_region_noPanic ?_
      refine wp_region_held_drew (S := fun w' => w' = wr.drew) (by kernel_rfl) rfl (fun hHeld => ?_)
      refine held_take (i := 0) (v := .agg (arr 255 gp)) rfl (by kernel_rfl) (by kernel_rfl) (by kernel_rfl) (fun _ _ _ h => h) (by rfl) ?_ rfl ?_
      · rintro w' rfl
        exact load_arr _ rfl HP.out.drew (Try.underlying42) rfl (by rw [arr_size]; exact sizeE)
      simp only [Act.put, List.setIfInBounds_toArray, List.set_cons_zero, List.set_cons_succ]
      refine held_take (i := 1) (v := .agg (arr 256 expT)) rfl (by kernel_rfl) (by kernel_rfl) (by kernel_rfl) (fun _ _ _ h => h) (by rfl) ?_ rfl ?_
      · rintro w' rfl
        exact load_arr _ rfl HE.out.drew (Try.underlying43) rfl (by rw [arr_size]; exact sizeP)
      simp only [Act.put, List.setIfInBounds_toArray, List.set_cons_zero, List.set_cons_succ]
      refine held_call (i := 2) rfl (by kernel_rfl) (by rfl) (fun K' hK' => ?_)
      refine wp_store_self 42 (.tmp 0) (.tmp 17) rfl w.heap.size rfl (arr 255 gp) rfl 42 HP.out.drew (by rw [arr_size]; exact sizeE) (arr_one _ _) ?_
      refine hK'.out _ _ rfl (fun _ => ?_)
      refine held_call (i := 3) rfl (by kernel_rfl) (by rfl) (fun K' hK' => ?_)
      refine wp_store_self 43 (.tmp 1) (.tmp 18) rfl (w.heap.size + 1) rfl (arr 256 expT) rfl 43 HE.out.drew (by rw [arr_size]; exact sizeP) (arr_one _ _) ?_
      refine hK'.out _ _ rfl (fun _ => ?_)
      refine wpAnyH_done (by kernel_rfl) ?_ _
      simp only [Act.put]
      refine NoPanic.normal ?_
      go_wp2_with fail
      refine bodyPost_ret (v := .tuple #[.agg (arr 255 gp), .agg (arr 256 expT)]) ?_ rfl ⟨rfl, hb.out.drew⟩
      rw [results_cell_two rfl]
      have h1 := run_loadVar_row (P := Try.prog) wr.drew w.heap.size 42 42 _ (0, 0) _ HP.out.drew Try.underlying42 rfl (by rw [arr_size]; exact sizeE)
      have h2 := run_loadVar_row (P := Try.prog) wr.drew (w.heap.size + 1) 43 43 _ (0, 0) _ HE.out.drew Try.underlying43 rfl (by rw [arr_size]; exact sizeP)
      show ((asAddr (.pointer (some ⟨w.heap.size, 0, none⟩))).run Try.prog _).andThen (fun a w₁ => ((loadVar 42 a).run Try.prog w₁).andThen fun v w₂ => ((asAddr (.pointer (some ⟨w.heap.size + 1, 0, none⟩))).run Try.prog w₂).andThen fun b w₃ => ((loadVar 43 b).run Try.prog w₃).andThen fun u w₄ => Result.ok (Value.tuple #[v, u]) w₄) = _
      simp only [asAddr, Sem.run_pure, Result.andThen, h1, h2]
end Go.Proofs.Ytkeijphhcapkdaa
