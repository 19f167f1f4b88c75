/-
  append(x, make([]byte, k)...): the number k stands in the place of a slice; zeros behind the bytes of a slice of the call's own.
-/
import Derived.Test.YtinfjidclkgfnaaQMem
import Derived.Lib.AppendZerosOnto
namespace Go.Proofs.Ytinfjidclkgfnaa
open Go.RowKit
theorem zeros_eq (k : Nat) : (Builtin.zeroCells (Value.int .u8 0).cells k).toList = cellsU (List.replicate k 0) := by
  apply List.ext_getElem
  · simp [Builtin.zeroCells, cellsU, Value.cells]
  · intro i h1 h2
    simp [Builtin.zeroCells, cellsU, Value.cells, Nat.mod_one]
theorem run_append_zeros (w : World) (B : Nat) (ty : TypeId) (v : Value) (ys : List UInt8) (hown : Own w B v ys) (k : Nat) (hlen : ys.length + k ≤ 10000000) (hbase : B ≤ w.heap.size) :
    ∃ v' w', (Builtin.append_ #[33, 3] ty #[v, .int .i64 k]).run Try.prog w = .ok v' w' ∧ Own w' B v' (ys ++ List.replicate k 0) ∧ w.grownBy w' v.ownBlock := by
  obtain ⟨i, hi, hz0, hz1, hz2⟩ := info_u
  have hw : IntKind.i64.wrap (k : Int) = k := by rw [IntKind.wrap_i64]; omega
  have hneg : ¬ ((k : Int) < 0) := by omega
  have h48i : ¬ (281474976710656 < (k : Int) * (i.bytes : Int)) := by rw [hz2]; omega
  have hl : (cellsU (ys ++ List.replicate k 0)).length = (ys.length + k) * 1 := by rw [cellsU_length]; simp
  suffices hs : ∃ v' w', (Builtin.append_ #[33, 3] ty #[v, .int .i64 k]).run Try.prog w = .ok v' w' ∧ w'.ownsRow B 5 1 v' (ys.length + k) (cellsU (ys ++ List.replicate k 0)) ∧ w.grownBy w' v.ownBlock by
    obtain ⟨v', w', h1, h2, h3⟩ := hs
    refine ⟨v', w', h1, ?_, h3⟩
    unfold Own
    rw [List.length_append, List.length_replicate]
    exact h2
  have same : w.ownsRow B 5 1 v (ys.length + 0) (cellsU (ys ++ List.replicate 0 0)) := by simpa using hown.row
  rcases hown.row.2 with ⟨rfl, h0⟩ | ⟨g, cap, cur, rfl, hbg, hg, hnc, hcm, hcs, htake⟩
  · have hy : ys = [] := List.eq_nil_of_length_eq_zero h0
    subst hy
    rcases Nat.eq_zero_or_pos k with rfl | hk
    · refine ⟨.slice none 0 0, w, ?_, same, ⟨rfl, rfl, rfl, Nat.le_refl _, fun _ _ _ => rfl⟩⟩
      simp [Builtin.append_, run_underlying Try.underlying33, run_underlying Try.underlying3, sizeOf, typeInfo, hi, asInt, asIntOf, IntKind.wrap_i64]
    · have hr := Lib.run_append_nil_zeros (P := Try.prog) w 33 3 ty 5 i (.int .u8 0) .i64 _ Try.underlying33 Try.underlying3 hi hz0 k hk (by omega) (by omega) (by rw [hz2]; omega)
      have hge := grownCap_ge w k 0 5
      have hcm : grownCap w k 0 5 ≤ maxLen := grownCap_le_maxLen w k 0 5 (by unfold maxLen; omega)
      refine ⟨_, _, hr, ⟨hl, .inr ⟨w.heap.size, _, _, by rw [show ([] : List UInt8).length + k = k by simp], hbase, heap_alloc_new w.drew _, by simpa using hge, hcm, ?_, ?_⟩⟩, ⟨rfl, rfl, rfl, by simp, fun j hj _ => heap_alloc_old w.drew _ hj⟩⟩
      · simp only [Array.size_append, size_zeroCells]
        have : (Value.int IntKind.u8 0).cells.size = 1 := rfl
        rw [this]; omega
      · rw [Array.toList_append, zeros_eq, List.nil_append]
        rw [List.take_left' (by rw [cellsU_length]; simp)]
  · have hly : (cellsU ys).length = ys.length * 1 := by rw [cellsU_length]; omega
    rcases Nat.eq_zero_or_pos k with rfl | hk
    · refine ⟨_, w, ?_, same, ⟨rfl, rfl, rfl, Nat.le_refl _, fun _ _ _ => rfl⟩⟩
      simp [Builtin.append_, run_underlying Try.underlying33, run_underlying Try.underlying3, sizeOf, typeInfo, hi, asInt, asIntOf, IntKind.wrap_i64, hnc, storeCells]
    · by_cases hroom : ys.length + k ≤ cap
      · have hk0 : k ≠ 0 := by omega
        have hst := run_storeCells_at Try.prog g (ys.length * 1) 5 (cellsU (List.replicate k 0)) 0 cur w hg (by rw [cellsU_length]; simp; omega) (cellsU_one _)
        simp only [Nat.add_zero] at hst
        refine ⟨.slice (some ⟨g, 0, none⟩) (ys.length + k) cap, w.setRow g (cur.toList.take (ys.length * 1) ++ cellsU (List.replicate k 0) ++ cur.toList.drop (ys.length * 1 + (cellsU (List.replicate k 0)).length)).toArray, ?_, ⟨hl, .inr ⟨g, cap, _, rfl, hbg, setRow_heap w g cur _ 5 _ hg, hroom, hcm, ?_, ?_⟩⟩, ⟨rfl, rfl, rfl, by simp, fun j _ hj => setRow_other w g j _ (fun e => hj (by simp [Value.ownBlock, e]))⟩⟩
        · have h48j : ¬ (281474976710656 < (k : Int)) := by omega
          rw [Nat.mul_one] at hst
          simp [Builtin.append_, run_underlying Try.underlying33, run_underlying Try.underlying3, sizeOf, typeInfo, asInt, asIntOf, hi, hw, hneg, h48j, hk0, hroom, zeroValue, hz0, hz1, hz2, Addr.add_lit, zeros_eq, hst]
        · simp only [List.size_toArray, List.length_append, List.length_take, List.length_drop, Array.length_toList, cellsU_length, List.length_replicate]
          omega
        · rw [htake, cellsU_append]
          exact List.take_left' (by rw [cellsU_length]; simp)
      · have hold : (Builtin.firstCells i.size ys.length (.slice (some ⟨g, 0, none⟩) ys.length cap)).run Try.prog w.drew = .ok (cellsU ys).toArray w.drew := by
          refine run_firstCells_some (P := Try.prog) w.drew i.size ys.length ⟨g, 0, none⟩ ys.length cap (cellsU ys) (by rw [hz1]; exact hly) ?_
          exact hown.row.cells (g := g) rfl
        have hfit : Builtin.nextslicecap (ys.length + k) cap * i.bytes ≤ 281474976710656 := growslice_fits (by omega) (by rw [hz2]; omega)
        have hr := Lib.run_append_grow_zeros (P := Try.prog) w 33 3 ty 5 i (.int .u8 0) .i64 _ Try.underlying33 Try.underlying3 hi hz0 (some ⟨g, 0, none⟩) ys.length cap (cellsU ys) hold k hk (by omega) (by omega) (by omega) (by rw [hz2]; omega) hfit
        have hge := grownCap_ge w (ys.length + k) cap 5
        have hcm2 : grownCap w (ys.length + k) cap 5 ≤ maxLen := grownCap_le_maxLen w (ys.length + k) cap 5 (by unfold maxLen; omega)
        refine ⟨_, _, hr, ⟨hl, .inr ⟨w.heap.size, _, _, rfl, hbase, heap_alloc_new w.drew _, hge, hcm2, ?_, ?_⟩⟩, ⟨rfl, rfl, rfl, by simp, fun j hj _ => heap_alloc_old w.drew _ hj⟩⟩
        · simp only [Array.size_append, size_zeroCells, List.size_toArray, cellsU_length]
          have : (Value.int IntKind.u8 0).cells.size = 1 := rfl
          rw [this]; omega
        · simp only [Array.toList_append, zeros_eq, cellsU_append]
          rw [← cellsU_append]
          exact List.take_left' (by rw [cellsU_length]; simp)
theorem wpList_append_z {w : World} {ops : Array Oper} {rest : List Oper} {o : Oper} {a : Act} {Q : Exit → Act → World → Prop} (hgd : o.guard = none) (s x : Operand)
    (ho : o.op = .call { callee := .builtin .append, args := #[s, x], argTypes := #[33, 3] })
    (B : Nat) (v : Value) (ys : List UInt8) (hs : a.eval s = v) (hown : Own w B v ys) (k : Nat) (hx : a.eval x = .int .i64 k) (hlen : ys.length + k ≤ 10000000) (hbase : B ≤ w.heap.size)
    (h : ∀ v' w', Own w' B v' (ys ++ List.replicate k 0) → w.grownBy w' v.ownBlock → wpList Try.prog ops Q rest (a.put o.dst v') w') : wpList Try.prog ops Q (o :: rest) a w := by
  obtain ⟨v', w', hr, h1, h2⟩ := run_append_zeros w B o.type v ys hown k hlen hbase
  exact Lib.wpList_append_run w hgd s x _ _ ho v _ hs hx v' w' hr (h v' w' h1 h2)
end Go.Proofs.Ytinfjidclkgfnaa
