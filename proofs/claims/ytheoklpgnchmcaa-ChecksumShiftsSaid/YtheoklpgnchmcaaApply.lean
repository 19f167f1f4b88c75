/-
  The specification's application of a linear operation, given by 32 words.
-/
import Derived.Test.YtheoklpgnchmcaaTabMath
import Derived.Test.YtheoklpgnchmcaaMul
import Derived.Deep.MidRow
namespace Go.Proofs.Ytheoklpgnchmcaa
open Go.RowKit
theorem apB_zero (M : Nat → BitVec 32) (v : BitVec 32) : Value.int .u32 0 = .int .u32 (iv (apB M v 0)) := zero_u32
theorem apB_yes (M : Nat → BitVec 32) (v : BitVec 32) (k : Nat) (h : v.getLsbD k = true) : apB M v (k + 1) = apB M v k ^^^ M k := by simp only [apB, h, if_true]
theorem apB_no (M : Nat → BitVec 32) (v : BitVec 32) (k : Nat) (h : ¬ v.getLsbD k = true) : apB M v (k + 1) = apB M v k := by simp only [apB]; rw [if_neg h]
attribute [local irreducible] apB row32 stepTab

set_option maxRecDepth 100000 in
set_option maxHeartbeats 2000000 in
theorem apply_any (M : Nat → BitVec 32) (v : BitVec 32) (w : World) :
    Calls Try.prog 30 #[.agg (row32 M).toArray, .int .u32 (iv v)] w fun e w' => e = .returned (.int .u32 (iv (apB M v 32))) ∧ w' = w.alloc (.cells (row32 M).toArray 49) := by
  go_enter Try.func30, Try.ntmps30
  go_wp2_with fail
  go_loop [5, 6] (fun vo vk => ∃ k : Nat, k ≤ 32 ∧ vk = .int .i64 k ∧ vo = .int .u32 (iv (apB M v k))) (fun _ i => 32 - (intOf i).toNat)
  case atStart => exact ⟨0, by omega, rfl, apB_zero M v⟩
  case round =>
    obtain ⟨k, hk, rfl, rfl⟩ := hrel
    by_cases hlt : k < 32
    · by_cases hb : v.getLsbD k = true
      · have ht : (iv v / 2 ^ k).tmod 2 = 1 := by rw [iv_shrk, Int.tmod_eq_emod_of_nonneg (iv_lo _), lsb_iv, BitVec.getLsbD_ushiftRight, Nat.add_zero, if_pos hb]
        have hg := row32_get M k hlt
        have hx : bits .xor .u32 (iv (apB M v k)) (iv (M k)) = iv (apB M v (k + 1)) := by rw [bits_xor_iv, apB_yes M v k hb]
        clear hb
        go_wp2
        go_round
        case rel => exact ⟨k + 1, by omega, by go_num, rfl⟩
        case measure => simp [intOf]; omega
      · have ht : (iv v / 2 ^ k).tmod 2 = 0 := by rw [iv_shrk, Int.tmod_eq_emod_of_nonneg (iv_lo _), lsb_iv, BitVec.getLsbD_ushiftRight, Nat.add_zero, if_neg hb]
        have HN := Lib.hid (apB_no M v k hb)
        clear hb
        go_wp2
        go_round
        case rel => exact ⟨k + 1, by omega, by go_num, by rw [HN.out]⟩
        case measure => simp [intOf]; omega
    · obtain rfl : k = 32 := by omega
      go_wp2
      go_ret
      exact ⟨rfl, rfl⟩

/-- A whole array out of a block, whichever block it is, in a plain region's list. -/
theorem wpList_load_row {P : Program} {ops : Array Oper} {rest : List Oper} {o : Oper} {a : Act} {w : World} {Q : Exit → Act → World → Prop} (hgd : o.guard = none) (ty : TypeId) (x : Operand) (ho : o.op = .load ty x)
    (g : Nat) (hx : a.eval x = .pointer (some ⟨g, 0, none⟩)) (cs : Array Value) (n : Nat) (e t : TypeId) (hg : w.heap[g]? = some (.cells cs t (0, 0)))
    (hu : P.underlying ty = some (.array n e)) (hi : (P.info? ty).map (·.size) = some cs.size)
    (h : wpList P ops Q rest (a.put o.dst (.agg cs)) w) : wpList P ops Q (o :: rest) a w :=
  wpList_plain hgd fun _ hK => wp_load_row ty x ho g hx cs n e t hg hu hi (hK _ _ h)
/-- A whole array into the block that was made last. -/
theorem wpList_store_last {P : Program} {ops : Array Oper} {rest : List Oper} {o : Oper} {a : Act} {w : World} {Q : Exit → Act → World → Prop} (hgd : o.guard = none) (ty : TypeId) (x y : Operand) (ho : o.op = .store ty x y)
    (g : Nat) (hgw : g = w.heap.size) (hx : a.eval x = .pointer (some ⟨g, 0, none⟩)) (cs old : Array Value) (hy : a.eval y = .agg cs) (t : TypeId)
    (hi : (P.info? ty).map (·.size) = some cs.size) (hs : old.size = cs.size) (h1 : cs.all (·.oneCell') = true)
    (h : wpList P ops Q rest (a.put o.dst undef) (w.alloc (.cells cs t))) : wpList P ops Q (o :: rest) a (w.alloc (.cells old t)) := by
  subst hgw
  refine wpList_plain hgd fun _ hK => wp_store_row (P := P) ty x y ho w.heap.size hx cs old hy t (heap_alloc_last _ _) hi hs h1 (hK _ _ ?_)
  rw [World.setRow_alloc_new]
  exact h
/-- A whole array into a block, whichever block it is. -/
theorem wpList_store_row {P : Program} {ops : Array Oper} {rest : List Oper} {o : Oper} {a : Act} {w : World} {Q : Exit → Act → World → Prop} (hgd : o.guard = none) (ty : TypeId) (x y : Operand) (ho : o.op = .store ty x y)
    (g : Nat) (hx : a.eval x = .pointer (some ⟨g, 0, none⟩)) (cs old : Array Value) (hy : a.eval y = .agg cs) (t : TypeId) (hg : w.heap[g]? = some (.cells old t (0, 0)))
    (hi : (P.info? ty).map (·.size) = some cs.size) (hs : old.size = cs.size) (h1 : cs.all (·.oneCell') = true)
    (h : wpList P ops Q rest (a.put o.dst undef) (w.setRow g cs)) : wpList P ops Q (o :: rest) a w :=
  wpList_plain hgd fun _ hK => wp_store_row (P := P) ty x y ho g hx cs old hy t hg hi hs h1 (hK _ _ h)
theorem heap_setRow_same (w : World) (g : Nat) (cs old : Array Value) (t : TypeId) (hg : w.heap[g]? = some (.cells old t (0, 0))) : (w.setRow g cs).heap[g]? = some (.cells cs t (0, 0)) := by
  simp only [World.setRow, Array.getElem?_modify, if_true, hg]
  rfl
theorem heap_setRow_other (w : World) (g k : Nat) (cs : Array Value) (h : g ≠ k) : (w.setRow g cs).heap[k]? = w.heap[k]? := by
  simp only [World.setRow, Array.getElem?_modify, if_neg h]
theorem below_setRow' {B g : Nat} {W w : World} (h : Below B W w) (hg : B ≤ g) (cs : Array Value) : Below B W (w.setRow g cs) :=
  ⟨h.os, h.tape, h.output, by have := h.size; simpa [World.setRow] using this, fun k hk => by rw [heap_setRow_other w g k cs (by omega)]; exact h.block k hk⟩
theorem heap_setCell_other' (w : World) (g j k : Nat) (u : Value) (h : g ≠ k) : (w.setCell ⟨g, j, none⟩ u).heap[k]? = w.heap[k]? := by
  exact Below.heap_setCell w ⟨g, j, none⟩ u k (fun e => h e.symm)
theorem heap_setCell_row (w : World) (g j : Nat) (M : Nat → BitVec 32) (v : BitVec 32) (t : TypeId) (hg : w.heap[g]? = some (.cells (row32 M).toArray t (0, 0))) :
    (w.setCell ⟨g, j, none⟩ (.int .u32 (iv v))).heap[g]? = some (.cells (row32 fun i => if i = j then v else M i).toArray t (0, 0)) := by
  rw [heap_setCell_same w g j (row32 M).toArray t _ hg]
  congr 2
  rw [← row32_set]
  simp
end Go.Proofs.Ytheoklpgnchmcaa
