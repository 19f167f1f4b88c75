/-
  What is called for each token: by Unpack (it appends), by Size (nothing).
-/
import Derived.Test.YtihiccccpjakgaaZAppTo
import Derived.Test.YtihiccccpjakgaaZNext
namespace Go.Proofs.Ytihiccccpjakgaa
open Go.RowKit
set_option linter.unusedVariables false
set_option linter.unusedSimpArgs false
/-- beside bytes and one block all is as it was; so is what lies below C -/
structure KeepV (C bx : Nat) (w w' : World) : Prop where
  below : Below C w w'
  rest : ∀ (k : Nat) (o : Obj), k ≠ bx → w.heap[k]? = some o → (∀ cs fr, o ≠ Obj.cells cs 5 fr) → w'.heap[k]? = some o
theorem KeepV.refl (C bx : Nat) (w : World) : KeepV C bx w w := ⟨.refl _ _, fun _ _ _ h _ => h⟩
theorem KeepV.trans {C bx : Nat} {a b c : World} (h : KeepV C bx a b) (k : KeepV C bx b c) : KeepV C bx a c := ⟨h.below.trans k.below, fun i o h0 h1 h2 => k.rest i o h0 (h.rest i o h0 h1 h2) h2⟩
theorem KeepU.v {B C bx : Nat} {w w' : World} (h : KeepU B w w') (hC : C ≤ B) : KeepV C bx w w' := ⟨h.below.mono hC, fun k o _ h1 h2 => h.rest k o h1 h2⟩
theorem KeepV.new {C bx : Nat} {w w' : World} (h : Below w.heap.size w w') (hB : C ≤ w.heap.size) : KeepV C bx w w' := (KeepU.new h hB).v (Nat.le_refl _)
theorem KeepV.set {C bx : Nat} {w : World} {i : Nat} {v : Value} (hC : C ≤ bx) : KeepV C bx w (w.setCell ⟨bx, i, none⟩ v) :=
  ⟨(Below.refl _ _).setCell (p := ⟨bx, i, none⟩) hC _, fun k o h0 h1 _ => (Below.heap_setCell w ⟨bx, i, none⟩ v k (fun e => h0 e)).trans h1⟩
theorem KeepV.cell {C bx : Nat} {w w' : World} (h : KeepV C bx w w') {k : Nat} {cs : Array Value} {t : TypeId} {fr : Nat × Nat} (hk : k ≠ bx) (h1 : w.heap[k]? = some (.cells cs t fr)) (ht : t ≠ 5) : w'.heap[k]? = some (.cells cs t fr) :=
  h.rest k _ hk h1 fun cs' fr' e => by cases e; exact ht rfl
/-- block bx holds a slice that owns the bytes l -/
def BoxU (w : World) (B bx : Nat) (l : List UInt8) : Prop := ∃ v, w.heap[bx]? = some (.cells #[v] 22 (0, 0)) ∧ Own w B v l
set_option maxRecDepth 100000 in
set_option maxHeartbeats 600000 in
theorem visit0_any (v : Value) (cs : Array Value) (hv : v = .agg cs) (hcs : cs.size = 3) (w : World) : Calls Try.prog 31 #[v] w fun e w' => e = .returned (.tuple #[]) ∧ Below w.heap.size w w' := by
  subst hv
  go_enter Try.func31, Try.ntmps31
  go_wp2
  go_end0
  exact ⟨rfl, (Below.refl _ _).alloc (Nat.le_refl _) _⟩
theorem Own.ne_box {w : World} {B bx : Nat} {v u : Value} {l : List UInt8} {t : TypeId} (ho : Own w B v l) (hb : w.heap[bx]? = some (.cells #[u] t (0, 0))) (ht : t ≠ 5) : v.ownBlock ≠ some bx := by
  rcases ho.row.2 with ⟨rfl, _⟩ | ⟨g, cap, cur, rfl, _, hg, _⟩
  · intro e; cases e
  · intro e
    cases e
    rw [hb] at hg
    cases hg
    exact ht rfl
theorem BoxU.put {w : World} {B bx : Nat} {u v : Value} {l : List UInt8} (hb : w.heap[bx]? = some (.cells #[u] 22 (0, 0))) (ho : Own w B v l) : BoxU (w.setCell ⟨bx, 0, none⟩ v) B bx l :=
  ⟨v, one_setCell hb, ownsRow_setCell_other ho.row (a := ⟨bx, 0, none⟩) (ho.ne_box hb (by decide)) v⟩
theorem BoxU.below {w w' : World} {B bx : Nat} {l : List UInt8} (h : BoxU w B bx l) (hb : Below w.heap.size w w') : BoxU w' B bx l := by
  obtain ⟨v, h1, h2⟩ := h
  exact ⟨v, (hb.block _ (lt_of_block h1)).trans h1, h2.below hb⟩
set_option maxRecDepth 100000 in
set_option maxHeartbeats 600000 in
theorem visit1_any (B C bx : Nat) (out out' : List UInt8) (n d : Int) (lad : Option Addr) (ln lc : Nat) (w : World) (hb : BoxU w B bx out) (hC : C ≤ B) (hCb : C ≤ bx) (hB : B ≤ w.heap.size)
    (hA : ∀ W v, Below w.heap.size w W → Own W B v out → Calls Try.prog 29 #[tokV n d lad ln lc, v] W (GivesK B W out')) :
    Calls Try.prog 28 #[tokV n d lad ln lc, .pointer (some ⟨bx, 0, none⟩)] w fun e w' => e = .returned (.tuple #[]) ∧ BoxU w' B bx out' ∧ KeepV C bx w w' := by
  have h0 : Below w.heap.size w (w.alloc (.cells #[.int .i64 n, .int .i64 d, .slice lad ln lc] 55)) := (Below.refl _ _).alloc (Nat.le_refl _) _
  obtain ⟨v, hv, ho⟩ := hb
  have hv1 := (h0.block _ (lt_of_block hv)).trans hv
  have hc1 := cell_of_one hv1
  have HA := Lib.hid (hA _ v h0 (ho.below h0))
  have HV := Lib.hid hv1
  have HK := Lib.hid (KeepV.new (C := C) (bx := bx) h0 (Nat.le_trans hC hB))
  have HC := Lib.hid hC
  clear hA hv hv1 h0 ho
  go_enter Try.func28, Try.ntmps28
  go_wp2_with fail
  refine HA.out.mono ?_
  rintro e w2 ⟨v2, rfl, ho2, hk2⟩
  have hv2 := hk2.cell HV.out (by decide)
  have hf2 := free_of_one hv2
  have hc2 := cell_of_one hv2
  obtain ⟨ad2, cap2, rfl, _, _, _, _⟩ := ho2.slice
  have HO2 := Lib.hid ho2
  have HK2 := Lib.hid hk2
  have HV2 := Lib.hid hv2
  clear ho2 hk2 hv2
  go_wp2
  go_end0
  exact ⟨rfl, BoxU.put HV2.out HO2.out, HK.out.trans ((HK2.out.v HC.out).trans (KeepV.set hCb))⟩
end Go.Proofs.Ytihiccccpjakgaa
