/-
  The examples of the chapter: the function that checks them answers true, and lays new memory only.
-/
import Derived.Test.YtheoklpgnchmcaaWeak
import Derived.Lib.SlBytesConst
namespace Go.Proofs.Ytheoklpgnchmcaa
open Go.RowKit

theorem below_three (w : World) (a b c : Obj) : Below w.heap.size w (((w.alloc a).alloc b).alloc c) :=
  (((Below.refl _ _).alloc (Nat.le_refl _) _).alloc (by simp) _).alloc (by simp; omega) _
theorem below_after {W w' : World} {o : Obj} (h : Below (W.alloc o).heap.size (W.alloc o) w') : Below W.heap.size W w' :=
  ((Below.refl _ _).alloc (Nat.le_refl _) o).trans (h.mono (by simp))
def bytesOf (ns : List Nat) : List (BitVec 32) := ns.map (BitVec.ofNat 32)
theorem bytesOf_get (ns : List Nat) (j : Nat) (h : j < ns.length) (hb : ∀ n ∈ ns, n < 256) : iv ((bytesOf ns).getD j 0#32) = (ns[j] : Int) := by
  have hj : (bytesOf ns).getD j 0#32 = BitVec.ofNat 32 ns[j] := by simp [bytesOf, h]
  have := hb ns[j] (List.getElem_mem h)
  rw [hj, iv_ofNat _ (by omega)]
theorem lies_new (W : World) (ns : List Nat) (C : Array Value) (t : TypeId) (fr : Nat × Nat) (hC : C = (ns.map fun n : Nat => Value.int .u8 (n : Int)).toArray) (hb : ∀ n ∈ ns, n < 256) :
    Lies (W.alloc (.cells C t fr)) (some ⟨W.heap.size, 0, none⟩) (bytesOf ns) := by
  have hlen : (bytesOf ns).length = ns.length := by simp [bytesOf]
  refine ⟨fun j hj => ?_, .inr ⟨W.heap.size, 0, rfl, by simp, fun j hj => ?_⟩⟩
  · rw [hlen] at hj
    have := hb ns[j] (List.getElem_mem hj)
    rw [bytesOf_get ns j hj hb]
    omega
  · rw [hlen] at hj
    rw [Nat.zero_add, World.cell?_alloc_mark, bytesOf_get ns j hj hb, hC]
    simp [hj]
theorem sum_new (W : World) (ns : List Nat) (C : Array Value) (t : TypeId) (fr : Nat × Nat) (n cap : Nat) (hC : C = (ns.map fun n : Nat => Value.int .u8 (n : Int)).toArray) (hn : n = (bytesOf ns).length) (hl : n ≤ 100) (hb : ∀ n ∈ ns, n < 256) :
    Calls Try.prog 12 #[.slice (some ⟨W.heap.size, 0, none⟩) n cap] (W.alloc (.cells C t fr)) fun e w' => e = .returned (.int .u32 (iv (updB 0#32 (bytesOf ns)))) ∧ Below W.heap.size W w' := by
  subst hn
  refine (sum_any _ cap (bytesOf ns) _ (lies_new W ns C t fr hC hb) (by omega)).mono ?_
  rintro e w' ⟨rfl, rfl⟩
  exact ⟨rfl, below_after (below_three _ _ _ _)⟩
theorem upd_new (s : BitVec 32) (W : World) (ns : List Nat) (C : Array Value) (t : TypeId) (fr : Nat × Nat) (n cap : Nat) (hC : C = (ns.map fun n : Nat => Value.int .u8 (n : Int)).toArray) (hn : n = (bytesOf ns).length) (hl : n ≤ 100) (hb : ∀ n ∈ ns, n < 256) :
    Calls Try.prog 14 #[.int .u32 (iv s), .slice (some ⟨W.heap.size, 0, none⟩) n cap] (W.alloc (.cells C t fr)) fun e w' => e = .returned (.int .u32 (iv (updB s (bytesOf ns)))) ∧ Below W.heap.size W w' := by
  subst hn
  refine (upd_any s _ cap (bytesOf ns) _ (lies_new W ns C t fr hC hb) (by omega)).mono ?_
  rintro e w' ⟨rfl, rfl⟩
  exact ⟨rfl, below_after (below_three _ _ _ _)⟩
theorem weak_new (W : World) (ns : List Nat) (C : Array Value) (t : TypeId) (fr : Nat × Nat) (n cap : Nat) (hC : C = (ns.map fun n : Nat => Value.int .u8 (n : Int)).toArray) (hn : n = (bytesOf ns).length) (hl : n ≤ 100) (hb : ∀ n ∈ ns, n < 256) :
    Calls Try.prog 18 #[.slice (some ⟨W.heap.size, 0, none⟩) n cap] (W.alloc (.cells C t fr)) fun e w' => e = .returned (.int .u32 (weakI (bytesOf ns))) ∧ Below W.heap.size W w' := by
  subst hn
  refine (weak_any _ cap (bytesOf ns) _ (lies_new W ns C t fr hC hb) (by omega)).mono ?_
  rintro e w' ⟨rfl, rfl⟩
  exact ⟨rfl, (Below.refl _ _).alloc (Nat.le_refl _) _⟩

def ns5 : List Nat := [49, 50, 51, 52, 53]
def ns4 : List Nat := [54, 55, 56, 57]
def ns9 : List Nat := [49, 50, 51, 52, 53, 54, 55, 56, 57]
def ns3 : List Nat := [1, 2, 3]
theorem ex_sum : iv (updB 0#32 (bytesOf ns9)) = 3808858755 := by
  rw [show updB 0#32 (bytesOf ns9) = BitVec.ofNat 32 3808858755 from by decide +kernel]; exact iv_ofNat 3808858755 (by decide)
theorem ex_combine : iv (updB 0#32 (bytesOf ns4) ^^^ stepsB (8 * 4) (updB 0#32 (bytesOf ns5))) = 3808858755 := by
  rw [show updB 0#32 (bytesOf ns4) ^^^ stepsB (8 * 4) (updB 0#32 (bytesOf ns5)) = BitVec.ofNat 32 3808858755 from by decide +kernel]; exact iv_ofNat 3808858755 (by decide)
theorem ex_update : iv (updB (updB 0#32 (bytesOf ns5)) (bytesOf ns4)) = 3808858755 := by
  rw [show updB (updB 0#32 (bytesOf ns5)) (bytesOf ns4) = BitVec.ofNat 32 3808858755 from by decide +kernel]; exact iv_ofNat 3808858755 (by decide)
theorem ex_weak : weakI (bytesOf ns3) = 655366 := by
  have h1 : iv (BitVec.ofNat 32 1) = 1 := iv_ofNat 1 (by decide)
  have h2 : iv (BitVec.ofNat 32 2) = 2 := iv_ofNat 2 (by decide)
  have h3 : iv (BitVec.ofNat 32 3) = 3 := iv_ofNat 3 (by decide)
  unfold weakI wk bytesOf ns3
  simp only [List.map, List.foldl, wkStep, h1, h2, h3]
  decide
theorem ex_roll : rollI 655366 3 1 4 = 1048585 := by decide
theorem len5 : 5 = (bytesOf ns5).length := rfl
theorem len4 : 4 = (bytesOf ns4).length := rfl
theorem len9 : 9 = (bytesOf ns9).length := rfl
theorem len3 : 3 = (bytesOf ns3).length := rfl
theorem lt5 : ∀ n ∈ ns5, n < 256 := by decide
theorem lt4 : ∀ n ∈ ns4, n < 256 := by decide
theorem lt9 : ∀ n ∈ ns9, n < 256 := by decide
theorem lt3 : ∀ n ∈ ns3, n < 256 := by decide
theorem row5 : #[Value.int .u8 49, .int .u8 50, .int .u8 51, .int .u8 52, .int .u8 53] = (ns5.map fun n : Nat => Value.int .u8 (n : Int)).toArray := rfl
theorem row4 : #[Value.int .u8 54, .int .u8 55, .int .u8 56, .int .u8 57] = (ns4.map fun n : Nat => Value.int .u8 (n : Int)).toArray := rfl
theorem row9 : #[Value.int .u8 49, .int .u8 50, .int .u8 51, .int .u8 52, .int .u8 53, .int .u8 54, .int .u8 55, .int .u8 56, .int .u8 57] = (ns9.map fun n : Nat => Value.int .u8 (n : Int)).toArray := rfl
theorem row3 : #[Value.int .u8 1, .int .u8 2, .int .u8 3] = (ns3.map fun n : Nat => Value.int .u8 (n : Int)).toArray := rfl
attribute [local irreducible] stepB stepsB updB regB afterB weakI wk rollI bytesOf ns3 ns4 ns5 ns9

set_option maxRecDepth 100000 in
set_option maxHeartbeats 1000000 in
theorem awake_any (w : World) :
    Calls Try.prog 11 #[] w fun e w' => e = .returned (.bool true) ∧ Below w.heap.size w w' := by
  have kc := fun (w : World) (C : Array Value) (n c : Nat) => Lib.run_convert_bytes_const (P := Try.prog) w 23 5 C n c Try.underlying23 Try.underlying5
  go_enter Try.func11, Try.ntmps11
  go_wp2_with fail
  refine (sum_new _ ns5 _ _ _ _ _ row5 len5 (by decide) lt5).mono ?_
  rintro e w1 ⟨rfl, hb1⟩
  have HB1 := Lib.hid hb1
  clear hb1
  go_wp2_with fail
  refine (sum_new _ ns4 _ _ _ _ _ row4 len4 (by decide) lt4).mono ?_
  rintro e w2 ⟨rfl, hb2⟩
  have HB2 := Lib.hid hb2
  clear hb2
  go_wp2_with fail
  refine (sum_new _ ns9 _ _ _ _ _ row9 len9 (by decide) lt9).mono ?_
  rintro e w3 ⟨rfl, hb3⟩
  have HB3 := Lib.hid hb3
  clear hb3
  rw [ex_sum]
  go_wp2_with fail
  refine (combine_any _ _ 4 (by decide) _).mono ?_
  rintro e w' ⟨rfl, rfl⟩
  rw [ex_combine]
  go_wp2_with fail
  refine (upd_new _ _ ns4 _ _ _ _ _ row4 len4 (by decide) lt4).mono ?_
  rintro e w4 ⟨rfl, hb4⟩
  have HB4 := Lib.hid hb4
  clear hb4
  rw [ex_update]
  go_wp2_with fail
  refine (weak_new _ ns3 _ _ _ _ _ row3 len3 (by decide) lt3).mono ?_
  rintro e w5 ⟨rfl, hb5⟩
  have HB5 := Lib.hid hb5
  clear hb5
  rw [ex_weak]
  go_wp2_with fail
  refine (roll_any 655366 3 1 4 _ (by decide) (by decide) (by decide) (by decide) (by decide) (by decide) (by decide) (by decide)).mono ?_
  rintro e w' ⟨rfl, rfl⟩
  rw [ex_roll]
  go_wp2
  go_ret
  refine ⟨rfl, ?_⟩
  have h2 : Below w.heap.size w w2 := HB1.out.trans (HB2.out.mono HB1.out.size)
  have h3 : Below w.heap.size w w3 := h2.trans (HB3.out.mono h2.size)
  have h4 : Below w.heap.size w w4 := h3.trans (HB4.out.mono h3.size)
  exact h4.trans (HB5.out.mono h4.size)
end Go.Proofs.Ytheoklpgnchmcaa
