/-
  The program's Pick and Put.
-/
import Derived.Test.YtmhaeipklifhcaaRbPerf
import Derived.Test.YtmhaeipklifhcaaRbPick1
import Derived.Test.YtmhaeipklifhcaaRbPut1
namespace Go.Proofs.Ytmhaeipklifhcaa
open Go.RowKit
set_option linter.unusedVariables false
theorem box5 (w : World) (m : Rmd) (r : Rbt) (ad : Option Addr) (n cap : Nat) (k i : Int) (b : ByteArray) :
    Below w.heap.size w (((((w.alloc (boxM m)).alloc (boxR r ad n cap)).alloc (boxE k i)).alloc (.cells #[.string b] 9)).alloc (boxR rz none 0 0)) ∧
    RmAt (((((w.alloc (boxM m)).alloc (boxR r ad n cap)).alloc (boxE k i)).alloc (.cells #[.string b] 9)).alloc (boxR rz none 0 0)) w.heap.size m ∧
    (((((w.alloc (boxM m)).alloc (boxR r ad n cap)).alloc (boxE k i)).alloc (.cells #[.string b] 9)).alloc (boxR rz none 0 0)).heap[w.heap.size + 1]? = some (boxR r ad n cap) ∧
    ElAt (((((w.alloc (boxM m)).alloc (boxR r ad n cap)).alloc (boxE k i)).alloc (.cells #[.string b] 9)).alloc (boxR rz none 0 0)) (w.heap.size + 2) k i ∧
    (((((w.alloc (boxM m)).alloc (boxR r ad n cap)).alloc (boxE k i)).alloc (.cells #[.string b] 9)).alloc (boxR rz none 0 0)).heap[w.heap.size + 3]? = some (.cells #[.string b] 9 (0, 0)) ∧
    (((((w.alloc (boxM m)).alloc (boxR r ad n cap)).alloc (boxE k i)).alloc (.cells #[.string b] 9)).alloc (boxR rz none 0 0)).heap[w.heap.size + 4]? = some (boxR rz none 0 0) := by
  obtain ⟨h1, h2, h3, h4, h5⟩ := box_mre w m r ad n cap k i
  have ha := below_box1 (((w.alloc (boxM m)).alloc (boxR r ad n cap)).alloc (boxE k i)) (.cells #[.string b] 9)
  have hb := below_box1 ((((w.alloc (boxM m)).alloc (boxR r ad n cap)).alloc (boxE k i)).alloc (.cells #[.string b] 9)) (boxR rz none 0 0)
  have hs : ((((w.alloc (boxM m)).alloc (boxR r ad n cap)).alloc (boxE k i)).alloc (.cells #[.string b] 9)).heap.size = w.heap.size + 4 := by rw [World.size_alloc, h5]
  have n1 := heap_new (((w.alloc (boxM m)).alloc (boxR r ad n cap)).alloc (boxE k i)) (.cells #[.string b] 9)
  have n2 := heap_new ((((w.alloc (boxM m)).alloc (boxR r ad n cap)).alloc (boxE k i)).alloc (.cells #[.string b] 9)) (boxR rz none 0 0)
  rw [h5] at n1
  rw [hs] at n2
  exact ⟨(h1.trans (ha.mono h1.size)).trans (hb.mono (by rw [hs]; omega)), (h2.step ha).step hb, row_step (row_step h3 ha) hb, ((ElAt.of h4).step ha).step hb, row_step n1 hb, n2⟩
theorem ret_up {w X w1 : World} {g : Nat} {x : Rbt × Int × Int} {ad : Option Addr} {n cap : Nat} (hb : Below w.heap.size w X) (hg : w.heap.size ≤ g) (hgX : g < X.heap.size) (hn : n = x.1.l.length) (hs : Sq w1 X.heap.size (.slice ad n cap) x.1.l) (hb1 : Below X.heap.size X w1) :
    RetP w x (.returned (.tuple #[.agg (roK x.1 ad n cap), .int .i64 x.2.1, .int .i64 x.2.2])) (w1.setRow g (roK x.1 ad n cap)) :=
  ⟨ad, n, cap, rfl, hn, (hs.keep (fun q hq => by have := (hs.lt q hq).1; rw [setRow_other _ _ _ _ (by omega)])).mono hb.size, below_set (hb.trans (hb1.mono hb.size)) hg _⟩
attribute [local irreducible] inn mdlR rail dst vldR trvR finR locR picR putR perR
set_option maxRecDepth 100000 in
set_option maxHeartbeats 2000000 in
theorem pick_any (m : Rmd) (r : Rbt) (ad : Option Addr) (n cap : Nat) (k i : Int) (b : ByteArray) (w : World) (hin : RoIn w r ad n cap) :
    Calls Try.prog 23 #[rmV m, roV r ad n cap, elV k i, .string b] w (RetP w (picR m r k i b)) := by
  obtain ⟨hB, hM, hR, hE, hS, hZ⟩ := box5 w m r ad n cap k i b
  have HB := Lib.hid hB
  have HM := Lib.hid hM
  have HR := Lib.hid hR
  have HE := Lib.hid hE
  have HS := Lib.hid hS
  have HZ := Lib.hid hZ
  have HI := Lib.hid (hin.below hB)
  clear hB hM hR hE hS hZ hin
  go_enter Try.func23, Try.ntmps23
  go_wp2_with fail
  generalize World.alloc _ _ = X0 at *
  refine (perform_any 42 #[.pointer (some ⟨w.heap.size + 2, 0, none⟩), .pointer (some ⟨w.heap.size + 3, 0, none⟩)] (dpk k i b) m r ad n cap k i m.pk X0 HI.out (pick1_any X0 _ _ k i b HE.out HS.out) (fun h => ⟨(mdl_iff.1 h).k0, (mdl_iff.1 h).k1⟩)).mono ?_
  rw [per_pick]
  rintro e w1 ⟨ad1, n1, cap1, rfl, hn1, hs1, hb1⟩
  have HN1 := Lib.hid hn1
  have HS1 := Lib.hid hs1
  have HB1 := Lib.hid hb1
  have HZ1 := Lib.hid (row_step HZ.out hb1)
  clear hn1 hs1 hb1
  generalize picR m r k i b = x at *
  go_wp2_with (with_reducible refine wpList_store_ro rfl (.tmp 8) (.tmp 18) rfl (w.heap.size + 4) rfl _ _ _ _ _ _ _ rfl rz none 0 0 HZ1.out ?_)
  refine post_cell3 rfl rfl (setRow_heap _ _ _ _ _ _ HZ1.out) Try.underlying26 rfl infoR rfl rfl rfl ?_
  exact ret_up HB.out (by omega) (Array.getElem?_eq_some_iff.1 HZ.out).1 HN1.out HS1.out HB1.out
set_option maxRecDepth 100000 in
set_option maxHeartbeats 2000000 in
theorem put_any (m : Rmd) (r : Rbt) (ad : Option Addr) (n cap : Nat) (k i : Int) (w : World) (hin : RoIn w r ad n cap) :
    Calls Try.prog 26 #[rmV m, roV r ad n cap, elV k i] w (RetP w (putR m r k i)) := by
  have HX := Lib.hid (Bx4.start w m r ad n cap k i)
  have HI := Lib.hid (hin.below HX.out.b)
  clear hin
  go_enter Try.func26, Try.ntmps26
  go_wp2_with fail
  generalize World.alloc _ _ = X0 at *
  refine (perform_any 46 #[.pointer (some ⟨w.heap.size + 2, 0, none⟩)] (dpt k i) m r ad n cap k i m.pt X0 HI.out (put1_any X0 _ k i HX.out.e) (fun h => ⟨(mdl_iff.1 h).t0, (mdl_iff.1 h).t1⟩)).mono ?_
  rw [per_put]
  rintro e w1 ⟨ad1, n1, cap1, rfl, hn1, hs1, hb1⟩
  have HN1 := Lib.hid hn1
  have HS1 := Lib.hid hs1
  have HB1 := Lib.hid hb1
  have HZ1 := Lib.hid (row_step HX.out.z hb1)
  clear hn1 hs1 hb1
  generalize putR m r k i = x at *
  go_wp2_with (with_reducible refine wpList_store_ro rfl (.tmp 6) (.tmp 16) rfl (w.heap.size + 3) rfl _ _ _ _ _ _ _ rfl rz none 0 0 HZ1.out ?_)
  refine post_cell3 rfl rfl (setRow_heap _ _ _ _ _ _ HZ1.out) Try.underlying26 rfl infoR rfl rfl rfl ?_
  exact ret_up HX.out.b (by omega) (by have := HX.out.s; omega) HN1.out HS1.out HB1.out
end Go.Proofs.Ytmhaeipklifhcaa
