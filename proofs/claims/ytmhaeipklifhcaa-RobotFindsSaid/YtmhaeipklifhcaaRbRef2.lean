/-
  The specification's at, with and reach.
-/
import Derived.Test.YtmhaeipklifhcaaRbLst2
import Derived.Test.YtmhaeipklifhcaaRbTrv
import Derived.Deep.DeepCutAuto
namespace Go.Proofs.Ytmhaeipklifhcaa
open Go.RowKit
set_option linter.unusedVariables false
/-- what a slot or the port contains -/
def atR (r : Rbt) (k i : Int) : ByteArray := if k = 0 then r.l.getD i.toNat emp else r.po
def withR (r : Rbt) (k i : Int) (b : ByteArray) : Rbt := { r with l := if k = 0 then r.l.set i.toNat b else r.l, po := if k = 2 then b else r.po }
attribute [local irreducible] inn mdlR rail dst vldR trvR finR
set_option maxRecDepth 100000 in
set_option maxHeartbeats 1000000 in
theorem rat_any (r : Rbt) (ad : Option Addr) (n cap : Nat) (k i : Int) (w : World) (hin : RoIn w r ad n cap) (hi : k = 0 → 0 ≤ i ∧ i < n) :
    Calls Try.prog 44 #[roV r ad n cap, elV k i] w fun e w' => e = .returned (.string (atR r k i)) ∧ Below w.heap.size w w' := by
  obtain ⟨hB, hR, hE⟩ := box_re w r ad n cap k i
  have HB := Lib.hid hB
  have HI := Lib.hid (hin.below hB)
  have hle := hin.le
  clear hB hR hE hin
  by_cases hk : k = 0
  · subst hk
    obtain ⟨i0, i1⟩ := hi rfl
    obtain ⟨j, rfl⟩ : ∃ j : Nat, i = (j : Int) := ⟨i.toNat, by omega⟩
    have hjn : j < n := by omega
    have hjl : j < r.l.length := by have := HI.out.len; omega
    obtain ⟨b, off, rfl, hlt, q0⟩ := HI.out.l.get hjl
    have HA := Lib.hid (show atR r 0 (j : Int) = r.l[j] by unfold atR; rw [if_pos rfl]; simp [hjl])
    generalize r.l[j] = x at *
    clear hjl i0 i1 hi
    go_enter Try.func44, Try.ntmps44
    go_wp2
    go_ret
    exact ⟨by rw [HA.out]; rfl, HB.out⟩
  · have HA := Lib.hid (show atR r k i = r.po from if_neg hk)
    clear hi
    go_enter Try.func44, Try.ntmps44
    go_wp2
    go_ret
    exact ⟨by rw [HA.out]; rfl, HB.out⟩
/-- a call hands back a robot whose slots are of the call's own -/
def RetW (w : World) (r : Rbt) (e : Ending) (w' : World) : Prop := ∃ ad n cap, e = .returned (roV r ad n cap) ∧ n = r.l.length ∧ Sq w' w.heap.size (.slice ad n cap) r.l ∧ Below w.heap.size w w'
/-- the boxes of with: robot, element, result -/
structure Bx3 (w X : World) (r : Rbt) (ad : Option Addr) (n cap : Nat) (k i : Int) : Prop where
  b : Below w.heap.size w X
  r : X.heap[w.heap.size]? = some (boxR r ad n cap)
  e : ElAt X (w.heap.size + 1) k i
  z : X.heap[w.heap.size + 2]? = some (boxR rz none 0 0)
theorem Bx3.next {w X Y : World} {r : Rbt} {ad : Option Addr} {n cap : Nat} {k i : Int} (h : Bx3 w X r ad n cap k i) (hb : Below X.heap.size X Y) : Bx3 w Y r ad n cap k i :=
  ⟨h.b.trans (hb.mono h.b.size), row_step h.r hb, h.e.step hb, row_step h.z hb⟩
theorem Bx3.start (w : World) (r : Rbt) (ad : Option Addr) (n cap : Nat) (k i : Int) : Bx3 w (((w.alloc (boxR r ad n cap)).alloc (boxE k i)).alloc (boxR rz none 0 0)) r ad n cap k i := by
  obtain ⟨h1, h2, h3⟩ := box_re w r ad n cap k i
  refine ⟨below_box3 _ _ _ _, row_step h2 (below_box1 _ _), (ElAt.of h3).step (below_box1 _ _), ?_⟩
  have h := heap_new ((w.alloc (boxR r ad n cap)).alloc (boxE k i)) (boxR rz none 0 0)
  simpa using h
/-- a field of the robot is set -/
theorem ro_set {X : World} {g : Nat} {r r2 : Rbt} {ad ad2 : Option Addr} {n cap n2 cap2 : Nat} (h : X.heap[g]? = some (boxR r ad n cap)) (j : Nat) (u : Value) (hs : (roK r ad n cap).setIfInBounds j u = roK r2 ad2 n2 cap2) : (X.setCell ⟨g, j, none⟩ u).heap[g]? = some (boxR r2 ad2 n2 cap2) := by
  have := heap_set_b X g j u _ _ _ h
  rw [hs] at this
  exact this
theorem far_set {X : World} {g b : Nat} {o : Obj} (h : X.heap[g]? = some o) (hb : g ≠ b) (j : Nat) (u : Value) : (X.setCell ⟨b, j, none⟩ u).heap[g]? = some o := by
  rw [Below.heap_setCell _ _ _ _ (by show g ≠ b; exact hb)]
  exact h
theorem ElAt.far {X : World} {g b : Nat} {k i : Int} (h : ElAt X g k i) (hb : g ≠ b) (j : Nat) (u : Value) : ElAt (X.setCell ⟨b, j, none⟩ u) g k i := by
  have e : (X.setCell ⟨b, j, none⟩ u).heap[g]? = X.heap[g]? := Below.heap_setCell _ _ _ _ (by show g ≠ b; exact hb)
  exact ⟨by simpa using h.lt, by simpa [World.cell?, e] using h.c0, by simpa [World.cell?, e] using h.c1⟩
theorem with_end {w X : World} {r : Rbt} {ad : Option Addr} {n cap : Nat} (hb : Below w.heap.size w X) (hs : Sq X (w.heap.size + 3) (.slice ad n cap) r.l) (hn : n = r.l.length) (hz : X.heap[w.heap.size + 2]? = some (boxR rz none 0 0)) :
    RetW w r (.returned (roV r ad n cap)) (X.setRow (w.heap.size + 2) (roK r ad n cap)) := by
  refine ⟨ad, n, cap, rfl, hn, ?_, below_set hb (by omega) _⟩
  exact (hs.keep (fun k hk => by rw [setRow_other _ _ _ _ (by have := (hs.lt k hk).1; omega)])).mono (by omega)
set_option maxRecDepth 100000 in
set_option maxHeartbeats 2000000 in
theorem rwith_any (r : Rbt) (ad : Option Addr) (n cap : Nat) (k i : Int) (b : ByteArray) (w : World) (hin : RoIn w r ad n cap) (hi : k = 0 → 0 ≤ i ∧ i < n) :
    Calls Try.prog 45 #[roV r ad n cap, elV k i, .string b] w (RetW w (withR r k i b)) := by
  have HX := Lib.hid (Bx3.start w r ad n cap k i)
  have HI := Lib.hid (hin.below HX.out.b)
  have hle := hin.le
  clear hin
  go_enter Try.func45, Try.ntmps45
  go_upto_region 1 with fail
  have HS0 := Lib.hid (show (((w.alloc (boxR r ad n cap)).alloc (boxE k i)).alloc (boxR rz none 0 0)).heap.size = w.heap.size + 3 by simp)
  generalize World.alloc _ _ = X0 at *
  have HL2 := Lib.hid (HI.out.l.below (below_box1 X0 (.cells #[] 9)) rfl)
  have HS1 := Lib.hid (below_box1 X0 (.cells #[] 9)).size
  obtain ⟨_, k0, k1, k2, k3, k4⟩ := RoAt.of HX.out.r
  go_upto_region 2 with (at_builtin; refine wpList_append_t rfl (.tmp 7) (.tmp 9) rfl X0.heap.size _ [] rfl (Sq.made X0) ad n cap r.l HI.out.nn HL2.out HI.out.len rfl (by simp; omega) HS1.out ?_; intro v1 w3 ho1 hg1; rw [List.nil_append] at ho1; have HB3 := Lib.hid (((Below.refl X0.heap.size X0).alloc (Nat.le_refl _) (.cells #[] 9)).grown hg1 HS1.out (fun k e => by cases e; exact Nat.le_refl _)); obtain ⟨ad1, cap1, rfl, -, -, -, -, -⟩ := ho1.read; rw [← HI.out.len] at ho1 ⊢; have HO1 := Lib.hid ho1; have HX3 := Lib.hid (HX.out.next HB3.out); obtain ⟨_, q0, q1, q2, q3, q4⟩ := RoAt.of HX3.out.r; have f2 := froz_of HX3.out.r 2; clear ho1 hg1 k0 k1 k2 k3 k4)
  have HX5 := Lib.hid (show Bx3 w (w3.setCell ⟨w.heap.size, 2, none⟩ (.slice ad1 n cap1)) r ad1 n cap1 k i from
    ⟨HX3.out.b.setCell (Nat.le_refl _) _, ro_set HX3.out.r 2 _ rfl, HX3.out.e.far (by first | omega | (have := HGB.out; omega)) _ _, far_set HX3.out.z (by omega) _ _⟩)
  have HO5 := Lib.hid (show Sq (w3.setCell ⟨w.heap.size, 2, none⟩ (.slice ad1 n cap1)) (w.heap.size + 3) (.slice ad1 n cap1) r.l from
    (HO1.out.keep (fun q hq => by rw [Below.heap_setCell _ _ _ _ (by show q ≠ w.heap.size; have := (HO1.out.lt q hq).1; have := HS0.out; omega)])).mono (by rw [HS0.out]; exact Nat.le_refl _))
  clear q0 q1 q2 q3 q4 f2
  generalize World.setCell _ _ _ = w5 at *
  obtain ⟨_, e0, e1⟩ := HX5.out.e
  obtain ⟨_, q0, q1, q2, q3, q4⟩ := RoAt.of HX5.out.r
  have f3 := froz_of HX5.out.r 3
  by_cases hk : k = 0
  · subst hk
    obtain ⟨i0, i1⟩ := hi rfl
    obtain ⟨j, rfl⟩ : ∃ j : Nat, i = (j : Int) := ⟨i.toNat, by omega⟩
    have hjn : j < n := by omega
    have hjl : j < r.l.length := by have := HI.out.len; omega
    have HA := Lib.hid (show withR r 0 (j : Int) b = { r with l := r.l.set j b } by unfold withR; rw [if_pos rfl, if_neg (by decide)]; simp)
    obtain ⟨g, cap', hv, hB, hlt, hcl, hcm, hc, hf, hS⟩ := HO5.out.set_ j hjl b
    rw [← HI.out.len] at hv hcl
    cases hv
    have HS6 := Lib.hid hS
    have HGB := Lib.hid hB
    clear i0 i1 hi hS hB
    go_upto_region 4 with fail
    have HX6 := Lib.hid (show Bx3 w (w5.setCell ⟨g, j, none⟩ (.string b)) r (some ⟨g, 0, none⟩) n cap1 0 j from
      ⟨HX5.out.b.setCell (by show w.heap.size ≤ g; have := HGB.out; omega) _, far_set HX5.out.r (by have := HGB.out; omega) _ _, HX5.out.e.far (by first | omega | (have := HGB.out; omega)) _ _, far_set HX5.out.z (by have := HGB.out; omega) _ _⟩)
    have HLN := Lib.hid (show n = (r.l.set j b).length by rw [List.length_set]; exact HI.out.len)
    clear e0 e1 q0 q1 q2 q3 q4 f3 hc hf
    generalize World.setCell _ _ _ = w6 at *
    obtain ⟨_, e0, e1⟩ := HX6.out.e
    obtain ⟨_, q0, q1, q2, q3, q4⟩ := RoAt.of HX6.out.r
    go_wp2_with (with_reducible refine wpList_store_ro rfl (.tmp 6) (.tmp 26) rfl (w.heap.size + 2) rfl _ _ _ _ _ _ _ rfl rz none 0 0 HX6.out.z ?_)
    refine post_cell1 rfl rfl (setRow_heap _ _ _ _ _ _ HX6.out.z) Try.underlying26 rfl infoR rfl ?_
    rw [HA.out]
    exact with_end (r := { r with l := r.l.set j b }) HX6.out.b HS6.out HLN.out HX6.out.z
  by_cases hk2 : k = 2
  · subst hk2
    have HA := Lib.hid (show withR r 2 i b = { r with po := b } by unfold withR; rw [if_neg (by decide), if_pos rfl])
    clear hi
    go_upto_region 6 with fail
    have HX6 := Lib.hid (show Bx3 w (w5.setCell ⟨w.heap.size, 3, none⟩ (.string b)) { r with po := b } ad1 n cap1 2 i from
      ⟨HX5.out.b.setCell (Nat.le_refl _) _, ro_set HX5.out.r 3 _ rfl, HX5.out.e.far (by first | omega | (have := HGB.out; omega)) _ _, far_set HX5.out.z (by omega) _ _⟩)
    have HO6 := Lib.hid (show Sq (w5.setCell ⟨w.heap.size, 3, none⟩ (.string b)) (w.heap.size + 3) (.slice ad1 n cap1) r.l from HO5.out.keep (fun q hq => by rw [Below.heap_setCell _ _ _ _ (by show q ≠ w.heap.size; have := (HO5.out.lt q hq).1; omega)]))
    clear e0 e1 q0 q1 q2 q3 q4 f3
    generalize World.setCell _ _ _ = w6 at *
    obtain ⟨_, q0, q1, q2, q3, q4⟩ := RoAt.of HX6.out.r
    go_wp2_with (with_reducible refine wpList_store_ro rfl (.tmp 6) (.tmp 26) rfl (w.heap.size + 2) rfl _ _ _ _ _ _ _ rfl rz none 0 0 HX6.out.z ?_)
    refine post_cell1 rfl rfl (setRow_heap _ _ _ _ _ _ HX6.out.z) Try.underlying26 rfl infoR rfl ?_
    rw [HA.out]
    exact with_end (r := { r with po := b }) HX6.out.b HO6.out HI.out.len HX6.out.z
  have HA := Lib.hid (show withR r k i b = r by unfold withR; rw [if_neg hk, if_neg hk2])
  clear hi
  go_wp2_with (with_reducible refine wpList_store_ro rfl (.tmp 6) (.tmp 26) rfl (w.heap.size + 2) rfl _ _ _ _ _ _ _ rfl rz none 0 0 HX5.out.z ?_)
  refine post_cell1 rfl rfl (setRow_heap _ _ _ _ _ _ HX5.out.z) Try.underlying26 rfl infoR rfl ?_
  rw [HA.out]
  exact with_end HX5.out.b HO5.out HI.out.len HX5.out.z
end Go.Proofs.Ytmhaeipklifhcaa
