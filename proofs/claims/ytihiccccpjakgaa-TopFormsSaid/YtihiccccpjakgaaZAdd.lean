/-
  The program's add: a position more.
-/
import Derived.Test.YtihiccccpjakgaaZGrp
import Derived.Test.YtihiccccpjakgaaNHeld
namespace Go.Proofs.Ytihiccccpjakgaa
open Go.RowKit
set_option linter.unusedVariables false
set_option linter.unusedSimpArgs false
attribute [local irreducible] kyA
/-- the box of the history -/
def Bx (X : World) (g : Nat) (s m : Value) : Prop := X.heap[g]? = some (.cells #[s, m] 63 (0, 0))
theorem Bx.c0 {X : World} {g : Nat} {s m : Value} (h : Bx X g s m) : X.cell? ⟨g, 0, none⟩ = some s := by rw [cell_of_row _ _ 0 _ _ _ h]; rfl
theorem Bx.c1 {X : World} {g : Nat} {s m : Value} (h : Bx X g s m) : X.cell? ⟨g, 1, none⟩ = some m := by rw [cell_of_row _ _ 1 _ _ _ h]; rfl
theorem Bx.lt {X : World} {g : Nat} {s m : Value} (h : Bx X g s m) : g < X.heap.size := (Array.getElem?_eq_some_iff.1 h).1
theorem Bx.below {X Y : World} {g : Nat} {s m : Value} (h : Bx X g s m) (hb : Below X.heap.size X Y) : Bx Y g s m := (hb.block _ h.lt).trans h
theorem Bx.g {X Y : World} {bm g : Nat} {s m : Value} (h : Bx X g s m) (hk : KeepG bm X Y) (hne : g ≠ bm) : Bx Y g s m := hk.rest g _ hne h fun cs fr e => by cases e
theorem Bx.ne {X : World} {bm g k : Nat} {s m : Value} {xs : List UInt8} (h : Bx X g s m) (hg : Grp X bm xs k) : g ≠ bm := by
  obtain ⟨es, clock, hb, _⟩ := hg
  intro e
  subst e
  unfold Bx at h
  rw [hb] at h
  cases h
set_option maxRecDepth 100000 in
set_option maxHeartbeats 1000000 in
theorem add_any (ad : Option Addr) (cap : Nat) (xs : List UInt8) (bm at_ : Nat) (w : World) (hl : Lie w ad xs) (hn : xs.length ≤ cap) (hs : xs.length ≤ 1000000) (hp : at_ < xs.length) (hg : Grp w bm xs at_) :
    Calls Try.prog 38 #[.agg #[.slice ad xs.length cap, .map (some bm)], .int .i64 at_] w fun e w' => e = .returned (.tuple #[]) ∧ Grp w' bm xs (at_ + 1) ∧ KeepG bm w w' := by
  have h0 : Below w.heap.size w (w.alloc (.cells #[.slice ad xs.length cap, .map (some bm)] 63)) := (Below.refl _ _).alloc (Nat.le_refl _) _
  have hbx : Bx (w.alloc (.cells #[.slice ad xs.length cap, .map (some bm)] 63)) w.heap.size (.slice ad xs.length cap) (.map (some bm)) := heap_new _ _
  have HKY := Lib.hid (key_any ad cap xs (some bm) at_ _ (hl.below h0 rfl) hn hs hp)
  have HG := Lib.hid (hg.below h0)
  have HBX := Lib.hid hbx
  have hbmw := hg.lt
  have HBW := Lib.hid hbmw
  have HB0 := Lib.hid h0
  have hky := kyF_lt ((xs.drop at_).take 4)
  have e : kyF ((xs.drop at_).take 4) = kyA xs at_ := by unfold kyA; rfl
  rw [e] at hky
  have hat : at_ ≤ 1000000 := by omega
  clear hl hg hbx h0 hbmw e hn hs
  go_enter Try.func38, Try.ntmps38
  go_wp2_with fail
  refine HKY.out.mono ?_
  rintro e w2 ⟨rfl, hb⟩
  have HG2 := Lib.hid (HG.out.below hb)
  have HX2 := Lib.hid (HBX.out.below hb)
  have HK2 := Lib.hid (KeepG.new (bm := bm) (HB0.out.trans (hb.mono (Nat.le_of_lt (by simp)))) (Nat.le_of_lt HBW.out))
  clear hb
  go_wp2_with fail
  obtain ⟨K, hK⟩ : ∃ K, K = kyA xs at_ := ⟨_, rfl⟩
  have HKE := Lib.hid hK
  obtain ⟨g, hg⟩ : ∃ g, w.heap.size = g := ⟨_, rfl⟩
  rw [hg] at HX2 ⊢
  rw [← hK] at hky ⊢
  clear hK hg
  have HD := Lib.hid (Below.drew (Below.refl w2.heap.size w2))
  have HXD : Hid (Bx w2.drew g (.slice ad xs.length cap) (.map (some bm))) := Lib.hid HX2.out
  have HGD := Lib.hid (HG2.out.below HD.out)
  have HNE := Lib.hid (HX2.out.ne HG2.out)
  have HKD := Lib.hid (KeepG.new (bm := bm) HD.out (Nat.le_of_lt HG2.out.lt))
  have HBA : Hid (Below w2.drew.heap.size w2.drew (w2.alloc (.cells #[.int .i64 at_] 3)).drew) := Lib.hid ((Below.refl w2.drew.heap.size w2.drew).alloc (Nat.le_refl _) (.cells #[.int .i64 at_] 3))
  have HXA : Hid (Bx (w2.alloc (.cells #[.int .i64 at_] 3)).drew g (.slice ad xs.length cap) (.map (some bm))) := Lib.hid (HXD.out.below HBA.out)
  have HGA := Lib.hid (HGD.out.below HBA.out)
  have HSZ : Hid ((w2.alloc (.cells #[.int .i64 at_] 3)).drew.heap.size = w2.heap.size + 1) := Lib.hid (by show (w2.alloc _).heap.size = _; simp)
  have HBM : Hid (bm + 1 ≤ (w2.alloc (.cells #[.int .i64 at_] 3)).drew.heap.size) := Lib.hid (by rw [HSZ.out]; have := HG2.out.lt; omega)
  have HCELL : Hid ((w2.alloc (.cells #[.int .i64 at_] 3)).drew.cell? ⟨w2.heap.size, 0, none⟩ = some (.int .i64 (at_ : Nat))) := Lib.hid (cell_of_one (heap_new w2 _))
  have HKA := Lib.hid (HK2.out.trans (HKD.out.trans (KeepG.new (bm := bm) HBA.out (Nat.le_of_lt HG2.out.lt))))
  refine wp_region_noPanic ?_
  refine wp_region_held_drew (S := fun X => Bx X g (.slice ad xs.length cap) (.map (some bm))) (by kernel_rfl) (HXD.out) (fun hS0 => ?_)
  refine held_take (i := 0) (v := ?_) rfl (by kernel_rfl) (by kernel_rfl) (by kernel_rfl) (fun _ _ _ h => h) (by rfl) ?_ (by assumption) ?_
  rotate_left
  · intro X hSX
    try dsimp only at hSX
    go_simp <;> with_reducible rfl
  simp only [Act.put, List.setIfInBounds_toArray, List.set_cons_zero, List.set_cons_succ]
  refine held_take (i := 1) (v := ?_) rfl (by kernel_rfl) (by kernel_rfl) (by kernel_rfl) (fun _ _ _ h => h) (by rfl) ?_ (by assumption) ?_
  rotate_left
  · intro X hSX
    try dsimp only at hSX
    have hcell := hSX.c1
    go_simp <;> with_reducible rfl
  simp only [Act.put, List.setIfInBounds_toArray, List.set_cons_zero, List.set_cons_succ]
  refine held_take (i := 2) (v := ?_) rfl (by kernel_rfl) (by kernel_rfl) (by kernel_rfl) (fun _ _ _ h => h) (by rfl) ?_ (by assumption) ?_
  rotate_left
  · intro X hSX
    try dsimp only at hSX
    go_simp <;> with_reducible rfl
  simp only [Act.put, List.setIfInBounds_toArray, List.set_cons_zero, List.set_cons_succ]
  refine held_take (i := 3) (v := ?_) rfl (by kernel_rfl) (by kernel_rfl) (by kernel_rfl) (fun _ _ _ h => h) (by rfl) ?_ (by assumption) ?_
  rotate_left
  · intro X hSX
    try dsimp only at hSX
    go_simp <;> with_reducible rfl
  simp only [Act.put, List.setIfInBounds_toArray, List.set_cons_zero, List.set_cons_succ]
  refine held_take (i := 4) (v := ?_) rfl (by kernel_rfl) (by kernel_rfl) (by kernel_rfl) (fun _ _ _ h => h) (by rfl) ?_ (by assumption) ?_
  rotate_left
  · intro X hSX
    try dsimp only at hSX
    have hcell := hSX.c1
    go_simp <;> with_reducible rfl
  simp only [Act.put, List.setIfInBounds_toArray, List.set_cons_zero, List.set_cons_succ]
  refine held_take (i := 5) (v := ?_) rfl (by kernel_rfl) (by kernel_rfl) (by kernel_rfl) (fun _ _ _ h => h) (by rfl) ?_ (by assumption) ?_
  rotate_left
  · intro X hSX
    try dsimp only at hSX
    go_simp <;> with_reducible rfl
  simp only [Act.put, List.setIfInBounds_toArray, List.set_cons_zero, List.set_cons_succ]
  refine held_take (i := 7) (v := ?_) rfl (by kernel_rfl) (by kernel_rfl) (by kernel_rfl) (fun _ _ _ h => h) (by rfl) ?_ (by assumption) ?_
  rotate_left
  · intro X hSX
    try dsimp only at hSX
    go_simp <;> with_reducible rfl
  simp only [Act.put, List.setIfInBounds_toArray, List.set_cons_zero, List.set_cons_succ]
  refine held_two (i := 6) (j := 8) rfl rfl (by kernel_rfl) (by rfl) (by rfl) (fun K' hK' => ?_) (fun K' hK' => ?_)
  · refine wp_lookup_g (.tmp 12) (.tmp 13) rfl bm at_ K xs rfl HGD.out (by omega) rfl hky ?_
    intro v hoi hback
    have HOI : Hid ((w2.alloc (.cells #[.int .i64 at_] 3)).drew.ownsInts (bm + 1) 3 .i64 v ((hist xs at_ K).map fun p : Nat => (p : Int))) := Lib.hid (hoi.alloc (.cells #[.int .i64 at_] 3))
    clear hoi
    refine held_go hK' (HXD.out) ?_
    try simp only [Act.put, List.setIfInBounds_toArray, List.set_cons_zero, List.set_cons_succ]
    refine held_call (i := 8) rfl (by kernel_rfl) (by rfl) (fun K' hK' => ?_)
    go_simp
    refine held_go hK' (HXA.out) ?_
    try simp only [Act.put, List.setIfInBounds_toArray, List.set_cons_zero, List.set_cons_succ]
    refine held_call (i := 9) rfl (by kernel_rfl) (by rfl) (fun K' hK' => ?_)
    refine wp_append_i (.tmp 14) (.tmp 16) rfl (bm + 1) v _ rfl HOI.out at_ w2.heap.size rfl HCELL.out (by have := hist_len xs at_ K; simp; omega) (by omega) (by have := HBM.out; omega) ?_
    intro v4 w4 ho4 hg4 hloc4
    have hk4 := KeepG.grown HOI.out hg4 (by have := HBM.out; omega)
    have HX4 := Lib.hid (HXA.out.g hk4 HNE.out)
    have HK4 := Lib.hid (HKA.out.trans hk4)
    clear hk4
    refine held_go hK' (HX4.out) ?_
    try simp only [Act.put, List.setIfInBounds_toArray, List.set_cons_zero, List.set_cons_succ]
    refine held_call (i := 10) rfl (by kernel_rfl) (by rfl) (fun K' hK' => ?_)
    refine wp_store_g (.tmp 9) (.tmp 10) (.tmp 17) rfl bm at_ K xs HKE.out v v4 hback rfl rfl rfl ((World.grownBy_alloc w2.drew (.cells #[.int .i64 at_] 3) _).trans hg4) ho4 (hloc4.imp id (fun h => ⟨_, h, by rw [HSZ.out]; exact Nat.le_succ _⟩)) ?_
    intro w5 hg5 hgr5
    have hk5 := KeepG.map hgr5 (Nat.le_trans (Nat.le_of_succ_le HBM.out) hg4.size)
    have HX5 := Lib.hid (HX4.out.g hk5 HNE.out)
    have HK5 := Lib.hid (HK4.out.trans hk5)
    have HG5 := Lib.hid hg5
    clear hk5 hg5 hgr5 ho4 hg4 hloc4 hback
    refine held_go hK' (HX5.out) ?_
    try simp only [Act.put, List.setIfInBounds_toArray, List.set_cons_zero, List.set_cons_succ]
    refine wpAnyH_done (by kernel_rfl) ?_ _
    refine NoPanic.normal ?_
    go_wp2
    go_end0
    exact ⟨rfl, HG5.out, HK5.out⟩
  · go_simp
    refine held_go hK' (HXA.out) ?_
    try simp only [Act.put, List.setIfInBounds_toArray, List.set_cons_zero, List.set_cons_succ]
    refine held_call (i := 6) rfl (by kernel_rfl) (by rfl) (fun K' hK' => ?_)
    refine wp_lookup_g (.tmp 12) (.tmp 13) rfl bm at_ K xs rfl HGA.out (by omega) rfl hky ?_
    intro v hoi hback
    have HOI := Lib.hid hoi
    clear hoi
    refine held_go hK' (HXA.out) ?_
    try simp only [Act.put, List.setIfInBounds_toArray, List.set_cons_zero, List.set_cons_succ]
    refine held_call (i := 9) rfl (by kernel_rfl) (by rfl) (fun K' hK' => ?_)
    refine wp_append_i (.tmp 14) (.tmp 16) rfl (bm + 1) v _ rfl HOI.out at_ w2.heap.size rfl HCELL.out (by have := hist_len xs at_ K; simp; omega) (by omega) (by have := HBM.out; omega) ?_
    intro v4 w4 ho4 hg4 hloc4
    have hk4 := KeepG.grown HOI.out hg4 (by have := HBM.out; omega)
    have HX4 := Lib.hid (HXA.out.g hk4 HNE.out)
    have HK4 := Lib.hid (HKA.out.trans hk4)
    clear hk4
    refine held_go hK' (HX4.out) ?_
    try simp only [Act.put, List.setIfInBounds_toArray, List.set_cons_zero, List.set_cons_succ]
    refine held_call (i := 10) rfl (by kernel_rfl) (by rfl) (fun K' hK' => ?_)
    refine wp_store_g (.tmp 9) (.tmp 10) (.tmp 17) rfl bm at_ K xs HKE.out v v4 hback rfl rfl rfl hg4 ho4 (hloc4.imp id (fun h => ⟨_, h, Nat.le_refl _⟩)) ?_
    intro w5 hg5 hgr5
    have hk5 := KeepG.map hgr5 (Nat.le_trans (Nat.le_of_succ_le HBM.out) hg4.size)
    have HX5 := Lib.hid (HX4.out.g hk5 HNE.out)
    have HK5 := Lib.hid (HK4.out.trans hk5)
    have HG5 := Lib.hid hg5
    clear hk5 hg5 hgr5 ho4 hg4 hloc4 hback
    refine held_go hK' (HX5.out) ?_
    try simp only [Act.put, List.setIfInBounds_toArray, List.set_cons_zero, List.set_cons_succ]
    refine wpAnyH_done (by kernel_rfl) ?_ _
    refine NoPanic.normal ?_
    go_wp2
    go_end0
    exact ⟨rfl, HG5.out, HK5.out⟩
end Go.Proofs.Ytihiccccpjakgaa
