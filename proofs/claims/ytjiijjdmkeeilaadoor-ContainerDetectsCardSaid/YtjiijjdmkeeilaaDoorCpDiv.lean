/-
  The program's divide.
-/
import Derived.Test.YtjiijjdmkeeilaaDoorCBE
import Derived.Test.YtjiijjdmkeeilaaDoorCBC
import Derived.Test.YtjiijjdmkeeilaaDoorCBH
namespace Go.Proofs.YtjiijjdmkeeilaaDoor
open Go.RowKit Go.Shelf
set_option linter.unusedVariables false
set_option linter.unusedSimpArgs false
attribute [local go_sem] Oper.semAt_some
theorem payB_parts (v : Int) (p : List UInt8) : payB v p = (partsF (szP v) p).map (pcB v) := by
  have h1 : 1 ≤ szP v := by rcases szP_cases v with ⟨_, e, _⟩ | ⟨_, e, _⟩ <;> omega
  have hl := parts_length (szP v) h1 p.length p (Nat.le_refl _)
  rw [show payB v p = (List.range ((p.length + szP v - 1) / szP v)).map fun i => pcB v (piece (szP v) p i) from rfl]
  refine List.ext_getElem (by rw [List.length_map, List.length_map, List.length_range, hl]) (fun i h2 h3 => ?_)
  rw [List.getElem_map, List.getElem_map, List.getElem_range, parts_get (szP v) h1]
  unfold piece
  rw [Nat.mul_comm]
section
variable {F : Fence} {n : Nat} {P : Program} {md : Region.Mode} {l : List Oper} {Q : Exit → Act → World → Prop}
theorem bn1 {i : Nat} {oi : Oper} {fuel : Nat} {listed : Array Bool} {a : Act} {w : World} (hi : l[i]? = some oi) (hr : Region.ready md l.toArray listed = [i]) (hw : Region.wanted oi (yielded l.toArray a.tmps) = true)
    (h : ∀ K' : Act → World → Prop, Hid (∀ a w, wpAnyIn F n P md l.toArray Q fuel (listed.setIfInBounds i true) a w → K' a w) → oi.wpIn F n P a w K' Q) : wpAnyIn F n P md l.toArray Q (fuel + 1) listed a w := by
  refine ⟨fun h0 => (by rw [hr] at h0; cases h0), fun k hk => ?_⟩
  rw [hr] at hk
  obtain rfl := List.mem_singleton.1 hk
  unfold wpOpIn
  rw [List.getElem?_toArray, hi]
  simp only [hw, if_true]
  exact h _ (Lib.hid fun _ _ h => h)
theorem bn2 {i j : Nat} {oi oj : Oper} {fuel : Nat} {listed : Array Bool} {a : Act} {w : World} (hi : l[i]? = some oi) (hj : l[j]? = some oj) (hr : Region.ready md l.toArray listed = [i, j]) (hwi : Region.wanted oi (yielded l.toArray a.tmps) = true) (hwj : Region.wanted oj (yielded l.toArray a.tmps) = true)
    (h : ∀ K' : Act → World → Prop, Hid (∀ a w, wpAnyIn F n P md l.toArray Q fuel (listed.setIfInBounds i true) a w → K' a w) → oi.wpIn F n P a w K' Q)
    (h2 : ∀ K' : Act → World → Prop, Hid (∀ a w, wpAnyIn F n P md l.toArray Q fuel (listed.setIfInBounds j true) a w → K' a w) → oj.wpIn F n P a w K' Q) : wpAnyIn F n P md l.toArray Q (fuel + 1) listed a w := by
  refine ⟨fun h0 => (by rw [hr] at h0; cases h0), fun k hk => ?_⟩
  rw [hr] at hk
  unfold wpOpIn
  rcases List.mem_cons.1 hk with rfl | hk
  · rw [List.getElem?_toArray, hi]
    simp only [hwi, if_true]
    exact h _ (Lib.hid fun _ _ h => h)
  · obtain rfl := List.mem_singleton.1 hk
    rw [List.getElem?_toArray, hj]
    simp only [hwj, if_true]
    exact h2 _ (Lib.hid fun _ _ h => h)
theorem bn3 {i j m : Nat} {oi oj om : Oper} {fuel : Nat} {listed : Array Bool} {a : Act} {w : World} (hi : l[i]? = some oi) (hj : l[j]? = some oj) (hm : l[m]? = some om) (hr : Region.ready md l.toArray listed = [i, j, m]) (hwi : Region.wanted oi (yielded l.toArray a.tmps) = true) (hwj : Region.wanted oj (yielded l.toArray a.tmps) = true) (hwm : Region.wanted om (yielded l.toArray a.tmps) = true)
    (h : ∀ K' : Act → World → Prop, Hid (∀ a w, wpAnyIn F n P md l.toArray Q fuel (listed.setIfInBounds i true) a w → K' a w) → oi.wpIn F n P a w K' Q)
    (h2 : ∀ K' : Act → World → Prop, Hid (∀ a w, wpAnyIn F n P md l.toArray Q fuel (listed.setIfInBounds j true) a w → K' a w) → oj.wpIn F n P a w K' Q)
    (h3 : ∀ K' : Act → World → Prop, Hid (∀ a w, wpAnyIn F n P md l.toArray Q fuel (listed.setIfInBounds m true) a w → K' a w) → om.wpIn F n P a w K' Q) : wpAnyIn F n P md l.toArray Q (fuel + 1) listed a w := by
  refine ⟨fun h0 => (by rw [hr] at h0; cases h0), fun k hk => ?_⟩
  rw [hr] at hk
  unfold wpOpIn
  rcases List.mem_cons.1 hk with rfl | hk
  · rw [List.getElem?_toArray, hi]
    simp only [hwi, if_true]
    exact h _ (Lib.hid fun _ _ h => h)
  rcases List.mem_cons.1 hk with rfl | hk
  · rw [List.getElem?_toArray, hj]
    simp only [hwj, if_true]
    exact h2 _ (Lib.hid fun _ _ h => h)
  · obtain rfl := List.mem_singleton.1 hk
    rw [List.getElem?_toArray, hm]
    simp only [hwm, if_true]
    exact h3 _ (Lib.hid fun _ _ h => h)
end
/-- What the loop over the iterator keeps. -/
def PvI (v0 : Int) (w : World) (n₀ D0 B1 : Nat) (pre : List Pt) (W : World) : Prop :=
  ∃ v, Boxed W B1 29 v ∧ Kq W D0 D0 v (pre.map fun x => pcB v0 x.l) ∧ Below n₀ w W ∧ D0 ≤ W.heap.size
theorem pvI_own (v0 : Int) (w : World) (n₀ D0 B1 : Nat) (hD : n₀ ≤ D0) (hw : n₀ ≤ w.heap.size) : OwnFrom D0 (PvI v0 w n₀ D0 B1) := by
  rintro pre X Y row ⟨v, h1, h2, h4, h5⟩ hg hr
  have hne : some B1 ≠ row := fun e => by
    obtain ⟨_, o, ho, hc⟩ := hr B1 e.symm
    rw [show X.heap[B1]? = _ from h1] at ho
    cases ho
    cases hc
  exact ⟨v, h1.kept hg hne, h2.kept hg (fun r e => (hr r e).2), h4.grown hg (Nat.le_trans hw h4.size) (fun k e => Nat.le_trans hD (hr k e).1), Nat.le_trans h5 hg.size⟩
theorem keeps_drew2 {D : Nat} {W X : World} (h : KeepsFrom D W.drew X) : KeepsFrom D W X := ⟨h.size, fun l o h1 h2 h3 => h.same l o h1 h2 h3⟩
attribute [local irreducible] pcB prtU
/-- the method value -/
abbrev blkF (v : Int) : Value := .func (.func 39) #[.agg #[.int .i64 (prtU v), .bool (decide (v = 2))]] #[]
set_option maxRecDepth 100000 in
set_option maxHeartbeats 8000000 in
theorem divideP_any (v0 : Int) (ad : Option Addr) (n cap S : Nat) (xs : List UInt8) (w : World) (hv0 : v0 = 1 ∨ v0 = 2) (hl : Lie w ad xs) (hn : n = xs.length) (hc : n ≤ cap) (hcm : cap ≤ maxLen) (had : ad = none → cap = 0) (hs : n ≤ 90000) (hS : S = szP v0) :
    Calls Tryd.prog 38 #[.slice ad n cap, .int .i64 (S : Int), .func (.func 39) #[.agg #[.int .i64 (prtU v0), .bool (decide (v0 = 2))]] #[]] w (GivesK w (payB v0 xs)) := by
  refine (callsIn_wide (n := 3)).1 ?_
  refine callsIn_of_wp_marks Tryd.func38 rfl trivial ?_ rfl
  simp only [Tryd.ntmps38, List.size_toArray, List.length_cons, List.length_nil, Nat.reduceAdd, Nat.reduceSub, Array.replicate_succ, Array.replicate_zero, List.push_toArray, List.append_toArray, List.nil_append, List.cons_append]
  have HN := Lib.hid hn
  have hS1 : 1 ≤ S := by rcases szP_cases v0 with ⟨_, e, _⟩ | ⟨_, e, _⟩ <;> omega
  have hS2 : S ≤ 64 := by rcases szP_cases v0 with ⟨_, e, _⟩ | ⟨_, e, _⟩ <;> omega
  have HE := Lib.hid (show payB v0 xs = (partsF S xs).map (pcB v0) by rw [hS]; exact payB_parts v0 xs)
  have HCM := Lib.hid hcm
  have HBK := Lib.hid (fun ad n cap q W h1 h2 h3 h4 => block15_any v0 ad n cap q W hv0 h1 h2 h3 h4)
  clear hn had hS hv0
  generalize payB v0 xs = PB at *
  generalize decide (v0 = 2) = dv at *
  generalize prtU v0 = pv at *
  obtain ⟨fv, hfv⟩ : ∃ fv : Value, fv = .func (.func 39) #[.agg #[.int .i64 pv, .bool dv]] #[] := ⟨_, rfl⟩
  have bF0 := Boxed.new w 69 fv
  have hBw := co_box1 w (.cells #[fv] 69)
  have HL := Lib.hid (hl.below hBw rfl)
  clear hl
  rw [hfv] at bF0 hBw HL
  clear hfv
  gi_wp2_with fail
  refine ⟨trivial, ?_⟩
  obtain ⟨w1, hw1⟩ : ∃ w1, w1 = w.alloc (.cells #[.func (.func 39) #[.agg #[.int .i64 pv, .bool dv]] #[]] 69) := ⟨_, rfl⟩
  rw [← hw1] at bF0 hBw HL ⊢
  have hz1 : w1.heap.size = w.heap.size + 1 := by rw [hw1]; simp
  rw [← hz1]
  have HZ1 := Lib.hid hz1
  have HBW := Lib.hid hBw
  have HSW := Lib.hid (show w.heap.size < w1.heap.size by omega)
  have HFB := Lib.hid bF0
  obtain ⟨gf, hgf⟩ : ∃ gf, gf = w.heap.size := ⟨_, rfl⟩
  have HGF := Lib.hid hgf
  rw [← hgf] at HFB HSW ⊢
  clear hw1 hz1 hBw bF0 hgf
  refine (chunk_any _ _ n cap (S : Int) _ (by omega)).mono ?_
  rintro e w' ⟨rfl, rfl⟩
  have bO := Boxed.new w1 29 (.slice none 0 0)
  have bB := Boxed.new (w1.alloc (.cells #[.slice none 0 0] 29)) 26 (.slice ad n cap)
  have bN := Boxed.new ((w1.alloc (.cells #[.slice none 0 0] 29)).alloc (.cells #[.slice ad n cap] 26)) 3 (.int .i64 (S : Int))
  have hB0 : Below w1.heap.size w1 (((w1.alloc (.cells #[.slice none 0 0] 29)).alloc (.cells #[.slice ad n cap] 26)).alloc (.cells #[.int .i64 (S : Int)] 3)) :=
    (((Below.refl _ w1).alloc (Nat.le_refl _) _).alloc (by simp) _).alloc (by simp; omega) _
  have hsz4 : (((w1.alloc (.cells #[.slice none 0 0] 29)).alloc (.cells #[.slice ad n cap] 26)).alloc (.cells #[.int .i64 (S : Int)] 3)).heap.size = w1.heap.size + 1 + 1 + 1 := by simp
  have bO3 := (bO.alloc (.cells #[.slice ad n cap] 26)).alloc (.cells #[.int .i64 (S : Int)] 3)
  have bB3 := bB.alloc (.cells #[.int .i64 (S : Int)] 3)
  simp only [World.size_alloc] at bB3 bN
  clear bO bB
  gi_wp2
  refine wpIn_seqKn rfl (by decide) (gf := 95) (lb := #[.pointer (some ⟨w1.heap.size + 1, 0, none⟩), .pointer (some ⟨w1.heap.size + 1 + 1, 0, none⟩)]) rfl trivial (enters_of Tryd.func95 (by kernel_rfl) rfl)
    (chunk1_kn 2 ad n cap S (w1.heap.size + 1) (w1.heap.size + 1 + 1) xs w1 _ HL.out HN.out (by omega) hc HCM.out hS1 (by omega) hB0 bB3 bN)
    (fun h k => ⟨h.1.trans k.1, fun hb => k.2.1 (h.2.1 hb), fun hb => k.2.2 (h.2.2 hb)⟩) (ptKp_put (by rw [hsz4]; omega)) (fun _ => rfl)
    (PvI v0 w1 w1.heap.size (w1.heap.size + 1 + 1 + 1) w1.heap.size) (by rw [hsz4]; exact pvI_own _ _ _ _ _ (by omega) (Nat.le_refl _)) (fun x => fun _ _ _ _ h _ _ => h)
    ⟨_, bO3, Kq.nil _ _ _, hB0, by rw [hsz4]; exact Nat.le_refl _⟩
    (fun x => { tmps := #[.slice ad n cap, .int .i64 (S : Int), .func (.func 39) #[.agg #[.int .i64 pv, .bool dv]] #[], undef, undef, .pointer (some ⟨gf, 0, none⟩), .slice none 0 0, .pointer (some ⟨w1.heap.size, 0, none⟩), .slice x.ad x.N x.cap, .slice ad n cap, .int .i64 (S : Int), .func (.func 95) #[] #[.pointer (some ⟨w1.heap.size + 1, 0, none⟩), .pointer (some ⟨w1.heap.size + 1 + 1, 0, none⟩)], .slice x.ad x.N x.cap, undef, undef, undef, undef, undef, undef, undef], defers := [] }) ?assign ?body ?done
  case assign =>
    intro l x W K hK
    gi_wp2
    exact hK
  case body =>
    rintro l pre x W ⟨v, hv, hz, hB, hWD⟩ hkn hlen
    rw [hsz4]
    obtain ⟨xad, xN, xcap, xl⟩ := x
    obtain ⟨k1, k2, k3⟩ := hkn
    dsimp only at k1 k2 k3
    have hLl : (pre.map fun x : Pt => pcB v0 x.l).length = pre.length := by simp
    generalize hLs : (pre.map fun x : Pt => pcB v0 x.l) = Ls0 at hz hLl
    have HLS := Lib.hid hLs
    have hLb : Ls0.length + 1 ≤ 100000 := by omega
    have HV := Lib.hid hv
    have HZ := Lib.hid hz
    have HB := Lib.hid hB
    have HK1 := Lib.hid (k1.below hB rfl)
    have HK2 := Lib.hid k2
    have HWD := Lib.hid hWD
    have HWS := Lib.hid hB.size
    have HVB := Lib.hid (fun k hk => (hz.own k hk).1)
    have HX3 := Lib.hid (show xl.length ≤ 1000000 by omega)
    have hc1 : W.drew.cell? ⟨w1.heap.size, 0, none⟩ = some v := hv.cell
    have hcf : W.drew.cell? ⟨gf, 0, none⟩ = some (.func (.func 39) #[.agg #[.int .i64 pv, .bool dv]] #[]) := (show Boxed W gf _ _ from (hB.block gf HSW.out).trans HFB.out).cell
    have HCK := Lib.hid (HBK.out xad xN xcap xl W.drew ⟨(k1.below hB rfl).at_⟩ k2 (by omega))
    obtain ⟨y, hy⟩ : ∃ y, y = pcB v0 xl := ⟨_, rfl⟩
    rw [← hy] at HCK
    have HY := Lib.hid hy
    have HRD := Lib.hid (fun w2 w5 v5 h2 hz' hg => round_div (W := W.drew) (w2 := w2) (w5 := w5) (v5 := v5) (n₀ := w1.heap.size) (D0 := w1.heap.size + 1 + 1 + 1) (B1 := w1.heap.size) (bb := w1.heap.size + 1) (nb := w1.heap.size + 1 + 1) (b := .slice ad n cap) (s := (S : Int)) (y := y) (show Boxed W.drew w1.heap.size 29 v from hv) (show Kq W.drew (w1.heap.size + 1 + 1 + 1) (w1.heap.size + 1 + 1 + 1) v Ls0 from hz.below (Below.refl _ _).drew) (Nat.le_refl _) (by omega) (by omega) (by omega) (by omega) (by omega) (by omega) hWD h2 hz' hg)
    clear hv hz hB k1 k2 k3 hLs hLl hlen bO3 bB3 bN hB0 HL HN HE HCM hWD hy HBK
    gi_wp2_with fail
    refine wpIn_region_any (by kernel_rfl) ?_

    refine bn3 (i := 0) (j := 1) (m := 2) rfl rfl rfl (by kernel_rfl) (by rfl) (by rfl) (by rfl) (fun K' hK' => ?_) (fun K' hK' => ?_) (fun K' hK' => ?_)
    · go_simp
      refine hK'.out _ _ ?_
      try simp only [Act.put, List.setIfInBounds_toArray, List.set_cons_zero, List.set_cons_succ]
      refine bn2 (i := 1) (j := 2) rfl rfl (by kernel_rfl) (by rfl) (by rfl) (fun K' hK' => ?_) (fun K' hK' => ?_)
      · go_simp
        refine hK'.out _ _ ?_
        try simp only [Act.put, List.setIfInBounds_toArray, List.set_cons_zero, List.set_cons_succ]
        refine bn1 (i := 2) rfl (by kernel_rfl) (by rfl) (fun K' hK' => ?_)
        go_simp
        refine hK'.out _ _ ?_
        try simp only [Act.put, List.setIfInBounds_toArray, List.set_cons_zero, List.set_cons_succ]
        refine bn1 (i := 3) rfl (by kernel_rfl) (by rfl) (fun K' hK' => ?_)
        go_simp
        refine ⟨trivial, ?_⟩
        refine ((callsIn_wide.2 HCK.out).inRound l).mono ?_
        rintro e X1 ⟨ad1, cap1, rfl, ho1, hb1⟩
        have HO1 := Lib.hid ho1
        have HB1 := Lib.hid hb1
        have HBO1 := Lib.hid (show Boxed X1 w1.heap.size 29 v from (hb1.block _ HV.out.lt).trans HV.out)
        clear ho1 hb1
        refine hK'.out _ _ ?_
        try simp only [Act.put, List.setIfInBounds_toArray, List.set_cons_zero, List.set_cons_succ]
        refine bn1 (i := 4) rfl (by kernel_rfl) (by rfl) (fun K' hK' => ?_)
        obtain ⟨X2, hX2⟩ : ∃ X2, X2 = X1.alloc (.cells #[.bool y.m, .bool y.bad, .slice ad1 y.d.length cap1] 57) := ⟨_, rfl⟩
        have HB2 := Lib.hid (show Below W.drew.heap.size W.drew X2 by rw [hX2]; exact HB1.out.alloc HB1.out.size _)
        have HZ2 := Lib.hid (show Kq X2 (w1.heap.size + 1 + 1 + 1) (w1.heap.size + 1 + 1 + 1) v Ls0 from (HZ.out.below (Below.refl _ _).drew).below HB2.out)
        have HX2 := Lib.hid (show Kx X2 (w1.heap.size + 1 + 1 + 1) v.ownBlock (some ⟨X1.heap.size, 0, none⟩) [y] by
          obtain ⟨ad', cap', ev, hlx, h1, h2, h3⟩ := LieX.of_own HO1.out (x := v.ownBlock) (fun g e => (HZ.out.own g e).2.1)
          cases ev
          rw [hX2]
          exact Kx.one (w := X1) y.m y.bad ad1 y.d cap1 (hlx.mono HWD.out) h1 h2 h3 _ rfl)
        have HS2 := Lib.hid (show w1.heap.size + 1 + 1 + 1 ≤ X2.heap.size from Nat.le_trans HWD.out HB2.out.size)
        have HBO2 := Lib.hid (show Boxed X2 w1.heap.size 29 v from (HB2.out.block _ HV.out.lt).trans HV.out)
        go_simp
        rw [← hX2]
        refine hK'.out _ _ ?_
        try simp only [Act.put, List.setIfInBounds_toArray, List.set_cons_zero, List.set_cons_succ]
        clear hX2
        refine bn1 (i := 5) rfl (by kernel_rfl) (by rfl) (fun K' hK' => ?_)
        refine in_builtin (ops := #[]) (fun _ => trivial) rfl rfl (.inl rfl) ?_
        refine wpList_append_k rfl (.tmp 13) (.tmp 17) rfl (w1.heap.size + 1 + 1 + 1) (w1.heap.size + 1 + 1 + 1) (w1.heap.size + 1 + 1 + 1) (w1.heap.size + 1 + 1 + 1) v Ls0 rfl HZ2.out _ 1 1 [y] (fun h => by cases h) HX2.out rfl rfl hLb HS2.out (Nat.le_refl _) (Nat.le_refl _) ?_
        intro v5 w5 ho5 hg5 _
        refine ⟨rfl, hK'.out _ _ ?_⟩
        try simp only [Act.put, List.setIfInBounds_toArray, List.set_cons_zero, List.set_cons_succ]
        obtain ⟨ad5, cap5, e5, -⟩ := ho5.read
        subst e5
        rw [List.length_append, List.length_singleton] at ho5
        rw [List.length_append, List.length_singleton]
        have hr := HRD.out _ _ _ HB2.out ho5 hg5
        have hc5 := hr.1.cell
        have hf5 := hr.1.frozen
        have HR := Lib.hid hr
        clear ho5 hg5 hr
        refine bn1 (i := 6) rfl (by kernel_rfl) (by rfl) (fun K' hK' => ?_)
        go_simp
        refine hK'.out _ _ ?_
        refine wpAnyIn_done (by kernel_rfl) ?_ _
        obtain ⟨_, hk, hp, hbx, hz2⟩ := HR.out
        refine ⟨keeps_drew2 hk, ⟨(Below.refl _ _).drew.trans hp.1, hp.2.1, hp.2.2⟩, _, hbx, ?_, HB.out.trans ((Below.refl _ _).drew.trans hp.1), Nat.le_trans HWD.out (keeps_drew2 hk).size⟩
        rw [List.map_append, HLS.out, List.map_singleton, ← HY.out]
        exact hz2
      · go_simp
        refine hK'.out _ _ ?_
        try simp only [Act.put, List.setIfInBounds_toArray, List.set_cons_zero, List.set_cons_succ]
        refine bn1 (i := 1) rfl (by kernel_rfl) (by rfl) (fun K' hK' => ?_)
        go_simp
        refine hK'.out _ _ ?_
        try simp only [Act.put, List.setIfInBounds_toArray, List.set_cons_zero, List.set_cons_succ]
        refine bn1 (i := 3) rfl (by kernel_rfl) (by rfl) (fun K' hK' => ?_)
        go_simp
        refine ⟨trivial, ?_⟩
        refine ((callsIn_wide.2 HCK.out).inRound l).mono ?_
        rintro e X1 ⟨ad1, cap1, rfl, ho1, hb1⟩
        have HO1 := Lib.hid ho1
        have HB1 := Lib.hid hb1
        have HBO1 := Lib.hid (show Boxed X1 w1.heap.size 29 v from (hb1.block _ HV.out.lt).trans HV.out)
        clear ho1 hb1
        refine hK'.out _ _ ?_
        try simp only [Act.put, List.setIfInBounds_toArray, List.set_cons_zero, List.set_cons_succ]
        refine bn1 (i := 4) rfl (by kernel_rfl) (by rfl) (fun K' hK' => ?_)
        obtain ⟨X2, hX2⟩ : ∃ X2, X2 = X1.alloc (.cells #[.bool y.m, .bool y.bad, .slice ad1 y.d.length cap1] 57) := ⟨_, rfl⟩
        have HB2 := Lib.hid (show Below W.drew.heap.size W.drew X2 by rw [hX2]; exact HB1.out.alloc HB1.out.size _)
        have HZ2 := Lib.hid (show Kq X2 (w1.heap.size + 1 + 1 + 1) (w1.heap.size + 1 + 1 + 1) v Ls0 from (HZ.out.below (Below.refl _ _).drew).below HB2.out)
        have HX2 := Lib.hid (show Kx X2 (w1.heap.size + 1 + 1 + 1) v.ownBlock (some ⟨X1.heap.size, 0, none⟩) [y] by
          obtain ⟨ad', cap', ev, hlx, h1, h2, h3⟩ := LieX.of_own HO1.out (x := v.ownBlock) (fun g e => (HZ.out.own g e).2.1)
          cases ev
          rw [hX2]
          exact Kx.one (w := X1) y.m y.bad ad1 y.d cap1 (hlx.mono HWD.out) h1 h2 h3 _ rfl)
        have HS2 := Lib.hid (show w1.heap.size + 1 + 1 + 1 ≤ X2.heap.size from Nat.le_trans HWD.out HB2.out.size)
        have HBO2 := Lib.hid (show Boxed X2 w1.heap.size 29 v from (HB2.out.block _ HV.out.lt).trans HV.out)
        go_simp
        rw [← hX2]
        refine hK'.out _ _ ?_
        try simp only [Act.put, List.setIfInBounds_toArray, List.set_cons_zero, List.set_cons_succ]
        clear hX2
        refine bn1 (i := 5) rfl (by kernel_rfl) (by rfl) (fun K' hK' => ?_)
        refine in_builtin (ops := #[]) (fun _ => trivial) rfl rfl (.inl rfl) ?_
        refine wpList_append_k rfl (.tmp 13) (.tmp 17) rfl (w1.heap.size + 1 + 1 + 1) (w1.heap.size + 1 + 1 + 1) (w1.heap.size + 1 + 1 + 1) (w1.heap.size + 1 + 1 + 1) v Ls0 rfl HZ2.out _ 1 1 [y] (fun h => by cases h) HX2.out rfl rfl hLb HS2.out (Nat.le_refl _) (Nat.le_refl _) ?_
        intro v5 w5 ho5 hg5 _
        refine ⟨rfl, hK'.out _ _ ?_⟩
        try simp only [Act.put, List.setIfInBounds_toArray, List.set_cons_zero, List.set_cons_succ]
        obtain ⟨ad5, cap5, e5, -⟩ := ho5.read
        subst e5
        rw [List.length_append, List.length_singleton] at ho5
        rw [List.length_append, List.length_singleton]
        have hr := HRD.out _ _ _ HB2.out ho5 hg5
        have hc5 := hr.1.cell
        have hf5 := hr.1.frozen
        have HR := Lib.hid hr
        clear ho5 hg5 hr
        refine bn1 (i := 6) rfl (by kernel_rfl) (by rfl) (fun K' hK' => ?_)
        go_simp
        refine hK'.out _ _ ?_
        refine wpAnyIn_done (by kernel_rfl) ?_ _
        obtain ⟨_, hk, hp, hbx, hz2⟩ := HR.out
        refine ⟨keeps_drew2 hk, ⟨(Below.refl _ _).drew.trans hp.1, hp.2.1, hp.2.2⟩, _, hbx, ?_, HB.out.trans ((Below.refl _ _).drew.trans hp.1), Nat.le_trans HWD.out (keeps_drew2 hk).size⟩
        rw [List.map_append, HLS.out, List.map_singleton, ← HY.out]
        exact hz2
    · go_simp
      refine hK'.out _ _ ?_
      try simp only [Act.put, List.setIfInBounds_toArray, List.set_cons_zero, List.set_cons_succ]
      refine bn2 (i := 0) (j := 2) rfl rfl (by kernel_rfl) (by rfl) (by rfl) (fun K' hK' => ?_) (fun K' hK' => ?_)
      · go_simp
        refine hK'.out _ _ ?_
        try simp only [Act.put, List.setIfInBounds_toArray, List.set_cons_zero, List.set_cons_succ]
        refine bn1 (i := 2) rfl (by kernel_rfl) (by rfl) (fun K' hK' => ?_)
        go_simp
        refine hK'.out _ _ ?_
        try simp only [Act.put, List.setIfInBounds_toArray, List.set_cons_zero, List.set_cons_succ]
        refine bn1 (i := 3) rfl (by kernel_rfl) (by rfl) (fun K' hK' => ?_)
        go_simp
        refine ⟨trivial, ?_⟩
        refine ((callsIn_wide.2 HCK.out).inRound l).mono ?_
        rintro e X1 ⟨ad1, cap1, rfl, ho1, hb1⟩
        have HO1 := Lib.hid ho1
        have HB1 := Lib.hid hb1
        have HBO1 := Lib.hid (show Boxed X1 w1.heap.size 29 v from (hb1.block _ HV.out.lt).trans HV.out)
        clear ho1 hb1
        refine hK'.out _ _ ?_
        try simp only [Act.put, List.setIfInBounds_toArray, List.set_cons_zero, List.set_cons_succ]
        refine bn1 (i := 4) rfl (by kernel_rfl) (by rfl) (fun K' hK' => ?_)
        obtain ⟨X2, hX2⟩ : ∃ X2, X2 = X1.alloc (.cells #[.bool y.m, .bool y.bad, .slice ad1 y.d.length cap1] 57) := ⟨_, rfl⟩
        have HB2 := Lib.hid (show Below W.drew.heap.size W.drew X2 by rw [hX2]; exact HB1.out.alloc HB1.out.size _)
        have HZ2 := Lib.hid (show Kq X2 (w1.heap.size + 1 + 1 + 1) (w1.heap.size + 1 + 1 + 1) v Ls0 from (HZ.out.below (Below.refl _ _).drew).below HB2.out)
        have HX2 := Lib.hid (show Kx X2 (w1.heap.size + 1 + 1 + 1) v.ownBlock (some ⟨X1.heap.size, 0, none⟩) [y] by
          obtain ⟨ad', cap', ev, hlx, h1, h2, h3⟩ := LieX.of_own HO1.out (x := v.ownBlock) (fun g e => (HZ.out.own g e).2.1)
          cases ev
          rw [hX2]
          exact Kx.one (w := X1) y.m y.bad ad1 y.d cap1 (hlx.mono HWD.out) h1 h2 h3 _ rfl)
        have HS2 := Lib.hid (show w1.heap.size + 1 + 1 + 1 ≤ X2.heap.size from Nat.le_trans HWD.out HB2.out.size)
        have HBO2 := Lib.hid (show Boxed X2 w1.heap.size 29 v from (HB2.out.block _ HV.out.lt).trans HV.out)
        go_simp
        rw [← hX2]
        refine hK'.out _ _ ?_
        try simp only [Act.put, List.setIfInBounds_toArray, List.set_cons_zero, List.set_cons_succ]
        clear hX2
        refine bn1 (i := 5) rfl (by kernel_rfl) (by rfl) (fun K' hK' => ?_)
        refine in_builtin (ops := #[]) (fun _ => trivial) rfl rfl (.inl rfl) ?_
        refine wpList_append_k rfl (.tmp 13) (.tmp 17) rfl (w1.heap.size + 1 + 1 + 1) (w1.heap.size + 1 + 1 + 1) (w1.heap.size + 1 + 1 + 1) (w1.heap.size + 1 + 1 + 1) v Ls0 rfl HZ2.out _ 1 1 [y] (fun h => by cases h) HX2.out rfl rfl hLb HS2.out (Nat.le_refl _) (Nat.le_refl _) ?_
        intro v5 w5 ho5 hg5 _
        refine ⟨rfl, hK'.out _ _ ?_⟩
        try simp only [Act.put, List.setIfInBounds_toArray, List.set_cons_zero, List.set_cons_succ]
        obtain ⟨ad5, cap5, e5, -⟩ := ho5.read
        subst e5
        rw [List.length_append, List.length_singleton] at ho5
        rw [List.length_append, List.length_singleton]
        have hr := HRD.out _ _ _ HB2.out ho5 hg5
        have hc5 := hr.1.cell
        have hf5 := hr.1.frozen
        have HR := Lib.hid hr
        clear ho5 hg5 hr
        refine bn1 (i := 6) rfl (by kernel_rfl) (by rfl) (fun K' hK' => ?_)
        go_simp
        refine hK'.out _ _ ?_
        refine wpAnyIn_done (by kernel_rfl) ?_ _
        obtain ⟨_, hk, hp, hbx, hz2⟩ := HR.out
        refine ⟨keeps_drew2 hk, ⟨(Below.refl _ _).drew.trans hp.1, hp.2.1, hp.2.2⟩, _, hbx, ?_, HB.out.trans ((Below.refl _ _).drew.trans hp.1), Nat.le_trans HWD.out (keeps_drew2 hk).size⟩
        rw [List.map_append, HLS.out, List.map_singleton, ← HY.out]
        exact hz2
      · go_simp
        refine hK'.out _ _ ?_
        try simp only [Act.put, List.setIfInBounds_toArray, List.set_cons_zero, List.set_cons_succ]
        refine bn2 (i := 0) (j := 3) rfl rfl (by kernel_rfl) (by rfl) (by rfl) (fun K' hK' => ?_) (fun K' hK' => ?_)
        · go_simp
          refine hK'.out _ _ ?_
          try simp only [Act.put, List.setIfInBounds_toArray, List.set_cons_zero, List.set_cons_succ]
          refine bn1 (i := 3) rfl (by kernel_rfl) (by rfl) (fun K' hK' => ?_)
          go_simp
          refine ⟨trivial, ?_⟩
          refine ((callsIn_wide.2 HCK.out).inRound l).mono ?_
          rintro e X1 ⟨ad1, cap1, rfl, ho1, hb1⟩
          have HO1 := Lib.hid ho1
          have HB1 := Lib.hid hb1
          have HBO1 := Lib.hid (show Boxed X1 w1.heap.size 29 v from (hb1.block _ HV.out.lt).trans HV.out)
          clear ho1 hb1
          refine hK'.out _ _ ?_
          try simp only [Act.put, List.setIfInBounds_toArray, List.set_cons_zero, List.set_cons_succ]
          refine bn1 (i := 4) rfl (by kernel_rfl) (by rfl) (fun K' hK' => ?_)
          obtain ⟨X2, hX2⟩ : ∃ X2, X2 = X1.alloc (.cells #[.bool y.m, .bool y.bad, .slice ad1 y.d.length cap1] 57) := ⟨_, rfl⟩
          have HB2 := Lib.hid (show Below W.drew.heap.size W.drew X2 by rw [hX2]; exact HB1.out.alloc HB1.out.size _)
          have HZ2 := Lib.hid (show Kq X2 (w1.heap.size + 1 + 1 + 1) (w1.heap.size + 1 + 1 + 1) v Ls0 from (HZ.out.below (Below.refl _ _).drew).below HB2.out)
          have HX2 := Lib.hid (show Kx X2 (w1.heap.size + 1 + 1 + 1) v.ownBlock (some ⟨X1.heap.size, 0, none⟩) [y] by
            obtain ⟨ad', cap', ev, hlx, h1, h2, h3⟩ := LieX.of_own HO1.out (x := v.ownBlock) (fun g e => (HZ.out.own g e).2.1)
            cases ev
            rw [hX2]
            exact Kx.one (w := X1) y.m y.bad ad1 y.d cap1 (hlx.mono HWD.out) h1 h2 h3 _ rfl)
          have HS2 := Lib.hid (show w1.heap.size + 1 + 1 + 1 ≤ X2.heap.size from Nat.le_trans HWD.out HB2.out.size)
          have HBO2 := Lib.hid (show Boxed X2 w1.heap.size 29 v from (HB2.out.block _ HV.out.lt).trans HV.out)
          go_simp
          rw [← hX2]
          refine hK'.out _ _ ?_
          try simp only [Act.put, List.setIfInBounds_toArray, List.set_cons_zero, List.set_cons_succ]
          clear hX2
          refine bn1 (i := 5) rfl (by kernel_rfl) (by rfl) (fun K' hK' => ?_)
          refine in_builtin (ops := #[]) (fun _ => trivial) rfl rfl (.inl rfl) ?_
          refine wpList_append_k rfl (.tmp 13) (.tmp 17) rfl (w1.heap.size + 1 + 1 + 1) (w1.heap.size + 1 + 1 + 1) (w1.heap.size + 1 + 1 + 1) (w1.heap.size + 1 + 1 + 1) v Ls0 rfl HZ2.out _ 1 1 [y] (fun h => by cases h) HX2.out rfl rfl hLb HS2.out (Nat.le_refl _) (Nat.le_refl _) ?_
          intro v5 w5 ho5 hg5 _
          refine ⟨rfl, hK'.out _ _ ?_⟩
          try simp only [Act.put, List.setIfInBounds_toArray, List.set_cons_zero, List.set_cons_succ]
          obtain ⟨ad5, cap5, e5, -⟩ := ho5.read
          subst e5
          rw [List.length_append, List.length_singleton] at ho5
          rw [List.length_append, List.length_singleton]
          have hr := HRD.out _ _ _ HB2.out ho5 hg5
          have hc5 := hr.1.cell
          have hf5 := hr.1.frozen
          have HR := Lib.hid hr
          clear ho5 hg5 hr
          refine bn1 (i := 6) rfl (by kernel_rfl) (by rfl) (fun K' hK' => ?_)
          go_simp
          refine hK'.out _ _ ?_
          refine wpAnyIn_done (by kernel_rfl) ?_ _
          obtain ⟨_, hk, hp, hbx, hz2⟩ := HR.out
          refine ⟨keeps_drew2 hk, ⟨(Below.refl _ _).drew.trans hp.1, hp.2.1, hp.2.2⟩, _, hbx, ?_, HB.out.trans ((Below.refl _ _).drew.trans hp.1), Nat.le_trans HWD.out (keeps_drew2 hk).size⟩
          rw [List.map_append, HLS.out, List.map_singleton, ← HY.out]
          exact hz2
        · go_simp
          refine ⟨trivial, ?_⟩
          refine ((callsIn_wide.2 HCK.out).inRound l).mono ?_
          rintro e X1 ⟨ad1, cap1, rfl, ho1, hb1⟩
          have HO1 := Lib.hid ho1
          have HB1 := Lib.hid hb1
          have HBO1 := Lib.hid (show Boxed X1 w1.heap.size 29 v from (hb1.block _ HV.out.lt).trans HV.out)
          clear ho1 hb1
          refine hK'.out _ _ ?_
          try simp only [Act.put, List.setIfInBounds_toArray, List.set_cons_zero, List.set_cons_succ]
          refine bn2 (i := 0) (j := 4) rfl rfl (by kernel_rfl) (by rfl) (by rfl) (fun K' hK' => ?_) (fun K' hK' => ?_)
          · have hcx := (show Boxed X1 w1.heap.size 29 v from HBO1.out).cell
            go_simp
            refine hK'.out _ _ ?_
            try simp only [Act.put, List.setIfInBounds_toArray, List.set_cons_zero, List.set_cons_succ]
            clear hcx
            refine bn1 (i := 4) rfl (by kernel_rfl) (by rfl) (fun K' hK' => ?_)
            obtain ⟨X2, hX2⟩ : ∃ X2, X2 = X1.alloc (.cells #[.bool y.m, .bool y.bad, .slice ad1 y.d.length cap1] 57) := ⟨_, rfl⟩
            have HB2 := Lib.hid (show Below W.drew.heap.size W.drew X2 by rw [hX2]; exact HB1.out.alloc HB1.out.size _)
            have HZ2 := Lib.hid (show Kq X2 (w1.heap.size + 1 + 1 + 1) (w1.heap.size + 1 + 1 + 1) v Ls0 from (HZ.out.below (Below.refl _ _).drew).below HB2.out)
            have HX2 := Lib.hid (show Kx X2 (w1.heap.size + 1 + 1 + 1) v.ownBlock (some ⟨X1.heap.size, 0, none⟩) [y] by
              obtain ⟨ad', cap', ev, hlx, h1, h2, h3⟩ := LieX.of_own HO1.out (x := v.ownBlock) (fun g e => (HZ.out.own g e).2.1)
              cases ev
              rw [hX2]
              exact Kx.one (w := X1) y.m y.bad ad1 y.d cap1 (hlx.mono HWD.out) h1 h2 h3 _ rfl)
            have HS2 := Lib.hid (show w1.heap.size + 1 + 1 + 1 ≤ X2.heap.size from Nat.le_trans HWD.out HB2.out.size)
            have HBO2 := Lib.hid (show Boxed X2 w1.heap.size 29 v from (HB2.out.block _ HV.out.lt).trans HV.out)
            go_simp
            rw [← hX2]
            refine hK'.out _ _ ?_
            try simp only [Act.put, List.setIfInBounds_toArray, List.set_cons_zero, List.set_cons_succ]
            clear hX2
            refine bn1 (i := 5) rfl (by kernel_rfl) (by rfl) (fun K' hK' => ?_)
            refine in_builtin (ops := #[]) (fun _ => trivial) rfl rfl (.inl rfl) ?_
            refine wpList_append_k rfl (.tmp 13) (.tmp 17) rfl (w1.heap.size + 1 + 1 + 1) (w1.heap.size + 1 + 1 + 1) (w1.heap.size + 1 + 1 + 1) (w1.heap.size + 1 + 1 + 1) v Ls0 rfl HZ2.out _ 1 1 [y] (fun h => by cases h) HX2.out rfl rfl hLb HS2.out (Nat.le_refl _) (Nat.le_refl _) ?_
            intro v5 w5 ho5 hg5 _
            refine ⟨rfl, hK'.out _ _ ?_⟩
            try simp only [Act.put, List.setIfInBounds_toArray, List.set_cons_zero, List.set_cons_succ]
            obtain ⟨ad5, cap5, e5, -⟩ := ho5.read
            subst e5
            rw [List.length_append, List.length_singleton] at ho5
            rw [List.length_append, List.length_singleton]
            have hr := HRD.out _ _ _ HB2.out ho5 hg5
            have hc5 := hr.1.cell
            have hf5 := hr.1.frozen
            have HR := Lib.hid hr
            clear ho5 hg5 hr
            refine bn1 (i := 6) rfl (by kernel_rfl) (by rfl) (fun K' hK' => ?_)
            go_simp
            refine hK'.out _ _ ?_
            refine wpAnyIn_done (by kernel_rfl) ?_ _
            obtain ⟨_, hk, hp, hbx, hz2⟩ := HR.out
            refine ⟨keeps_drew2 hk, ⟨(Below.refl _ _).drew.trans hp.1, hp.2.1, hp.2.2⟩, _, hbx, ?_, HB.out.trans ((Below.refl _ _).drew.trans hp.1), Nat.le_trans HWD.out (keeps_drew2 hk).size⟩
            rw [List.map_append, HLS.out, List.map_singleton, ← HY.out]
            exact hz2
          · obtain ⟨X2, hX2⟩ : ∃ X2, X2 = X1.alloc (.cells #[.bool y.m, .bool y.bad, .slice ad1 y.d.length cap1] 57) := ⟨_, rfl⟩
            have HB2 := Lib.hid (show Below W.drew.heap.size W.drew X2 by rw [hX2]; exact HB1.out.alloc HB1.out.size _)
            have HZ2 := Lib.hid (show Kq X2 (w1.heap.size + 1 + 1 + 1) (w1.heap.size + 1 + 1 + 1) v Ls0 from (HZ.out.below (Below.refl _ _).drew).below HB2.out)
            have HX2 := Lib.hid (show Kx X2 (w1.heap.size + 1 + 1 + 1) v.ownBlock (some ⟨X1.heap.size, 0, none⟩) [y] by
              obtain ⟨ad', cap', ev, hlx, h1, h2, h3⟩ := LieX.of_own HO1.out (x := v.ownBlock) (fun g e => (HZ.out.own g e).2.1)
              cases ev
              rw [hX2]
              exact Kx.one (w := X1) y.m y.bad ad1 y.d cap1 (hlx.mono HWD.out) h1 h2 h3 _ rfl)
            have HS2 := Lib.hid (show w1.heap.size + 1 + 1 + 1 ≤ X2.heap.size from Nat.le_trans HWD.out HB2.out.size)
            have HBO2 := Lib.hid (show Boxed X2 w1.heap.size 29 v from (HB2.out.block _ HV.out.lt).trans HV.out)
            go_simp
            rw [← hX2]
            refine hK'.out _ _ ?_
            try simp only [Act.put, List.setIfInBounds_toArray, List.set_cons_zero, List.set_cons_succ]
            clear hX2
            refine bn1 (i := 0) rfl (by kernel_rfl) (by rfl) (fun K' hK' => ?_)
            have hcx := (show Boxed X2 w1.heap.size 29 v from HBO2.out).cell
            go_simp
            refine hK'.out _ _ ?_
            try simp only [Act.put, List.setIfInBounds_toArray, List.set_cons_zero, List.set_cons_succ]
            clear hcx
            refine bn1 (i := 5) rfl (by kernel_rfl) (by rfl) (fun K' hK' => ?_)
            refine in_builtin (ops := #[]) (fun _ => trivial) rfl rfl (.inl rfl) ?_
            refine wpList_append_k rfl (.tmp 13) (.tmp 17) rfl (w1.heap.size + 1 + 1 + 1) (w1.heap.size + 1 + 1 + 1) (w1.heap.size + 1 + 1 + 1) (w1.heap.size + 1 + 1 + 1) v Ls0 rfl HZ2.out _ 1 1 [y] (fun h => by cases h) HX2.out rfl rfl hLb HS2.out (Nat.le_refl _) (Nat.le_refl _) ?_
            intro v5 w5 ho5 hg5 _
            refine ⟨rfl, hK'.out _ _ ?_⟩
            try simp only [Act.put, List.setIfInBounds_toArray, List.set_cons_zero, List.set_cons_succ]
            obtain ⟨ad5, cap5, e5, -⟩ := ho5.read
            subst e5
            rw [List.length_append, List.length_singleton] at ho5
            rw [List.length_append, List.length_singleton]
            have hr := HRD.out _ _ _ HB2.out ho5 hg5
            have hc5 := hr.1.cell
            have hf5 := hr.1.frozen
            have HR := Lib.hid hr
            clear ho5 hg5 hr
            refine bn1 (i := 6) rfl (by kernel_rfl) (by rfl) (fun K' hK' => ?_)
            go_simp
            refine hK'.out _ _ ?_
            refine wpAnyIn_done (by kernel_rfl) ?_ _
            obtain ⟨_, hk, hp, hbx, hz2⟩ := HR.out
            refine ⟨keeps_drew2 hk, ⟨(Below.refl _ _).drew.trans hp.1, hp.2.1, hp.2.2⟩, _, hbx, ?_, HB.out.trans ((Below.refl _ _).drew.trans hp.1), Nat.le_trans HWD.out (keeps_drew2 hk).size⟩
            rw [List.map_append, HLS.out, List.map_singleton, ← HY.out]
            exact hz2
    · go_simp
      refine hK'.out _ _ ?_
      try simp only [Act.put, List.setIfInBounds_toArray, List.set_cons_zero, List.set_cons_succ]
      refine bn2 (i := 0) (j := 1) rfl rfl (by kernel_rfl) (by rfl) (by rfl) (fun K' hK' => ?_) (fun K' hK' => ?_)
      · go_simp
        refine hK'.out _ _ ?_
        try simp only [Act.put, List.setIfInBounds_toArray, List.set_cons_zero, List.set_cons_succ]
        refine bn1 (i := 1) rfl (by kernel_rfl) (by rfl) (fun K' hK' => ?_)
        go_simp
        refine hK'.out _ _ ?_
        try simp only [Act.put, List.setIfInBounds_toArray, List.set_cons_zero, List.set_cons_succ]
        refine bn1 (i := 3) rfl (by kernel_rfl) (by rfl) (fun K' hK' => ?_)
        go_simp
        refine ⟨trivial, ?_⟩
        refine ((callsIn_wide.2 HCK.out).inRound l).mono ?_
        rintro e X1 ⟨ad1, cap1, rfl, ho1, hb1⟩
        have HO1 := Lib.hid ho1
        have HB1 := Lib.hid hb1
        have HBO1 := Lib.hid (show Boxed X1 w1.heap.size 29 v from (hb1.block _ HV.out.lt).trans HV.out)
        clear ho1 hb1
        refine hK'.out _ _ ?_
        try simp only [Act.put, List.setIfInBounds_toArray, List.set_cons_zero, List.set_cons_succ]
        refine bn1 (i := 4) rfl (by kernel_rfl) (by rfl) (fun K' hK' => ?_)
        obtain ⟨X2, hX2⟩ : ∃ X2, X2 = X1.alloc (.cells #[.bool y.m, .bool y.bad, .slice ad1 y.d.length cap1] 57) := ⟨_, rfl⟩
        have HB2 := Lib.hid (show Below W.drew.heap.size W.drew X2 by rw [hX2]; exact HB1.out.alloc HB1.out.size _)
        have HZ2 := Lib.hid (show Kq X2 (w1.heap.size + 1 + 1 + 1) (w1.heap.size + 1 + 1 + 1) v Ls0 from (HZ.out.below (Below.refl _ _).drew).below HB2.out)
        have HX2 := Lib.hid (show Kx X2 (w1.heap.size + 1 + 1 + 1) v.ownBlock (some ⟨X1.heap.size, 0, none⟩) [y] by
          obtain ⟨ad', cap', ev, hlx, h1, h2, h3⟩ := LieX.of_own HO1.out (x := v.ownBlock) (fun g e => (HZ.out.own g e).2.1)
          cases ev
          rw [hX2]
          exact Kx.one (w := X1) y.m y.bad ad1 y.d cap1 (hlx.mono HWD.out) h1 h2 h3 _ rfl)
        have HS2 := Lib.hid (show w1.heap.size + 1 + 1 + 1 ≤ X2.heap.size from Nat.le_trans HWD.out HB2.out.size)
        have HBO2 := Lib.hid (show Boxed X2 w1.heap.size 29 v from (HB2.out.block _ HV.out.lt).trans HV.out)
        go_simp
        rw [← hX2]
        refine hK'.out _ _ ?_
        try simp only [Act.put, List.setIfInBounds_toArray, List.set_cons_zero, List.set_cons_succ]
        clear hX2
        refine bn1 (i := 5) rfl (by kernel_rfl) (by rfl) (fun K' hK' => ?_)
        refine in_builtin (ops := #[]) (fun _ => trivial) rfl rfl (.inl rfl) ?_
        refine wpList_append_k rfl (.tmp 13) (.tmp 17) rfl (w1.heap.size + 1 + 1 + 1) (w1.heap.size + 1 + 1 + 1) (w1.heap.size + 1 + 1 + 1) (w1.heap.size + 1 + 1 + 1) v Ls0 rfl HZ2.out _ 1 1 [y] (fun h => by cases h) HX2.out rfl rfl hLb HS2.out (Nat.le_refl _) (Nat.le_refl _) ?_
        intro v5 w5 ho5 hg5 _
        refine ⟨rfl, hK'.out _ _ ?_⟩
        try simp only [Act.put, List.setIfInBounds_toArray, List.set_cons_zero, List.set_cons_succ]
        obtain ⟨ad5, cap5, e5, -⟩ := ho5.read
        subst e5
        rw [List.length_append, List.length_singleton] at ho5
        rw [List.length_append, List.length_singleton]
        have hr := HRD.out _ _ _ HB2.out ho5 hg5
        have hc5 := hr.1.cell
        have hf5 := hr.1.frozen
        have HR := Lib.hid hr
        clear ho5 hg5 hr
        refine bn1 (i := 6) rfl (by kernel_rfl) (by rfl) (fun K' hK' => ?_)
        go_simp
        refine hK'.out _ _ ?_
        refine wpAnyIn_done (by kernel_rfl) ?_ _
        obtain ⟨_, hk, hp, hbx, hz2⟩ := HR.out
        refine ⟨keeps_drew2 hk, ⟨(Below.refl _ _).drew.trans hp.1, hp.2.1, hp.2.2⟩, _, hbx, ?_, HB.out.trans ((Below.refl _ _).drew.trans hp.1), Nat.le_trans HWD.out (keeps_drew2 hk).size⟩
        rw [List.map_append, HLS.out, List.map_singleton, ← HY.out]
        exact hz2
      · go_simp
        refine hK'.out _ _ ?_
        try simp only [Act.put, List.setIfInBounds_toArray, List.set_cons_zero, List.set_cons_succ]
        refine bn2 (i := 0) (j := 3) rfl rfl (by kernel_rfl) (by rfl) (by rfl) (fun K' hK' => ?_) (fun K' hK' => ?_)
        · go_simp
          refine hK'.out _ _ ?_
          try simp only [Act.put, List.setIfInBounds_toArray, List.set_cons_zero, List.set_cons_succ]
          refine bn1 (i := 3) rfl (by kernel_rfl) (by rfl) (fun K' hK' => ?_)
          go_simp
          refine ⟨trivial, ?_⟩
          refine ((callsIn_wide.2 HCK.out).inRound l).mono ?_
          rintro e X1 ⟨ad1, cap1, rfl, ho1, hb1⟩
          have HO1 := Lib.hid ho1
          have HB1 := Lib.hid hb1
          have HBO1 := Lib.hid (show Boxed X1 w1.heap.size 29 v from (hb1.block _ HV.out.lt).trans HV.out)
          clear ho1 hb1
          refine hK'.out _ _ ?_
          try simp only [Act.put, List.setIfInBounds_toArray, List.set_cons_zero, List.set_cons_succ]
          refine bn1 (i := 4) rfl (by kernel_rfl) (by rfl) (fun K' hK' => ?_)
          obtain ⟨X2, hX2⟩ : ∃ X2, X2 = X1.alloc (.cells #[.bool y.m, .bool y.bad, .slice ad1 y.d.length cap1] 57) := ⟨_, rfl⟩
          have HB2 := Lib.hid (show Below W.drew.heap.size W.drew X2 by rw [hX2]; exact HB1.out.alloc HB1.out.size _)
          have HZ2 := Lib.hid (show Kq X2 (w1.heap.size + 1 + 1 + 1) (w1.heap.size + 1 + 1 + 1) v Ls0 from (HZ.out.below (Below.refl _ _).drew).below HB2.out)
          have HX2 := Lib.hid (show Kx X2 (w1.heap.size + 1 + 1 + 1) v.ownBlock (some ⟨X1.heap.size, 0, none⟩) [y] by
            obtain ⟨ad', cap', ev, hlx, h1, h2, h3⟩ := LieX.of_own HO1.out (x := v.ownBlock) (fun g e => (HZ.out.own g e).2.1)
            cases ev
            rw [hX2]
            exact Kx.one (w := X1) y.m y.bad ad1 y.d cap1 (hlx.mono HWD.out) h1 h2 h3 _ rfl)
          have HS2 := Lib.hid (show w1.heap.size + 1 + 1 + 1 ≤ X2.heap.size from Nat.le_trans HWD.out HB2.out.size)
          have HBO2 := Lib.hid (show Boxed X2 w1.heap.size 29 v from (HB2.out.block _ HV.out.lt).trans HV.out)
          go_simp
          rw [← hX2]
          refine hK'.out _ _ ?_
          try simp only [Act.put, List.setIfInBounds_toArray, List.set_cons_zero, List.set_cons_succ]
          clear hX2
          refine bn1 (i := 5) rfl (by kernel_rfl) (by rfl) (fun K' hK' => ?_)
          refine in_builtin (ops := #[]) (fun _ => trivial) rfl rfl (.inl rfl) ?_
          refine wpList_append_k rfl (.tmp 13) (.tmp 17) rfl (w1.heap.size + 1 + 1 + 1) (w1.heap.size + 1 + 1 + 1) (w1.heap.size + 1 + 1 + 1) (w1.heap.size + 1 + 1 + 1) v Ls0 rfl HZ2.out _ 1 1 [y] (fun h => by cases h) HX2.out rfl rfl hLb HS2.out (Nat.le_refl _) (Nat.le_refl _) ?_
          intro v5 w5 ho5 hg5 _
          refine ⟨rfl, hK'.out _ _ ?_⟩
          try simp only [Act.put, List.setIfInBounds_toArray, List.set_cons_zero, List.set_cons_succ]
          obtain ⟨ad5, cap5, e5, -⟩ := ho5.read
          subst e5
          rw [List.length_append, List.length_singleton] at ho5
          rw [List.length_append, List.length_singleton]
          have hr := HRD.out _ _ _ HB2.out ho5 hg5
          have hc5 := hr.1.cell
          have hf5 := hr.1.frozen
          have HR := Lib.hid hr
          clear ho5 hg5 hr
          refine bn1 (i := 6) rfl (by kernel_rfl) (by rfl) (fun K' hK' => ?_)
          go_simp
          refine hK'.out _ _ ?_
          refine wpAnyIn_done (by kernel_rfl) ?_ _
          obtain ⟨_, hk, hp, hbx, hz2⟩ := HR.out
          refine ⟨keeps_drew2 hk, ⟨(Below.refl _ _).drew.trans hp.1, hp.2.1, hp.2.2⟩, _, hbx, ?_, HB.out.trans ((Below.refl _ _).drew.trans hp.1), Nat.le_trans HWD.out (keeps_drew2 hk).size⟩
          rw [List.map_append, HLS.out, List.map_singleton, ← HY.out]
          exact hz2
        · go_simp
          refine ⟨trivial, ?_⟩
          refine ((callsIn_wide.2 HCK.out).inRound l).mono ?_
          rintro e X1 ⟨ad1, cap1, rfl, ho1, hb1⟩
          have HO1 := Lib.hid ho1
          have HB1 := Lib.hid hb1
          have HBO1 := Lib.hid (show Boxed X1 w1.heap.size 29 v from (hb1.block _ HV.out.lt).trans HV.out)
          clear ho1 hb1
          refine hK'.out _ _ ?_
          try simp only [Act.put, List.setIfInBounds_toArray, List.set_cons_zero, List.set_cons_succ]
          refine bn2 (i := 0) (j := 4) rfl rfl (by kernel_rfl) (by rfl) (by rfl) (fun K' hK' => ?_) (fun K' hK' => ?_)
          · have hcx := (show Boxed X1 w1.heap.size 29 v from HBO1.out).cell
            go_simp
            refine hK'.out _ _ ?_
            try simp only [Act.put, List.setIfInBounds_toArray, List.set_cons_zero, List.set_cons_succ]
            clear hcx
            refine bn1 (i := 4) rfl (by kernel_rfl) (by rfl) (fun K' hK' => ?_)
            obtain ⟨X2, hX2⟩ : ∃ X2, X2 = X1.alloc (.cells #[.bool y.m, .bool y.bad, .slice ad1 y.d.length cap1] 57) := ⟨_, rfl⟩
            have HB2 := Lib.hid (show Below W.drew.heap.size W.drew X2 by rw [hX2]; exact HB1.out.alloc HB1.out.size _)
            have HZ2 := Lib.hid (show Kq X2 (w1.heap.size + 1 + 1 + 1) (w1.heap.size + 1 + 1 + 1) v Ls0 from (HZ.out.below (Below.refl _ _).drew).below HB2.out)
            have HX2 := Lib.hid (show Kx X2 (w1.heap.size + 1 + 1 + 1) v.ownBlock (some ⟨X1.heap.size, 0, none⟩) [y] by
              obtain ⟨ad', cap', ev, hlx, h1, h2, h3⟩ := LieX.of_own HO1.out (x := v.ownBlock) (fun g e => (HZ.out.own g e).2.1)
              cases ev
              rw [hX2]
              exact Kx.one (w := X1) y.m y.bad ad1 y.d cap1 (hlx.mono HWD.out) h1 h2 h3 _ rfl)
            have HS2 := Lib.hid (show w1.heap.size + 1 + 1 + 1 ≤ X2.heap.size from Nat.le_trans HWD.out HB2.out.size)
            have HBO2 := Lib.hid (show Boxed X2 w1.heap.size 29 v from (HB2.out.block _ HV.out.lt).trans HV.out)
            go_simp
            rw [← hX2]
            refine hK'.out _ _ ?_
            try simp only [Act.put, List.setIfInBounds_toArray, List.set_cons_zero, List.set_cons_succ]
            clear hX2
            refine bn1 (i := 5) rfl (by kernel_rfl) (by rfl) (fun K' hK' => ?_)
            refine in_builtin (ops := #[]) (fun _ => trivial) rfl rfl (.inl rfl) ?_
            refine wpList_append_k rfl (.tmp 13) (.tmp 17) rfl (w1.heap.size + 1 + 1 + 1) (w1.heap.size + 1 + 1 + 1) (w1.heap.size + 1 + 1 + 1) (w1.heap.size + 1 + 1 + 1) v Ls0 rfl HZ2.out _ 1 1 [y] (fun h => by cases h) HX2.out rfl rfl hLb HS2.out (Nat.le_refl _) (Nat.le_refl _) ?_
            intro v5 w5 ho5 hg5 _
            refine ⟨rfl, hK'.out _ _ ?_⟩
            try simp only [Act.put, List.setIfInBounds_toArray, List.set_cons_zero, List.set_cons_succ]
            obtain ⟨ad5, cap5, e5, -⟩ := ho5.read
            subst e5
            rw [List.length_append, List.length_singleton] at ho5
            rw [List.length_append, List.length_singleton]
            have hr := HRD.out _ _ _ HB2.out ho5 hg5
            have hc5 := hr.1.cell
            have hf5 := hr.1.frozen
            have HR := Lib.hid hr
            clear ho5 hg5 hr
            refine bn1 (i := 6) rfl (by kernel_rfl) (by rfl) (fun K' hK' => ?_)
            go_simp
            refine hK'.out _ _ ?_
            refine wpAnyIn_done (by kernel_rfl) ?_ _
            obtain ⟨_, hk, hp, hbx, hz2⟩ := HR.out
            refine ⟨keeps_drew2 hk, ⟨(Below.refl _ _).drew.trans hp.1, hp.2.1, hp.2.2⟩, _, hbx, ?_, HB.out.trans ((Below.refl _ _).drew.trans hp.1), Nat.le_trans HWD.out (keeps_drew2 hk).size⟩
            rw [List.map_append, HLS.out, List.map_singleton, ← HY.out]
            exact hz2
          · obtain ⟨X2, hX2⟩ : ∃ X2, X2 = X1.alloc (.cells #[.bool y.m, .bool y.bad, .slice ad1 y.d.length cap1] 57) := ⟨_, rfl⟩
            have HB2 := Lib.hid (show Below W.drew.heap.size W.drew X2 by rw [hX2]; exact HB1.out.alloc HB1.out.size _)
            have HZ2 := Lib.hid (show Kq X2 (w1.heap.size + 1 + 1 + 1) (w1.heap.size + 1 + 1 + 1) v Ls0 from (HZ.out.below (Below.refl _ _).drew).below HB2.out)
            have HX2 := Lib.hid (show Kx X2 (w1.heap.size + 1 + 1 + 1) v.ownBlock (some ⟨X1.heap.size, 0, none⟩) [y] by
              obtain ⟨ad', cap', ev, hlx, h1, h2, h3⟩ := LieX.of_own HO1.out (x := v.ownBlock) (fun g e => (HZ.out.own g e).2.1)
              cases ev
              rw [hX2]
              exact Kx.one (w := X1) y.m y.bad ad1 y.d cap1 (hlx.mono HWD.out) h1 h2 h3 _ rfl)
            have HS2 := Lib.hid (show w1.heap.size + 1 + 1 + 1 ≤ X2.heap.size from Nat.le_trans HWD.out HB2.out.size)
            have HBO2 := Lib.hid (show Boxed X2 w1.heap.size 29 v from (HB2.out.block _ HV.out.lt).trans HV.out)
            go_simp
            rw [← hX2]
            refine hK'.out _ _ ?_
            try simp only [Act.put, List.setIfInBounds_toArray, List.set_cons_zero, List.set_cons_succ]
            clear hX2
            refine bn1 (i := 0) rfl (by kernel_rfl) (by rfl) (fun K' hK' => ?_)
            have hcx := (show Boxed X2 w1.heap.size 29 v from HBO2.out).cell
            go_simp
            refine hK'.out _ _ ?_
            try simp only [Act.put, List.setIfInBounds_toArray, List.set_cons_zero, List.set_cons_succ]
            clear hcx
            refine bn1 (i := 5) rfl (by kernel_rfl) (by rfl) (fun K' hK' => ?_)
            refine in_builtin (ops := #[]) (fun _ => trivial) rfl rfl (.inl rfl) ?_
            refine wpList_append_k rfl (.tmp 13) (.tmp 17) rfl (w1.heap.size + 1 + 1 + 1) (w1.heap.size + 1 + 1 + 1) (w1.heap.size + 1 + 1 + 1) (w1.heap.size + 1 + 1 + 1) v Ls0 rfl HZ2.out _ 1 1 [y] (fun h => by cases h) HX2.out rfl rfl hLb HS2.out (Nat.le_refl _) (Nat.le_refl _) ?_
            intro v5 w5 ho5 hg5 _
            refine ⟨rfl, hK'.out _ _ ?_⟩
            try simp only [Act.put, List.setIfInBounds_toArray, List.set_cons_zero, List.set_cons_succ]
            obtain ⟨ad5, cap5, e5, -⟩ := ho5.read
            subst e5
            rw [List.length_append, List.length_singleton] at ho5
            rw [List.length_append, List.length_singleton]
            have hr := HRD.out _ _ _ HB2.out ho5 hg5
            have hc5 := hr.1.cell
            have hf5 := hr.1.frozen
            have HR := Lib.hid hr
            clear ho5 hg5 hr
            refine bn1 (i := 6) rfl (by kernel_rfl) (by rfl) (fun K' hK' => ?_)
            go_simp
            refine hK'.out _ _ ?_
            refine wpAnyIn_done (by kernel_rfl) ?_ _
            obtain ⟨_, hk, hp, hbx, hz2⟩ := HR.out
            refine ⟨keeps_drew2 hk, ⟨(Below.refl _ _).drew.trans hp.1, hp.2.1, hp.2.2⟩, _, hbx, ?_, HB.out.trans ((Below.refl _ _).drew.trans hp.1), Nat.le_trans HWD.out (keeps_drew2 hk).size⟩
            rw [List.map_append, HLS.out, List.map_singleton, ← HY.out]
            exact hz2
  case done =>
    rintro ys W hS ⟨v, hv, hz, hB, hWD⟩ hK
    rw [hsz4] at hK ⊢
    have hc1 := hv.cell
    have HZ := Lib.hid hz
    have HB := Lib.hid hB
    have HK := Lib.hid hK
    have HF : Hid ((ys.map fun x : Pt => pcB v0 x.l) = PB) := Lib.hid (by rw [HE.out, ← show ys.map (·.l) = partsF S xs from hS, List.map_map]; rfl)
    clear hv hz hB hK hS bO3 bB3 bN hB0
    gi_wp2_with fail
    have hK2 : W.heap[w1.heap.size + 1 + 1 + 1]? = some (.deferred (some [])) := HK.out
    have hg2 := grownBy_putObj' W (w1.heap.size + 1 + 1 + 1) (.deferred none)
    refine ⟨by simp, .inl ⟨_, _, rfl, run_takeDeferred hK2, ?_⟩⟩
    have hb2 := HB.out.grown hg2 HB.out.size (fun k e => by cases e; omega)
    refine ⟨_, results_tmp rfl _ _ _, v, rfl, ?_, HBW.out.trans (hb2.mono HBW.out.size)⟩
    rw [← HF.out]
    exact (HZ.out.kept hg2 (fun r e => by cases e; exact ⟨_, hK2, rfl⟩)).mono (by have := HZ1.out; omega) (by have := HZ1.out; omega)
end Go.Proofs.YtjiijjdmkeeilaaDoor
