/-
  The leaves of the parts of a string, by the program.
-/
import Derived.Test.YtgnidlhijmageaaNChunk
namespace Go.Proofs.Ytgnidlhijmageaa
open Go.RowKit Go.Shelf
set_option linter.unusedVariables false
set_option linter.unusedSimpArgs false
attribute [local go_sem] Oper.semAt_some
/-- What the loop over the iterator keeps. -/
def BlI (w : World) (n₀ D0 B1 : Nat) (pre : List Pt) (W : World) : Prop :=
  ∃ v, Boxed W B1 28 v ∧ Onu W D0 v (pre.map fun x => leafU x.l) ∧ Below n₀ w W ∧ D0 ≤ W.heap.size
theorem blI_own (w : World) (n₀ D0 B1 : Nat) (hD : n₀ ≤ D0) (hw : n₀ ≤ w.heap.size) : OwnFrom D0 (BlI w n₀ D0 B1) := by
  rintro pre X Y row ⟨v, h1, h2, h4, h5⟩ hg hr
  have hne : ∀ {b t u}, Boxed X b t u → some b ≠ row := fun {b t u} hb e => by
    obtain ⟨_, o, ho, hc⟩ := hr b e.symm
    rw [show X.heap[b]? = _ from hb] at ho
    cases ho
    cases hc
  refine ⟨v, h1.kept hg (hne h1), h2.kept hg ?_, h4.grown hg (Nat.le_trans hw h4.size) (fun k e => Nat.le_trans hD (hr k e).1), Nat.le_trans h5 hg.size⟩
  cases hv : v.ownBlock with
  | none => exact .inl rfl
  | some k =>
    right
    intro e
    obtain ⟨_, o, ho, hc⟩ := hr k e.symm
    obtain ⟨_, _, cur, hgg⟩ := h2.own k hv
    rw [hgg] at ho
    cases ho
    cases hc
theorem ptKp_put {n₀ bb nb : Nat} {b : Value} {s : Int} {w : World} (hn : n₀ ≤ w.heap.size) (W : World) (l : Nat) (o o' : Obj) (hl : w.heap.size ≤ l) (h : W.heap[l]? = some o) (hc : o.isCells = false) : PtKp n₀ bb nb b s W (W.putObj l o') := by
  have hx : ∀ {B t u}, Boxed W B t u → Boxed (W.putObj l o') B t u := fun {B t u} hb => hb.kept (grownBy_putObj' W l o') (fun e => by
    cases e
    rw [show W.heap[l]? = _ from hb] at h
    cases h
    cases hc)
  exact ⟨(Below.refl n₀ W).grown (grownBy_putObj' W l o') (by have := (Array.getElem?_eq_some_iff.1 h).1; omega) (fun k e => by cases e; omega), hx, hx⟩
section
variable {F : Fence} {n : Nat} {P : Program} {md : Region.Mode} {l : List Oper} {Q : Exit → Act → World → Prop}
/-- one operation may come up -/
theorem an1 {i : Nat} {oi : Oper} {fuel : Nat} {listed : Array Bool} {a : Act} {w : World} (hi : l[i]? = some oi) (hr : Region.ready md l.toArray listed = [i]) (hw : Region.wanted oi (yielded l.toArray a.tmps) = true)
    (h : ∀ K' : Act → World → Prop, Hid (∀ a w, wpAnyIn F n P md l.toArray Q fuel (listed.setIfInBounds i true) a w → K' a w) → oi.wpIn F n P a w K' Q) : wpAnyIn F n P md l.toArray Q (fuel + 1) listed a w := by
  refine ⟨fun h0 => (by rw [hr] at h0; cases h0), fun k hk => ?_⟩
  rw [hr] at hk
  obtain rfl := List.mem_singleton.1 hk
  unfold wpOpIn
  rw [List.getElem?_toArray, hi]
  simp only [hw, if_true]
  exact h _ (Lib.hid fun _ _ h => h)
/-- two operations may come up -/
theorem an2 {i j : Nat} {oi oj : Oper} {fuel : Nat} {listed : Array Bool} {a : Act} {w : World} (hi : l[i]? = some oi) (hj : l[j]? = some oj) (hr : Region.ready md l.toArray listed = [i, j]) (hwi : Region.wanted oi (yielded l.toArray a.tmps) = true) (hwj : Region.wanted oj (yielded l.toArray a.tmps) = true)
    (h : ∀ K' : Act → World → Prop, Hid (∀ a w, wpAnyIn F n P md l.toArray Q fuel (listed.setIfInBounds i true) a w → K' a w) → oi.wpIn F n P a w K' Q)
    (h2 : ∀ K' : Act → World → Prop, Hid (∀ a w, wpAnyIn F n P md l.toArray Q fuel (listed.setIfInBounds j true) a w → K' a w) → oj.wpIn F n P a w K' Q) : wpAnyIn F n P md l.toArray Q (fuel + 1) listed a w := by
  refine ⟨fun h0 => (by rw [hr] at h0; cases h0), fun k hk => ?_⟩
  rw [hr] at hk
  unfold wpOpIn
  rcases List.mem_cons.1 hk with rfl | hk
  · rw [List.getElem?_toArray, hi]
    simp only [hwi, if_true]
    exact h _ (Lib.hid fun _ _ h => h)
  · obtain rfl := List.mem_singleton.1 hk
    rw [List.getElem?_toArray, hj]
    simp only [hwj, if_true]
    exact h2 _ (Lib.hid fun _ _ h => h)
end
theorem in_append_n {F : Fence} {n : Nat} {w : World} {o : Oper} {a : Act} {K : Act → World → Prop} {Q : Exit → Act → World → Prop} (hF : ∀ f, F.fn f) (s x : Operand)
    (ho : o.op = .call { callee := .builtin .append, args := #[s, x], argTypes := #[28, 28] })
    (B : Nat) (v : Value) (ys : List UInt64) (hs : a.eval s = v) (hown : Onu w B v ys) (y : UInt64) (b off : Nat) (hx : a.eval x = .slice (some ⟨b, off, none⟩) 1 1) (hcell : w.cell? ⟨b, off, none⟩ = some (.int .u64 (gv y))) (hlen : ys.length ≤ 1000000) (hbase : B ≤ w.heap.size)
    (h : ∀ v' w', Onu w' B v' (ys ++ [y]) → w.grownBy w' v.ownBlock → K (a.put o.dst v') w') : o.wpIn F n Try.prog a w K Q := by
  obtain ⟨i, hi, hz0, hz1, hz2⟩ := info_n
  obtain ⟨v', w', hr, h5, h6, _, _⟩ := run_append_own_at (P := Try.prog) w B 28 o.type 23 i (.int .u64 0) 1 8 Try.underlying28 hi hz0 hz1 hz2 rfl (by decide) v ys.length (cellsN ys) hown.row ⟨b, off, none⟩ 1 1 [.int .u64 (gv y)] rfl (by
    intro j u hu
    match j with
    | 0 => simp only [List.getElem?_cons_zero, Option.some.injEq] at hu; subst hu; exact hcell
    | j + 1 => simp at hu) (fun u hu => by rw [List.mem_singleton.1 hu]; rfl) (by unfold maxLen; omega) (by omega) hbase
  refine ⟨fun f _ => hF f, ?_⟩
  rw [Oper.semAt_plain F a.eval o (fun c hc => by rw [ho] at hc; cases hc)]
  unfold execOp
  simp only [ho, resolve, invoke, builtin, Sem.run_bind, Sem.run_pure, Result.andThen_ok, List.map_toArray, List.map_cons, List.map_nil, hs, hx, hr]
  refine h v' w' ?_ h6
  unfold Onu
  rw [List.length_append, List.length_singleton]
  rw [show cellsN ys ++ [Value.int .u64 (gv y)] = cellsN (ys ++ [y]) by simp [cellsN]] at h5
  exact h5
theorem keeps_drew {D : Nat} {W X : World} (h : KeepsFrom D W.drew X) : KeepsFrom D W X := ⟨h.size, fun l o h1 h2 h3 => h.same l o h1 h2 h3⟩
theorem Onu.cons {w : World} {B : Nat} {v : Value} {l : List UInt64} {y : UInt64} (h : Onu w B v (l ++ [y])) : ∃ g cap, v = .slice (some ⟨g, 0, none⟩) (l.length + 1) cap := by
  have h1 := h.row
  rw [List.length_append, List.length_cons, List.length_nil] at h1
  exact ownsRow_succ h1
/-- A round's 'leaves = append(leaves, leaf)', told at once. -/
theorem round_leaf {W w1 : World} {n₀ D0 B1 bb nb : Nat} {b v v' : Value} {s : Int} {ls : List UInt64} {y : UInt64} {tmp : Obj} (hv : Boxed W B1 28 v) (hz : Onu W D0 v ls) (hn1 : n₀ ≤ B1) (hD : n₀ ≤ D0) (hbb : bb < D0) (hnb : nb < D0) (hb1D : B1 < D0) (hbb1 : bb ≠ B1) (hnb1 : nb ≠ B1) (hsz : n₀ ≤ W.heap.size)
    (hz' : Onu w1 D0 v' (ls ++ [y])) (hg : (W.alloc tmp).grownBy w1 v.ownBlock) :
    Boxed w1 B1 28 v ∧ KeepsFrom D0 W (w1.setCell ⟨B1, 0, none⟩ v') ∧ PtKp n₀ bb nb b s W (w1.setCell ⟨B1, 0, none⟩ v') ∧ Boxed (w1.setCell ⟨B1, 0, none⟩ v') B1 28 v' ∧ Onu (w1.setCell ⟨B1, 0, none⟩ v') D0 v' (ls ++ [y]) := by
  have hlt : ∀ k, v.ownBlock = some k → D0 ≤ k := fun k hk => (hz.own k hk).1
  have h1 : Boxed w1 B1 28 v := (hv.alloc _).kept hg (fun e => by have := hlt _ e.symm; omega)
  have g1 := grownBy_setCell' w1 B1 v'
  have hz1 : Onu (w1.setCell ⟨B1, 0, none⟩ v') D0 v' (ls ++ [y]) := hz'.kept g1 (by
    cases hk : v'.ownBlock with
    | none => exact .inl rfl
    | some k => right; intro e; cases e; have := (hz'.own _ hk).1; omega)
  have hx : ∀ {B t u}, B < D0 → B ≠ B1 → Boxed W B t u → Boxed (w1.setCell ⟨B1, 0, none⟩ v') B t u := fun {B t u} h2 h3 hb =>
    ((hb.alloc _).kept hg (fun e => by have := hlt _ e.symm; omega)).kept g1 (fun e => by cases e; exact h3 rfl)
  refine ⟨h1, ?_, ⟨?_, hx hbb hbb1, hx hnb hnb1⟩, h1.set v', hz1⟩
  · refine (((KeepsOthers.alloc W _).trans (KeepsOthers.of_grownBy hg fun j o ej hj => ?_)).trans (KeepsOthers.setCell _ _ _)).from D0
    obtain ⟨_, _, cur, hgg⟩ := (hz.alloc tmp).own j ej
    rw [hgg] at hj
    cases hj
    rfl
  · exact (((Below.refl n₀ W).alloc hsz _).grown hg (by simp; omega) (fun k hk => by have := hlt k hk; omega)).setCell (p := ⟨B1, 0, none⟩) hn1 v'
attribute [local irreducible] accU fnv basis byteU beU hashU leafU
set_option maxRecDepth 100000 in
set_option maxHeartbeats 4000000 in
theorem blocks_in (ad : Option Addr) (n cap s : Nat) (xs : List UInt8) (w : World) (hl : Lie w ad xs) (hn : n = xs.length) (hs : n ≤ 4096) (hc : n ≤ cap) (hcm : cap ≤ maxLen) (h1 : 1 ≤ s) (s1 : (s : Int) ≤ 9223372036854775807) :
    Calls Try.prog 16 #[.slice ad n cap, .int .i64 s] w (GivesN w (blkU xs s)) := by
  refine (callsIn_wide (n := 3)).1 ?_
  refine callsIn_of_wp_marks Try.func16 rfl trivial ?_ rfl
  simp only [Try.ntmps16, List.size_toArray, List.length_cons, List.length_nil, Nat.reduceAdd, Nat.reduceSub, Array.replicate_succ, Array.replicate_zero, List.push_toArray, List.append_toArray, List.nil_append, List.cons_append]
  have HN := Lib.hid hn
  have HL := Lib.hid hl
  have HE := Lib.hid (blkU_yes xs s h1)
  have HCM := Lib.hid hcm
  have hs1 : (1 : Int) ≤ (s : Int) := by omega
  have hds : decide ((s : Int) < 1) = false := decide_eq_false (by omega)
  clear hn hl
  gi_wp2_with fail
  refine ⟨trivial, ?_⟩
  refine (chunk_any _ _ n cap s _ hs1).mono ?_
  rintro e w' ⟨rfl, rfl⟩
  have bO := Boxed.new w 28 (.slice none 0 0)
  have bB := Boxed.new (w.alloc (.cells #[.slice none 0 0] 28)) 22 (.slice ad n cap)
  have bN := Boxed.new ((w.alloc (.cells #[.slice none 0 0] 28)).alloc (.cells #[.slice ad n cap] 22)) 3 (.int .i64 s)
  have hB0 : Below w.heap.size w (((w.alloc (.cells #[.slice none 0 0] 28)).alloc (.cells #[.slice ad n cap] 22)).alloc (.cells #[.int .i64 s] 3)) :=
    (((Below.refl _ w).alloc (Nat.le_refl _) _).alloc (by simp) _).alloc (by simp; omega) _
  have hsz4 : (((w.alloc (.cells #[.slice none 0 0] 28)).alloc (.cells #[.slice ad n cap] 22)).alloc (.cells #[.int .i64 s] 3)).heap.size = w.heap.size + 1 + 1 + 1 := by simp
  have bO3 := (bO.alloc (.cells #[.slice ad n cap] 22)).alloc (.cells #[.int .i64 s] 3)
  have bB3 := bB.alloc (.cells #[.int .i64 s] 3)
  simp only [World.size_alloc] at bB3 bN
  clear bO bB
  gi_wp2
  refine wpIn_seqKn rfl (by decide) (gf := 43) (lb := #[.pointer (some ⟨w.heap.size + 1, 0, none⟩), .pointer (some ⟨w.heap.size + 1 + 1, 0, none⟩)]) rfl trivial (enters_of Try.func43 (by kernel_rfl) rfl)
    (chunk1_kn 2 ad n cap s (w.heap.size + 1) (w.heap.size + 1 + 1) xs w _ HL.out HN.out hs hc HCM.out h1 s1 hB0 bB3 bN)
    (fun h k => ⟨h.1.trans k.1, fun hb => k.2.1 (h.2.1 hb), fun hb => k.2.2 (h.2.2 hb)⟩) (ptKp_put (by rw [hsz4]; omega)) (fun _ => rfl)
    (BlI w w.heap.size (w.heap.size + 1 + 1 + 1) w.heap.size) (by rw [hsz4]; exact blI_own _ _ _ _ (by omega) (Nat.le_refl _)) (fun x => fun _ _ _ _ h _ _ => h)
    ⟨_, bO3, Onu.ofNil _ _, hB0, by rw [hsz4]; exact Nat.le_refl _⟩
    (fun x => { tmps := #[.slice ad n cap, .int .i64 s, undef, undef, .slice none 0 0, .pointer (some ⟨w.heap.size, 0, none⟩), .slice x.ad x.N x.cap, .int .i64 s, .bool false, .slice ad n cap, .int .i64 s, .func (.func 43) #[] #[.pointer (some ⟨w.heap.size + 1, 0, none⟩), .pointer (some ⟨w.heap.size + 1 + 1, 0, none⟩)], .slice x.ad x.N x.cap, undef, undef, undef, undef, undef, undef], defers := [] }) ?assign ?body ?done
  case assign =>
    intro l x W K hK
    gi_wp2
    exact hK
  case body =>
    rintro l pre x W ⟨v, hv, hz, hB, hWD⟩ hkn hlen
    rw [hsz4]
    obtain ⟨xad, xN, xcap, xl⟩ := x
    obtain ⟨k1, k2, k3⟩ := hkn
    dsimp only at k1 k2 k3
    have hLl : (pre.map fun x : Pt => leafU x.l).length = pre.length := by simp
    generalize hLs : (pre.map fun x : Pt => leafU x.l) = Ls0 at hz hLl
    have HLS := Lib.hid hLs
    have hLb : Ls0.length ≤ 1000000 := by omega
    have HV := Lib.hid hv
    have HZ := Lib.hid hz
    have HB := Lib.hid hB
    have HK1 := Lib.hid k1
    have HK2 := Lib.hid k2
    have HWD := Lib.hid hWD
    have hWs := hB.size
    have HLF := Lib.hid (leaf_any xad xN xcap xl W.drew (k1.below hB.drew rfl) k2 (by omega))
    have hc1 : W.drew.cell? ⟨w.heap.size, 0, none⟩ = some v := hv.cell
    have hc2 : (W.drew.alloc (.cells #[.int .u64 (gv (leafU xl))] 23)).cell? ⟨w.heap.size, 0, none⟩ = some v := (hv.alloc (.cells #[.int .u64 (gv (leafU xl))] 23)).cell
    have hc4 : (W.alloc (.cells #[.int .u64 (gv (leafU xl))] 23)).drew.cell? ⟨w.heap.size, 0, none⟩ = some v := hc2
    clear hv hz hB k1 k2 hLs hLl hlen bO3 bB3 bN hB0 HL HN HE HCM hds
    generalize hy : leafU xl = y at HLF hc2 hc4
    have HY := Lib.hid hy
    clear hy
    have HZD := Lib.hid ((HZ.out.below (Below.refl _ _).drew).alloc (.cells #[.int .u64 (gv y)] 23))
    gi_wp2_with fail
    refine wpIn_region_any (by kernel_rfl) ?_
    refine an2 (i := 0) (j := 1) rfl rfl (by kernel_rfl) (by rfl) (by rfl) (fun K' hK' => ?_) (fun K' hK' => ?_)
    · go_simp
      refine hK'.out _ _ ?_
      try simp only [Act.put, List.setIfInBounds_toArray, List.set_cons_zero, List.set_cons_succ]
      refine an1 (i := 1) rfl (by kernel_rfl) (by rfl) (fun K' hK' => ?_)
      go_simp
      refine hK'.out _ _ ?_
      try simp only [Act.put, List.setIfInBounds_toArray, List.set_cons_zero, List.set_cons_succ]
      refine an1 (i := 2) rfl (by kernel_rfl) (by rfl) (fun K' hK' => ?_)
      go_simp
      refine ⟨trivial, ?_⟩
      refine ((callsIn_wide.2 HLF.out).inRound l).mono ?_
      rintro e w' ⟨rfl, rfl⟩
      refine hK'.out _ _ ?_
      try simp only [Act.put, List.setIfInBounds_toArray, List.set_cons_zero, List.set_cons_succ]
      refine an1 (i := 3) rfl (by kernel_rfl) (by rfl) (fun K' hK' => ?_)
      go_simp
      refine hK'.out _ _ ?_
      try simp only [Act.put, List.setIfInBounds_toArray, List.set_cons_zero, List.set_cons_succ]
      refine an1 (i := 4) rfl (by kernel_rfl) (by rfl) (fun K' hK' => ?_)
      refine in_append_n (fun _ => trivial) (.tmp 13) (.tmp 16) rfl (w.heap.size + 1 + 1 + 1) v Ls0 rfl HZD.out y _ 0 rfl (cell_newN _ y) hLb (by simp; have := HWD.out; omega) ?_
      intro v' w1 hz' hg
      refine hK'.out _ _ ?_
      try simp only [Act.put, List.setIfInBounds_toArray, List.set_cons_zero, List.set_cons_succ]
      obtain ⟨g', cap', e'⟩ := hz'.cons
      subst e'
      have hr := round_leaf (W := W.drew) (n₀ := w.heap.size) (bb := w.heap.size + 1) (nb := w.heap.size + 1 + 1) (b := .slice ad n cap) (s := s) (show Boxed W.drew w.heap.size 28 v from HV.out) (HZ.out.below (Below.refl _ _).drew) (Nat.le_refl _) (by omega) (by omega) (by omega) (by omega) (by omega) (by omega) hWs hz' hg
      have hc3 := hr.1.cell
      have hf3 := hr.1.frozen
      have HR := Lib.hid hr
      clear hz' hg hr
      refine an1 (i := 5) rfl (by kernel_rfl) (by rfl) (fun K' hK' => ?_)
      go_simp
      refine hK'.out _ _ ?_
      refine wpAnyIn_done (by kernel_rfl) ?_ _
      obtain ⟨_, hk, hp, hbx, hz2⟩ := HR.out
      refine ⟨keeps_drew hk, ⟨(Below.refl _ _).drew.trans hp.1, hp.2.1, hp.2.2⟩, _, hbx, ?_, HB.out.trans ((Below.refl _ _).drew.trans hp.1), Nat.le_trans HWD.out (keeps_drew hk).size⟩
      rw [List.map_append, HLS.out, List.map_singleton, HY.out]
      exact hz2
    · go_simp
      refine hK'.out _ _ ?_
      try simp only [Act.put, List.setIfInBounds_toArray, List.set_cons_zero, List.set_cons_succ]
      refine an2 (i := 0) (j := 2) rfl rfl (by kernel_rfl) (by rfl) (by rfl) (fun K' hK' => ?_) (fun K' hK' => ?_)
      · go_simp
        refine hK'.out _ _ ?_
        try simp only [Act.put, List.setIfInBounds_toArray, List.set_cons_zero, List.set_cons_succ]
        refine an1 (i := 2) rfl (by kernel_rfl) (by rfl) (fun K' hK' => ?_)
        go_simp
        refine ⟨trivial, ?_⟩
        refine ((callsIn_wide.2 HLF.out).inRound l).mono ?_
        rintro e w' ⟨rfl, rfl⟩
        refine hK'.out _ _ ?_
        try simp only [Act.put, List.setIfInBounds_toArray, List.set_cons_zero, List.set_cons_succ]
        refine an1 (i := 3) rfl (by kernel_rfl) (by rfl) (fun K' hK' => ?_)
        go_simp
        refine hK'.out _ _ ?_
        try simp only [Act.put, List.setIfInBounds_toArray, List.set_cons_zero, List.set_cons_succ]
        refine an1 (i := 4) rfl (by kernel_rfl) (by rfl) (fun K' hK' => ?_)
        refine in_append_n (fun _ => trivial) (.tmp 13) (.tmp 16) rfl (w.heap.size + 1 + 1 + 1) v Ls0 rfl HZD.out y _ 0 rfl (cell_newN _ y) hLb (by simp; have := HWD.out; omega) ?_
        intro v' w1 hz' hg
        refine hK'.out _ _ ?_
        try simp only [Act.put, List.setIfInBounds_toArray, List.set_cons_zero, List.set_cons_succ]
        obtain ⟨g', cap', e'⟩ := hz'.cons
        subst e'
        have hr := round_leaf (W := W.drew) (n₀ := w.heap.size) (bb := w.heap.size + 1) (nb := w.heap.size + 1 + 1) (b := .slice ad n cap) (s := s) (show Boxed W.drew w.heap.size 28 v from HV.out) (HZ.out.below (Below.refl _ _).drew) (Nat.le_refl _) (by omega) (by omega) (by omega) (by omega) (by omega) (by omega) hWs hz' hg
        have hc3 := hr.1.cell
        have hf3 := hr.1.frozen
        have HR := Lib.hid hr
        clear hz' hg hr
        refine an1 (i := 5) rfl (by kernel_rfl) (by rfl) (fun K' hK' => ?_)
        go_simp
        refine hK'.out _ _ ?_
        refine wpAnyIn_done (by kernel_rfl) ?_ _
        obtain ⟨_, hk, hp, hbx, hz2⟩ := HR.out
        refine ⟨keeps_drew hk, ⟨(Below.refl _ _).drew.trans hp.1, hp.2.1, hp.2.2⟩, _, hbx, ?_, HB.out.trans ((Below.refl _ _).drew.trans hp.1), Nat.le_trans HWD.out (keeps_drew hk).size⟩
        rw [List.map_append, HLS.out, List.map_singleton, HY.out]
        exact hz2
      · go_simp
        refine ⟨trivial, ?_⟩
        refine ((callsIn_wide.2 HLF.out).inRound l).mono ?_
        rintro e w' ⟨rfl, rfl⟩
        refine hK'.out _ _ ?_
        try simp only [Act.put, List.setIfInBounds_toArray, List.set_cons_zero, List.set_cons_succ]
        refine an2 (i := 0) (j := 3) rfl rfl (by kernel_rfl) (by rfl) (by rfl) (fun K' hK' => ?_) (fun K' hK' => ?_)
        · go_simp
          refine hK'.out _ _ ?_
          try simp only [Act.put, List.setIfInBounds_toArray, List.set_cons_zero, List.set_cons_succ]
          refine an1 (i := 3) rfl (by kernel_rfl) (by rfl) (fun K' hK' => ?_)
          go_simp
          refine hK'.out _ _ ?_
          try simp only [Act.put, List.setIfInBounds_toArray, List.set_cons_zero, List.set_cons_succ]
          refine an1 (i := 4) rfl (by kernel_rfl) (by rfl) (fun K' hK' => ?_)
          refine in_append_n (fun _ => trivial) (.tmp 13) (.tmp 16) rfl (w.heap.size + 1 + 1 + 1) v Ls0 rfl HZD.out y _ 0 rfl (cell_newN _ y) hLb (by simp; have := HWD.out; omega) ?_
          intro v' w1 hz' hg
          refine hK'.out _ _ ?_
          try simp only [Act.put, List.setIfInBounds_toArray, List.set_cons_zero, List.set_cons_succ]
          obtain ⟨g', cap', e'⟩ := hz'.cons
          subst e'
          have hr := round_leaf (W := W.drew) (n₀ := w.heap.size) (bb := w.heap.size + 1) (nb := w.heap.size + 1 + 1) (b := .slice ad n cap) (s := s) (show Boxed W.drew w.heap.size 28 v from HV.out) (HZ.out.below (Below.refl _ _).drew) (Nat.le_refl _) (by omega) (by omega) (by omega) (by omega) (by omega) (by omega) hWs hz' hg
          have hc3 := hr.1.cell
          have hf3 := hr.1.frozen
          have HR := Lib.hid hr
          clear hz' hg hr
          refine an1 (i := 5) rfl (by kernel_rfl) (by rfl) (fun K' hK' => ?_)
          go_simp
          refine hK'.out _ _ ?_
          refine wpAnyIn_done (by kernel_rfl) ?_ _
          obtain ⟨_, hk, hp, hbx, hz2⟩ := HR.out
          refine ⟨keeps_drew hk, ⟨(Below.refl _ _).drew.trans hp.1, hp.2.1, hp.2.2⟩, _, hbx, ?_, HB.out.trans ((Below.refl _ _).drew.trans hp.1), Nat.le_trans HWD.out (keeps_drew hk).size⟩
          rw [List.map_append, HLS.out, List.map_singleton, HY.out]
          exact hz2
        · go_simp
          refine hK'.out _ _ ?_
          try simp only [Act.put, List.setIfInBounds_toArray, List.set_cons_zero, List.set_cons_succ]
          refine an1 (i := 0) rfl (by kernel_rfl) (by rfl) (fun K' hK' => ?_)
          go_simp
          refine hK'.out _ _ ?_
          try simp only [Act.put, List.setIfInBounds_toArray, List.set_cons_zero, List.set_cons_succ]
          refine an1 (i := 4) rfl (by kernel_rfl) (by rfl) (fun K' hK' => ?_)
          refine in_append_n (fun _ => trivial) (.tmp 13) (.tmp 16) rfl (w.heap.size + 1 + 1 + 1) v Ls0 rfl HZD.out y _ 0 rfl (cell_newN _ y) hLb (by simp; have := HWD.out; omega) ?_
          intro v' w1 hz' hg
          refine hK'.out _ _ ?_
          try simp only [Act.put, List.setIfInBounds_toArray, List.set_cons_zero, List.set_cons_succ]
          obtain ⟨g', cap', e'⟩ := hz'.cons
          subst e'
          have hr := round_leaf (W := W.drew) (n₀ := w.heap.size) (bb := w.heap.size + 1) (nb := w.heap.size + 1 + 1) (b := .slice ad n cap) (s := s) (show Boxed W.drew w.heap.size 28 v from HV.out) (HZ.out.below (Below.refl _ _).drew) (Nat.le_refl _) (by omega) (by omega) (by omega) (by omega) (by omega) (by omega) hWs hz' hg
          have hc3 := hr.1.cell
          have hf3 := hr.1.frozen
          have HR := Lib.hid hr
          clear hz' hg hr
          refine an1 (i := 5) rfl (by kernel_rfl) (by rfl) (fun K' hK' => ?_)
          go_simp
          refine hK'.out _ _ ?_
          refine wpAnyIn_done (by kernel_rfl) ?_ _
          obtain ⟨_, hk, hp, hbx, hz2⟩ := HR.out
          refine ⟨keeps_drew hk, ⟨(Below.refl _ _).drew.trans hp.1, hp.2.1, hp.2.2⟩, _, hbx, ?_, HB.out.trans ((Below.refl _ _).drew.trans hp.1), Nat.le_trans HWD.out (keeps_drew hk).size⟩
          rw [List.map_append, HLS.out, List.map_singleton, HY.out]
          exact hz2
  case done =>
    rintro ys W hS ⟨v, hv, hz, hB, hWD⟩ hK
    rw [hsz4] at hK ⊢
    have hc1 := hv.cell
    have HZ := Lib.hid hz
    have HB := Lib.hid hB
    have HK := Lib.hid hK
    have HF : Hid ((ys.map fun x : Pt => leafU x.l) = blkU xs s) := Lib.hid (by rw [HE.out, ← show ys.map (·.l) = partsF s xs from hS, List.map_map]; rfl)
    clear hv hz hB hK hS bO3 bB3 bN hB0
    gi_wp2_with fail
    have hK2 : W.heap[w.heap.size + 1 + 1 + 1]? = some (.deferred (some [])) := HK.out
    have hg2 := grownBy_putObj' W (w.heap.size + 1 + 1 + 1) (.deferred none)
    refine ⟨by simp, .inl ⟨_, _, rfl, run_takeDeferred hK2, ?_⟩⟩
    refine ⟨_, results_tmp rfl _ _ _, v, rfl, ?_, HB.out.grown hg2 HB.out.size (fun k e => by cases e; omega)⟩
    rw [← HF.out]
    refine (HZ.out.kept hg2 ?_).mono (by omega)
    cases hv : v.ownBlock with
    | none => exact .inl rfl
    | some k =>
      right
      intro e
      cases e
      obtain ⟨_, _, cur, hgg⟩ := HZ.out.own _ hv
      rw [hK2] at hgg
      cases hgg
theorem blocks_any (ad : Option Addr) (n cap : Nat) (xs : List UInt8) (size : Int) (w : World) (hl : Lie w ad xs) (hn : n = xs.length) (hs : n ≤ 4096) (hc : n ≤ cap) (hcm : cap ≤ maxLen) (s1 : size ≤ 9223372036854775807) :
    Calls Try.prog 16 #[.slice ad n cap, .int .i64 size] w (GivesN w (blkU xs size)) := by
  by_cases h0 : size < 1
  · have HE := Lib.hid (blkU_no xs size h0)
    clear hl hn
    go_enter Try.func16, Try.ntmps16
    go_wp2
    go_ret
    exact ⟨_, rfl, by rw [HE.out]; exact Onu.ofNil _ _, Below.refl _ _⟩
  obtain ⟨s, rfl⟩ := Int.eq_ofNat_of_zero_le (show 0 ≤ size by omega)
  exact blocks_in ad n cap s xs w hl hn hs hc hcm (by omega) s1
end Go.Proofs.Ytgnidlhijmageaa
