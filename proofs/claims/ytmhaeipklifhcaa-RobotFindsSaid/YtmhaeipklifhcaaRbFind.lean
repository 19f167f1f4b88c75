/-
  The program's Find, over the iterator.
-/
import Derived.Test.YtmhaeipklifhcaaRbDist
namespace Go.Proofs.Ytmhaeipklifhcaa
open Go.RowKit Go.Shelf Go.Maps
set_option linter.unusedVariables false
set_option linter.unusedSimpArgs false
attribute [local go_sem] Oper.semAt_some
theorem infoE : (Try.prog.info? 28).map (·.size) = some 2 := by kernel_rfl
abbrev bxE (W : World) (g : Nat) (k i : Int) : Prop := W.heap[g]? = some (boxE k i)
theorem row_ne {X : World} {b : Nat} {cs : Array Value} {t : TypeId} {fr : Nat × Nat} {row : Option Nat} (h : X.heap[b]? = some (.cells cs t fr)) (hr : ∀ r, row = some r → ∃ o : Obj, X.heap[r]? = some o ∧ o.isCells = false) : some b ≠ row := fun e => by
  obtain ⟨o, ho, hc⟩ := hr b e.symm
  rw [h] at ho
  cases ho
  cases hc
theorem row_kept {X Y : World} {b : Nat} {o : Obj} {row : Option Nat} (h : X.heap[b]? = some o) (hg : X.grownBy Y row) (hne : some b ≠ row) : Y.heap[b]? = some o := (hg.block b (Array.getElem?_eq_some_iff.1 h).1 hne).trans h
/-- what the loop keeps -/
structure FiI (w : World) (b : ByteArray) (pre : List Ct) (W : World) : Prop where
  n : ∀ y ∈ pre.map Ct.t, y.2.2 ≠ b
  s : Boxed W (w.heap.size + 1) 9 (.string b)
  e : bxE W (w.heap.size + 2) 0 0
  r : Boxed W (w.heap.size + 3) 4 (.bool false)
  b : Below w.heap.size w W
structure FiX (w : World) (b : ByteArray) (c : Code) (pre : List Ct) (W : World) : Prop where
  c : c = .ret
  n : ∃ pre0 x, pre = pre0 ++ [x] ∧ (∀ y ∈ pre0.map Ct.t, y.2.2 ≠ b) ∧ x.s = b ∧ bxE W (w.heap.size + 2) x.k x.i
  r : Boxed W (w.heap.size + 3) 4 (.bool true)
  b : Below w.heap.size w W
theorem fiI_own (w : World) (b : ByteArray) {B : Nat} (hB : w.heap.size + 4 ≤ B) : OwnFrom B (FiI w b) := by
  rintro pre X Y row ⟨h0, h1, h2, h3, h4⟩ hg hr
  have hr2 := fun r e => (hr r e).2
  exact ⟨h0, h1.kept hg (boxed_ne h1 hr2), row_kept h2 hg (row_ne h2 hr2), h3.kept hg (boxed_ne h3 hr2), h4.grown hg h4.size (fun k e => by have := (hr k e).1; omega)⟩
theorem fiX_own (w : World) (b : ByteArray) {B : Nat} (hB : w.heap.size + 4 ≤ B) (c : Code) : OwnFrom B (FiX w b c) := by
  rintro pre X Y row ⟨h0, ⟨p0, x, h1, h2, h3, h4⟩, h5, h6⟩ hg hr
  have hr2 := fun r e => (hr r e).2
  exact ⟨h0, ⟨p0, x, h1, h2, h3, row_kept h4 hg (row_ne h4 hr2)⟩, h5.kept hg (boxed_ne h5 hr2), h6.grown hg h6.size (fun k e => by have := (hr k e).1; omega)⟩
/-- two results, a struct and a truth value, in boxes -/
theorem res_eb {fn : Func} {p q : Tmp} (h : fn.results = #[.cell p 28, .cell q 4]) (tmps : Array Value) {W : World} {g b : Nat} {k i : Int} {v : Value}
    (hp : tmps.getD p undef = .pointer (some ⟨g, 0, none⟩)) (hg : bxE W g k i) (hq : tmps.getD q undef = .pointer (some ⟨b, 0, none⟩)) (hb : Boxed W b 4 v) :
    (results fn tmps).run Try.prog W = .ok (.tuple #[elV k i, v]) W := by
  have e : (results fn tmps).run Try.prog W = ((asAddr (tmps.getD p undef)).run Try.prog W).andThen fun b w1 => ((loadVar 28 b).run Try.prog w1).andThen fun v w2 => ((asAddr (tmps.getD q undef)).run Try.prog w2).andThen fun b2 w3 => ((loadVar 4 b2).run Try.prog w3).andThen fun v2 w4 => .ok (.tuple #[v, v2]) w4 := by
    simp only [results, h]
    simp [Sem.run_bind, Result.andThen]
  rw [e, hp, hq]
  simp only [asAddr, Sem.run_pure, Result.andThen, run_loadVar_row W g 28 28 (elK k i) (0, 0) _ hg Try.underlying28 rfl infoE, load_bo hb]
theorem eqT {s t : ByteArray} : (s.toList == t.toList) = decide (s = t) := by
  rw [ByteArray.toList_eq, ByteArray.toList_eq]
  obtain ⟨⟨s⟩⟩ := s
  obtain ⟨⟨t⟩⟩ := t
  by_cases h : s = t <;> simp [h]
/-- both results are stored -/
theorem fi_put {W : World} {k i k0 i0 : Int} {a b : Nat} {v : Value} (hab : a ≠ b) (ha : bxE W a k0 i0) (hb : Boxed W b 4 v) (u : Value) :
    bxE (((W.setCell ⟨a, 0, none⟩ (.int .i64 k)).setCell ⟨a, 1, none⟩ (.int .i64 i)).setCell ⟨b, 0, none⟩ u) a k i ∧ Boxed (((W.setCell ⟨a, 0, none⟩ (.int .i64 k)).setCell ⟨a, 1, none⟩ (.int .i64 i)).setCell ⟨b, 0, none⟩ u) b 4 u := by
  have h1 := heap_set_b W a 0 (.int .i64 k) _ _ _ ha
  have h2 := heap_set_b _ a 1 (.int .i64 i) _ _ _ h1
  have h3 : Boxed ((W.setCell ⟨a, 0, none⟩ (.int .i64 k)).setCell ⟨a, 1, none⟩ (.int .i64 i)) b 4 v := by
    show (World.heap _)[b]? = _
    rw [Below.heap_setCell _ _ _ _ (by show b ≠ a; omega), Below.heap_setCell _ _ _ _ (by show b ≠ a; omega)]
    exact hb
  refine ⟨?_, h3.set u⟩
  show (World.heap _)[a]? = _
  rw [Below.heap_setCell _ _ _ _ (by show a ≠ b; omega)]
  exact h2
theorem fi_start (w : World) (r : Rbt) (ad : Option Addr) (n cap : Nat) (b : ByteArray) :
    Below w.heap.size w ((((w.alloc (boxR r ad n cap)).alloc (.cells #[.string b] 9)).alloc (boxE 0 0)).alloc (.cells #[.bool false] 4)) ∧
    ((((w.alloc (boxR r ad n cap)).alloc (.cells #[.string b] 9)).alloc (boxE 0 0)).alloc (.cells #[.bool false] 4)).heap.size = w.heap.size + 4 ∧
    Boxed ((((w.alloc (boxR r ad n cap)).alloc (.cells #[.string b] 9)).alloc (boxE 0 0)).alloc (.cells #[.bool false] 4)) (w.heap.size + 1) 9 (.string b) ∧
    bxE ((((w.alloc (boxR r ad n cap)).alloc (.cells #[.string b] 9)).alloc (boxE 0 0)).alloc (.cells #[.bool false] 4)) (w.heap.size + 2) 0 0 ∧
    Boxed ((((w.alloc (boxR r ad n cap)).alloc (.cells #[.string b] 9)).alloc (boxE 0 0)).alloc (.cells #[.bool false] 4)) (w.heap.size + 3) 4 (.bool false) ∧
    ((((w.alloc (boxR r ad n cap)).alloc (.cells #[.string b] 9)).alloc (boxE 0 0)).alloc (.cells #[.bool false] 4)).heap[w.heap.size]? = some (boxR r ad n cap) := by
  have e1 : (w.alloc (boxR r ad n cap)).heap.size = w.heap.size + 1 := World.size_alloc ..
  have e2 : ((w.alloc (boxR r ad n cap)).alloc (.cells #[.string b] 9)).heap.size = w.heap.size + 2 := by rw [World.size_alloc, e1]
  have e3 : (((w.alloc (boxR r ad n cap)).alloc (.cells #[.string b] 9)).alloc (boxE 0 0)).heap.size = w.heap.size + 3 := by rw [World.size_alloc, e2]
  have h1 := Boxed.new (w.alloc (boxR r ad n cap)) 9 (.string b)
  have h2 := heap_new ((w.alloc (boxR r ad n cap)).alloc (.cells #[.string b] 9)) (boxE 0 0)
  have h3 := Boxed.new (((w.alloc (boxR r ad n cap)).alloc (.cells #[.string b] 9)).alloc (boxE 0 0)) 4 (.bool false)
  rw [e1] at h1
  rw [e2] at h2
  rw [e3] at h3
  exact ⟨(below_box3 _ _ _ _).alloc (by rw [e3]; omega) _, by rw [World.size_alloc, e3], (h1.alloc _).alloc _, row_step h2 (below_box1 _ _), h3, row_step (heap_new w (boxR r ad n cap)) (below_box3 _ _ _ _)⟩
set_option maxRecDepth 100000 in
set_option maxHeartbeats 2000000 in
theorem find_any (r : Rbt) (ad : Option Addr) (n cap : Nat) (b : ByteArray) (w : World) (hl : Sx w ad r.l) (hn : n = r.l.length) (hn2 : n ≤ 1000) (hsz : ∀ s ∈ allR r, s.size ≤ maxLen) :
    Calls Try.prog 12 #[roV r ad n cap, .string b] w fun e w' => e = .returned (.tuple #[elV (finR r b).1 (finR r b).2.1, .bool (finR r b).2.2]) ∧ Below w.heap.size w w' := by
  by_cases hbe : b = emp
  · subst hbe
    obtain ⟨hb, _, _, h2, h3, _⟩ := fi_start w r ad n cap emp
    have HB := Lib.hid hb
    have H2 := Lib.hid h2
    have H3 := Lib.hid h3
    clear hl hn hsz hb h2 h3
    go_enter Try.func12, Try.ntmps12
    go_wp2
    exact bodyPost_ret (res_eb rfl _ rfl H2.out rfl H3.out) rfl ⟨by rw [fin_emp], HB.out⟩
  refine (callsIn_wide (n := 5)).1 ?_
  have HL := Lib.hid hl
  have HN := Lib.hid hn
  have HZ := Lib.hid hsz
  clear hl hn hsz
  have hbl : b.toList.isEmpty = false := by rw [isE]; simp [hbe]
  have HBE := Lib.hid hbe
  clear hbe
  refine callsIn_of_wp_marks Try.func12 rfl trivial ?_ rfl
  simp only [Try.ntmps12, List.size_toArray, List.length_cons, List.length_nil, Nat.reduceAdd, Nat.reduceSub, Array.replicate_succ, Array.replicate_zero, List.push_toArray, List.append_toArray, List.nil_append, List.cons_append]
  gi_wp2_with fail
  refine ⟨trivial, ?_⟩
  obtain ⟨hb, hs, h1, h2, h3, h4⟩ := fi_start w r ad n cap b
  generalize World.alloc _ _ = X at *
  refine (contents_in _ r ad n cap _).mono ?_
  rintro e w' ⟨rfl, rfl⟩
  have hbx := heap_new X (boxR r ad n cap)
  rw [hs] at hbx ⊢
  have hS : (X.alloc (boxR r ad n cap)).heap.size = w.heap.size + 5 := by rw [World.size_alloc, hs]
  have HB := Lib.hid (hb.trans ((below_box1 X (boxR r ad n cap)).mono hb.size))
  have HI := Lib.hid (show FiI w b [] (X.alloc (boxR r ad n cap)) from ⟨fun y hy => by simp at hy, h1.alloc _, row_step h2 (below_box1 _ _), h3.alloc _, HB.out⟩)
  generalize World.alloc _ _ = W0 at *
  have HS := Lib.hid hS
  have HBX := Lib.hid hbx
  clear hb hs h1 h2 h3 h4 hbx hS
  gi_wp2
  refine wpIn_rangeFunc_ownH rfl (by decide) (gf := 47) (lb := #[.pointer (some ⟨w.heap.size + 4, 0, none⟩)]) rfl trivial (enters_of Try.func47 (by kernel_rfl) rfl)
    (contents_stops _ (w.heap.size + 4) r ad n cap w W0 HL.out HN.out hn2 HB.out HBX.out HZ.out) KpC.t (KpC.b HB.out.size) (Below.refl _ _) (fun _ => rfl)
    (FiI w b) (FiX w b) (fiI_own w b (by have := HS.out; omega)) (fiX_own w b (by have := HS.out; omega)) HI.out
    (fun x a' W => ∃ Bx, w.heap.size + 3 < Bx ∧ bxE W Bx x.k x.i ∧ a' =
    { tmps := #[roV r ad n cap, .string b, .pointer (some ⟨w.heap.size, 0, none⟩), .pointer (some ⟨w.heap.size + 1, 0, none⟩), .pointer (some ⟨w.heap.size + 1 + 1, 0, none⟩), .pointer (some ⟨w.heap.size + 1 + 1 + 1, 0, none⟩), .pointer (some ⟨Bx, 0, none⟩), .string x.s,
      .string b, .bool false, undef, roV r ad n cap, .func (.func 47) #[] #[.pointer (some ⟨w.heap.size + 4, 0, none⟩)], .agg #[.int .i64 x.k, .int .i64 x.i], .string x.s,
      undef, undef, undef, undef, undef], defers := [] })
    (fun x a' _ X Y row hs hg hr => by obtain ⟨Bx, h1, h2, h3⟩ := hs; exact ⟨Bx, h1, row_kept h2 hg (row_ne h2 (fun r e => (hr r e).2)), h3⟩)
    ?assign ?body ?done ?stop
  case assign =>
    rintro l pre x W K hI hK
    gi_wp2
    exact hK _ _ ((KeepsOthers.alloc _ _).from _) ⟨(Below.refl _ W).alloc hI.b.size _, fun cs t fr e => row_step e (below_box1 _ _)⟩
      ⟨hI.n, hI.s.alloc _, row_step hI.e (below_box1 _ _), hI.r.alloc _, hI.b.alloc hI.b.size _⟩ ⟨W.heap.size, by have := hI.r.lt; omega, heap_new _ _, rfl⟩
  case body =>
    rintro l pre x a' W hl _ hI ⟨Bx, hBx, hX, rfl⟩ hlt
    have HI1 := Lib.hid hI
    have cS := hI.s.cell
    have cE := hI.e
    have cR := hI.r.cell
    have fR := hI.r.frozen
    have HE := Lib.hid (ElAt.of hX)
    obtain ⟨_, x0, x1⟩ := ElAt.of hX
    obtain ⟨_, y0, y1⟩ := ElAt.of hI.e
    have fe0 := froz_of hI.e 0
    have fe1 := froz_of hI.e 1
    obtain ⟨s, hs⟩ : ∃ s, s = x.s := ⟨_, rfl⟩
    have HXS := Lib.hid hs
    rw [← hs]
    clear hI hs cE hX
    have hpm : (pre ++ [x]).map Ct.t = pre.map Ct.t ++ [x.t] := by rw [List.map_append]; rfl
    have HPM := Lib.hid hpm
    clear hpm
    cases heq : (s.toList == b.toList)
    · have HNE := Lib.hid (of_decide_eq_false (eqT.symm.trans heq))
      gi_wp2
      refine ⟨KeepsFrom.refl _ _, ⟨Below.refl _ _, fun _ _ _ e => e⟩, fun y hy => ?_, HI1.out.s, HI1.out.e, HI1.out.r, HI1.out.b⟩
      rw [HPM.out] at hy
      rcases List.mem_append.1 hy with h | h
      · exact HI1.out.n y h
      · obtain rfl := List.mem_singleton.1 h
        show x.s ≠ b
        rw [← HXS.out]
        exact HNE.out
    · have HEQ := Lib.hid (of_decide_eq_true (eqT.symm.trans heq))
      gi_wp2
      obtain ⟨p1, p2⟩ := fi_put (k := x.k) (i := x.i) (a := w.heap.size + 2) (b := w.heap.size + 3) (by omega) HI1.out.e HI1.out.r (.bool true)
      refine ⟨(((KeepsOthers.setCell _ _ _).trans (KeepsOthers.setCell _ _ _)).trans (KeepsOthers.setCell _ _ _)).from _, rfl, ⟨pre, x, rfl, HI1.out.n, by rw [← HXS.out]; exact HEQ.out, p1⟩, p2, ?_⟩
      exact ((HI1.out.b.setCell (p := ⟨w.heap.size + 1 + 1, 0, none⟩) (by show w.heap.size ≤ w.heap.size + 1 + 1; omega) _).setCell (p := ⟨w.heap.size + 1 + 1, 1, none⟩) (by show w.heap.size ≤ w.heap.size + 1 + 1; omega) _).setCell (p := ⟨w.heap.size + 1 + 1 + 1, 0, none⟩) (by show w.heap.size ≤ w.heap.size + 1 + 1 + 1; omega) _
  case done =>
    rintro D xs W hD hS hI hK
    have HI1 := Lib.hid hI
    have cR := hI.r.cell
    have fR := hI.r.frozen
    obtain ⟨_, y0, y1⟩ := ElAt.of hI.e
    have fe0 := froz_of hI.e 0
    have fe1 := froz_of hI.e 1
    have HSX := Lib.hid hS
    have HK := Lib.hid hK
    clear hI hS hK
    gi_wp2
    have hK1 := ((((KeepsOthers.setCell W ⟨w.heap.size + 1 + 1, 0, none⟩ (.int .i64 0)).trans (KeepsOthers.setCell _ ⟨w.heap.size + 1 + 1, 1, none⟩ (.int .i64 0))).trans (KeepsOthers.setCell _ ⟨w.heap.size + 1 + 1 + 1, 0, none⟩ (.bool false)))).same D _ HK.out rfl
    refine ⟨by simp, .inl ⟨_, _, rfl, run_takeDeferred hK1, ?_⟩⟩
    obtain ⟨p1, p2⟩ := fi_put (k := 0) (i := 0) (a := w.heap.size + 2) (b := w.heap.size + 3) (by omega) HI1.out.e HI1.out.r (.bool false)
    have hne : ∀ g, g < w.heap.size + 5 → some g ≠ some D := fun g hg e => by cases e; have := HS.out; omega
    have hbx := p2.kept (grownBy_putObj' _ D (.deferred none)) (hne _ (by omega))
    have hex : bxE _ (w.heap.size + 2) 0 0 := row_kept p1 (grownBy_putObj' _ D (.deferred none)) (hne _ (by omega))
    have hf : finR r b = (0, 0, false) := fin_no fun y hy => HI1.out.n y (by rw [HSX.out]; exact hy)
    have hb : Below w.heap.size w _ := ((HI1.out.b.setCell (p := ⟨w.heap.size + 1 + 1, 0, none⟩) (by show w.heap.size ≤ w.heap.size + 1 + 1; omega) (.int .i64 0)).setCell (p := ⟨w.heap.size + 1 + 1, 1, none⟩) (by show w.heap.size ≤ w.heap.size + 1 + 1; omega) (.int .i64 0)).setCell (p := ⟨w.heap.size + 1 + 1 + 1, 0, none⟩) (by show w.heap.size ≤ w.heap.size + 1 + 1 + 1; omega) (.bool false)
    exact ⟨_, res_eb rfl _ rfl hex rfl hbx, by rw [hf], hb.trans (belowK_b (w := w) (Nat.le_refl _) _ D _ _ (by have := HS.out; omega) hK1 rfl rfl)⟩
  case stop =>
    rintro D c pre W hD hS ⟨rfl, ⟨pre0, x, rfl, hn, hx, he⟩, hr, hb⟩ hK
    have HSX := Lib.hid hS
    have HK := Lib.hid hK
    have HN1 := Lib.hid hn
    have HX1 := Lib.hid hx
    have HE1 := Lib.hid he
    have HR := Lib.hid hr
    have HB3 := Lib.hid hb
    clear hS hK hn hx he hr hb
    gi_wp2
    refine ⟨by simp, .inl ⟨_, _, rfl, run_takeDeferred HK.out, ?_⟩⟩
    have hne : ∀ g, g < w.heap.size + 5 → some g ≠ some D := fun g hg e => by cases e; have := HS.out; omega
    have hbx : Boxed (W.putObj D (.deferred none)) (w.heap.size + 3) 4 (.bool true) := HR.out.kept (grownBy_putObj' _ D _) (hne _ (by omega))
    have hex : bxE (W.putObj D (.deferred none)) (w.heap.size + 2) x.k x.i := row_kept HE1.out (grownBy_putObj' _ D _) (hne _ (by omega))
    have hf : finR r b = (x.k, x.i, true) := by
      have h := HSX.out
      rw [List.map_append] at h
      exact fin_at (x := x.t) HBE.out h HN1.out HX1.out
    exact ⟨_, res_eb rfl _ rfl hex rfl hbx, by rw [hf], HB3.out.trans (belowK_b (w := w) (Nat.le_refl _) W D _ _ (by have := HS.out; omega) HK.out rfl rfl)⟩
end Go.Proofs.Ytmhaeipklifhcaa
