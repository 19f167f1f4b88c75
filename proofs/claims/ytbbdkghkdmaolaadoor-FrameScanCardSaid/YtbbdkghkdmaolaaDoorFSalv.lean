/-
  What the rounds of Salvage keep.
-/
import Derived.Test.YtbbdkghkdmaolaaDoorFScan2
namespace Go.Proofs.YtbbdkghkdmaolaaDoor
open Go.RowKit Go.Shelf
set_option linter.unusedVariables false
set_option linter.unusedSimpArgs false
attribute [local go_sem] Oper.semAt_some

/-- Appended to, where a box of a slice lies beside: the longer list does not lie in the box. -/
theorem wpListIn_append_y {F : Fence} {n : Nat} {w : World} {ops : Array Oper} {rest : List Oper} {o : Oper} {a : Act} {Q : Exit → Act → World → Prop} (hgd : o.guard = none) (s x : Operand)
    (ho : o.op = .call { callee := .builtin .append, args := #[s, x], argTypes := #[33, 33] })
    (B : Nat) (v c : Value) (ls : List (List UInt8)) (l : List UInt8) (hs : a.eval s = v) (hown : Lz w B v ls) (ad : Addr) (hx : a.eval x = .slice (some ad) 1 1) (hcell : ∀ j u, [c][j]? = some u → w.cell? (ad.add j) = some u) (hc : HoldS w 0 c l) (hlen : ls.length ≤ 200000) (hbase : B ≤ w.heap.size)
    (bb : Nat) (b : Value) (hbb : Boxed w bb 22 b) (hnb : v.ownBlock ≠ some bb) (hnil : ls = [] → v = .slice none 0 0)
    (h : ∀ v' w', Lz w' B v' (ls ++ [l]) → w.grownBy w' v.ownBlock → v'.ownBlock ≠ some bb → wpListIn F n Tryd.prog ops Q rest (a.put o.dst v') w') : wpListIn F n Tryd.prog ops Q (o :: rest) a w := by
  by_cases h0 : ls = []
  · have hv := hnil h0
    subst h0 hv
    refine wpListIn_append_z hgd s x ho w.heap.size (.slice none 0 0) c [] l hs (Lz.nil _ _) ad hx hcell hc hlen (Nat.le_refl _) (fun v' w' h1 h2 => h v' w' ?_ h2 (fun e => ?_))
    · obtain ⟨cs, h3, h4, h5⟩ := h1
      refine ⟨cs, ⟨h3.1, ?_⟩, h4, h5⟩
      rcases h3.2 with h6 | ⟨g, cap, cur, e1, e2, e3⟩
      · exact .inl h6
      · exact .inr ⟨g, cap, cur, e1, Nat.le_trans hbase e2, e3⟩
    · have h6 := (h1.own bb e).1
      have h7 := hbb.lt
      omega
  · refine wpListIn_append_z hgd s x ho B v c ls l hs hown ad hx hcell hc hlen hbase (fun v' w' h1 h2 => h v' w' h1 h2 (fun e => ?_))
    have hb2 : w'.heap[bb]? = some (.cells #[b] 22 (0, 0)) := (h2.block bb hbb.lt (fun e2 => hnb e2.symm)).trans hbb
    obtain ⟨cs, h3, h4, _⟩ := h1
    have hl1 : 0 < ls.length := List.length_pos_iff.2 h0
    rcases h3.2 with ⟨rfl, _⟩ | ⟨g, cap, cur, e1, _, e3, e4, _, e6, _⟩
    · cases e
    · subst e1
      have e7 : some g = some bb := e
      cases e7
      rw [hb2] at e3
      cases e3
      rw [List.length_append, List.length_cons, List.length_nil] at e4
      have e8 : (#[b] : Array Value).size = 1 := rfl
      omega

theorem own_ne_box {W : World} {B b : Nat} {v u : Value} {t : TypeId} {ls : List (List UInt8)} (hz : Lz W B v ls) (hb : Boxed W b t u) (ht : t ≠ 22) : some b ≠ v.ownBlock := by
  intro e
  obtain ⟨_, _, cur, hg⟩ := hz.own b e.symm
  rw [show W.heap[b]? = _ from hb] at hg
  cases hg
  exact ht rfl

/-- A round's 'bodies = append(bodies, body); at = end', told at once. -/
theorem round_collects2 {W w1 : World} {n₀ B1 B2 bb : Nat} {b v v' : Value} {ls : List (List UInt8)} {l : List UInt8} {c old new : Value} (hv : Boxed W B1 33 v) (hz : Lz W n₀ v ls) (hb2 : Boxed W B2 3 old) (hn1 : n₀ ≤ B1) (hn2 : n₀ ≤ B2) (h12 : B1 ≠ B2) (hsz : n₀ ≤ W.heap.size)
    (hbb : Boxed W bb 22 b) (hnb : v.ownBlock ≠ some bb) (hz' : Lz w1 n₀ v' (ls ++ [l])) (hg : (W.alloc (.cells #[c] 22)).grownBy w1 v.ownBlock) :
    (Boxed w1 B1 33 v ∧ Boxed w1 B2 3 old) ∧
    (KeepsOthers W ((w1.setCell ⟨B1, 0, none⟩ v').setCell ⟨B2, 0, none⟩ new) ∧ FrKp n₀ bb b W ((w1.setCell ⟨B1, 0, none⟩ v').setCell ⟨B2, 0, none⟩ new)) ∧
    Boxed ((w1.setCell ⟨B1, 0, none⟩ v').setCell ⟨B2, 0, none⟩ new) B1 33 v' ∧ Boxed ((w1.setCell ⟨B1, 0, none⟩ v').setCell ⟨B2, 0, none⟩ new) B2 3 new ∧ Lz ((w1.setCell ⟨B1, 0, none⟩ v').setCell ⟨B2, 0, none⟩ new) n₀ v' (ls ++ [l]) ∧
    Boxed ((w1.setCell ⟨B1, 0, none⟩ v').setCell ⟨B2, 0, none⟩ new) bb 22 b := by
  have h1 : Boxed w1 B1 33 v := (hv.alloc _).kept hg (own_ne_box hz hv (by decide))
  have h2 : Boxed w1 B2 3 old := (hb2.alloc _).kept hg (own_ne_box hz hb2 (by decide))
  have hbb1 : Boxed w1 bb 22 b := (hbb.alloc _).kept hg (fun e => hnb e.symm)
  have g1 := grownBy_setCell' w1 B1 v'
  have g2 := grownBy_setCell' (w1.setCell ⟨B1, 0, none⟩ v') B2 new
  have h3 := h1.set v'
  have h4 : Boxed (w1.setCell ⟨B1, 0, none⟩ v') B2 3 old := h2.kept g1 (fun e => by cases e; exact h12 rfl)
  have n1 : some bb ≠ some B1 := fun e => by
    have e' : bb = B1 := by injection e
    have h := (show w1.heap[bb]? = _ from hbb1)
    rw [e', show w1.heap[B1]? = _ from h1] at h
    cases h
  have n2 : some bb ≠ some B2 := fun e => by
    have e' : bb = B2 := by injection e
    have h := (show w1.heap[bb]? = _ from hbb1)
    rw [e', show w1.heap[B2]? = _ from h2] at h
    cases h
  have hz1 : Lz (w1.setCell ⟨B1, 0, none⟩ v') n₀ v' (ls ++ [l]) := hz'.kept g1 (fun r e => by cases e; exact .inl (boxed_tag h1 (by decide) (by decide)))
  have hz2 : Lz ((w1.setCell ⟨B1, 0, none⟩ v').setCell ⟨B2, 0, none⟩ new) n₀ v' (ls ++ [l]) := hz1.kept g2 (fun r e => by cases e; exact .inl (boxed_tag h4 (by decide) (by decide)))
  have hbb3 := (hbb1.kept g1 n1).kept g2 n2
  refine ⟨⟨h1, h2⟩, ⟨?_, ?_, fun _ => hbb3⟩, h3.kept g2 (fun e => by cases e; exact h12 rfl), h4.set new, hz2, hbb3⟩
  · refine (((KeepsOthers.alloc W _).trans (KeepsOthers.of_grownBy hg fun j o ej hj => ?_)).trans ((KeepsOthers.setCell _ _ _).trans (KeepsOthers.setCell _ _ _)))
    obtain ⟨_, _, cur, hgg⟩ := (hz.alloc (.cells #[c] 22)).own j ej
    rw [hgg] at hj
    cases hj
    rfl
  · exact ((((Below.refl n₀ W).alloc hsz _).grown hg (by simp; omega) (fun k hk => (hz.own k hk).1)).setCell (p := ⟨B1, 0, none⟩) hn1 v').setCell (p := ⟨B2, 0, none⟩) hn2 new
/-- What the loop over the iterator keeps. -/
def SvI (w : World) (n₀ D0 B1 B2 bb : Nat) (b : Value) (ls0 : List (List UInt8)) (e0 : Int) (Z : World → Prop) (pre : List Fr) (W : World) : Prop :=
  ∃ v, Boxed W B1 33 v ∧ Lz W n₀ v (ls0 ++ pre.map (·.l)) ∧ v.ownBlock ≠ some bb ∧ (ls0 ++ pre.map (·.l) = [] → v = .slice none 0 0) ∧ Boxed W B2 3 (.int .i64 ((pre.getLast?.map fun x => (x.e : Int)).getD e0)) ∧ Boxed W bb 22 b ∧ Below n₀ w W ∧ D0 ≤ W.heap.size ∧ Z W
theorem svI_own (w : World) (n₀ D0 B1 B2 bb : Nat) (b : Value) (ls0 : List (List UInt8)) (e0 : Int) (Z : World → Prop) (hD : n₀ ≤ D0) (hw : n₀ ≤ w.heap.size) (hZ : OwnFrom D0 (fun (_ : Unit) W => Z W)) : OwnFrom D0 (SvI w n₀ D0 B1 B2 bb b ls0 e0 Z) := by
  rintro pre X Y row ⟨v, h1, h2, h2a, h2b, h3, h3a, h4, h5, h6⟩ hg hr
  have hne : ∀ {b t u}, Boxed X b t u → some b ≠ row := fun {b t u} hb e => by
    obtain ⟨_, o, ho, hc⟩ := hr b e.symm
    rw [show X.heap[b]? = _ from hb] at ho
    cases ho
    cases hc
  exact ⟨v, h1.kept hg (hne h1), h2.kept hg (fun r e => .inr fun cur t fr h => by obtain ⟨_, o, ho, hc⟩ := hr r e; rw [h] at ho; cases ho; cases hc), h2a, h2b, h3.kept hg (hne h3), h3a.kept hg (hne h3a), h4.grown hg (Nat.le_trans hw h4.size) (fun k e => Nat.le_trans hD (hr k e).1), Nat.le_trans h5 hg.size, hZ () X Y row h6 hg hr⟩

/-- The marks on the deferred calls: each block is there, empty. -/
def Marks (W : World) (Ds : List Nat) : Prop := Ds.Nodup ∧ ∀ D ∈ Ds, W.heap[D]? = some (.deferred (some []))
theorem Marks.kept {W W' : World} {Ds : List Nat} (h : Marks W Ds) (hk : KeepsOthers W W') : Marks W' Ds := ⟨h.1, fun D hD => hk.same D _ (h.2 D hD) rfl⟩
theorem Marks.grown {W W' : World} {Ds : List Nat} {row : Option Nat} (h : Marks W Ds) (hg : W.grownBy W' row) (hr : ∀ r, row = some r → r ∉ Ds) : Marks W' Ds :=
  ⟨h.1, fun D hD => (hg.block D (Array.getElem?_eq_some_iff.1 (h.2 D hD)).1 (fun e => hr D e.symm hD)).trans (h.2 D hD)⟩
theorem Marks.below {W W' : World} {Ds : List Nat} (h : Marks W Ds) (hb : Below W.heap.size W W') : Marks W' Ds := h.grown (grown_of_below hb) (by simp)
theorem Marks.cons {W : World} {Ds : List Nat} {D : Nat} (h : Marks W Ds) (hD : W.heap[D]? = some (.deferred (some []))) (hn : D ∉ Ds) : Marks W (D :: Ds) :=
  ⟨List.nodup_cons.2 ⟨hn, h.1⟩, fun E hE => by
    rcases List.mem_cons.1 hE with rfl | hE
    · exact hD
    · exact h.2 E hE⟩
abbrev mark (D : Nat) : Deferred := { target := .collected D, args := #[] }
/-- A function leaves with marks alone among its deferred calls. -/
theorem leaves_marks {F : Fence} {n : Nat} {P : Program} {fn : Func} {tmps : Array Value} {R : Ending → World → Prop} {n₀ : Nat} {v : Value} (hres : ∀ W, (results fn tmps).run P W = .ok v W)
    (J : World → Prop) (hJ : ∀ X D, n₀ ≤ D → J X → X.heap[D]? = some (.deferred (some [])) → J (X.putObj D (.deferred none))) (hR : ∀ X, J X → R (.returned v) X) :
    ∀ (Ds : List Nat) (W : World), Marks W Ds → (∀ D ∈ Ds, n₀ ≤ D) → J W → LeavesInM F n P fn tmps R (Ds.map mark) .returning W
  | [], W, _, _, h => ⟨v, hres W, hR W h⟩
  | D :: Ds, W, hM, hn, h => by
    have hD := hM.2 D (by simp)
    have hDs := List.nodup_cons.1 hM.1
    refine ⟨by simp, .inl ⟨D, _, rfl, run_takeDeferred hD, ?_⟩⟩
    have hM2 : Marks (W.putObj D (.deferred none)) Ds := ⟨hDs.2, fun E hE => (World.putObj_heap_other (fun e => hDs.1 (by rw [← e]; exact hE))).trans (hM.2 E (List.mem_cons_of_mem _ hE))⟩
    exact leaves_marks hres J hJ hR Ds _ hM2 (fun E hE => hn E (List.mem_cons_of_mem _ hE)) (hJ W D (hn D (by simp)) h hD)
/-- A chain of frames behind what is salvaged: it is salvaged too. -/
theorem Salv.chain {xs : List UInt8} {ls : List (List UInt8)} {ps : List (List UInt8 × Nat)} {c e a f : Nat} (h : Salv xs c ls e) (ha : a = e ∨ rs xs e = some a) (hp : Part xs a ps f) (hf : (chk xs f).2 ≠ 0) : Salv xs c (ls ++ ps.map (·.1)) f := by
  rcases ha with rfl | ha
  · exact h.part hp
  · cases ps with
    | nil =>
      have he : f = a := hp
      subst he
      rcases rs_cases xs e with ⟨i, hi, _, _, h0, _⟩ | ⟨hi, _⟩
      · rw [ha] at hi
        cases hi
        exact absurd h0 hf
      · rw [ha] at hi; cases hi
    | cons p ps =>
      obtain ⟨p1, p2⟩ := p
      have h1 := Salv.snoc h ha hp.2.2.1
      have h2 := Salv.part h1 hp.2.2.2
      have e1 : p1 = bodyAt xs a := hp.2.1
      subst e1
      simpa using h2
/-- What the outer loop keeps. -/
def SvO (w : World) (xs : List UInt8) (B1 B2 : Nat) (found : Bool) (a : Nat) (ls : List (List UInt8)) (v : Value) (Ds : List Nat) (W : World) : Prop :=
  ∃ e, Salv xs 0 ls e ∧ (found = true → a ≤ xs.length ∧ (a = e ∨ rs xs e = some a)) ∧ (found = false → rs xs e = none) ∧ Boxed W B1 33 v ∧ Lz W w.heap.size v ls ∧ (ls = [] → v = .slice none 0 0) ∧ Boxed W B2 3 (.int .i64 a) ∧ w.heap.size ≤ B1 ∧ w.heap.size ≤ B2 ∧ B1 ≠ B2 ∧ Below w.heap.size w W ∧ Marks W Ds ∧ ∀ D ∈ Ds, w.heap.size ≤ D
/-- How far the outer loop is from its end. -/
def svMu (n : Nat) (a : Act) (W : World) : Nat :=
  match a.tmps.getD 5 undef with
  | .bool true => match a.tmps.getD 4 undef with
    | .pointer (some p) => n + 2 - (intOf ((W.cell? p).getD undef)).toNat
    | _ => 0
  | _ => 0
theorem svMu_true {n k : Nat} {a : Act} {W : World} {p : Addr} (h5 : a.tmps.getD 5 undef = .bool true) (h4 : a.tmps.getD 4 undef = .pointer (some p)) (hc : W.cell? p = some (.int .i64 k)) : svMu n a W = n + 2 - k := by
  unfold svMu
  rw [h5, h4]
  dsimp only
  rw [hc]
  rfl
theorem svMu_false {n : Nat} {a : Act} {W : World} (h5 : a.tmps.getD 5 undef = .bool false) : svMu n a W = 0 := by
  unfold svMu
  rw [h5]
end Go.Proofs.YtbbdkghkdmaolaaDoor
