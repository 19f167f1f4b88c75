/-
  The program's Scan: a loop over the iterator that collects.
-/
import Derived.Test.YtbbdkghkdmaolaaDoorFIter
import Derived.Sort.QuietIn
namespace Go.Proofs.YtbbdkghkdmaolaaDoor
open Go.RowKit Go.Shelf
set_option linter.unusedVariables false
set_option linter.unusedSimpArgs false
attribute [local go_sem] Oper.semAt_some

/-- The value v owns, behind block B, slices that hold the texts ls, each in a block of bytes. -/
def Lz (w : World) (B : Nat) (v : Value) (ls : List (List UInt8)) : Prop := ∃ cs, w.ownsRow B 22 1 v ls.length cs ∧ cs.length = ls.length ∧ ∀ i (h : i < ls.length) (h' : i < cs.length), HoldS w 0 (cs[i]) (ls[i])
theorem Lz.nil (w : World) (B : Nat) : Lz w B (.slice none 0 0) [] := ⟨[], ⟨rfl, .inl ⟨rfl, rfl⟩⟩, rfl, fun i h => by simp at h⟩
theorem Lz.ls {w : World} {B B' : Nat} {v : Value} {ls : List (List UInt8)} (h : Lz w B v ls) (hB : B' ≤ B) : Ls w B' v ls := by
  obtain ⟨cs, h1, h2, h3⟩ := h
  refine ⟨cs, ⟨h1.1, ?_⟩, h2, fun i hi hi' => (h3 i hi hi').up⟩
  rcases h1.2 with h0 | ⟨g, cap, cur, hv, hg0, hg⟩
  · exact .inl h0
  · exact .inr ⟨g, cap, cur, hv, Nat.le_trans hB hg0, hg⟩
theorem Lz.kept {w w' : World} {B : Nat} {v : Value} {ls : List (List UInt8)} {row : Option Nat} (h : Lz w B v ls) (hg : w.grownBy w' row)
    (hr : ∀ r, row = some r → ((∀ cur fr, w.heap[r]? ≠ some (.cells cur 5 fr)) ∧ ∀ cur fr, w.heap[r]? ≠ some (.cells cur 22 fr)) ∨ (∀ cur e fr, w.heap[r]? ≠ some (.cells cur e fr))) : Lz w' B v ls := by
  obtain ⟨cs, h1, h2, h3⟩ := h
  refine ⟨cs, h1.kept hg ?_, h2, fun i hi hi' => (h3 i hi hi').kept hg fun r e => ?_⟩
  · rcases h1.2 with ⟨rfl, _⟩ | ⟨g, cap, cur, rfl, hB, hgg, _⟩
    · exact .inl rfl
    · right
      intro e
      rcases hr g e.symm with ⟨_, h4⟩ | h4
      · exact h4 _ _ hgg
      · exact h4 _ _ _ hgg
  · rcases hr r e with ⟨h4, h5⟩ | h4
    · exact .inl ⟨Nat.zero_le _, h4⟩
    · exact .inr h4
theorem Lz.below {w w' : World} {B : Nat} {v : Value} {ls : List (List UInt8)} (h : Lz w B v ls) (hb : Below w.heap.size w w') : Lz w' B v ls := h.kept (grown_of_below hb) (by simp)
theorem Lz.alloc {w : World} {B : Nat} {v : Value} {ls : List (List UInt8)} (h : Lz w B v ls) (o : Obj) : Lz (w.alloc o) B v ls := h.below ((Below.refl _ _).alloc (Nat.le_refl _) o)
theorem Lz.own {w : World} {B : Nat} {v : Value} {ls : List (List UInt8)} (h : Lz w B v ls) : ∀ k, v.ownBlock = some k → B ≤ k ∧ k < w.heap.size ∧ ∃ cur, w.heap[k]? = some (.cells cur 22 (0, 0)) := by
  obtain ⟨cs, h1, _⟩ := h
  intro k hk
  rcases h1.2 with ⟨rfl, _⟩ | ⟨g, cap, cur, rfl, hB, hgg, _⟩
  · cases hk
  · have e : some g = some k := hk
    cases e
    exact ⟨hB, (Array.getElem?_eq_some_iff.1 hgg).1, cur, hgg⟩
theorem Lz.cons {w : World} {B : Nat} {v : Value} {ls : List (List UInt8)} {l : List UInt8} (h : Lz w B v (ls ++ [l])) : ∃ g cap, v = .slice (some ⟨g, 0, none⟩) (ls.length + 1) cap := by
  obtain ⟨cs, h1, _⟩ := h
  rw [List.length_append, List.length_cons, List.length_nil] at h1
  exact ownsRow_succ h1
theorem boxed_tag {w : World} {b : Nat} {t : TypeId} {v : Value} (h : Boxed w b t v) (h1 : t ≠ 5) (h2 : t ≠ 22) : (∀ cur fr, w.heap[b]? ≠ some (.cells cur 5 fr)) ∧ ∀ cur fr, w.heap[b]? ≠ some (.cells cur 22 fr) := by
  have h' : w.heap[b]? = some (.cells #[v] t (0, 0)) := h
  refine ⟨fun cur fr e => ?_, fun cur fr e => ?_⟩
  · rw [h'] at e
    cases e
    exact h1 rfl
  · rw [h'] at e
    cases e
    exact h2 rfl

theorem wpListIn_append_z {F : Fence} {n : Nat} {w : World} {ops : Array Oper} {rest : List Oper} {o : Oper} {a : Act} {Q : Exit → Act → World → Prop} (hgd : o.guard = none) (s x : Operand)
    (ho : o.op = .call { callee := .builtin .append, args := #[s, x], argTypes := #[33, 33] })
    (B : Nat) (v c : Value) (ls : List (List UInt8)) (l : List UInt8) (hs : a.eval s = v) (hown : Lz w B v ls) (ad : Addr) (hx : a.eval x = .slice (some ad) 1 1) (hcell : ∀ j u, [c][j]? = some u → w.cell? (ad.add j) = some u) (hc : HoldS w 0 c l) (hlen : ls.length ≤ 200000) (hbase : B ≤ w.heap.size)
    (h : ∀ v' w', Lz w' B v' (ls ++ [l]) → w.grownBy w' v.ownBlock → wpListIn F n Tryd.prog ops Q rest (a.put o.dst v') w') : wpListIn F n Tryd.prog ops Q (o :: rest) a w := by
  obtain ⟨i, hi, hz0, hz1, hz2⟩ := info_l
  have hown0 := hown
  obtain ⟨cs, h1, h2, h3⟩ := hown
  refine wpListIn_append_own w hgd s x 33 ho B 22 i (.slice none 0 0) 1 24 Tryd.underlying33 hi hz0 hz1 hz2 rfl (by decide) v ls.length cs hs h1 ad 1 1 [c] hx rfl hcell (by simp [hc.one]) (by unfold maxLen; omega) (by omega) hbase
    (fun v' w' h4 h5 _ => h v' w' ?_ h5)
  have hr : ∀ r, v.ownBlock = some r → (0 ≤ r ∧ ∀ cur fr, w.heap[r]? ≠ some (.cells cur 5 fr)) ∨ (∀ cur e fr, w.heap[r]? ≠ some (.cells cur e fr)) := by
    intro r e
    obtain ⟨_, _, cur, hg⟩ := hown0.own r e
    exact .inl ⟨Nat.zero_le _, fun cur2 fr2 e2 => by rw [hg] at e2; simp at e2⟩
  refine ⟨cs ++ [c], by rw [List.length_append]; exact h4, by simp [h2], fun i hi hi' => ?_⟩
  by_cases hlt : i < ls.length
  · rw [List.getElem_append_left (by omega), List.getElem_append_left hlt]
    exact (h3 i hlt (by omega)).kept h5 hr
  · have hi2 : i = ls.length := by simp at hi; omega
    subst hi2
    rw [List.getElem_append_right (by omega), List.getElem_append_right (Nat.le_refl _)]
    simp only [h2, Nat.sub_self, List.getElem_cons_zero]
    exact hc.kept h5 hr

/-- A round's 'bodies = append(bodies, body); behind = end', told at once. -/
theorem round_collects {W w1 : World} {n₀ D0 B1 B2 bb : Nat} {b v v' : Value} {ls : List (List UInt8)} {l : List UInt8} {c old new : Value} (hv : Boxed W B1 33 v) (hz : Lz W D0 v ls) (hb2 : Boxed W B2 3 old) (hn1 : n₀ ≤ B1) (hn2 : n₀ ≤ B2) (hD : n₀ ≤ D0) (hbb : bb < D0) (hb1D : B1 < D0) (hb2D : B2 < D0) (h12 : B1 ≠ B2) (hbb1 : bb ≠ B1) (hbb2 : bb ≠ B2) (hsz : n₀ ≤ W.heap.size)
    (hz' : Lz w1 D0 v' (ls ++ [l])) (hg : (W.alloc (.cells #[c] 22)).grownBy w1 v.ownBlock) :
    (Boxed w1 B1 33 v ∧ Boxed w1 B2 3 old) ∧
    (KeepsFrom D0 W ((w1.setCell ⟨B1, 0, none⟩ v').setCell ⟨B2, 0, none⟩ new) ∧ FrKp n₀ bb b W ((w1.setCell ⟨B1, 0, none⟩ v').setCell ⟨B2, 0, none⟩ new)) ∧
    Boxed ((w1.setCell ⟨B1, 0, none⟩ v').setCell ⟨B2, 0, none⟩ new) B1 33 v' ∧ Boxed ((w1.setCell ⟨B1, 0, none⟩ v').setCell ⟨B2, 0, none⟩ new) B2 3 new ∧ Lz ((w1.setCell ⟨B1, 0, none⟩ v').setCell ⟨B2, 0, none⟩ new) D0 v' (ls ++ [l]) := by
  have hlt : ∀ k, v.ownBlock = some k → D0 ≤ k := fun k hk => (hz.own k hk).1
  have h1 : Boxed w1 B1 33 v := (hv.alloc _).kept hg (fun e => by have := hlt _ e.symm; omega)
  have h2 : Boxed w1 B2 3 old := (hb2.alloc _).kept hg (fun e => by have := hlt _ e.symm; omega)
  have g1 := grownBy_setCell' w1 B1 v'
  have g2 := grownBy_setCell' (w1.setCell ⟨B1, 0, none⟩ v') B2 new
  have h3 := h1.set v'
  have h4 : Boxed (w1.setCell ⟨B1, 0, none⟩ v') B2 3 old := h2.kept g1 (fun e => by cases e; exact h12 rfl)
  have hz1 : Lz (w1.setCell ⟨B1, 0, none⟩ v') D0 v' (ls ++ [l]) := hz'.kept g1 (fun r e => by cases e; exact .inl (boxed_tag h1 (by decide) (by decide)))
  have hz2 : Lz ((w1.setCell ⟨B1, 0, none⟩ v').setCell ⟨B2, 0, none⟩ new) D0 v' (ls ++ [l]) := hz1.kept g2 (fun r e => by cases e; exact .inl (boxed_tag h4 (by decide) (by decide)))
  refine ⟨⟨h1, h2⟩, ⟨?_, ?_, ?_⟩, h3.kept g2 (fun e => by cases e; exact h12 rfl), h4.set new, hz2⟩
  · refine (((KeepsOthers.alloc W _).trans (KeepsOthers.of_grownBy hg fun j o ej hj => ?_)).trans ((KeepsOthers.setCell _ _ _).trans (KeepsOthers.setCell _ _ _))).from D0
    obtain ⟨_, _, cur, hgg⟩ := (hz.alloc (.cells #[c] 22)).own j ej
    rw [hgg] at hj
    cases hj
    rfl
  · exact ((((Below.refl n₀ W).alloc hsz _).grown hg (by simp; omega) (fun k hk => by have := hlt k hk; omega)).setCell (p := ⟨B1, 0, none⟩) hn1 v').setCell (p := ⟨B2, 0, none⟩) hn2 new
  · intro hbx
    have k1 : Boxed w1 bb 22 b := (hbx.alloc _).kept hg (fun e => by have := hlt _ e.symm; omega)
    exact (k1.kept g1 (fun e => by cases e; exact hbb1 rfl)).kept g2 (fun e => by cases e; exact hbb2 rfl)
/-- What the loop over the iterator keeps. -/
def ScI (w : World) (n₀ D0 B1 B2 : Nat) (ls0 : List (List UInt8)) (e0 : Int) (pre : List Fr) (W : World) : Prop :=
  ∃ v, Boxed W B1 33 v ∧ Lz W D0 v (ls0 ++ pre.map (·.l)) ∧ Boxed W B2 3 (.int .i64 ((pre.getLast?.map fun x => (x.e : Int)).getD e0)) ∧ Below n₀ w W ∧ D0 ≤ W.heap.size
theorem scI_own (w : World) (n₀ D0 B1 B2 : Nat) (ls0 : List (List UInt8)) (e0 : Int) (hD : n₀ ≤ D0) (hw : n₀ ≤ w.heap.size) : OwnFrom D0 (ScI w n₀ D0 B1 B2 ls0 e0) := by
  rintro pre X Y row ⟨v, h1, h2, h3, h4, h5⟩ hg hr
  have hne : ∀ {b t u}, Boxed X b t u → some b ≠ row := fun {b t u} hb e => by
    obtain ⟨_, o, ho, hc⟩ := hr b e.symm
    rw [show X.heap[b]? = _ from hb] at ho
    cases ho
    cases hc
  exact ⟨v, h1.kept hg (hne h1), h2.kept hg (fun r e => .inr fun cur t fr h => by obtain ⟨_, o, ho, hc⟩ := hr r e; rw [h] at ho; cases ho; cases hc), h3.kept hg (hne h3), h4.grown hg (Nat.le_trans hw h4.size) (fun k e => Nat.le_trans hD (hr k e).1), Nat.le_trans h5 hg.size⟩
theorem frKn_own (D0 : Nat) (x : Fr) : OwnFrom D0 (fun (_ : Unit) W => FrKn x W) := by
  rintro _ X Y row h hg hr
  exact HoldS.kept h hg (fun r e => .inr fun cur t fr hh => by obtain ⟨_, o, ho, hc⟩ := hr r e; rw [hh] at ho; cases ho; cases hc)
theorem frKp_put {n₀ bb : Nat} {b : Value} {w : World} (hn : n₀ ≤ w.heap.size) (W : World) (l : Nat) (o o' : Obj) (hl : w.heap.size ≤ l) (h : W.heap[l]? = some o) (hc : o.isCells = false) : FrKp n₀ bb b W (W.putObj l o') := by
  refine ⟨(Below.refl n₀ W).grown (grownBy_putObj' W l o') (by have := (Array.getElem?_eq_some_iff.1 h).1; omega) (fun k e => by cases e; omega), fun hb => hb.kept (grownBy_putObj' W l o') (fun e => ?_)⟩
  cases e
  rw [show W.heap[bb]? = _ from hb] at h
  cases h
  cases hc
theorem part_last {xs : List UInt8} : ∀ (ys : List Fr) (a e : Nat), Part xs a (ys.map Fr.fr) e → (ys.getLast?.map fun x => (x.e : Int)).getD (a : Int) = (e : Int)
  | [], a, e, h => by
    have he : e = a := h
    simp [he]
  | x :: ys, a, e, h => by
    have ih := part_last ys x.e e h.2.2.2
    rw [List.getLast?_cons]
    cases hl : ys.getLast? with
    | none => rw [hl] at ih; simpa using ih
    | some y => rw [hl] at ih; simpa using ih
theorem fr_fst (ys : List Fr) : (ys.map Fr.fr).map (·.1) = ys.map (·.l) := by rw [List.map_map]; rfl
end Go.Proofs.YtbbdkghkdmaolaaDoor
