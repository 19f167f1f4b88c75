/-
  Block g holds slices of bytes that lie elsewhere: read, one replaced by another, all made anew.
-/
import Derived.Test.YtbkjocmldeagdaaLs
import Derived.Test.YtbkjocmldeagdaaGOwn
import Derived.Test.YtbkjocmldeagdaaRow
import Derived.Test.YtbkjocmldeagdaaGArr
namespace Go.Proofs.Ytbkjocmldeagdaa
open Go.RowKit

/-- The bytes l lie at ad, in a block behind g and below D. -/
def LieN (w : World) (g D : Nat) (ad : Option Addr) (l : List UInt8) : Prop := l = [] ∨ ∃ b off, ad = some ⟨b, off, none⟩ ∧ b < D ∧ g < b ∧ ∀ j (h : j < l.length), w.cell? ⟨b, off + j, none⟩ = some (.int .u8 ((l[j]'h).toNat : Int))
theorem LieN.lie {w : World} {g D : Nat} {ad : Option Addr} {l : List UInt8} (h : LieN w g D ad l) (hD : D ≤ w.heap.size) : Lie w ad l := by
  rcases h with h0 | ⟨b, off, e, hb, _, hc⟩
  · exact ⟨.inl h0⟩
  · exact ⟨.inr ⟨b, off, e, by omega, hc⟩⟩
theorem LieN.kept {w w' : World} {g D D' : Nat} {ad : Option Addr} {l : List UInt8} (h : LieN w g D ad l) (hD : D ≤ D') (hk : ∀ b, b < D → g < b → w'.heap[b]? = w.heap[b]?) : LieN w' g D' ad l := by
  rcases h with h0 | ⟨b, off, e, hb, hg, hc⟩
  · exact .inl h0
  · exact .inr ⟨b, off, e, by omega, hg, fun j hj => (World.cell?_of_block (a := ⟨b, off + j, none⟩) (hk b hb hg)).trans (hc j hj)⟩
/-- what lies behind g's world lies elsewhere -/
theorem LieN.of_own {w : World} {g B D : Nat} {v : Value} {l : List UInt8} (h : Own w B v l) (hg : g < B) (hD : w.heap.size ≤ D) : ∃ ad cap, v = .slice ad l.length cap ∧ LieN w g D ad l ∧ l.length ≤ cap ∧ cap ≤ maxLen ∧ (ad = none → cap = 0) := by
  obtain ⟨ad, cap, e, hl, h1, h2, h3⟩ := h.slice
  refine ⟨ad, cap, e, ?_, h1, h2, h3⟩
  rcases hl.at_ with h0 | ⟨b, off, e2, hb, hc⟩
  · exact .inl h0
  · have hb2 := (h.lt b (by rw [e, e2]; rfl)).1
    exact .inr ⟨b, off, e2, by omega, by omega, hc⟩

/-- Block g holds R slices of bytes, the first of which hold the rows ls; the rows lie in blocks behind g and below D. -/
structure Out (w : World) (B g R D : Nat) (ls : List (List UInt8)) : Prop where
  base : B ≤ g
  fits : ls.length ≤ R
  most : R ≤ maxLen
  ltD : g < D
  leD : D ≤ w.heap.size
  outer : ∃ cur, w.heap[g]? = some (.cells cur 23 (0, 0)) ∧ cur.size = R ∧ ∀ i (h : i < ls.length), ∃ ad cap, cur[i]? = some (.slice ad (ls[i]).length cap) ∧ LieN w g D ad (ls[i]) ∧ (ls[i]).length ≤ cap ∧ cap ≤ maxLen ∧ (ad = none → cap = 0)
section
variable {w w' : World} {B g R D : Nat} {ls : List (List UInt8)}
theorem Out.lt (h : Out w B g R D ls) : g < w.heap.size := Nat.lt_of_lt_of_le h.ltD h.leD
theorem Out.frozen (h : Out w B g R D ls) (i : Nat) : w.frozen? ⟨g, i, none⟩ = false := by
  obtain ⟨cur, h1, _⟩ := h.outer
  simp [World.frozen?, h1]
/-- what the call reads at i -/
theorem Out.get (h : Out w B g R D ls) (i : Nat) (hi : i < ls.length) : ∃ ad cap, w.cell? ⟨g, i, none⟩ = some (.slice ad (ls[i]).length cap) ∧ LieN w g D ad (ls[i]) ∧ (ls[i]).length ≤ cap ∧ cap ≤ maxLen ∧ (ad = none → cap = 0) := by
  obtain ⟨cur, h1, _, h2⟩ := h.outer
  obtain ⟨ad, cap, h3, h4⟩ := h2 i hi
  exact ⟨ad, cap, by rw [cell_of_row w g i cur 23 (0, 0) h1]; exact h3, h4⟩
theorem Out.there (h : Out w B g R D ls) (i : Nat) (hi : i < R) : ∃ u, w.cell? ⟨g, i, none⟩ = some u := by
  obtain ⟨cur, h1, h2, _⟩ := h.outer
  rw [cell_of_row w g i cur 23 (0, 0) h1]
  exact ⟨_, Array.getElem?_eq_getElem (by omega)⟩
/-- what turns only other blocks behind D leaves it -/
theorem Out.keptIn (h : Out w B g R D ls) (hs : w.heap.size ≤ w'.heap.size) (hk : ∀ b, g ≤ b → b < D → w'.heap[b]? = w.heap[b]?) : Out w' B g R D ls := by
  obtain ⟨cur, h1, h2, h3⟩ := h.outer
  refine ⟨h.base, h.fits, h.most, h.ltD, Nat.le_trans h.leD hs, cur, (hk g (Nat.le_refl _) h.ltD).trans h1, h2, fun i hi => ?_⟩
  obtain ⟨ad, cap, h4, h5, h6⟩ := h3 i hi
  exact ⟨ad, cap, h4, h5.kept (Nat.le_refl _) fun b hb hg => hk b (Nat.le_of_lt hg) hb, h6⟩
theorem Out.kept (h : Out w B g R D ls) (hs : w.heap.size ≤ w'.heap.size) (hk : ∀ b, b < D → w'.heap[b]? = w.heap[b]?) : Out w' B g R D ls := h.keptIn hs fun b _ hb => hk b hb
theorem Out.below (h : Out w B g R D ls) (hb : Below w.heap.size w w') : Out w' B g R D ls := h.kept hb.size fun b hb' => hb.block b (Nat.lt_of_lt_of_le hb' h.leD)
theorem Out.belowD (h : Out w B g R D ls) {E : Nat} (hb : Below E w w') (hE : D ≤ E) : Out w' B g R D ls := h.kept hb.size fun b hb' => hb.block b (by omega)
theorem Out.drew (h : Out w B g R D ls) : Out w.drew B g R D ls := h.kept (Nat.le_refl _) fun _ _ => rfl
theorem Out.drewN (h : Out w B g R D ls) (n : Nat) : Out (w.drewN n) B g R D ls := h.kept (Nat.le_refl _) fun _ _ => rfl
theorem Out.up (h : Out w B g R D ls) (D' : Nat) (hD : D ≤ D') (hD2 : D' ≤ w.heap.size) : Out w B g R D' ls := by
  obtain ⟨cur, h1, h2, h3⟩ := h.outer
  refine ⟨h.base, h.fits, h.most, Nat.lt_of_lt_of_le h.ltD hD, hD2, cur, h1, h2, fun i hi => ?_⟩
  obtain ⟨ad, cap, h4, h5, h6⟩ := h3 i hi
  exact ⟨ad, cap, h4, h5.kept hD fun _ _ _ => rfl, h6⟩
/-- a cell of a block behind D turns -/
theorem Out.other (h : Out w B g R D ls) (b k : Nat) (u : Value) (hb : D ≤ b) : Out (w.setCell ⟨b, k, none⟩ u) B g R D ls :=
  h.kept (by simp) fun c hc => Below.heap_setCell w ⟨b, k, none⟩ u c (by intro e; have e : c = b := e; omega)
theorem heap_set_here (w : World) (b i : Nat) (u : Value) (cur : Array Value) (t : TypeId) (fr : Nat × Nat) (h : w.heap[b]? = some (.cells cur t fr)) : (w.setCell ⟨b, i, none⟩ u).heap[b]? = some (.cells (cur.setIfInBounds i u) t fr) := by
  simp [World.setCell, Array.getElem?_modify, h]
/-- a row is replaced, or stands behind the last one -/
theorem Out.put (h : Out w B g R D ls) (i : Nat) (hi : i < R) (ad : Option Addr) (l : List UInt8) (cap : Nat) (hl : LieN w g D ad l) (h1 : l.length ≤ cap) (h2 : cap ≤ maxLen) (h3 : ad = none → cap = 0) (ls' : List (List UInt8)) (hR : ls'.length ≤ R)
    (hls : ∀ j (hj : j < ls'.length), (j = i ∧ ls'[j] = l) ∨ (j ≠ i ∧ ∃ hj' : j < ls.length, ls'[j] = ls[j])) : Out (w.setCell ⟨g, i, none⟩ (.slice ad l.length cap)) B g R D ls' := by
  obtain ⟨cur, h4, h5, h6⟩ := h.outer
  have hk : ∀ b, b < D → g < b → (w.setCell ⟨g, i, none⟩ (.slice ad l.length cap)).heap[b]? = w.heap[b]? := fun b _ hb => Below.heap_setCell w ⟨g, i, none⟩ _ b (by intro e; have e : b = g := e; omega)
  refine ⟨h.base, hR, h.most, h.ltD, by simpa using h.leD, _, heap_set_here w g i _ cur _ _ h4, by simpa using h5, fun j hj => ?_⟩
  rw [Array.getElem?_setIfInBounds]
  rcases hls j hj with ⟨rfl, e⟩ | ⟨hne, hj', e⟩
  · rw [if_pos rfl, if_pos (by omega), e]
    exact ⟨ad, cap, rfl, hl.kept (Nat.le_refl _) hk, h1, h2, h3⟩
  · rw [if_neg (fun e => hne e.symm), e]
    obtain ⟨ad', cap', h7, h8, h9⟩ := h6 j hj'
    exact ⟨ad', cap', h7, h8.kept (Nat.le_refl _) hk, h9⟩
theorem set_cases (ls : List (List UInt8)) (i : Nat) (l : List UInt8) : ∀ j (hj : j < (ls.set i l).length), (j = i ∧ (ls.set i l)[j] = l) ∨ (j ≠ i ∧ ∃ hj' : j < ls.length, (ls.set i l)[j] = ls[j]) := fun j hj => by
  rw [List.getElem_set]
  by_cases e : i = j
  · exact .inl ⟨e.symm, if_pos e⟩
  · exact .inr ⟨fun e' => e e'.symm, by simpa using hj, if_neg e⟩
theorem Out.set_ (h : Out w B g R D ls) (i : Nat) (hi : i < ls.length) (ad : Option Addr) (l : List UInt8) (cap : Nat) (hl : LieN w g D ad l) (h1 : l.length ≤ cap) (h2 : cap ≤ maxLen) (h3 : ad = none → cap = 0) : Out (w.setCell ⟨g, i, none⟩ (.slice ad l.length cap)) B g R D (ls.set i l) :=
  h.put i (Nat.lt_of_lt_of_le hi h.fits) ad l cap hl h1 h2 h3 _ (by simpa using h.fits) (set_cases ls i l)
/-- .. by a slice of the call's own, that lies behind g -/
theorem Out.setOwn (h : Out w B g R D ls) (i : Nat) (hi : i < ls.length) (v : Value) (l : List UInt8) (E : Nat) (ho : Own w E v l) (hE : g < E) : Out (w.setCell ⟨g, i, none⟩ v) B g R w.heap.size (ls.set i l) := by
  obtain ⟨ad, cap, rfl, h1, h2⟩ := LieN.of_own (g := g) ho hE (Nat.le_refl _)
  exact (h.up w.heap.size h.leD (Nat.le_refl _)).set_ i hi ad l cap h1 h2.1 h2.2.1 h2.2.2
/-- the first i rows are left -/
theorem Out.take (h : Out w B g R D ls) (i : Nat) : Out w B g R D (ls.take i) := by
  obtain ⟨cur, h1, h2, h3⟩ := h.outer
  refine ⟨h.base, by rw [List.length_take]; have := h.fits; omega, h.most, h.ltD, h.leD, cur, h1, h2, fun j hj => ?_⟩
  rw [List.length_take] at hj
  rw [List.getElem_take]
  exact h3 j (by omega)
/-- the row that stands behind the last one is known too -/
theorem Out.push (h : Out w B g R D ls) (D' : Nat) (hD : D ≤ D') (hD2 : D' ≤ w.heap.size) (hR : ls.length < R) (ad : Option Addr) (l : List UInt8) (cap : Nat) (hc : w.cell? ⟨g, ls.length, none⟩ = some (.slice ad l.length cap)) (hl : LieN w g D' ad l) (h1 : l.length ≤ cap) (h2 : cap ≤ maxLen) (h3 : ad = none → cap = 0) : Out w B g R D' (ls ++ [l]) := by
  obtain ⟨cur, h4, h5, h6⟩ := (h.up D' hD hD2).outer
  rw [cell_of_row w g _ cur 23 (0, 0) h4] at hc
  refine ⟨h.base, by rw [List.length_append]; exact hR, h.most, Nat.lt_of_lt_of_le h.ltD hD, hD2, cur, h4, h5, fun j hj => ?_⟩
  by_cases hlt : j < ls.length
  · rw [List.getElem_append_left hlt]
    exact h6 j hlt
  · have e : j = ls.length := by rw [List.length_append, List.length_singleton] at hj; omega
    subst e
    rw [List.getElem_append_right (Nat.le_refl _)]
    simp only [Nat.sub_self, List.getElem_cons_zero]
    exact ⟨ad, cap, hc, hl, h1, h2, h3⟩
theorem Out.lr (h : Out w B g R D ls) : Lr w (some ⟨g, 0, none⟩) ls := by
  refine ⟨.inr ⟨g, 0, rfl, h.lt, fun i hi => ?_⟩⟩
  obtain ⟨ad, cap, h1, h2, h3⟩ := h.get i hi
  exact ⟨ad, cap, by rw [Nat.zero_add]; exact h1, h2.lie h.leD, h3⟩
end
theorem made_nils (n : Nat) : (madeCells (Value.slice none 0 0).cells (n * 1)).toList = List.replicate n (.slice none 0 0) := by
  apply List.ext_getElem
  · simp [madeCells]
  · intro i h1 h2
    simp [madeCells, Value.cells, Nat.mod_one]
/-- n slices of bytes made anew: all nil -/
theorem wpList_make_outer {w : World} {ops : Array Oper} {rest : List Oper} {o : Oper} {a : Act} {Q : Exit → Act → World → Prop} (hgd : o.guard = none) (l c : Operand) (hop : o.op = Op.makeSlice 22 l c)
    (L C : Int) (n : Nat) (hl : a.eval l = .int .i64 L) (hc : a.eval c = .int .i64 C) (hL : L = (n : Int)) (hC : C = (n : Int)) (hn : n ≤ 100000)
    (h : ∀ g w', Out w' w.heap.size g n w'.heap.size (List.replicate n []) → Below w.heap.size w w' → wpList Try.prog ops Q rest (a.put o.dst (.slice (some ⟨g, 0, none⟩) n n)) w') : wpList Try.prog ops Q (o :: rest) a w := by
  obtain ⟨i, hi, hz0, hz1, hz2⟩ := info_l
  refine wpList_make_full w hgd l c 22 hop w.heap.size 23 i (.slice none 0 0) 1 Try.underlying22 hi hz0 hz1 .i64 .i64 L C n hl hc hL hC (by rw [hz2]; omega) (by unfold maxLen; omega) (Nat.le_refl _) (fun w' h2 h3 => ?_)
  refine h _ w' ?_ ((Below.refl _ _).grown h3 (Nat.le_refl _) (by simp))
  rcases h2.2 with ⟨h4, _⟩ | ⟨g, cap, cur, h4, _, h5, _, _, h6, h7⟩
  · cases h4
  · cases h4
    rw [made_nils] at h7
    have hlt := (Array.getElem?_eq_some_iff.1 h5).1
    refine ⟨Nat.le_refl _, by simp, by unfold maxLen; omega, hlt, Nat.le_refl _, cur, h5, by omega, fun j hj => ⟨none, 0, ?_, .inl (by simp), by simp, Nat.zero_le _, fun _ => rfl⟩⟩
    have hj' : j < n := by simpa using hj
    have h8 : (cur.toList.take (n * 1))[j]? = some (.slice none 0 0) := by rw [h7]; simp [hj']
    rw [List.getElem?_take_of_lt (by omega)] at h8
    simpa using h8
end Go.Proofs.Ytbkjocmldeagdaa
