/-
  A matrix in memory of the call's own: rows in different blocks; an element written, two rows exchanged, a row replaced, a row appended.
-/
import Derived.Test.YtbkjocmldeagdaaLs
import Derived.Test.YtbkjocmldeagdaaGOwn
import Derived.Test.YtbkjocmldeagdaaKList
namespace Go.Proofs.Ytbkjocmldeagdaa
open Go.RowKit

theorem types_ne : (5 : TypeId) ≠ 23 := by decide
/-- Block g holds r slices of L elements, whose elements lie in the blocks gs. -/
structure OM (w : World) (B g : Nat) (gs cps : Nat → Nat) (r L : Nat) (M : Nat → Nat → UInt8) : Prop where
  base : B ≤ g
  outer : ∃ cur, w.heap[g]? = some (.cells cur 23 (0, 0)) ∧ ∀ i, i < r → cur[i]? = some (.slice (some ⟨gs i, 0, none⟩) L (cps i))
  rows : ∀ i, i < r → B ≤ gs i ∧ L ≤ cps i ∧ cps i ≤ maxLen ∧ ∃ cur, w.heap[gs i]? = some (.cells cur 5 (0, 0)) ∧ ∀ k, k < L → cur[k]? = some (.int .u8 (ev (M i k)))
  dist : ∀ i j, i < j → j < r → gs i ≠ gs j
section
variable {w w' : World} {B g r L : Nat} {gs cps : Nat → Nat} {M : Nat → Nat → UInt8}
theorem OM.lt (h : OM w B g gs cps r L M) : g < w.heap.size := by obtain ⟨cur, h1, _⟩ := h.outer; exact (Array.getElem?_eq_some_iff.1 h1).1
theorem OM.ltRow (h : OM w B g gs cps r L M) (i : Nat) (hi : i < r) : gs i < w.heap.size := by obtain ⟨_, _, _, cur, h1, _⟩ := h.rows i hi; exact (Array.getElem?_eq_some_iff.1 h1).1
theorem OM.ne (h : OM w B g gs cps r L M) (i : Nat) (hi : i < r) : gs i ≠ g := by
  obtain ⟨cur, h1, _⟩ := h.outer
  obtain ⟨_, _, _, cur2, h2, _⟩ := h.rows i hi
  intro e
  rw [e, h1] at h2
  simp only [Option.some.injEq, Obj.cells.injEq] at h2
  exact types_ne h2.2.1.symm
theorem OM.apart (h : OM w B g gs cps r L M) (i j : Nat) (hi : i < r) (hj : j < r) (hne : i ≠ j) : gs i ≠ gs j := by
  rcases Nat.lt_or_gt_of_ne hne with h' | h'
  · exact h.dist i j h' hj
  · exact fun e => h.dist j i h' hi e.symm
theorem OM.rowCell (h : OM w B g gs cps r L M) (i : Nat) (hi : i < r) : w.cell? ⟨g, i, none⟩ = some (.slice (some ⟨gs i, 0, none⟩) L (cps i)) ∧ w.frozen? ⟨g, i, none⟩ = false := by
  obtain ⟨cur, h1, h2⟩ := h.outer
  exact ⟨by rw [cell_of_row w g i cur 23 (0, 0) h1]; exact h2 i hi, by simp [World.frozen?, h1]⟩
theorem OM.cell (h : OM w B g gs cps r L M) (i k : Nat) (hi : i < r) (hk : k < L) : w.cell? ⟨gs i, k, none⟩ = some (.int .u8 (ev (M i k))) ∧ w.frozen? ⟨gs i, k, none⟩ = false := by
  obtain ⟨_, _, _, cur, h1, h2⟩ := h.rows i hi
  exact ⟨by rw [cell_of_row w (gs i) k cur 5 (0, 0) h1]; exact h2 k hk, by simp [World.frozen?, h1]⟩
theorem OM.congr {M' : Nat → Nat → UInt8} (h : OM w B g gs cps r L M) (e : ∀ i, i < r → ∀ k, k < L → M' i k = M i k) : OM w B g gs cps r L M' :=
  ⟨h.base, h.outer, fun i hi => by
    obtain ⟨h1, h2, h3, cur, h4, h5⟩ := h.rows i hi
    exact ⟨h1, h2, h3, cur, h4, fun k hk => by rw [e i hi k hk]; exact h5 k hk⟩, h.dist⟩
/-- what turns only other blocks leaves it -/
theorem OM.kept (h : OM w B g gs cps r L M) (hk : ∀ b, (b = g ∨ ∃ i, i < r ∧ b = gs i) → w'.heap[b]? = w.heap[b]?) : OM w' B g gs cps r L M := by
  obtain ⟨cur, h1, h2⟩ := h.outer
  refine ⟨h.base, ⟨cur, (hk g (.inl rfl)).trans h1, h2⟩, fun i hi => ?_, h.dist⟩
  obtain ⟨h3, h4, h5, cur2, h6, h7⟩ := h.rows i hi
  exact ⟨h3, h4, h5, cur2, (hk (gs i) (.inr ⟨i, hi, rfl⟩)).trans h6, h7⟩
theorem OM.below (h : OM w B g gs cps r L M) (hb : Below w.heap.size w w') : OM w' B g gs cps r L M :=
  h.kept fun b hb' => hb.block b (by
    rcases hb' with rfl | ⟨i, hi, rfl⟩
    · exact h.lt
    · exact h.ltRow i hi)
theorem OM.drew (h : OM w B g gs cps r L M) : OM w.drew B g gs cps r L M := h.kept fun _ _ => rfl
theorem OM.drewN (h : OM w B g gs cps r L M) (n : Nat) : OM (w.drewN n) B g gs cps r L M := h.kept fun _ _ => rfl
/-- the element in row i and column k is x now -/
def updE (M : Nat → Nat → UInt8) (i k : Nat) (x : UInt8) (i' k' : Nat) : UInt8 := if i' = i ∧ k' = k then x else M i' k'
theorem heap_set_same (w : World) (b i : Nat) (u : Value) (cur : Array Value) (t : TypeId) (fr : Nat × Nat) (h : w.heap[b]? = some (.cells cur t fr)) : (w.setCell ⟨b, i, none⟩ u).heap[b]? = some (.cells (cur.setIfInBounds i u) t fr) := by
  simp [World.setCell, Array.getElem?_modify, h]
theorem heap_set_other (w : World) (b i k : Nat) (u : Value) (h : k ≠ b) : (w.setCell ⟨b, i, none⟩ u).heap[k]? = w.heap[k]? := Below.heap_setCell w ⟨b, i, none⟩ u k h
theorem OM.setE (h : OM w B g gs cps r L M) (i k : Nat) (hi : i < r) (hk : k < L) (x : UInt8) : OM (w.setCell ⟨gs i, k, none⟩ (.int .u8 (ev x))) B g gs cps r L (updE M i k x) := by
  obtain ⟨cur, h1, h2⟩ := h.outer
  refine ⟨h.base, ⟨cur, by rw [heap_set_other _ _ _ _ _ (fun e => h.ne i hi e.symm)]; exact h1, h2⟩, fun j hj => ?_, h.dist⟩
  obtain ⟨h3, h4, h5, cur2, h6, h7⟩ := h.rows j hj
  by_cases e : j = i
  · subst e
    refine ⟨h3, h4, h5, _, heap_set_same w (gs j) k _ cur2 _ _ h6, fun l hl => ?_⟩
    rw [Array.getElem?_setIfInBounds]
    unfold updE
    by_cases e2 : k = l
    · subst e2
      have hs : k < cur2.size := by
        have := h7 k hk
        exact (Array.getElem?_eq_some_iff.1 this).1
      rw [if_pos rfl, if_pos hs, if_pos ⟨rfl, rfl⟩]
    · rw [if_neg e2, if_neg (fun h' => e2 h'.2.symm)]; exact h7 l hl
  · refine ⟨h3, h4, h5, cur2, by rw [heap_set_other _ _ _ _ _ (h.apart j i hj hi e)]; exact h6, fun l hl => ?_⟩
    unfold updE
    rw [if_neg (fun h' => e h'.1)]; exact h7 l hl
/-- a row is replaced by another slice of the call's own -/
theorem OM.putRow (h : OM w B g gs cps r L M) (i : Nat) (hi : i < r) (b c : Nat) (N : Nat → UInt8) (hb : B ≤ b) (hc : L ≤ c) (hc2 : c ≤ maxLen) (hN : ∃ cur, w.heap[b]? = some (.cells cur 5 (0, 0)) ∧ ∀ k, k < L → cur[k]? = some (.int .u8 (ev (N k))))
    (hd : ∀ j, j < r → j ≠ i → gs j ≠ b) : OM (w.setCell ⟨g, i, none⟩ (.slice (some ⟨b, 0, none⟩) L c)) B g (fun j => if j = i then b else gs j) (fun j => if j = i then c else cps j) r L (fun j => if j = i then N else M j) := by
  obtain ⟨cur, h1, h2⟩ := h.outer
  obtain ⟨cur3, h8, h9⟩ := hN
  have hbg : b ≠ g := fun e => by
    rw [e, h1] at h8
    simp only [Option.some.injEq, Obj.cells.injEq] at h8
    exact types_ne h8.2.1.symm
  have hsz : ∀ j, j < r → j < cur.size := fun j hj => (Array.getElem?_eq_some_iff.1 (h2 j hj)).1
  refine ⟨h.base, ⟨_, heap_set_same w g i _ cur _ _ h1, fun j hj => ?_⟩, fun j hj => ?_, fun j k hjk hk => ?_⟩
  · rw [Array.getElem?_setIfInBounds]
    by_cases e : i = j
    · subst e; rw [if_pos rfl, if_pos (hsz i hi), if_pos rfl, if_pos rfl]
    · rw [if_neg e, if_neg (fun h' => e h'.symm), if_neg (fun h' => e h'.symm)]; exact h2 j hj
  · by_cases e : j = i
    · rw [if_pos e, if_pos e, if_pos e]
      exact ⟨hb, hc, hc2, cur3, by rw [heap_set_other _ _ _ _ _ hbg]; exact h8, h9⟩
    · rw [if_neg e, if_neg e, if_neg e]
      obtain ⟨h3, h4, h5, cur2, h6, h7⟩ := h.rows j hj
      exact ⟨h3, h4, h5, cur2, by rw [heap_set_other _ _ _ _ _ (h.ne j hj)]; exact h6, h7⟩
  · show (if j = i then b else gs j) ≠ if k = i then b else gs k
    by_cases e1 : j = i
    · rw [if_pos e1, if_neg (by omega)]; exact fun e => hd k hk (by omega) e.symm
    · rw [if_neg e1]
      by_cases e2 : k = i
      · rw [if_pos e2]; exact hd j (by omega) e1
      · rw [if_neg e2]; exact h.dist j k hjk hk
/-- two rows are exchanged -/
theorem OM.swap (h : OM w B g gs cps r L M) (a b : Nat) (ha : a < r) (hb : b < r) :
    OM ((w.setCell ⟨g, a, none⟩ (.slice (some ⟨gs b, 0, none⟩) L (cps b))).setCell ⟨g, b, none⟩ (.slice (some ⟨gs a, 0, none⟩) L (cps a))) B g (fun i => gs (sw a b i)) (fun i => cps (sw a b i)) r L (fun i => M (sw a b i)) := by
  obtain ⟨cur, h1, h2⟩ := h.outer
  have hsz : ∀ j, j < r → j < cur.size := fun j hj => (Array.getElem?_eq_some_iff.1 (h2 j hj)).1
  have hs : ∀ i, i < r → sw a b i < r := fun i hi => sw_lt ha hb hi
  refine ⟨h.base, ⟨_, heap_set_same _ g b _ _ _ _ (heap_set_same w g a _ cur _ _ h1), fun j hj => ?_⟩, fun j hj => ?_, fun i j hij hj e => ?_⟩
  · rw [Array.getElem?_setIfInBounds, Array.getElem?_setIfInBounds]
    unfold sw
    by_cases e1 : b = j
    · subst e1
      rw [if_pos rfl, if_pos (by simpa using hsz b hj)]
      by_cases e2 : b = a
      · subst e2; rw [if_pos rfl]
      · rw [if_neg e2, if_pos rfl]
    · rw [if_neg e1]
      by_cases e2 : a = j
      · subst e2
        rw [if_pos rfl, if_pos (hsz a hj), if_pos rfl]
      · rw [if_neg e2, if_neg (fun h' => e2 h'.symm), if_neg (fun h' => e1 h'.symm)]; exact h2 j hj
  · obtain ⟨h3, h4, h5, cur2, h6, h7⟩ := h.rows (sw a b j) (hs j hj)
    exact ⟨h3, h4, h5, cur2, by rw [heap_set_other _ _ _ _ _ (h.ne _ (hs j hj)), heap_set_other _ _ _ _ _ (h.ne _ (hs j hj))]; exact h6, h7⟩
  · have hi : i < r := by omega
    refine h.apart _ _ (hs i hi) (hs j hj) (fun e' => ?_) e
    have := congrArg (sw a b) e'
    rw [sw_sw, sw_sw] at this
    omega
/-- a row, to be read -/
theorem OM.lie (h : OM w B g gs cps r L M) (i : Nat) (hi : i < r) : Lie w (some ⟨gs i, 0, none⟩) ((List.range L).map (M i)) := by
  refine ⟨.inr ⟨gs i, 0, rfl, h.ltRow i hi, fun j hj => ?_⟩⟩
  have hj' : j < L := by simpa using hj
  rw [Nat.zero_add, (h.cell i j hi hj').1, ev_nat]
  simp
/-- the matrix, to be read -/
theorem OM.lr (h : OM w B g gs cps r L M) : Lr w (some ⟨g, 0, none⟩) (matL r L M) := by
  refine ⟨.inr ⟨g, 0, rfl, h.lt, fun i hi => ?_⟩⟩
  rw [matL_length] at hi
  obtain ⟨_, h4, h5, _⟩ := h.rows i hi
  refine ⟨some ⟨gs i, 0, none⟩, cps i, ?_, ?_, ?_, h5, fun h' => by cases h'⟩
  · rw [Nat.zero_add, (h.rowCell i hi).1, matL_row]
    simp
  · rw [matL_row]; exact h.lie i hi
  · rw [matL_row]; simpa using h4
end

/-- The value v is a matrix of the call's own, its rows in blocks below D: of no row yet, or OM's. -/
def OMv (w : World) (B D : Nat) (v : Value) (r L : Nat) (M : Nat → Nat → UInt8) : Prop :=
  ∃ cs : List Value, w.ownsRow B 23 1 v r cs ∧ (∀ i (h : i < cs.length), Own w B (cs[i]) ((List.range L).map (M i)) ∧ ∃ k, (cs[i]).ownBlock = some k ∧ k < D) ∧ ∀ i j (hi : i < cs.length) (hj : j < cs.length), i < j → (cs[i]).ownBlock ≠ (cs[j]).ownBlock
theorem row_len {w : World} {B r : Nat} {v : Value} {cs : List Value} (h : w.ownsRow B 23 1 v r cs) : cs.length = r := by have := h.1; omega
theorem Own.form {w : World} {B g : Nat} {c : Value} {l : List UInt8} (h : Own w B c l) (hg : c.ownBlock = some g) : ∃ cap cur, c = .slice (some ⟨g, 0, none⟩) l.length cap ∧ B ≤ g ∧ w.heap[g]? = some (.cells cur 5 (0, 0)) ∧ l.length ≤ cap ∧ cap ≤ maxLen ∧ ∀ i (hi : i < l.length), cur[i]? = some (.int .u8 (ev (l[i]'hi))) := by
  rcases h.row.2 with ⟨rfl, _⟩ | ⟨g', cap, cur, rfl, hB, hgg, hle, hm, hsz, htake⟩
  · cases hg
  · have e : some g' = some g := hg
    cases e
    refine ⟨cap, cur, rfl, hB, hgg, hle, hm, fun i hi => ?_⟩
    have h1 : (cur.toList.take (l.length * 1))[i]? = some (.int .u8 ((l[i]'hi).toNat : Int)) := by rw [htake]; exact cellsU_get l i hi
    rw [List.getElem?_take_of_lt (by omega)] at h1
    rw [ev_nat]
    simpa using h1
/-- with rows: what the walk needs -/
theorem OMv.open_ {w : World} {B D r L : Nat} {v : Value} {M : Nat → Nat → UInt8} (h : OMv w B D v r L M) (hr : 0 < r) : ∃ g cap gs cps, v = .slice (some ⟨g, 0, none⟩) r cap ∧ r ≤ cap ∧ cap ≤ maxLen ∧ OM w B g gs cps r L M := by
  obtain ⟨cs, h1, h2, h3⟩ := h
  have hl := row_len h1
  rcases h1.2 with ⟨_, h0⟩ | ⟨g, cap, cur, rfl, hB, hg, hle, hm, hsz, htake⟩
  · omega
  have hx : ∀ i, ∃ b, (hi : i < cs.length) → (cs[i]).ownBlock = some b := fun i => by
    by_cases hi : i < cs.length
    · obtain ⟨b, e, _⟩ := (h2 i hi).2
      exact ⟨b, fun _ => e⟩
    · exact ⟨0, fun h' => absurd h' hi⟩
  obtain ⟨gs, hgs⟩ := Classical.axiomOfChoice hx
  have hy : ∀ i, ∃ c, (hi : i < cs.length) → cs[i] = .slice (some ⟨gs i, 0, none⟩) L c ∧ B ≤ gs i ∧ L ≤ c ∧ c ≤ maxLen ∧ ∃ cur, w.heap[gs i]? = some (.cells cur 5 (0, 0)) ∧ ∀ k, k < L → cur[k]? = some (.int .u8 (ev (M i k))) := fun i => by
    by_cases hi : i < cs.length
    · obtain ⟨c, cur2, e, h4, h5, h6, h7, h8⟩ := (h2 i hi).1.form (hgs i hi)
      rw [List.length_map, List.length_range] at e h6
      exact ⟨c, fun _ => ⟨e, h4, h6, h7, cur2, h5, fun k hk => by have := h8 k (by simpa using hk); simpa using this⟩⟩
    · exact ⟨0, fun h' => absurd h' hi⟩
  obtain ⟨cps, hcps⟩ := Classical.axiomOfChoice hy
  refine ⟨g, cap, gs, cps, rfl, hle, hm, hB, ⟨cur, hg, fun i hi => ?_⟩, fun i hi => (hcps i (by omega)).2, fun i j hij hj e => ?_⟩
  · have h4 : (cur.toList.take (r * 1))[i]? = some (cs[i]'(by omega)) := by rw [htake]; exact List.getElem?_eq_getElem _
    rw [List.getElem?_take_of_lt (by omega), (hcps i (by omega)).1] at h4
    simpa using h4
  · refine h3 i j (by omega) (by omega) hij ?_
    rw [hgs i (by omega), hgs j (by omega), e]
theorem OMv.nil (w : World) (B D L : Nat) (M : Nat → Nat → UInt8) : OMv w B D (.slice none 0 0) 0 L M := ⟨[], ⟨rfl, .inl ⟨rfl, rfl⟩⟩, fun i h => by simp at h, fun i j h => by simp at h⟩
theorem OMv.lt {w : World} {B D r L : Nat} {v : Value} {M : Nat → Nat → UInt8} (h : OMv w B D v r L M) : ∀ k, v.ownBlock = some k → B ≤ k ∧ k < w.heap.size := by obtain ⟨cs, h1, _⟩ := h; exact h1.lt
theorem OMv.below {w w' : World} {B D r L : Nat} {v : Value} {M : Nat → Nat → UInt8} (h : OMv w B D v r L M) (hb : Below w.heap.size w w') : OMv w' B D v r L M := by
  obtain ⟨cs, h1, h2, h3⟩ := h
  refine ⟨cs, ⟨h1.1, ?_⟩, fun i hi => ⟨(h2 i hi).1.below hb, (h2 i hi).2⟩, h3⟩
  rcases h1.2 with h0 | ⟨g, cap, cur, hv, hB, hg, h4⟩
  · exact .inl h0
  · exact .inr ⟨g, cap, cur, hv, hB, (hb.block g (Array.getElem?_eq_some_iff.1 hg).1).trans hg, h4⟩
theorem Own.other {w w' : World} {B : Nat} {v : Value} {l : List UInt8} {row : Option Nat} (h : Own w B v l) (hg : w.grownBy w' row) (hne : ∀ k, v.ownBlock = some k → some k ≠ row) : Own w' B v l := by
  refine ⟨h.row.1, ?_⟩
  rcases h.row.2 with h0 | ⟨g, cap, cur, hv, hB, hgg, h4⟩
  · exact .inl h0
  · exact .inr ⟨g, cap, cur, hv, hB, (hg.block g (Array.getElem?_eq_some_iff.1 hgg).1 (hne g (by rw [hv]; rfl))).trans hgg, h4⟩
/-- a row more: what the law on append gives -/
theorem wpList_append_row {w : World} {ops : Array Oper} {rest : List Oper} {o : Oper} {a : Act} {Q : Exit → Act → World → Prop} (hgd : o.guard = none) (s x : Operand)
    (ho : o.op = .call { callee := .builtin .append, args := #[s, x], argTypes := #[22, 22] })
    (B : Nat) (v c : Value) (r L : Nat) (M : Nat → Nat → UInt8) (D : Nat) (hs : a.eval s = v) (hown : OMv w B D v r L M) (ad : Addr) (hx : a.eval x = .slice (some ad) 1 1) (hcell : ∀ j u, [c][j]? = some u → w.cell? (ad.add j) = some u)
    (hc : Own w D c ((List.range L).map (M r))) (hL : 0 < L) (hD : B ≤ D) (hlen : r ≤ 100000) (hbase : B ≤ w.heap.size)
    (h : ∀ v' w', OMv w' B w'.heap.size v' (r + 1) L M → w.grownBy w' v.ownBlock → wpList Try.prog ops Q rest (a.put o.dst v') w') : wpList Try.prog ops Q (o :: rest) a w := by
  obtain ⟨i, hi, hz0, hz1, hz2⟩ := info_l
  obtain ⟨cs, h1, h2, h3⟩ := hown
  have hl := row_len h1
  have hone : c.oneCell' = true := by
    obtain ⟨ad, cap, rfl, _⟩ := hc.slice
    rfl
  refine wpList_append_own w hgd s x 22 ho B 23 i (.slice none 0 0) 1 24 Try.underlying22 hi hz0 hz1 hz2 rfl (by decide) v r cs hs h1 ad 1 1 [c] hx rfl hcell (by simp [hone]) (by unfold maxLen; omega) (by omega) hbase
    (fun v' w' h4 h5 _ => h v' w' ?_ h5)
  -- the outer row's block is none of bytes
  have hrow : ∀ (u : Value) (l : List UInt8) (D : Nat), Own w D u l → ∀ k, u.ownBlock = some k → some k ≠ v.ownBlock := by
    intro u l D hu k hk e
    obtain ⟨cap, cur, _, _, hg, _⟩ := hu.form hk
    rcases h1.2 with ⟨rfl, _⟩ | ⟨g, cap2, cur2, rfl, _, hg2, _⟩
    · cases e
    · have e' : some k = some g := e
      cases e'
      rw [hg2] at hg
      simp only [Option.some.injEq, Obj.cells.injEq] at hg
      exact types_ne hg.2.1.symm
  have hcb : ∃ k, c.ownBlock = some k := by
    rcases hc.row.2 with ⟨_, h0⟩ | ⟨g, cap, cur, rfl, _⟩
    · rw [List.length_map, List.length_range] at h0; omega
    · exact ⟨g, rfl⟩
  refine ⟨cs ++ [c], h4, fun i hi => ?_, fun i j hi hj hij => ?_⟩
  · by_cases hlt : i < cs.length
    · rw [List.getElem_append_left hlt]
      obtain ⟨k, hk, _⟩ := (h2 i hlt).2
      have ho := (h2 i hlt).1.other h5 (hrow _ _ _ (h2 i hlt).1)
      exact ⟨ho, k, hk, (ho.lt k hk).2⟩
    · have e : i = cs.length := by simp at hi; omega
      subst e
      rw [List.getElem_append_right (Nat.le_refl _)]
      simp only [Nat.sub_self, List.getElem_cons_zero]
      rw [hl]
      obtain ⟨k, hk⟩ := hcb
      have ho := hc.other h5 (hrow _ _ _ hc)
      exact ⟨ho.mono hD, k, hk, (ho.lt k hk).2⟩
  · by_cases hlt : j < cs.length
    · rw [List.getElem_append_left hlt, List.getElem_append_left (by omega)]
      exact h3 i j (by omega) hlt hij
    · have e : j = cs.length := by simp at hj; omega
      subst e
      rw [List.getElem_append_right (Nat.le_refl _), List.getElem_append_left hij]
      simp only [Nat.sub_self, List.getElem_cons_zero]
      intro e
      obtain ⟨k, hk, hkD⟩ := (h2 i hij).2
      rw [hk] at e
      have h7 := (hc.lt k e.symm).1
      omega
end Go.Proofs.Ytbkjocmldeagdaa
