/-
  Lists of slices of bytes that the call owns: what the elements hold lies in other blocks than the list itself; appended to.
  Lists of the call's own whose elements lie in memory that was there before: two of them may grow beside one another.
  Slices of truth values; the map of the chosen rows.
-/
import Derived.Test.YtinfjidclkgfnaaQRows
import Derived.Maps.AppendAt
import Derived.Maps.OwnSet
import Derived.Maps.OwnOps
import Derived.Maps.Views
namespace Go.Proofs.Ytinfjidclkgfnaa
open Go.RowKit

/-- The bytes l lie at ad, in a block at or behind C, other than x. -/
def LieX (w : World) (C : Nat) (x : Option Nat) (ad : Option Addr) (l : List UInt8) : Prop :=
  l = [] ∨ ∃ b off, ad = some ⟨b, off, none⟩ ∧ C ≤ b ∧ b < w.heap.size ∧ some b ≠ x ∧ ∀ j (h : j < l.length), w.cell? ⟨b, off + j, none⟩ = some (.int .u8 ((l[j]'h).toNat : Int))
section
variable {w w' w0 : World} {B C C' D : Nat} {x : Option Nat} {ad : Option Addr} {l : List UInt8}
theorem LieX.lie (h : LieX w C x ad l) : Lie w ad l := by
  rcases h with h0 | ⟨b, off, e, _, hb, _, hc⟩
  · exact ⟨.inl h0⟩
  · exact ⟨.inr ⟨b, off, e, hb, hc⟩⟩
theorem LieX.of_low (h : Lie w0 ad l) (hb : Below w0.heap.size w0 w) (hx : ∀ g, x = some g → w0.heap.size ≤ g) : LieX w 0 x ad l := by
  rcases h.at_ with h0 | ⟨b, off, e, hlt, hc⟩
  · exact .inl h0
  · exact .inr ⟨b, off, e, Nat.zero_le _, Nat.lt_of_lt_of_le hlt hb.size, fun e' => by have := hx b e'.symm; omega, fun j hj => (hb.cell (p := ⟨b, off + j, none⟩) hlt).trans (hc j hj)⟩
theorem LieX.mono (h : LieX w C x ad l) (hC : C' ≤ C) : LieX w C' x ad l := by
  rcases h with h0 | ⟨b, off, e, h1, h2⟩
  · exact .inl h0
  · exact .inr ⟨b, off, e, Nat.le_trans hC h1, h2⟩
theorem LieX.grown {y : Option Nat} (h : LieX w C x ad l) (hg : w.grownBy w' x) (hy : y = x ∨ y = some w.heap.size) : LieX w' C y ad l := by
  rcases h with h0 | ⟨b, off, e, h1, h2, h3, hc⟩
  · exact .inl h0
  · refine .inr ⟨b, off, e, h1, Nat.lt_of_lt_of_le h2 hg.size, fun e' => ?_, fun j hj => (World.cell?_of_block (a := ⟨b, off + j, none⟩) (hg.block b h2 h3)).trans (hc j hj)⟩
    rcases hy with hy | hy
    · exact h3 (e'.trans hy)
    · rw [hy] at e'
      cases e'
      omega
theorem grown_below (hb : Below w.heap.size w w') (x : Option Nat) : w.grownBy w' x := ⟨hb.os, hb.tape, hb.output, hb.size, fun k hk _ => hb.block k hk⟩
theorem LieX.below (h : LieX w C x ad l) (hb : Below w.heap.size w w') : LieX w' C x ad l := h.grown (grown_below hb x) (.inl rfl)
theorem LieX.other {y : Option Nat} (h : LieX w C x ad l) (hy : ∀ g, y = some g → g < C) : LieX w C y ad l := by
  rcases h with h0 | ⟨b, off, e, h1, h2, h3, hc⟩
  · exact .inl h0
  · exact .inr ⟨b, off, e, h1, h2, fun e' => by have := hy b e'.symm; omega, hc⟩
theorem LieX.of_own {v : Value} (h : Own w D v l) (hx : ∀ g, x = some g → g < D) : ∃ ad cap, v = .slice ad l.length cap ∧ LieX w D x ad l ∧ l.length ≤ cap ∧ cap ≤ maxLen ∧ (ad = none → cap = 0) := by
  obtain ⟨ad, cap, e, hl, h1, h2, h3⟩ := h.slice
  refine ⟨ad, cap, e, ?_, h1, h2, h3⟩
  rcases hl.at_ with h0 | ⟨b, off, e2, hb, hc⟩
  · exact .inl h0
  · have hb2 := (h.lt b (by rw [e, e2]; rfl)).1
    exact .inr ⟨b, off, e2, hb2, hb, fun e' => by have := hx b e'.symm; omega, hc⟩
end

/-- Slices that hold ls, to be read; what they hold lies at or behind C, in no block x. -/
def Lx (w : World) (C : Nat) (x : Option Nat) (ad : Option Addr) (ls : List (List UInt8)) : Prop :=
  ls = [] ∨ ∃ b off, ad = some ⟨b, off, none⟩ ∧ b < w.heap.size ∧ ∀ i (h : i < ls.length), ∃ ad' cap', w.cell? ⟨b, off + i, none⟩ = some (.slice ad' (ls[i]).length cap') ∧ LieX w C x ad' (ls[i]) ∧ (ls[i]).length ≤ cap' ∧ cap' ≤ maxLen ∧ (ad' = none → cap' = 0)
/-- The value v owns, behind block B, slices that hold ls; what they hold lies at or behind C, not in v's own block. -/
def Lq (w : World) (B C : Nat) (v : Value) (ls : List (List UInt8)) : Prop :=
  ∃ cs : List Value, w.ownsRow B 33 1 v ls.length cs ∧ ∀ i (h : i < ls.length), ∃ ad cap, cs[i]? = some (.slice ad (ls[i]).length cap) ∧ LieX w C v.ownBlock ad (ls[i]) ∧ (ls[i]).length ≤ cap ∧ cap ≤ maxLen ∧ (ad = none → cap = 0)
section
variable {w w' w0 : World} {B C C' D : Nat} {x : Option Nat} {ad : Option Addr} {v : Value} {ls : List (List UInt8)}
theorem Lx.of_low (h : Lr w0 ad ls) (hb : Below w0.heap.size w0 w) (hx : ∀ g, x = some g → w0.heap.size ≤ g) : Lx w 0 x ad ls := by
  rcases h.at_ with h0 | ⟨b, off, e, hlt, hc⟩
  · exact .inl h0
  · refine .inr ⟨b, off, e, Nat.lt_of_lt_of_le hlt hb.size, fun i hi => ?_⟩
    obtain ⟨ad', cap', h1, h2, h3⟩ := hc i hi
    exact ⟨ad', cap', (hb.cell (p := ⟨b, off + i, none⟩) hlt).trans h1, .of_low h2 hb hx, h3⟩
theorem Lx.lr (h : Lx w C x ad ls) : Lr w ad ls := by
  rcases h with h0 | ⟨b, off, e, hlt, hc⟩
  · exact ⟨.inl h0⟩
  · refine ⟨.inr ⟨b, off, e, hlt, fun i hi => ?_⟩⟩
    obtain ⟨ad', cap', h1, h2, h3⟩ := hc i hi
    exact ⟨ad', cap', h1, h2.lie, h3⟩
theorem Lx.below (h : Lx w C x ad ls) (hb : Below w.heap.size w w') : Lx w' C x ad ls := by
  rcases h with h0 | ⟨b, off, e, hlt, hc⟩
  · exact .inl h0
  · refine .inr ⟨b, off, e, Nat.lt_of_lt_of_le hlt hb.size, fun i hi => ?_⟩
    obtain ⟨ad', cap', h1, h2, h3⟩ := hc i hi
    exact ⟨ad', cap', (hb.cell (p := ⟨b, off + i, none⟩) hlt).trans h1, h2.below hb, h3⟩
/-- a list written out, in a block of its own -/
theorem Lx.mk (b : Nat) (hb : b < w.heap.size) (h : ∀ i (h : i < ls.length), ∃ ad' cap', w.cell? ⟨b, i, none⟩ = some (.slice ad' (ls[i]).length cap') ∧ LieX w C x ad' (ls[i]) ∧ (ls[i]).length ≤ cap' ∧ cap' ≤ maxLen ∧ (ad' = none → cap' = 0)) : Lx w C x (some ⟨b, 0, none⟩) ls :=
  .inr ⟨b, 0, rfl, hb, fun i hi => by rw [Nat.zero_add]; exact h i hi⟩
/-- one slice, in the newest block -/
theorem Lx.one (w : World) (c : Value) (l : List UInt8) (n : Nat) (hn : n = w.heap.size) (hc : ∃ ad cap, c = .slice ad l.length cap ∧ LieX w C x ad l ∧ l.length ≤ cap ∧ cap ≤ maxLen ∧ (ad = none → cap = 0)) : Lx (w.alloc (.cells #[c] 33)) C x (some ⟨n, 0, none⟩) [l] := by
  subst hn
  obtain ⟨ad, cap, rfl, h1, h2⟩ := hc
  refine Lx.mk _ (by simp) fun i hi => ?_
  obtain rfl : i = 0 := by simpa using hi
  exact ⟨ad, cap, by rw [World.cell?_alloc_mark]; rfl, h1.below ((Below.refl _ _).alloc (Nat.le_refl _) _), h2⟩
theorem Lq.nil (w : World) (B C : Nat) : Lq w B C (.slice none 0 0) [] := ⟨[], ⟨rfl, .inl ⟨rfl, rfl⟩⟩, fun i h => by simp at h⟩
theorem Lq.made (w : World) (C : Nat) (n : Nat) (hn : n = w.heap.size) : Lq (w.alloc (.cells #[] 33)) w.heap.size C (.slice (some ⟨n, 0, none⟩) 0 0) [] := by
  subst hn
  exact ⟨[], World.ownsRow_made w #[] 0 (Nat.le_refl _) (by decide) rfl, fun i h => by simp at h⟩
theorem Lq.lt (h : Lq w B C v ls) : ∀ k, v.ownBlock = some k → B ≤ k ∧ k < w.heap.size := by obtain ⟨cs, h1, _⟩ := h; exact h1.lt
theorem Lq.below (h : Lq w B C v ls) (hb : Below w.heap.size w w') : Lq w' B C v ls := by
  obtain ⟨cs, h1, h2⟩ := h
  refine ⟨cs, ⟨h1.1, ?_⟩, fun i hi => ?_⟩
  · rcases h1.2 with h0 | ⟨g, cap, cur, hv, hB, hg, h4⟩
    · exact .inl h0
    · exact .inr ⟨g, cap, cur, hv, hB, (hb.block g (Array.getElem?_eq_some_iff.1 hg).1).trans hg, h4⟩
  · obtain ⟨ad, cap, h3, h4, h5⟩ := h2 i hi
    exact ⟨ad, cap, h3, h4.below hb, h5⟩
theorem Lq.mono (h : Lq w B C v ls) {B' C' : Nat} (hB : B' ≤ B) (hC : C' ≤ C) : Lq w B' C' v ls := by
  obtain ⟨cs, h1, h2⟩ := h
  refine ⟨cs, ⟨h1.1, ?_⟩, fun i hi => ?_⟩
  · rcases h1.2 with h0 | ⟨g, cap, cur, hv, hg0, hg⟩
    · exact .inl h0
    · exact .inr ⟨g, cap, cur, hv, Nat.le_trans hB hg0, hg⟩
  · obtain ⟨ad, cap, h3, h4, h5⟩ := h2 i hi
    exact ⟨ad, cap, h3, h4.mono hC, h5⟩
theorem Lq.lx (h : Lq w B C v ls) : ∃ ad cap, v = .slice ad ls.length cap ∧ Lx w C v.ownBlock ad ls ∧ ls.length ≤ cap ∧ cap ≤ maxLen ∧ (ad = none → cap = 0) := by
  obtain ⟨cs, h1, h2⟩ := h
  rcases h1.2 with ⟨rfl, h0⟩ | ⟨g, cap, cur, rfl, hB, hg, hle, hm, hsz, htake⟩
  · have : ls = [] := List.eq_nil_of_length_eq_zero h0
    subst this
    exact ⟨none, 0, rfl, .inl rfl, Nat.le_refl _, Nat.zero_le _, fun _ => rfl⟩
  · refine ⟨some ⟨g, 0, none⟩, cap, rfl, Lx.mk g (Array.getElem?_eq_some_iff.1 hg).1 fun i hi => ?_, hle, hm, fun h => by cases h⟩
    obtain ⟨ad', cap', e, h4⟩ := h2 i hi
    refine ⟨ad', cap', ?_, h4⟩
    rw [cell_of_row w g i cur 33 (0, 0) hg]
    have h5 : (cur.toList.take (ls.length * 1))[i]? = some (.slice ad' (ls[i]).length cap') := by rw [htake]; exact e
    rw [List.getElem?_take_of_lt (by omega)] at h5
    simpa using h5
theorem Lq.read (h : Lq w B C v ls) : ∃ ad cap, v = .slice ad ls.length cap ∧ Lr w ad ls ∧ ls.length ≤ cap ∧ cap ≤ maxLen ∧ (ad = none → cap = 0) := by
  obtain ⟨ad, cap, e, h1, h2⟩ := h.lx
  exact ⟨ad, cap, e, h1.lr, h2⟩
theorem Lx.other {y : Option Nat} (h : Lx w C x ad ls) (hy : ∀ g, y = some g → g < C) : Lx w C y ad ls := by
  rcases h with h0 | ⟨b, off, e, hlt, hc⟩
  · exact .inl h0
  · refine .inr ⟨b, off, e, hlt, fun i hi => ?_⟩
    obtain ⟨ad', cap', h1, h2, h3⟩ := hc i hi
    exact ⟨ad', cap', h1, h2.other hy, h3⟩
/-- what a list made at its full length holds -/
theorem Lq.of_out {g R : Nat} (h : Out w B g R D ls) (hR : ls.length = R) : Lq w B B (.slice (some ⟨g, 0, none⟩) R R) ls := by
  subst hR
  obtain ⟨cur, h1, h2, h3⟩ := h.outer
  refine ⟨cur.toList, ⟨by simpa using h2, .inr ⟨g, ls.length, cur, rfl, h.base, h1, Nat.le_refl _, h.most, by omega, by rw [List.take_of_length_le (by simp; omega)]⟩⟩, fun i hi => ?_⟩
  obtain ⟨ad, cap, h4, h5, h6⟩ := h3 i hi
  refine ⟨ad, cap, by simpa using h4, ?_, h6⟩
  rcases h5 with h0 | ⟨b, off, e, hb, hgb, hc⟩
  · exact .inl h0
  · exact .inr ⟨b, off, e, by have := h.base; omega, by have := h.leD; omega, by intro e'; have e2 : some b = some g := e'; cases e2; omega, hc⟩
theorem Lq.of_omv {r L : Nat} {M : Nat → Nat → UInt8} (h : OMv w B D v r L M) : Lq w B B v (matL r L M) := by
  obtain ⟨cs, h1, h2, h3⟩ := h
  have hl := row_len h1
  refine ⟨cs, by rw [matL_length]; exact h1, fun i hi => ?_⟩
  rw [matL_length] at hi
  have hi' : i < cs.length := by omega
  obtain ⟨ho, k, hk, _⟩ := h2 i hi'
  obtain ⟨cap, cur, e, hB, hg, hle, hm, hcur⟩ := ho.form hk
  rw [matL_row]
  refine ⟨some ⟨k, 0, none⟩, cap, by rw [List.getElem?_eq_getElem hi', e], .inr ⟨k, 0, rfl, hB, (Array.getElem?_eq_some_iff.1 hg).1, fun e' => ?_, fun j hj => ?_⟩, hle, hm, fun h => by cases h⟩
  · rcases h1.2 with ⟨rfl, _⟩ | ⟨g, cap2, cur2, rfl, _, hg2, _⟩
    · cases e'
    · have e2 : some k = some g := e'
      cases e2
      rw [hg2] at hg
      simp only [Option.some.injEq, Obj.cells.injEq] at hg
      exact types_ne hg.2.1.symm
  · rw [Nat.zero_add, cell_of_row w k j cur 5 (0, 0) hg, hcur j hj, ev_nat]
theorem Lq.grow (h : Lq w B C v ls) (hb : Below w0.heap.size w0 w) (hB : w0.heap.size ≤ B) (hg : w.grownBy w' v.ownBlock) : Below w0.heap.size w0 w' :=
  hb.grown hg hb.size fun k hk => Nat.le_trans hB (h.lt k hk).1
end
/-- slices appended to a list of the call's own -/
theorem wpList_append_q {w : World} {ops : Array Oper} {rest : List Oper} {o : Oper} {a : Act} {Q : Exit → Act → World → Prop} (hgd : o.guard = none) (s x : Operand)
    (ho : o.op = .call { callee := .builtin .append, args := #[s, x], argTypes := #[22, 22] })
    (B C C2 C' : Nat) (v : Value) (ls : List (List UInt8)) (hs : a.eval s = v) (hown : Lq w B C v ls) (ad : Option Addr) (n cap : Nat) (ys : List (List UInt8)) (hcap : ad = none → cap = 0) (hy : Lx w C2 v.ownBlock ad ys) (hn : n = ys.length) (hx : a.eval x = .slice ad n cap) (hlen : ls.length + n ≤ 100000) (hbase : B ≤ w.heap.size) (hC : C' ≤ C) (hC2 : C' ≤ C2)
    (h : ∀ v' w', Lq w' B C' v' (ls ++ ys) → w.grownBy w' v.ownBlock → (v'.ownBlock = v.ownBlock ∨ v'.ownBlock = some w.heap.size) → wpList Try.prog ops Q rest (a.put o.dst v') w') : wpList Try.prog ops Q (o :: rest) a w := by
  subst hn
  obtain ⟨i, hi, hz0, hz1, hz2⟩ := info_l
  obtain ⟨cs, h1, h2⟩ := hown
  cases ad with
  | none =>
    have hys : ys = [] := by
      rcases hy with h0 | ⟨b, off, h0, _⟩
      · exact h0
      · cases h0
    subst hys
    obtain rfl := hcap rfl
    refine wpList_append_own_none hgd s x 22 ho B 33 i 1 Try.underlying22 hi v ls.length cs hs h1 hx (h v w ?_ ⟨rfl, rfl, rfl, Nat.le_refl _, fun _ _ _ => rfl⟩ (.inl rfl))
    rw [List.append_nil]
    exact (show Lq w B C v ls from ⟨cs, h1, h2⟩).mono (Nat.le_refl _) hC
  | some a0 =>
    -- the cells of what is appended
    have hnews : ∃ news : List Value, news.length = ys.length ∧ (∀ j u, news[j]? = some u → w.cell? (a0.add j) = some u) ∧ ∀ j (hj : j < ys.length), ∃ ad' cap', news[j]? = some (.slice ad' (ys[j]).length cap') ∧ LieX w C2 v.ownBlock ad' (ys[j]) ∧ (ys[j]).length ≤ cap' ∧ cap' ≤ maxLen ∧ (ad' = none → cap' = 0) := by
      rcases hy with h0 | ⟨b, off, e, _, hc⟩
      · subst h0
        exact ⟨[], rfl, fun j u hj => by simp at hj, fun j hj => by simp at hj⟩
      · cases e
        have hch : ∀ j, ∃ u, (hj : j < ys.length) → w.cell? ⟨b, off + j, none⟩ = some u ∧ ∃ ad' cap', u = .slice ad' (ys[j]).length cap' ∧ LieX w C2 v.ownBlock ad' (ys[j]) ∧ (ys[j]).length ≤ cap' ∧ cap' ≤ maxLen ∧ (ad' = none → cap' = 0) := fun j => by
          by_cases hj : j < ys.length
          · obtain ⟨ad', cap', h3, h4⟩ := hc j hj
            exact ⟨_, fun _ => ⟨h3, ad', cap', rfl, h4⟩⟩
          · exact ⟨.bool false, fun h => absurd h hj⟩
        obtain ⟨f, hf⟩ := Classical.axiomOfChoice hch
        refine ⟨(List.range ys.length).map f, by simp, fun j u hj => ?_, fun j hj => ?_⟩
        · have hj' : j < ys.length := by
            have := (List.getElem?_eq_some_iff.1 hj).1
            simpa using this
          have e : f j = u := by simpa [hj'] using hj
          rw [Go.WideShapes.add_plain, ← e]
          exact (hf j hj').1
        · obtain ⟨_, ad', cap', e, h4⟩ := hf j hj
          exact ⟨ad', cap', by simp [hj, e], h4⟩
    obtain ⟨news, hl, hn1, hn2⟩ := hnews
    refine wpList_append_own_at w hgd s x 22 ho B 33 i (.slice none 0 0) 1 24 Try.underlying22 hi hz0 hz1 hz2 rfl (by decide) v ls.length cs hs h1 a0 ys.length cap news hx (by omega) hn1 (fun u hu => ?_) (by unfold maxLen; omega) (by omega) hbase
      (fun v' w' h4 h5 _ hat => h v' w' ⟨cs ++ news, by rw [List.length_append]; exact h4, fun i hi => ?_⟩ h5 hat)
    · obtain ⟨j, hj, rfl⟩ := List.mem_iff_getElem.1 hu
      obtain ⟨ad', cap', e, _⟩ := hn2 j (by omega)
      rw [List.getElem?_eq_getElem hj] at e
      rw [Option.some.inj e]
      rfl
    · have hcl : cs.length = ls.length := row_len h1
      by_cases hlt : i < ls.length
      · rw [List.getElem?_append_left (by omega), List.getElem_append_left hlt]
        obtain ⟨ad', cap', e, h6, h7⟩ := h2 i hlt
        exact ⟨ad', cap', e, (h6.grown h5 hat).mono hC, h7⟩
      · rw [List.getElem?_append_right (by omega), List.getElem_append_right (by omega), hcl]
        rw [List.length_append] at hi
        obtain ⟨ad', cap', e, h6, h7⟩ := hn2 (i - ls.length) (by omega)
        exact ⟨ad', cap', e, (h6.grown h5 hat).mono hC2, h7⟩
/-- a call gives a new list of shards -/
def GivesQ (w : World) (L : List (List UInt8)) (e : Ending) (w' : World) : Prop := ∃ v, e = .returned v ∧ Lq w' w.heap.size w.heap.size v L ∧ Below w.heap.size w w'
theorem Lr.drop {w : World} {b off : Nat} {ls : List (List UInt8)} (h : Lr w (some ⟨b, off, none⟩) ls) (k : Nat) : Lr w (some ⟨b, off + k, none⟩) (ls.drop k) := by
  rcases h.at_ with h0 | ⟨b', off', e, hlt, hc⟩
  · exact ⟨.inl (by rw [h0]; simp)⟩
  · cases e
    refine ⟨.inr ⟨_, _, rfl, hlt, fun i hi => ?_⟩⟩
    rw [List.length_drop] at hi
    obtain ⟨ad', cap', h1, h2⟩ := hc (k + i) (by omega)
    rw [List.getElem_drop]
    exact ⟨ad', cap', by rw [Nat.add_assoc]; exact h1, h2⟩
end Go.Proofs.Ytinfjidclkgfnaa
namespace Go.Proofs.Ytinfjidclkgfnaa
open Go.RowKit
/-- The value v owns, behind block B, slices that hold ls; what they hold lies at W. -/
def Lo (w W : World) (B : Nat) (v : Value) (ls : List (List UInt8)) : Prop :=
  ∃ cs : List Value, w.ownsRow B 33 1 v ls.length cs ∧ ∀ i (h : i < ls.length), ∃ ad cap, cs[i]? = some (.slice ad (ls[i]).length cap) ∧ Lie W ad (ls[i]) ∧ (ls[i]).length ≤ cap ∧ cap ≤ maxLen ∧ (ad = none → cap = 0)
section
variable {w w' W : World} {B : Nat} {v : Value} {ls : List (List UInt8)}
theorem Lo.nil (w W : World) (B : Nat) : Lo w W B (.slice none 0 0) [] := ⟨[], ⟨rfl, .inl ⟨rfl, rfl⟩⟩, fun i h => by simp at h⟩
theorem Lo.lt (h : Lo w W B v ls) : ∀ k, v.ownBlock = some k → B ≤ k ∧ k < w.heap.size := by obtain ⟨cs, h1, _⟩ := h; exact h1.lt
theorem Lo.kept {row : Option Nat} (h : Lo w W B v ls) (hg : w.grownBy w' row) (hne : ∀ g, v.ownBlock = some g → row ≠ some g) : Lo w' W B v ls := by
  obtain ⟨cs, h1, h2⟩ := h
  refine ⟨cs, ⟨h1.1, ?_⟩, h2⟩
  rcases h1.2 with h0 | ⟨g, cap, cur, hv, hB, hg2, h4⟩
  · exact .inl h0
  · exact .inr ⟨g, cap, cur, hv, hB, (hg.block g (Array.getElem?_eq_some_iff.1 hg2).1 (fun e => hne g (by rw [hv]; rfl) e.symm)).trans hg2, h4⟩
theorem Lo.below (h : Lo w W B v ls) (hb : Below w.heap.size w w') : Lo w' W B v ls := h.kept (grown_below hb none) (by simp)
theorem Lo.lq (h : Lo w W B v ls) (hb : Below W.heap.size W w) (hB : W.heap.size ≤ B) : Lq w B 0 v ls := by
  have hlt := h.lt
  obtain ⟨cs, h1, h2⟩ := h
  refine ⟨cs, h1, fun i hi => ?_⟩
  obtain ⟨ad, cap, h3, h4, h5⟩ := h2 i hi
  exact ⟨ad, cap, h3, LieX.of_low h4 hb fun g hg => Nat.le_trans hB (hlt g hg).1, h5⟩
theorem Lo.grow {w0 : World} (h : Lo w W B v ls) (hb : Below w0.heap.size w0 w) (hB : w0.heap.size ≤ B) (hg : w.grownBy w' v.ownBlock) : Below w0.heap.size w0 w' :=
  hb.grown hg hb.size fun k hk => Nat.le_trans hB (h.lt k hk).1
theorem Lo.slice (h : Lo w W B v ls) : ∃ ad cap, v = .slice ad ls.length cap := by
  obtain ⟨cs, h1, _⟩ := h
  rcases h1.2 with ⟨rfl, h0⟩ | ⟨g, cap, cur, rfl, _⟩
  · rw [h0]; exact ⟨_, _, rfl⟩
  · exact ⟨_, _, rfl⟩
end
/-- one slice more -/
theorem wpList_append_o {w : World} {ops : Array Oper} {rest : List Oper} {o : Oper} {a : Act} {Q : Exit → Act → World → Prop} (hgd : o.guard = none) (s x : Operand)
    (ho : o.op = .call { callee := .builtin .append, args := #[s, x], argTypes := #[22, 22] })
    (W : World) (B : Nat) (v : Value) (ls : List (List UInt8)) (hs : a.eval s = v) (hown : Lo w W B v ls) (ad : Addr) (hx : a.eval x = .slice (some ad) 1 1) (ad' : Option Addr) (n cap : Nat) (l : List UInt8) (hn : n = l.length) (hcell : ∀ j u, [Value.slice ad' n cap][j]? = some u → w.cell? (ad.add j) = some u)
    (hl : Lie W ad' l) (g1 : n ≤ cap) (g2 : cap ≤ maxLen) (g3 : ad' = none → cap = 0) (hlen : ls.length ≤ 100000) (hbase : B ≤ w.heap.size)
    (h : ∀ v' w', Lo w' W B v' (ls ++ [l]) → w.grownBy w' v.ownBlock → (v'.ownBlock = v.ownBlock ∨ v'.ownBlock = some w.heap.size) → wpList Try.prog ops Q rest (a.put o.dst v') w') : wpList Try.prog ops Q (o :: rest) a w := by
  subst hn
  obtain ⟨i, hi, hz0, hz1, hz2⟩ := info_l
  obtain ⟨cs, h1, h2⟩ := hown
  have hcl : cs.length = ls.length := row_len h1
  refine wpList_append_own_at w hgd s x 22 ho B 33 i (.slice none 0 0) 1 24 Try.underlying22 hi hz0 hz1 hz2 rfl (by decide) v ls.length cs hs h1 ad 1 1 [.slice ad' l.length cap] hx rfl hcell (fun u hu => by rw [List.mem_singleton.1 hu]; rfl) (by unfold maxLen; omega) (by omega) hbase
    (fun v' w' h4 h5 _ hat => h v' w' ⟨cs ++ [.slice ad' l.length cap], by rw [List.length_append]; exact h4, fun i hi => ?_⟩ h5 hat)
  by_cases hlt : i < ls.length
  · rw [List.getElem?_append_left (by omega), List.getElem_append_left hlt]
    exact h2 i hlt
  · rw [List.length_append, List.length_singleton] at hi
    have e : i = ls.length := by omega
    subst e
    rw [List.getElem?_append_right (by omega), List.getElem_append_right (by omega), hcl]
    simp only [Nat.sub_self, List.getElem_cons_zero]
    exact ⟨ad', cap, rfl, hl, g1, g2, g3⟩
end Go.Proofs.Ytinfjidclkgfnaa
namespace Go.Proofs.Ytinfjidclkgfnaa
open Go.RowKit Go.Maps
/-- The truth values bs lie at ad. -/
def LieB (w : World) (ad : Option Addr) (bs : List Bool) : Prop := bs = [] ∨ ∃ b off, ad = some ⟨b, off, none⟩ ∧ b < w.heap.size ∧ ∀ j (h : j < bs.length), w.cell? ⟨b, off + j, none⟩ = some (.bool (bs[j]'h))
theorem LieB.below {W w : World} {ad : Option Addr} {bs : List Bool} (h : LieB W ad bs) (hb : Below W.heap.size W w) : LieB w ad bs := by
  rcases h with h0 | ⟨b, off, rfl, hlt, hc⟩
  · exact .inl h0
  · exact .inr ⟨b, off, rfl, Nat.lt_of_lt_of_le hlt hb.size, fun j hj => (hb.cell (p := ⟨b, off + j, none⟩) hlt).trans (hc j hj)⟩
theorem LieB.at_ {w : World} {ad : Option Addr} {bs : List Bool} (h : LieB w ad bs) (j : Nat) (hj : j < bs.length) : ∃ b off, ad = some ⟨b, off, none⟩ ∧ b < w.heap.size ∧ w.cell? ⟨b, off + j, none⟩ = some (.bool (bs[j])) := by
  rcases h with h0 | ⟨b, off, e, hlt, hc⟩
  · subst h0; simp at hj
  · exact ⟨b, off, e, hlt, hc j hj⟩
theorem LieB.take {w : World} {ad : Option Addr} {bs : List Bool} (h : LieB w ad bs) (k : Nat) : LieB w ad (bs.take k) := by
  rcases h with h0 | ⟨b, off, e, hlt, hc⟩
  · exact .inl (by rw [h0]; simp)
  · exact .inr ⟨b, off, e, hlt, fun j hj => by
      rw [List.length_take] at hj
      rw [List.getElem_take]
      exact hc j (by omega)⟩

/-- an element of a map that is a slice: it stands for itself -/
def heldE (v : Value) : Option (DataW Value × List MemPlace) := some (.held v, [])
theorem keyedI : Keyed Try.prog 3 := int_keyed Try.underlying3
theorem keyI (j : Nat) (hj : j < 1000000) : keyOf Try.prog 3 (.int .i64 (j : Int)) = some (.int .i64 (j : Int)) := keyOf_int_mk Try.underlying3 (by simp [Lit.wf, IntKind.min, IntKind.max, IntKind.signed, IntKind.bits]; omega)
theorem zeroB (w : World) : (zeroValue 33).run Try.prog w = .ok (.slice none 0 0) w := by kernel_rfl
/-- is row j among the chosen ones, once the first i are looked at? -/
def chos (hs : List Bool) (k i j : Nat) : Bool := decide (j < i) && (hs.getD j false && decide ((hs.take j).count true < k))
theorem chos_zero (hs : List Bool) (k j : Nat) : chos hs k 0 j = false := by unfold chos; simp
theorem chos_next (hs : List Bool) (k i j : Nat) (hne : j ≠ i) : chos hs k (i + 1) j = chos hs k i j := by
  unfold chos
  congr 1
  by_cases h : j < i
  · rw [decide_eq_true h, decide_eq_true (by omega)]
  · rw [decide_eq_false h, decide_eq_false (by omega)]
theorem chos_at (hs : List Bool) (k i : Nat) (hi : i < hs.length) : chos hs k (i + 1) i = (hs[i] && decide ((hs.take i).count true < k)) := by
  unfold chos
  rw [decide_eq_true (Nat.lt_succ_self i), Bool.true_and]
  simp [hi]
theorem chos_self (hs : List Bool) (k i : Nat) : chos hs k i i = false := by unfold chos; simp
theorem chos_all (hs : List Bool) (k i j : Nat) (hj : j < hs.length) (hi : hs.length ≤ i) : chos hs k i j = (hs[j] && decide ((hs.take j).count true < k)) := by
  unfold chos
  rw [decide_eq_true (by omega), Bool.true_and]
  simp [hj]
theorem count_take (hs : List Bool) (i : Nat) (hi : i < hs.length) : (hs.take (i + 1)).count true = (hs.take i).count true + if hs[i] then 1 else 0 := by
  rw [List.take_add_one, List.count_append, List.getElem?_eq_getElem hi]
  cases hs[i] <;> rfl
/-- Block b is the map of the chosen rows, of which the first i are looked at; the rows lie at W. -/
def MapR (w W : World) (b : Nat) (k : Nat) (rs : List (List UInt8)) (hs : List Bool) (i : Nat) (D : DataW Value) : Prop :=
  w.ownsMap Try.prog 3 heldE b i D ∧ Maps.size D = min k ((hs.take i).count true) ∧ (∀ j : Nat, j < 1000000 → Maps.has D (.int .i64 (j : Int)) = chos hs k i j) ∧
  ∀ j : Nat, j < 1000000 → (chos hs k i j = true → ∃ (hj : j < rs.length) (ad : Option Addr) (cap : Nat), D.atKey (.int .i64 (j : Int)) (.held (.slice none 0 0)) = .held (.slice ad k cap) ∧ Lie W ad (rs[j]) ∧ k ≤ cap ∧ cap ≤ maxLen ∧ (ad = none → cap = 0)) ∧
    (chos hs k i j = false → D.atKey (.int .i64 (j : Int)) (.held (.slice none 0 0)) = .held (.slice none 0 0))
theorem MapR.start (w W : World) (k : Nat) (rs : List (List UInt8)) (hs : List Bool) : MapR (w.alloc (.map #[] 0)) W w.heap.size k rs hs 0 (.map []) :=
  ⟨World.ownsMap_made _ _ _ _, by rw [List.take_zero]; simp [Maps.size], fun j _ => by rw [chos_zero]; rfl, fun j _ => ⟨fun h => (by rw [chos_zero] at h; cases h), fun _ => rfl⟩⟩
theorem litI_ne {a b : Nat} (h : a ≠ b) : (Lit.int .i64 (a : Int)) ≠ .int .i64 (b : Int) := fun e => h (by injection e with e; omega)
section
variable {w w' W : World} {b k i : Nat} {rs : List (List UInt8)} {hs : List Bool} {D : DataW Value}
/-- this one is not chosen -/
theorem MapR.pass (h : MapR w W b k rs hs i D) (hi : i < hs.length) (hno : hs[i] = false ∨ ¬ (hs.take i).count true < k) : MapR w W b k rs hs (i + 1) D := by
  obtain ⟨h1, h2, h3, h4⟩ := h
  have he : ∀ j, chos hs k (i + 1) j = chos hs k i j := fun j => by
    by_cases e : j = i
    · subst e
      rw [chos_at hs k j hi, chos_self]
      rcases hno with h | h
      · rw [h]; rfl
      · rw [decide_eq_false h, Bool.and_false]
    · exact chos_next hs k i j e
  refine ⟨h1.mono (Nat.le_succ _), ?_, fun j hj => by rw [he]; exact h3 j hj, fun j hj => by rw [he]; exact h4 j hj⟩
  rw [h2, count_take hs i hi]
  rcases hno with h | h
  · rw [h]; rfl
  · split <;> omega
/-- this one is chosen: its row is stored -/
theorem MapR.put (h : MapR w W b k rs hs i D) (hi : i < hs.length) (hi2 : i < 1000000) (hr : i < rs.length) (hyes : hs[i] = true) (hc : (hs.take i).count true < k) (ad : Option Addr) (cap : Nat) (hl : Lie W ad (rs[i])) (g1 : k ≤ cap) (g2 : cap ≤ maxLen) (g3 : ad = none → cap = 0)
    (ho : w'.ownsMap Try.prog 3 heldE b (i + 1) (D.put (.int .i64 (i : Int)) (.held (.slice ad k cap)))) : MapR w' W b k rs hs (i + 1) (D.put (.int .i64 (i : Int)) (.held (.slice ad k cap))) := by
  obtain ⟨h1, h2, h3, h4⟩ := h
  have hD := h1.isMap
  have hk : WideAt.IsKeyLit (Lit.int .i64 (i : Int)) := keyedI.key (keyI i hi2)
  refine ⟨ho, ?_, fun j hj => ?_, fun j hj => ?_⟩
  · rw [size_put (h1.tidy keyedI), h3 i hi2, chos_self, count_take hs i hi, hyes, h2]
    simp only [Bool.false_eq_true, if_false, if_true]
    omega
  · by_cases e : j = i
    · subst e
      rw [has_put_same hD hk, chos_at hs k j hi, hyes, decide_eq_true hc]; rfl
    · rw [has_put_other (litI_ne e), chos_next hs k i j e]; exact h3 j hj
  · by_cases e : j = i
    · subst e
      refine ⟨fun _ => ⟨hr, ad, cap, atKey_put_same hD hk _ _, hl, g1, g2, g3⟩, fun h => ?_⟩
      rw [chos_at hs k j hi, hyes, decide_eq_true hc] at h
      cases h
    · rw [atKey_put_other (litI_ne e), chos_next hs k i j e]; exact h4 j hj
theorem MapR.kept (h : MapR w W b k rs hs i D) (hb : Below w.heap.size w w') : MapR w' W b k rs hs i D := ⟨h.1.kept (grown_below hb none) (by simp), h.2⟩
theorem MapR.lies (h : MapR w W b k rs hs i D) (hb : Below W.heap.size W w') : MapR w w' b k rs hs i D :=
  ⟨h.1, h.2.1, h.2.2.1, fun j hj => ⟨fun hc => by
    obtain ⟨hr, ad, cap, h1, h2, h3⟩ := (h.2.2.2 j hj).1 hc
    exact ⟨hr, ad, cap, h1, h2.below hb rfl, h3⟩, (h.2.2.2 j hj).2⟩⟩
end
/-- 'v, ok := m[k]', where what stands there is known -/
theorem wpList_lookup_held {w : World} {ops : Array Oper} {rest : List Oper} {o : Oper} {a : Act} {Q : Exit → Act → World → Prop} (hg : o.guard = none) (m x : Operand) (hop : o.op = Op.lookup 58 m x true)
    (b n : Nat) (D : DataW Value) (hm : a.eval m = .map (some b)) (hown : w.ownsMap Try.prog 3 heldE b n D) (j : Nat) (hj : j < 1000000) (hx : a.eval x = .int .i64 (j : Int)) (u : Value) (c : Bool) (hu : D.atKey (.int .i64 (j : Int)) (.held (.slice none 0 0)) = .held u) (hc : Maps.has D (.int .i64 (j : Int)) = c)
    (hK : wpList Try.prog ops Q rest (a.put o.dst (.tuple #[u, .bool c])) w) : wpList Try.prog ops Q (o :: rest) a w :=
  wpList_lookup_own_ok w hg m x 58 hop 3 33 keyedI Try.underlying58 heldE (zeroB w) (.held (.slice none 0 0)) [] rfl b n D hm hown (.int .i64 (j : Int)) (.int .i64 (j : Int)) hx (keyI j hj) fun v ps hv => by
    rw [hu] at hv
    have e : v = u := by
      unfold heldE at hv
      injection hv with hv
      have := congrArg Prod.fst hv
      injection this
    subst e hc
    exact hK
end Go.Proofs.Ytinfjidclkgfnaa
