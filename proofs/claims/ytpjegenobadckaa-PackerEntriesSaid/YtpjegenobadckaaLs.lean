/-
  A slice of the call's own whose elements are slices of bytes: what it holds lies on as other memory turns; appended to. (XFList's text without the frames: for a seat without package frame.)
-/
import Derived.Test.YtpjegenobadckaaGLie
import Derived.Test.YtpjegenobadckaaApp
import Derived.RangeFuncBox
import Derived.Maps.AppendAt
namespace Go.Proofs.Ytpjegenobadckaa
open Go.RowKit
set_option linter.unusedVariables false

/-- The bytes l lie at ad, in a block below B or in one of bytes. -/
structure LieS (w : World) (B : Nat) (ad : Option Addr) (l : List UInt8) : Prop where
  at_ : l = [] ∨ ∃ b off, ad = some ⟨b, off, none⟩ ∧ b < w.heap.size ∧ (b < B ∨ ∃ cur fr, w.heap[b]? = some (.cells cur 5 fr)) ∧ (∃ cur e fr, w.heap[b]? = some (.cells cur e fr)) ∧ ∀ j (h : j < l.length), w.cell? ⟨b, off + j, none⟩ = some (.int .u8 ((l[j]'h).toNat : Int))
theorem LieS.lie {w : World} {B : Nat} {ad : Option Addr} {l : List UInt8} (h : LieS w B ad l) : Lie w ad l := by
  rcases h.at_ with h0 | ⟨b, off, e, hb, _, _, hc⟩
  · exact ⟨.inl h0⟩
  · exact ⟨.inr ⟨b, off, e, hb, hc⟩⟩
theorem cells_of_cell' {w : World} {b o : Nat} {v : Value} (h : w.cell? ⟨b, o, none⟩ = some v) : ∃ cur e fr, w.heap[b]? = some (.cells cur e fr) := by
  obtain ⟨ob, h1, h2⟩ := cells_of_cell h
  cases ob <;> simp_all [Obj.isCells]
theorem LieS.of_low {w : World} {B : Nat} {ad : Option Addr} {l : List UInt8} (h : Lie w ad l) (hB : w.heap.size ≤ B) : LieS w B ad l := by
  by_cases hl : l = []
  · exact ⟨.inl hl⟩
  rcases h.at_ with h0 | ⟨b, off, e, hb, hc⟩
  · exact absurd h0 hl
  · exact ⟨.inr ⟨b, off, e, hb, .inl (by omega), cells_of_cell' (hc 0 (List.length_pos_iff.2 hl)), hc⟩⟩
theorem LieS.of_own {w : World} {B B' : Nat} {v : Value} {l : List UInt8} (h : Own w B' v l) : ∃ ad cap, v = .slice ad l.length cap ∧ LieS w B ad l ∧ l.length ≤ cap ∧ cap ≤ maxLen ∧ (ad = none → cap = 0) := by
  obtain ⟨ad, cap, e, hl, h1, h2, h3⟩ := h.slice
  refine ⟨ad, cap, e, ?_, h1, h2, h3⟩
  by_cases h0 : l = []
  · exact ⟨.inl h0⟩
  rcases h.row.2 with ⟨_, hz⟩ | ⟨g, cap', cur, e2, _, hg, _⟩
  · exact absurd (List.eq_nil_of_length_eq_zero hz) h0
  · rw [e] at e2
    cases e2
    rcases hl.at_ with h4 | ⟨b, off, e3, hb, hc⟩
    · exact absurd h4 h0
    · cases e3
      exact ⟨.inr ⟨_, _, rfl, hb, .inr ⟨_, _, hg⟩, ⟨_, _, _, hg⟩, hc⟩⟩
/-- It lies on, where the block that turns lies at or beyond B and is none of bytes. -/
theorem LieS.kept {w w' : World} {B : Nat} {ad : Option Addr} {l : List UInt8} {row : Option Nat} (h : LieS w B ad l) (hg : w.grownBy w' row) (hr : ∀ r, row = some r → (B ≤ r ∧ ∀ cur fr, w.heap[r]? ≠ some (.cells cur 5 fr)) ∨ (∀ cur e fr, w.heap[r]? ≠ some (.cells cur e fr))) : LieS w' B ad l := by
  rcases h.at_ with h0 | ⟨b, off, e, hb, ht, hcc, hc⟩
  · exact ⟨.inl h0⟩
  · have hne : some b ≠ row := by
      intro e'
      obtain ⟨cur2, e2, fr2, hcc2⟩ := hcc
      rcases hr b e'.symm with ⟨h1, h2⟩ | h2
      · rcases ht with h3 | ⟨cur, fr, h3⟩
        · omega
        · exact h2 cur fr h3
      · exact h2 _ _ _ hcc2
    have hbb := hg.block b hb hne
    refine ⟨.inr ⟨b, off, e, Nat.lt_of_lt_of_le hb hg.size, ?_, ?_, fun j hj => (World.cell?_of_block (a := ⟨b, off + j, none⟩) hbb).trans (hc j hj)⟩⟩
    · rcases ht with h3 | ⟨cur, fr, h3⟩
      · exact .inl h3
      · exact .inr ⟨cur, fr, hbb.trans h3⟩
    · obtain ⟨cur2, e2, fr2, hcc2⟩ := hcc
      exact ⟨cur2, e2, fr2, hbb.trans hcc2⟩
theorem grown_of_below {w w' : World} (hb : Below w.heap.size w w') : w.grownBy w' none := ⟨hb.os, hb.tape, hb.output, hb.size, fun k hk _ => hb.block k hk⟩
theorem LieS.below {w w' : World} {B : Nat} {ad : Option Addr} {l : List UInt8} (h : LieS w B ad l) (hb : Below w.heap.size w w') : LieS w' B ad l := h.kept (grown_of_below hb) (by simp)

/-- c is a slice that holds the bytes l. -/
def HoldS (w : World) (B : Nat) (c : Value) (l : List UInt8) : Prop := ∃ ad cap, c = .slice ad l.length cap ∧ LieS w B ad l ∧ l.length ≤ cap ∧ cap ≤ maxLen ∧ (ad = none → cap = 0)
theorem HoldS.kept {w w' : World} {B : Nat} {c : Value} {l : List UInt8} {row : Option Nat} (h : HoldS w B c l) (hg : w.grownBy w' row) (hr : ∀ r, row = some r → (B ≤ r ∧ ∀ cur fr, w.heap[r]? ≠ some (.cells cur 5 fr)) ∨ (∀ cur e fr, w.heap[r]? ≠ some (.cells cur e fr))) : HoldS w' B c l := by
  obtain ⟨ad, cap, e, h1, h2⟩ := h
  exact ⟨ad, cap, e, h1.kept hg hr, h2⟩
/-- The value v owns, behind block B, slices that hold the texts ls. -/
def Ls (w : World) (B : Nat) (v : Value) (ls : List (List UInt8)) : Prop := ∃ cs, w.ownsRow B 47 1 v ls.length cs ∧ cs.length = ls.length ∧ ∀ i (h : i < ls.length) (h' : i < cs.length), HoldS w B (cs[i]) (ls[i])
theorem Ls.nil (w : World) (B : Nat) : Ls w B (.slice none 0 0) [] := ⟨[], ⟨rfl, .inl ⟨rfl, rfl⟩⟩, rfl, fun i h => by simp at h⟩
theorem Ls.kept {w w' : World} {B : Nat} {v : Value} {ls : List (List UInt8)} {row : Option Nat} (h : Ls w B v ls) (hg : w.grownBy w' row)
    (hr : ∀ r, row = some r → (B ≤ r ∧ (∀ cur fr, w.heap[r]? ≠ some (.cells cur 5 fr)) ∧ ∀ cur fr, w.heap[r]? ≠ some (.cells cur 47 fr)) ∨ (∀ cur e fr, w.heap[r]? ≠ some (.cells cur e fr))) : Ls w' B v ls := by
  obtain ⟨cs, h1, h2, h3⟩ := h
  refine ⟨cs, h1.kept hg ?_, h2, fun i hi hi' => (h3 i hi hi').kept hg fun r e => ?_⟩
  · rcases h1.2 with ⟨rfl, _⟩ | ⟨g, cap, cur, rfl, hB, hgg, _⟩
    · exact .inl rfl
    · right
      intro e
      have e' : row = some g := e.symm
      rcases hr g e' with ⟨_, _, h4⟩ | h4
      · exact h4 _ _ hgg
      · exact h4 _ _ _ hgg
  · rcases hr r e with ⟨h4, h5, _⟩ | h4
    · exact .inl ⟨h4, h5⟩
    · exact .inr h4
theorem Ls.below {w w' : World} {B : Nat} {v : Value} {ls : List (List UInt8)} (h : Ls w B v ls) (hb : Below w.heap.size w w') : Ls w' B v ls := h.kept (grown_of_below hb) (by simp)
theorem Ls.alloc {w : World} {B : Nat} {v : Value} {ls : List (List UInt8)} (h : Ls w B v ls) (o : Obj) : Ls (w.alloc o) B v ls := h.below ((Below.refl _ _).alloc (Nat.le_refl _) o)
theorem Ls.lt {w : World} {B : Nat} {v : Value} {ls : List (List UInt8)} (h : Ls w B v ls) : ∀ k, v.ownBlock = some k → B ≤ k ∧ k < w.heap.size := by obtain ⟨cs, h1, _⟩ := h; exact h1.lt

theorem infoL : (Try.prog.info? 47).map (fun i => (i.zero, i.size, i.bytes)) = some (some (.slice none 0 0), 1, 24) := by kernel_rfl
theorem info_l : ∃ i : TypeInfo, Try.prog.info? 47 = some i ∧ i.zero = some (.slice none 0 0) ∧ i.size = 1 ∧ i.bytes = 24 := by
  have h := infoL
  rcases hi : Try.prog.info? 47 with _ | i
  · rw [hi] at h; simp at h
  · rw [hi] at h
    simp only [Option.map_some, Option.some.injEq, Prod.mk.injEq] at h
    exact ⟨i, rfl, h.1, h.2.1, h.2.2⟩
/-- What the law on append gives: the longer list. -/
theorem Ls.appended {w w' : World} {B : Nat} {v v' c : Value} {ls : List (List UInt8)} {l : List UInt8} {cs : List Value} (h1 : w.ownsRow B 47 1 v ls.length cs) (h2 : cs.length = ls.length) (h3 : ∀ i (h : i < ls.length) (h' : i < cs.length), HoldS w B (cs[i]) (ls[i]))
    (hc : HoldS w B c l) (ho : w'.ownsRow B 47 1 v' (ls.length + 1) (cs ++ [c])) (hg : w.grownBy w' v.ownBlock) : Ls w' B v' (ls ++ [l]) := by
  have hr : ∀ r, v.ownBlock = some r → (B ≤ r ∧ ∀ cur fr, w.heap[r]? ≠ some (.cells cur 5 fr)) ∨ (∀ cur e fr, w.heap[r]? ≠ some (.cells cur e fr)) := by
    intro r e
    rcases h1.2 with ⟨rfl, _⟩ | ⟨g, cap, cur, rfl, hB, hgg, _⟩
    · cases e
    · have e' : some g = some r := e
      cases e'
      refine .inl ⟨hB, fun cur2 fr2 h => ?_⟩
      rw [hgg] at h
      simp at h
  refine ⟨cs ++ [c], by rw [List.length_append]; exact ho, by simp [h2], fun i hi hi' => ?_⟩
  by_cases hlt : i < ls.length
  · rw [List.getElem_append_left (by omega), List.getElem_append_left hlt]
    exact (h3 i hlt (by omega)).kept hg hr
  · have hi2 : i = ls.length := by simp at hi; omega
    subst hi2
    rw [List.getElem_append_right (by omega), List.getElem_append_right (Nat.le_refl _)]
    simp only [h2, Nat.sub_self, List.getElem_cons_zero]
    exact hc.kept hg hr
theorem HoldS.one {w : World} {B : Nat} {c : Value} {l : List UInt8} (h : HoldS w B c l) : c.oneCell' = true := by obtain ⟨ad, cap, rfl, _⟩ := h; rfl

theorem wpList_append_l {w : World} {ops : Array Oper} {rest : List Oper} {o : Oper} {a : Act} {Q : Exit → Act → World → Prop} (hgd : o.guard = none) (s x : Operand)
    (ho : o.op = .call { callee := .builtin .append, args := #[s, x], argTypes := #[43, 43] })
    (B : Nat) (v c : Value) (ls : List (List UInt8)) (l : List UInt8) (hs : a.eval s = v) (hown : Ls w B v ls) (ad : Addr) (hx : a.eval x = .slice (some ad) 1 1) (hcell : ∀ j u, [c][j]? = some u → w.cell? (ad.add j) = some u) (hc : HoldS w B c l) (hlen : ls.length ≤ 100000) (hbase : B ≤ w.heap.size)
    (h : ∀ v' w', Ls w' B v' (ls ++ [l]) → w.grownBy w' v.ownBlock → wpList Try.prog ops Q rest (a.put o.dst v') w') : wpList Try.prog ops Q (o :: rest) a w := by
  obtain ⟨i, hi, hz0, hz1, hz2⟩ := info_l
  obtain ⟨cs, h1, h2, h3⟩ := hown
  exact wpList_append_own w hgd s x 43 ho B 47 i (.slice none 0 0) 1 24 Try.underlying43 hi hz0 hz1 hz2 rfl (by decide) v ls.length cs hs h1 ad 1 1 [c] hx rfl hcell (by simp [hc.one]) (by unfold maxLen; omega) (by omega) hbase
    (fun v' w' h4 h5 _ => h v' w' (Ls.appended h1 h2 h3 hc h4 h5) h5)
/-- A slice whose elements hold the texts ls, to be read. -/
structure Lr (w : World) (ad : Option Addr) (ls : List (List UInt8)) : Prop where
  at_ : ls = [] ∨ ∃ b off, ad = some ⟨b, off, none⟩ ∧ b < w.heap.size ∧ ∀ i (h : i < ls.length), ∃ ad' cap', w.cell? ⟨b, off + i, none⟩ = some (.slice ad' (ls[i]).length cap') ∧ Lie w ad' (ls[i]) ∧ (ls[i]).length ≤ cap' ∧ cap' ≤ maxLen ∧ (ad' = none → cap' = 0)
theorem Lr.below {w w' : World} {ad : Option Addr} {ls : List (List UInt8)} (h : Lr w ad ls) (hb : Below w.heap.size w w') : Lr w' ad ls := by
  rcases h.at_ with h0 | ⟨b, off, e, hlt, hc⟩
  · exact ⟨.inl h0⟩
  · refine ⟨.inr ⟨b, off, e, Nat.lt_of_lt_of_le hlt hb.size, fun i hi => ?_⟩⟩
    obtain ⟨ad', cap', h1, h2, h3⟩ := hc i hi
    exact ⟨ad', cap', (hb.cell (p := ⟨b, off + i, none⟩) hlt).trans h1, h2.below hb rfl, h3⟩
theorem Lr.drewN {w : World} {ad : Option Addr} {ls : List (List UInt8)} (h : Lr w ad ls) (k : Nat) : Lr (w.drewN k) ad ls := h.below (below_drewN (.refl _ _) k)
theorem Lr.take {w : World} {ad : Option Addr} {ls : List (List UInt8)} (h : Lr w ad ls) (k : Nat) : Lr w ad (ls.take k) := by
  rcases h.at_ with h0 | ⟨b, off, e, hlt, hc⟩
  · exact ⟨.inl (by rw [h0]; simp)⟩
  · refine ⟨.inr ⟨b, off, e, hlt, fun i hi => ?_⟩⟩
    rw [List.length_take] at hi
    rw [List.getElem_take]
    exact hc i (by omega)
theorem Ls.read {w : World} {B : Nat} {v : Value} {ls : List (List UInt8)} (h : Ls w B v ls) : ∃ ad cap, v = .slice ad ls.length cap ∧ Lr w ad ls ∧ ls.length ≤ cap ∧ cap ≤ maxLen ∧ (ad = none → cap = 0) := by
  obtain ⟨cs, h1, h2, h3⟩ := h
  rcases h1.2 with ⟨rfl, h0⟩ | ⟨g, cap, cur, rfl, hB, hg, hle, hm, hsz, htake⟩
  · have : ls = [] := List.eq_nil_of_length_eq_zero h0
    subst this
    exact ⟨none, 0, rfl, ⟨.inl rfl⟩, Nat.le_refl _, Nat.zero_le _, fun _ => rfl⟩
  · refine ⟨some ⟨g, 0, none⟩, cap, rfl, ⟨.inr ⟨g, 0, rfl, (Array.getElem?_eq_some_iff.1 hg).1, fun i hi => ?_⟩⟩, hle, hm, fun h => by cases h⟩
    obtain ⟨ad', cap', e, hl, h4⟩ := h3 i hi (by omega)
    refine ⟨ad', cap', ?_, hl.lie, h4⟩
    rw [Nat.zero_add, cell_of_row w g i cur 47 (0, 0) hg]
    have h5 : (cur.toList.take (ls.length * 1))[i]? = some (cs[i]'(by omega)) := by rw [htake]; exact List.getElem?_eq_getElem _
    rw [List.getElem?_take_of_lt (by omega)] at h5
    rw [e] at h5
    simpa using h5
end Go.Proofs.Ytpjegenobadckaa
