/-
  Lists of strings in memory: to be read, owned, appended to, one string stored.
-/
import Derived.Test.YtmhaeipklifhcaaRows
import Derived.WalkKit
import Derived.Lib.Hide
import Derived.WalkSpells
import Derived.WalkLawsBesides
import Derived.Below
import Derived.Deep.Draws
import Derived.BigQuiet
import Derived.Laws.AppendOwn
import Derived.Laws.AppendOwnNone
import Derived.OwnWalk
import Derived.OpenShut
import Derived.SliceStrings
namespace Go.Proofs.Ytmhaeipklifhcaa
open Go.RowKit Go.ChangeShapes
set_option linter.unusedVariables false
set_option maxRecDepth 100000
theorem ret_i64s {a b : Int} (h : a = b) : Ending.returned (.int .i64 a) = .returned (.int .i64 b) := by rw [h]
theorem ret_bools {a b : Bool} (h : a = b) : Ending.returned (.bool a) = .returned (.bool b) := by rw [h]
theorem below_box1 (w : World) (o : Obj) : Below w.heap.size w (w.alloc o) := (Below.refl _ _).alloc (Nat.le_refl _) _
theorem below_box2 (w : World) (o p : Obj) : Below w.heap.size w ((w.alloc o).alloc p) := (below_box1 w o).alloc (by simp) _
theorem below_box3 (w : World) (o p q : Obj) : Below w.heap.size w (((w.alloc o).alloc p).alloc q) := (below_box2 w o p).alloc (by simp; omega) _
theorem heap_set_b (w : World) (b i : Nat) (u : Value) (cur : Array Value) (t : TypeId) (fr : Nat × Nat) (h : w.heap[b]? = some (.cells cur t fr)) : (w.setCell ⟨b, i, none⟩ u).heap[b]? = some (.cells (cur.setIfInBounds i u) t fr) := by
  simp [World.setCell, Array.getElem?_modify, h]
def cellsT (l : List ByteArray) : List Value := l.map Value.string
theorem cellsT_length (l : List ByteArray) : (cellsT l).length = l.length := by simp [cellsT]
theorem cellsT_append (l m : List ByteArray) : cellsT l ++ cellsT m = cellsT (l ++ m) := by simp [cellsT]
theorem cellsT_get (l : List ByteArray) (j : Nat) (h : j < l.length) : (cellsT l)[j]? = some (.string l[j]) := by simp [cellsT, h]
theorem cellsT_one (l : List ByteArray) : ∀ u ∈ cellsT l, u.oneCell' = true := by
  intro u hu
  obtain ⟨y, _, rfl⟩ := List.mem_map.1 hu
  rfl
/-- strings that lie -/
def Sx (w : World) (ad : Option Addr) (l : List ByteArray) : Prop :=
  l = [] ∨ ∃ b off, ad = some ⟨b, off, none⟩ ∧ b < w.heap.size ∧ ∀ j (h : j < l.length), w.cell? ⟨b, off + j, none⟩ = some (.string l[j])
theorem Sx.nil (w : World) (ad : Option Addr) : Sx w ad [] := .inl rfl
theorem Sx.below {w w' : World} {B : Nat} {ad : Option Addr} {l : List ByteArray} (h : Sx w ad l) (hb : Below B w w') (hB : B = w.heap.size) : Sx w' ad l := by
  subst hB
  rcases h with h0 | ⟨b, off, e, hlt, hc⟩
  · exact .inl h0
  · exact .inr ⟨b, off, e, Nat.lt_of_lt_of_le hlt hb.size, fun j hj => (hb.cell (p := ⟨b, off + j, none⟩) hlt).trans (hc j hj)⟩
theorem Sx.get {w : World} {ad : Option Addr} {l : List ByteArray} (h : Sx w ad l) {i : Nat} (hi : i < l.length) : ∃ b off, ad = some ⟨b, off, none⟩ ∧ b < w.heap.size ∧ w.cell? ⟨b, off + i, none⟩ = some (.string l[i]) := by
  rcases h with h0 | ⟨b, off, e, hlt, hc⟩
  · subst h0; simp at hi
  · exact ⟨b, off, e, hlt, hc i hi⟩
theorem Sx.take {w : World} {ad : Option Addr} {l : List ByteArray} (h : Sx w ad l) (n : Nat) : Sx w ad (l.take n) := by
  rcases h with h0 | ⟨b, off, e, hlt, hc⟩
  · exact .inl (by rw [h0]; simp)
  · refine .inr ⟨b, off, e, hlt, fun j hj => ?_⟩
    rw [List.length_take] at hj
    rw [List.getElem_take]
    exact hc j (by omega)
theorem infoT : (Try.prog.info? 9).map (fun i => (i.zero, i.size, i.bytes)) = some (some (.string ⟨#[]⟩), 1, 16) := by kernel_rfl
theorem info_t : ∃ i : TypeInfo, Try.prog.info? 9 = some i ∧ i.zero = some (.string ⟨#[]⟩) ∧ i.size = 1 ∧ i.bytes = 16 := by
  have h := infoT
  rcases hi : Try.prog.info? 9 with _ | i
  · rw [hi] at h; simp at h
  · rw [hi] at h
    simp only [Option.map_some, Option.some.injEq, Prod.mk.injEq] at h
    exact ⟨i, rfl, h.1, h.2.1, h.2.2⟩
/-- The value v owns the strings l, behind block B. -/
def Sq (w : World) (B : Nat) (v : Value) (l : List ByteArray) : Prop := w.ownsRow B 9 1 v l.length (cellsT l)
section
variable {w w' w0 : World} {B B' : Nat} {v : Value} {l : List ByteArray}
theorem Sq.row (h : Sq w B v l) : w.ownsRow B 9 1 v l.length (cellsT l) := h
theorem Sq.lt (h : Sq w B v l) : ∀ k, v.ownBlock = some k → B ≤ k ∧ k < w.heap.size := fun k hk => h.row.lt k hk
theorem Sq.nil (w : World) (B : Nat) : Sq w B (.slice none 0 0) [] := ⟨rfl, .inl ⟨rfl, rfl⟩⟩
theorem Sq.made (w : World) : Sq (w.alloc (.cells #[] 9)) w.heap.size (.slice (some ⟨w.heap.size, 0, none⟩) 0 0) [] := World.ownsRow_made w #[] 0 (Nat.le_refl _) (by decide) rfl
theorem Sq.below (h : Sq w B v l) (hb : Below w.heap.size w w') : Sq w' B v l := by
  refine ⟨h.row.1, ?_⟩
  rcases h.row.2 with h0 | ⟨g, cap, cur, hv, hB, hg, h1⟩
  · exact .inl h0
  · exact .inr ⟨g, cap, cur, hv, hB, (hb.block g (Array.getElem?_eq_some_iff.1 hg).1).trans hg, h1⟩
theorem Sq.keep (h : Sq w B v l) (hb : ∀ k, v.ownBlock = some k → w'.heap[k]? = w.heap[k]?) : Sq w' B v l := by
  refine ⟨h.row.1, ?_⟩
  rcases h.row.2 with h0 | ⟨g, cap, cur, rfl, hB, hg, h1⟩
  · exact .inl h0
  · exact .inr ⟨g, cap, cur, rfl, hB, (hb g rfl).trans hg, h1⟩
theorem Sq.mono (h : Sq w B v l) (hB : B' ≤ B) : Sq w B' v l := by
  refine ⟨h.row.1, ?_⟩
  rcases h.row.2 with h0 | ⟨g, cap, cur, hv, hg0, hg⟩
  · exact .inl h0
  · exact .inr ⟨g, cap, cur, hv, Nat.le_trans hB hg0, hg⟩
theorem Sq.read (h : Sq w B v l) : ∃ ad cap, v = .slice ad l.length cap ∧ Sx w ad l ∧ l.length ≤ cap ∧ cap ≤ maxLen ∧ (ad = none → cap = 0) ∧ (∀ b off s, ad = some ⟨b, off, s⟩ → B ≤ b ∧ b < w.heap.size ∧ off = 0 ∧ s = none) := by
  rcases h.row.2 with ⟨rfl, h0⟩ | ⟨g, cap, cur, rfl, hB, hg, hle, hm, hsz, htake⟩
  · have hl : l = [] := List.eq_nil_of_length_eq_zero h0
    subst hl
    exact ⟨none, 0, rfl, .nil _ _, Nat.le_refl _, Nat.zero_le _, fun _ => rfl, fun b off s h => by cases h⟩
  · have hgl := (Array.getElem?_eq_some_iff.1 hg).1
    refine ⟨some ⟨g, 0, none⟩, cap, rfl, .inr ⟨g, 0, rfl, hgl, fun j hj => ?_⟩, hle, hm, (fun h => by cases h), fun b off s h => by cases h; exact ⟨hB, hgl, rfl, rfl⟩⟩
    rw [Nat.zero_add, cell_of_row w g j cur 9 (0, 0) hg]
    have h1 : (cur.toList.take (l.length * 1))[j]? = some (.string l[j]) := by rw [htake]; exact cellsT_get l j hj
    rw [List.getElem?_take_of_lt (by omega)] at h1
    simpa using h1
/-- the string i may be replaced -/
theorem Sq.set_ (h : Sq w B v l) (i : Nat) (hi : i < l.length) (s : ByteArray) :
    ∃ g cap, v = .slice (some ⟨g, 0, none⟩) l.length cap ∧ B ≤ g ∧ g < w.heap.size ∧ l.length ≤ cap ∧ cap ≤ maxLen ∧ w.cell? ⟨g, i, none⟩ = some (.string l[i]) ∧ w.frozen? ⟨g, i, none⟩ = false ∧ Sq (w.setCell ⟨g, i, none⟩ (.string s)) B v (l.set i s) := by
  rcases h.row.2 with ⟨_, h0⟩ | ⟨g, cap, cur, rfl, hB, hg, hle, hm, hsz, htake⟩
  · omega
  have hcell : w.cell? ⟨g, i, none⟩ = some (.string l[i]) := by
    rw [cell_of_row w g i cur 9 (0, 0) hg]
    have h1 : (cur.toList.take (l.length * 1))[i]? = some (.string l[i]) := by rw [htake]; exact cellsT_get l i hi
    rw [List.getElem?_take_of_lt (by omega)] at h1
    simpa using h1
  refine ⟨g, cap, rfl, hB, (Array.getElem?_eq_some_iff.1 hg).1, hle, hm, hcell, by simp [World.frozen?, hg], ?_⟩
  unfold Sq
  rw [List.length_set]
  refine ⟨by rw [cellsT_length, List.length_set]; omega, .inr ⟨g, cap, cur.setIfInBounds i (.string s), rfl, hB, heap_set_b w g i _ cur _ _ hg, hle, hm, by simpa using hsz, ?_⟩⟩
  rw [Array.toList_setIfInBounds, List.take_set, htake]
  simp [cellsT, List.map_set]
end
/-- strings appended to a list of the call's own -/
theorem wpList_append_t {w : World} {ops : Array Oper} {rest : List Oper} {o : Oper} {a : Act} {Q : Exit → Act → World → Prop} (hgd : o.guard = none) (s x : Operand)
    (ho : o.op = .call { callee := .builtin .append, args := #[s, x], argTypes := #[24, 24] })
    (B : Nat) (v : Value) (ys : List ByteArray) (hs : a.eval s = v) (hown : Sq w B v ys)
    (ad : Option Addr) (n cap : Nat) (xs : List ByteArray) (hcap : ad = none → cap = 0) (hl : Sx w ad xs) (hn : n = xs.length) (hx : a.eval x = .slice ad n cap) (hlen : ys.length + n ≤ 1000000) (hbase : B ≤ w.heap.size)
    (h : ∀ v' w', Sq w' B v' (ys ++ xs) → w.grownBy w' v.ownBlock → wpList Try.prog ops Q rest (a.put o.dst v') w') : wpList Try.prog ops Q (o :: rest) a w := by
  subst hn
  obtain ⟨i, hi, hz0, hz1, hz2⟩ := info_t
  cases ad with
  | none =>
    have hxs : xs = [] := by
      rcases hl with h0 | ⟨b, off, h0, _⟩
      · exact h0
      · cases h0
    subst hxs
    obtain rfl := hcap rfl
    refine wpList_append_own_none hgd s x 24 ho B 9 i 1 Try.underlying24 hi v ys.length (cellsT ys) hs hown hx (h v w ?_ ⟨rfl, rfl, rfl, Nat.le_refl _, fun _ _ _ => rfl⟩)
    rw [List.append_nil]
    exact hown
  | some a0 =>
    refine wpList_append_own w hgd s x 24 ho B 9 i (.string ⟨#[]⟩) 1 16 Try.underlying24 hi hz0 hz1 hz2 rfl (by decide) v ys.length (cellsT ys) hs hown a0 xs.length cap (cellsT xs) hx ?_ ?_ (cellsT_one _) ?_ ?_ hbase (fun v' w' h2 h3 _ => h v' w' ?_ h3)
    · rw [cellsT_length, Nat.mul_one]
    · intro j u hu
      have hj : j < xs.length := by
        have := (List.getElem?_eq_some_iff.1 hu).1
        rwa [cellsT_length] at this
      rcases hl with h0 | ⟨b, off, h0, _, hc⟩
      · subst h0; simp at hj
      · cases h0
        rw [Go.WideShapes.add_plain, hc j hj]
        rw [cellsT_get xs j hj] at hu
        exact hu
    · unfold maxLen; omega
    · omega
    · unfold Sq
      rw [cellsT_append, List.length_append] at *
      exact h2
theorem Sx.one (w : World) (s : ByteArray) : Sx (w.alloc (.cells #[.string s] 9)) (some ⟨w.heap.size, 0, none⟩) [s] := by
  refine .inr ⟨w.heap.size, 0, rfl, by simp, fun j hj => ?_⟩
  obtain rfl : j = 0 := by simpa using hj
  rw [World.cell?_alloc_mark]
  rfl
theorem Sx.two (w : World) (s t : ByteArray) : Sx (w.alloc (.cells #[.string s, .string t] 9)) (some ⟨w.heap.size, 0, none⟩) [s, t] := by
  refine .inr ⟨w.heap.size, 0, rfl, by simp, fun j hj => ?_⟩
  have hj' : j = 0 ∨ j = 1 := by simp at hj; omega
  rw [World.cell?_alloc_mark]
  rcases hj' with rfl | rfl <;> rfl
section
variable {H : Type} {enc' : TypeId × Value → H} {w : World} {base : Nat} {held : Bool}
theorem sx_of {fuel : Nat} {v : Value} {x : DataW H × List MemPlace} (hf : DataW.trod enc' Try.prog w base (fun _ => true) held fuel 24 [v] = some x) :
    ∃ (ad : Option Addr) (cap : Nat) (l : List ByteArray), v = .slice ad l.length cap ∧ Sx w ad l ∧ l.length ≤ cap ∧ cap ≤ maxLen ∧ (ad = none → cap = 0) ∧ ∀ s ∈ l, s.size ≤ maxLen := by
  rcases open_strings Try.underlying24 Try.underlying9 (by kernel_rfl) hf with ⟨hcs, _⟩ | ⟨a, len, cap, ss, hcs, _, hl, hm, hz, _, hcell, hsz⟩
  · simp at hcs
    subst hcs
    exact ⟨none, 0, [], rfl, .nil _ _, Nat.le_refl _, Nat.zero_le _, fun _ => rfl, fun s h => by simp at h⟩
  · simp at hcs
    subst hcs
    simp only [if_true] at hz
    have hlen : (ss.take len).length = len := by rw [List.length_take]; omega
    refine ⟨some a, cap, ss.take len, by rw [hlen], ?_, by rw [hlen]; exact hl, hm, (fun h => by cases h), fun s hs => hsz s (List.mem_of_mem_take hs)⟩
    by_cases h0 : len = 0
    · left; subst h0; simp
    · right
      obtain ⟨b, off, spot⟩ := a
      have hc0 := hcell 0 (by omega)
      have e0 : (⟨b, off, spot⟩ : Addr).add 0 = ⟨b, off, spot⟩ := rfl
      rw [e0] at hc0
      have hspot : spot = none := World.cell?_spot hc0
      subst hspot
      refine ⟨b, off, rfl, ?_, fun j hj => ?_⟩
      · rcases Nat.lt_or_ge b w.heap.size with h' | h'
        · exact h'
        · simp [World.cell?, Array.getElem?_eq_none h'] at hc0
      · rw [hlen] at hj
        have := hcell j (by omega)
        rw [Go.WideShapes.add_plain] at this
        rw [this, List.getElem_take]
        simp [show j < ss.length by omega]
end
end Go.Proofs.Ytmhaeipklifhcaa
