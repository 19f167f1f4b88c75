/-
  Lists of structs without references, of any type: read, owned, appended to. A struct is given by its cells.
-/
import Derived.Test.YtpjegenobadckaaRows
import Derived.WalkKit
import Derived.Lib.Hide
import Derived.Below
import Derived.Deep.Draws
import Derived.Laws.AppendOwn
import Derived.Laws.AppendOwnNone
import Derived.OwnWalk
import Derived.OpenShut
namespace Go.Proofs.Ytpjegenobadckaa
open Go.RowKit Go.ChangeShapes
set_option linter.unusedVariables false
/-- k cells each, without references -/
structure Cel {α : Type} (c : α → List Value) (k : Nat) : Prop where
  len : ∀ x, (c x).length = k
  one : ∀ x, ∀ u ∈ c x, u.oneCell' = true
  pos : 0 < k
/-- cells that lie -/
def Lv (w : World) (ad : Option Addr) (vs : List Value) : Prop :=
  vs = [] ∨ ∃ b off, ad = some ⟨b, off, none⟩ ∧ b < w.heap.size ∧ ∀ j u, vs[j]? = some u → w.cell? ⟨b, off + j, none⟩ = some u
section
variable {α : Type} {c : α → List Value} {k : Nat}
theorem flat_length (h : Cel c k) (l : List α) : (l.flatMap c).length = l.length * k := by
  induction l with
  | nil => simp
  | cons x l ih => rw [List.flatMap_cons, List.length_append, ih, h.len, List.length_cons, Nat.add_mul, Nat.one_mul, Nat.add_comm]
theorem flat_one (h : Cel c k) (l : List α) : ∀ u ∈ l.flatMap c, u.oneCell' = true := by
  intro u hu
  obtain ⟨x, _, hx⟩ := List.mem_flatMap.1 hu
  exact h.one x u hx
theorem flat_get (h : Cel c k) : ∀ (l : List α) (i : Nat) (hi : i < l.length) (j : Nat), j < k → (l.flatMap c)[i * k + j]? = (c l[i])[j]?
  | x :: l, 0, _, j, hj => by
    rw [List.flatMap_cons, Nat.zero_mul, Nat.zero_add, List.getElem?_append_left (by rw [h.len]; exact hj)]
    rfl
  | x :: l, i + 1, hi, j, hj => by
    have ih := flat_get h l i (by simpa using hi) j hj
    rw [List.flatMap_cons, List.getElem?_append_right (by rw [h.len, Nat.add_mul, Nat.one_mul]; omega), h.len, show (i + 1) * k + j - k = i * k + j by rw [Nat.add_mul, Nat.one_mul]; omega, ih]
    rfl
theorem flat_take (h : Cel c k) : ∀ (l : List α) (n : Nat), (l.flatMap c).take (n * k) = (l.take n).flatMap c
  | [], n => by simp
  | x :: l, 0 => by simp
  | x :: l, n + 1 => by
    rw [List.take_succ_cons, List.flatMap_cons, List.flatMap_cons, List.take_append, h.len, List.take_of_length_le (by rw [h.len, Nat.add_mul, Nat.one_mul]; omega), show (n + 1) * k - k = n * k by rw [Nat.add_mul, Nat.one_mul]; omega, flat_take h l n]
theorem flat_nil (h : Cel c k) {l : List α} (h0 : l.flatMap c = []) : l = [] := by
  have := flat_length h l
  rw [h0] at this
  have hp := h.pos
  cases l with
  | nil => rfl
  | cons x l =>
    rw [List.length_nil, List.length_cons, Nat.add_mul, Nat.one_mul] at this
    omega
/-- structs to be read -/
def Lf (c : α → List Value) (w : World) (ad : Option Addr) (l : List α) : Prop := Lv w ad (l.flatMap c)
/-- structs of the call's own -/
def Of (T : TypeId) (k : Nat) (c : α → List Value) (w : World) (B : Nat) (v : Value) (l : List α) : Prop := w.ownsRow B T k v l.length (l.flatMap c)
variable {w w' w0 : World} {B B' : Nat} {ad : Option Addr} {v : Value} {l z : List α} {T ST : TypeId}
theorem Lf.nil (c : α → List Value) (w : World) (ad : Option Addr) : Lf c w ad [] := .inl rfl
theorem Lf.below (h : Lf c w ad l) (hb : Below w.heap.size w w') : Lf c w' ad l := by
  rcases h with h0 | ⟨b, off, e, hlt, hc⟩
  · exact .inl h0
  · exact .inr ⟨b, off, e, Nat.lt_of_lt_of_le hlt hb.size, fun j u hu => (hb.cell (p := ⟨b, off + j, none⟩) hlt).trans (hc j u hu)⟩
theorem Lf.drewN (h : Lf c w ad l) (n : Nat) : Lf c (w.drewN n) ad l := h
/-- the cells of the element i -/
theorem Lf.get (hk : Cel c k) (h : Lf c w ad l) {i : Nat} (hi : i < l.length) :
    ∃ b off, ad = some ⟨b, off, none⟩ ∧ b < w.heap.size ∧ ∀ j u, j < k → (c l[i])[j]? = some u → w.cell? ⟨b, off + i * k + j, none⟩ = some u := by
  rcases h with h0 | ⟨b, off, e, hlt, hc⟩
  · have := flat_nil hk h0
    subst this
    simp at hi
  · exact ⟨b, off, e, hlt, fun j u hj hu => by rw [Nat.add_assoc]; exact hc _ _ (by rw [flat_get hk l i hi j hj]; exact hu)⟩
theorem Lf.front (hk : Cel c k) (h : Lf c w ad l) (n : Nat) : Lf c w ad (l.take n) := by
  rcases h with h0 | ⟨b, off, e, hlt, hc⟩
  · have := flat_nil hk h0
    subst this
    exact .inl (by simp)
  · refine .inr ⟨b, off, e, hlt, fun j u hu => hc j u ?_⟩
    rw [← flat_take hk, List.getElem?_take] at hu
    split at hu
    · exact hu
    · cases hu
theorem Lf.lits (w : World) (cs : Array Value) (t : TypeId) (h : cs.toList = l.flatMap c) (g : Nat) (hg : g = w.heap.size) : Lf c (w.alloc (.cells cs t)) (some ⟨g, 0, none⟩) l := by
  subst hg
  refine .inr ⟨w.heap.size, 0, rfl, by simp, fun j u hu => ?_⟩
  rw [Nat.zero_add, World.cell?_alloc_mark]
  rw [← h] at hu
  simpa using hu
theorem Of.row (h : Of T k c w B v l) : w.ownsRow B T k v l.length (l.flatMap c) := h
theorem Of.lt (h : Of T k c w B v l) : ∀ g, v.ownBlock = some g → B ≤ g ∧ g < w.heap.size := fun g hg => h.row.lt g hg
theorem Of.nil (T : TypeId) (k : Nat) (c : α → List Value) (w : World) (B : Nat) : Of T k c w B (.slice none 0 0) [] := ⟨by simp, .inl ⟨rfl, rfl⟩⟩
theorem Of.made (T : TypeId) (k : Nat) (c : α → List Value) (w : World) (B g : Nat) (hg : g = w.heap.size) (hB : B ≤ g) : Of T k c (w.alloc (.cells #[] T)) B (.slice (some ⟨g, 0, none⟩) 0 0) [] := by
  subst hg
  exact ⟨by simp, .inr ⟨w.heap.size, 0, #[], rfl, hB, heap_alloc_new w _, Nat.le_refl _, by unfold maxLen; omega, by simp, by simp⟩⟩
theorem Of.below (h : Of T k c w B v l) (hb : Below w.heap.size w w') : Of T k c w' B v l := by
  refine ⟨h.row.1, ?_⟩
  rcases h.row.2 with h0 | ⟨g, cap, cur, hv, hB, hg, h1, h2, h3, h4⟩
  · exact .inl h0
  · exact .inr ⟨g, cap, cur, hv, hB, (hb.block g (Array.getElem?_eq_some_iff.1 hg).1).trans hg, h1, h2, h3, h4⟩
/-- where the blocks from B on are as they were -/
theorem Of.keep (h : Of T k c w B v l) (hk : ∀ g, B ≤ g → g < w.heap.size → w'.heap[g]? = w.heap[g]?) : Of T k c w' B v l := by
  refine ⟨h.row.1, ?_⟩
  rcases h.row.2 with h0 | ⟨g, cap, cur, hv, hB, hg, h1, h2, h3, h4⟩
  · exact .inl h0
  · exact .inr ⟨g, cap, cur, hv, hB, (hk g hB (Array.getElem?_eq_some_iff.1 hg).1).trans hg, h1, h2, h3, h4⟩
theorem Of.mono (h : Of T k c w B v l) (hB : B' ≤ B) : Of T k c w B' v l := by
  refine ⟨h.row.1, ?_⟩
  rcases h.row.2 with h0 | ⟨g, cap, cur, hv, hg0, hg⟩
  · exact .inl h0
  · exact .inr ⟨g, cap, cur, hv, Nat.le_trans hB hg0, hg⟩
theorem Of.read (h : Of T k c w B v l) : ∃ ad cap, v = .slice ad l.length cap ∧ Lf c w ad l ∧ l.length ≤ cap ∧ cap ≤ maxLen ∧ (ad = none → cap = 0) := by
  rcases h.row.2 with ⟨rfl, h0⟩ | ⟨g, cap, cur, rfl, hB, hg, hle, hm, hsz, htake⟩
  · have : l = [] := List.eq_nil_of_length_eq_zero h0
    subst this
    exact ⟨none, 0, rfl, .nil _ _ _, Nat.le_refl _, Nat.zero_le _, fun _ => rfl⟩
  · refine ⟨some ⟨g, 0, none⟩, cap, rfl, .inr ⟨g, 0, rfl, (Array.getElem?_eq_some_iff.1 hg).1, fun j u hu => ?_⟩, hle, hm, fun h => by cases h⟩
    rw [Nat.zero_add, cell_of_row w g j cur T (0, 0) hg]
    rw [← htake, List.getElem?_take] at hu
    split at hu
    · simpa using hu
    · cases hu
/-- a type of structs and of their slices -/
structure Typ (P : Program) (T ST : TypeId) (k bytes : Nat) (zv : Value) : Prop where
  info : (P.info? T).map (fun i => (i.zero, i.size, i.bytes)) = some (some zv, k, bytes)
  und : P.underlying ST = some (.slice T)
  zs : zv.cells.size = k
  small : bytes ≤ 1000
theorem Typ.get {P : Program} {bytes : Nat} {zv : Value} (h : Typ P T ST k bytes zv) : ∃ i : TypeInfo, P.info? T = some i ∧ i.zero = some zv ∧ i.size = k ∧ i.bytes = bytes := by
  have h := h.info
  rcases hi : P.info? T with _ | i
  · rw [hi] at h; simp at h
  · rw [hi] at h
    simp only [Option.map_some, Option.some.injEq, Prod.mk.injEq] at h
    exact ⟨i, rfl, h.1, h.2.1, h.2.2⟩
theorem wpList_append_f {P : Program} {bytes : Nat} {zv : Value} (ty : Typ P T ST k bytes zv) (hk : Cel c k) {ops : Array Oper} {rest : List Oper} {o : Oper} {a : Act} {Q : Exit → Act → World → Prop} (hgd : o.guard = none) (s x : Operand)
    (ho : o.op = .call { callee := .builtin .append, args := #[s, x], argTypes := #[ST, ST] })
    (B : Nat) (v : Value) (l : List α) (hs : a.eval s = v) (hown : Of T k c w B v l) (ad : Option Addr) (n cap : Nat) (z : List α) (hcap : ad = none → cap = 0) (hz : Lf c w ad z) (hn : n = z.length) (hx : a.eval x = .slice ad n cap) (hlen : l.length + n ≤ 10000000) (hbase : B ≤ w.heap.size)
    (h : ∀ v' w', Of T k c w' B v' (l ++ z) → w.grownBy w' v.ownBlock → wpList P ops Q rest (a.put o.dst v') w') : wpList P ops Q (o :: rest) a w := by
  subst hn
  obtain ⟨i, hi, hz0, hz1, hz2⟩ := ty.get
  have hb := ty.small
  cases ad with
  | none =>
    have hxs : z = [] := by
      rcases hz with h0 | ⟨b, off, h0, _⟩
      · exact flat_nil hk h0
      · cases h0
    subst hxs
    obtain rfl := hcap rfl
    refine wpList_append_own_none hgd s x ST ho B T i k ty.und hi v _ _ hs hown.row hx (h v w ?_ ⟨rfl, rfl, rfl, Nat.le_refl _, fun _ _ _ => rfl⟩)
    rw [List.append_nil]
    exact hown
  | some a0 =>
    refine wpList_append_own w hgd s x ST ho B T i zv k bytes ty.und hi hz0 hz1 hz2 ty.zs hk.pos v _ _ hs hown.row a0 z.length cap (z.flatMap c) hx (flat_length hk z) ?_ (flat_one hk z) (by unfold maxLen; omega) ?_ hbase (fun v' w' h2 h3 _ => h v' w' ?_ h3)
    · intro j u hu
      rcases hz with h0 | ⟨b, off, h0, _, hc⟩
      · rw [h0] at hu; simp at hu
      · cases h0
        rw [Go.WideShapes.add_plain]
        exact hc j u hu
    · have := Nat.mul_le_mul hlen hb
      omega
    · unfold Of
      rw [List.length_append, List.flatMap_append]
      exact h2
theorem Of.grow (h : Of T k c w B v l) (hb : Below w0.heap.size w0 w) (hB : w0.heap.size ≤ B) (hg : w.grownBy w' v.ownBlock) : Below w0.heap.size w0 w' :=
  hb.grown hg hb.size fun k hk => Nat.le_trans hB (h.lt k hk).1
end
end Go.Proofs.Ytpjegenobadckaa
