/-
  Lists of blocks (two bools and bytes) in memory: read, owned, appended to, cut, changed.
  Blocks, lists of blocks and cartridges that come in.
  The specification's block, count and Barcode.
-/
import Derived.Test.YtjiijjdmkeeilaaDoorCAL
import Derived.Maps.AppendAt
import Derived.Deep.RegionHeld3
import Derived.Deep.Slices
import Derived.Deep.Fields
import Derived.ChangeSame
import Derived.ChangeArms
import Derived.OpenShut
import Derived.Lib.SmallJoins
import Derived.WalkKit
import Derived.Lib.Hide
import Derived.WalkSpells
import Derived.WalkLawsBesides
import Derived.Deep.LoopGhost
namespace Go.Proofs.YtjiijjdmkeeilaaDoor
open Go.RowKit
set_option linter.unusedVariables false
theorem heap_set_b (w : World) (b i : Nat) (u : Value) (cur : Array Value) (t : TypeId) (fr : Nat × Nat) (h : w.heap[b]? = some (.cells cur t fr)) : (w.setCell ⟨b, i, none⟩ u).heap[b]? = some (.cells (cur.setIfInBounds i u) t fr) := by
  simp [World.setCell, Array.getElem?_modify, h]
/-- a block: a mark, bad, its bytes -/
structure Blk where
  m : Bool
  bad : Bool
  d : List UInt8
  deriving DecidableEq
/-- a block, and where its bytes lie -/
structure Bk where
  x : Blk
  ad : Option Addr
  cap : Nat
def Bk.cells (k : Bk) : List Value := [.bool k.x.m, .bool k.x.bad, .slice k.ad k.x.d.length k.cap]
def cellsB (E : List Bk) : List Value := E.flatMap Bk.cells
theorem cellsB_cons (k : Bk) (E : List Bk) : cellsB (k :: E) = k.cells ++ cellsB E := by simp [cellsB]
theorem cellsB_append (E F : List Bk) : cellsB (E ++ F) = cellsB E ++ cellsB F := by simp [cellsB]
theorem cellsB_length (E : List Bk) : (cellsB E).length = E.length * 3 := by
  induction E with
  | nil => rfl
  | cons k E ih => rw [cellsB_cons, List.length_append, ih]; simp [Bk.cells]; omega
theorem cellsB_one (E : List Bk) : ∀ u ∈ cellsB E, u.oneCell' = true := by
  intro u hu
  obtain ⟨k, _, hk⟩ := List.mem_flatMap.1 hu
  simp [Bk.cells] at hk
  rcases hk with rfl | rfl | rfl <;> rfl
theorem cellsB_get : ∀ (E : List Bk) (i : Nat) (h : i < E.length), (cellsB E)[i * 3]? = some (.bool E[i].x.m) ∧ (cellsB E)[i * 3 + 1]? = some (.bool E[i].x.bad) ∧ (cellsB E)[i * 3 + 2]? = some (.slice E[i].ad E[i].x.d.length E[i].cap)
  | k :: E, 0, _ => by rw [cellsB_cons]; exact ⟨rfl, rfl, rfl⟩
  | k :: E, i + 1, h => by
    have ih := cellsB_get E i (by simpa using h)
    have h3 : k.cells.length = 3 := rfl
    rw [cellsB_cons, show (i + 1) * 3 = i * 3 + 3 by omega]
    refine ⟨?_, ?_, ?_⟩
    · rw [List.getElem?_append_right (by omega), h3, show i * 3 + 3 - 3 = i * 3 by omega]; exact ih.1
    · rw [List.getElem?_append_right (by omega), h3, show i * 3 + 3 + 1 - 3 = i * 3 + 1 by omega]; exact ih.2.1
    · rw [List.getElem?_append_right (by omega), h3, show i * 3 + 3 + 2 - 3 = i * 3 + 2 by omega]; exact ih.2.2
theorem cellsB_take (E : List Bk) (n : Nat) : (cellsB E).take (n * 3) = cellsB (E.take n) := by
  induction E generalizing n with
  | nil => simp [cellsB]
  | cons k E ih =>
    cases n with
    | zero => simp [cellsB]
    | succ n =>
      have h3 : k.cells.length = 3 := rfl
      rw [List.take_succ_cons, cellsB_cons, cellsB_cons, List.take_append, h3, List.take_of_length_le (by omega), show (n + 1) * 3 - 3 = n * 3 by omega, ih]
/-- the bytes of the block lie at or behind C, in no block y -/
structure Bk.Ok (w : World) (C : Nat) (y : Option Nat) (k : Bk) : Prop where
  lie : LieX w C y k.ad k.x.d
  le : k.x.d.length ≤ k.cap
  mx : k.cap ≤ maxLen
  nn : k.ad = none → k.cap = 0
/-- cells that lie -/
def LieV (w : World) (ad : Option Addr) (vs : List Value) : Prop :=
  vs = [] ∨ ∃ b off, ad = some ⟨b, off, none⟩ ∧ b < w.heap.size ∧ ∀ j u, vs[j]? = some u → w.cell? ⟨b, off + j, none⟩ = some u
theorem LieV.below {w w' : World} {ad : Option Addr} {vs : List Value} (h : LieV w ad vs) (hb : Below w.heap.size w w') : LieV w' ad vs := by
  rcases h with h0 | ⟨b, off, e, hlt, hc⟩
  · exact .inl h0
  · exact .inr ⟨b, off, e, Nat.lt_of_lt_of_le hlt hb.size, fun j u hu => (hb.cell (p := ⟨b, off + j, none⟩) hlt).trans (hc j u hu)⟩
/-- blocks to be read -/
def Kx (w : World) (C : Nat) (y : Option Nat) (ad : Option Addr) (l : List Blk) : Prop := ∃ E : List Bk, E.map Bk.x = l ∧ LieV w ad (cellsB E) ∧ ∀ k ∈ E, k.Ok w C y
/-- blocks of the call's own -/
def Kq (w : World) (B C : Nat) (v : Value) (l : List Blk) : Prop := ∃ E : List Bk, E.map Bk.x = l ∧ w.ownsRow B 57 3 v l.length (cellsB E) ∧ ∀ k ∈ E, k.Ok w C v.ownBlock
section
variable {w w' w0 : World} {B C C' D : Nat} {y : Option Nat} {ad : Option Addr} {v : Value} {l : List Blk} {k : Bk}
theorem Bk.Ok.mono (h : k.Ok w C y) (hC : C' ≤ C) : k.Ok w C' y := ⟨h.lie.mono hC, h.le, h.mx, h.nn⟩
theorem Bk.Ok.grown {z : Option Nat} (h : k.Ok w C y) (hg : w.grownBy w' y) (hz : z = y ∨ z = some w.heap.size) : k.Ok w' C z := ⟨h.lie.grown hg hz, h.le, h.mx, h.nn⟩
theorem Bk.Ok.below (h : k.Ok w C y) (hb : Below w.heap.size w w') : k.Ok w' C y := ⟨h.lie.below hb, h.le, h.mx, h.nn⟩
theorem Bk.Ok.other {z : Option Nat} (h : k.Ok w C y) (hz : ∀ g, z = some g → g < C) : k.Ok w C z := ⟨h.lie.other hz, h.le, h.mx, h.nn⟩
theorem Kx.below (h : Kx w C y ad l) (hb : Below w.heap.size w w') : Kx w' C y ad l := by
  obtain ⟨E, e, h1, h2⟩ := h
  exact ⟨E, e, h1.below hb, fun k hk => (h2 k hk).below hb⟩
theorem Kx.mono (h : Kx w C y ad l) (hC : C' ≤ C) : Kx w C' y ad l := by
  obtain ⟨E, e, h1, h2⟩ := h
  exact ⟨E, e, h1, fun k hk => (h2 k hk).mono hC⟩
theorem Kx.other {z : Option Nat} (h : Kx w C y ad l) (hz : ∀ g, z = some g → g < C) : Kx w C z ad l := by
  obtain ⟨E, e, h1, h2⟩ := h
  exact ⟨E, e, h1, fun k hk => (h2 k hk).other hz⟩
theorem Kx.nil (w : World) (C : Nat) (y : Option Nat) (ad : Option Addr) : Kx w C y ad [] := ⟨[], rfl, .inl rfl, fun k h => by simp at h⟩
/-- the cells of the element i -/
theorem Kx.get (h : Kx w C y ad l) {i : Nat} (hi : i < l.length) :
    ∃ b off ad' cap', ad = some ⟨b, off, none⟩ ∧ b < w.heap.size ∧ w.cell? ⟨b, off + i * 3, none⟩ = some (.bool l[i].m) ∧ w.cell? ⟨b, off + i * 3 + 1, none⟩ = some (.bool l[i].bad) ∧ w.cell? ⟨b, off + i * 3 + 2, none⟩ = some (.slice ad' l[i].d.length cap') ∧
      LieX w C y ad' l[i].d ∧ l[i].d.length ≤ cap' ∧ cap' ≤ maxLen ∧ (ad' = none → cap' = 0) := by
  obtain ⟨E, rfl, h1, h2⟩ := h
  rw [List.length_map] at hi
  have hg := cellsB_get E i hi
  rcases h1 with h0 | ⟨b, off, e, hlt, hc⟩
  · have := cellsB_length E
    rw [h0] at this
    simp at this
    omega
  · have ho := h2 E[i] (List.getElem_mem hi)
    simp only [List.getElem_map]
    exact ⟨b, off, E[i].ad, E[i].cap, e, hlt, hc _ _ hg.1, by rw [Nat.add_assoc]; exact hc _ _ hg.2.1, by rw [Nat.add_assoc]; exact hc _ _ hg.2.2, ho.lie, ho.le, ho.mx, ho.nn⟩
theorem Kq.nil (w : World) (B C : Nat) : Kq w B C (.slice none 0 0) [] := ⟨[], rfl, ⟨rfl, .inl ⟨rfl, rfl⟩⟩, fun k h => by simp at h⟩
theorem Kq.lt (h : Kq w B C v l) : ∀ k, v.ownBlock = some k → B ≤ k ∧ k < w.heap.size := by obtain ⟨E, _, h1, _⟩ := h; exact h1.lt
theorem Kq.below (h : Kq w B C v l) (hb : Below w.heap.size w w') : Kq w' B C v l := by
  obtain ⟨E, e, h1, h2⟩ := h
  refine ⟨E, e, ⟨h1.1, ?_⟩, fun k hk => (h2 k hk).below hb⟩
  rcases h1.2 with h0 | ⟨g, cap, cur, hv, hB, hg, h4⟩
  · exact .inl h0
  · exact .inr ⟨g, cap, cur, hv, hB, (hb.block g (Array.getElem?_eq_some_iff.1 hg).1).trans hg, h4⟩
theorem Kq.mono (h : Kq w B C v l) {B' C' : Nat} (hB : B' ≤ B) (hC : C' ≤ C) : Kq w B' C' v l := by
  obtain ⟨E, e, h1, h2⟩ := h
  refine ⟨E, e, ⟨h1.1, ?_⟩, fun k hk => (h2 k hk).mono hC⟩
  rcases h1.2 with h0 | ⟨g, cap, cur, hv, hg0, hg⟩
  · exact .inl h0
  · exact .inr ⟨g, cap, cur, hv, Nat.le_trans hB hg0, hg⟩
theorem Kq.read (h : Kq w B C v l) : ∃ ad cap, v = .slice ad l.length cap ∧ Kx w C v.ownBlock ad l ∧ l.length ≤ cap ∧ cap ≤ maxLen ∧ (ad = none → cap = 0) ∧ (∀ b off s, ad = some ⟨b, off, s⟩ → B ≤ b ∧ off = 0 ∧ s = none) := by
  obtain ⟨E, e, h1, h2⟩ := h
  rcases h1.2 with ⟨rfl, h0⟩ | ⟨g, cap, cur, rfl, hB, hg, hle, hm, hsz, htake⟩
  · have hl : l = [] := List.eq_nil_of_length_eq_zero h0
    subst hl
    exact ⟨none, 0, rfl, ⟨E, e, .inl (by have := h1.1; exact List.eq_nil_of_length_eq_zero (by simpa using this)), h2⟩, Nat.le_refl _, Nat.zero_le _, fun _ => rfl, fun b off s h => by cases h⟩
  · refine ⟨some ⟨g, 0, none⟩, cap, rfl, ⟨E, e, .inr ⟨g, 0, rfl, (Array.getElem?_eq_some_iff.1 hg).1, fun j u hu => ?_⟩, h2⟩, hle, hm, (fun h => by cases h), fun b off s h => by cases h; exact ⟨hB, rfl, rfl⟩⟩
    rw [Nat.zero_add, cell_of_row w g j cur 57 (0, 0) hg]
    have hj : j < l.length * 3 := by rw [← h1.1]; exact (List.getElem?_eq_some_iff.1 hu).1
    rw [← htake, List.getElem?_take_of_lt hj] at hu
    simpa using hu
/-- the first n of them -/
theorem Kq.take (h : Kq w B C v l) {n : Nat} (hn : n ≤ l.length) : ∃ ad cap, v = .slice ad l.length cap ∧ n ≤ cap ∧ Kq w B C (.slice ad n cap) (l.take n) ∧ (Value.slice ad n cap).ownBlock = v.ownBlock := by
  obtain ⟨E, rfl, h1, h2⟩ := h
  rw [List.length_map] at h1 hn
  rcases h1.2 with ⟨rfl, h0⟩ | ⟨g, cap, cur, rfl, hB, hg, hle, hm, hsz, htake⟩
  · obtain rfl : n = 0 := by omega
    obtain rfl : E = [] := List.eq_nil_of_length_eq_zero h0
    exact ⟨none, 0, rfl, Nat.le_refl _, ⟨[], rfl, ⟨rfl, .inl ⟨rfl, rfl⟩⟩, fun k h => by simp at h⟩, rfl⟩
  · have hlen : ((E.map Bk.x).take n).length = n := by rw [List.length_take, List.length_map]; omega
    refine ⟨some ⟨g, 0, none⟩, cap, by rw [List.length_map], by omega, ⟨E.take n, by rw [List.map_take], ?_, fun k hk => h2 k (List.mem_of_mem_take hk)⟩, rfl⟩
    rw [hlen]
    refine ⟨by rw [cellsB_length, List.length_take]; omega, .inr ⟨g, cap, cur, rfl, hB, hg, by omega, hm, hsz, ?_⟩⟩
    rw [← cellsB_take, ← htake, List.take_take]
    congr 1
    omega
/-- block i is turned bad -/
theorem Kq.set_ (h : Kq w B C v l) (i : Nat) (hi : i < l.length) :
    ∃ g cap, v = .slice (some ⟨g, 0, none⟩) l.length cap ∧ B ≤ g ∧ g < w.heap.size ∧ l.length ≤ cap ∧ cap ≤ maxLen ∧ w.cell? ⟨g, i * 3 + 1, none⟩ = some (.bool l[i].bad) ∧ w.frozen? ⟨g, i * 3 + 1, none⟩ = false ∧ Kq (w.setCell ⟨g, i * 3 + 1, none⟩ (.bool true)) B C v (l.set i ⟨l[i].m, true, l[i].d⟩) := by
  obtain ⟨E, rfl, h1, h2⟩ := h
  rw [List.length_map] at h1 hi
  rcases h1.2 with ⟨_, h0⟩ | ⟨g, cap, cur, rfl, hB, hg, hle, hm, hsz, htake⟩
  · omega
  have hgt := (cellsB_get E i hi).2.1
  have hcell : w.cell? ⟨g, i * 3 + 1, none⟩ = some (.bool E[i].x.bad) := by
    rw [cell_of_row w g (i * 3 + 1) cur 57 (0, 0) hg]
    rw [← htake, List.getElem?_take_of_lt (by omega)] at hgt
    simpa using hgt
  have hkeep : ∀ k : Bk, k.Ok w C (some g) → k.Ok (w.setCell ⟨g, i * 3 + 1, none⟩ (.bool true)) C (some g) := fun k hk => by
    refine ⟨?_, hk.le, hk.mx, hk.nn⟩
    rcases hk.lie with h0 | ⟨b, off, e, h3, h4, h5, h6⟩
    · exact .inl h0
    · exact .inr ⟨b, off, e, h3, by simpa using h4, h5, fun j hj => by rw [World.cell?_setCell_far _ _ _ _ (fun e => h5 (congrArg some e.symm))]; exact h6 j hj⟩
  have hset : ∀ (E : List Bk) (i : Nat) (hi : i < E.length), (cellsB E).set (i * 3 + 1) (.bool true) = cellsB (E.set i ⟨⟨E[i].x.m, true, E[i].x.d⟩, E[i].ad, E[i].cap⟩) := by
    intro E
    induction E with
    | nil => intro i hi; simp at hi
    | cons k E ih =>
      intro i hi
      have h3 : k.cells.length = 3 := rfl
      cases i with
      | zero => rw [List.set_cons_zero, cellsB_cons, cellsB_cons]; rfl
      | succ i =>
        have := ih i (by simpa using hi)
        rw [List.set_cons_succ, cellsB_cons, cellsB_cons, List.set_append_right _ _ (by omega), h3, show (i + 1) * 3 + 1 - 3 = i * 3 + 1 by omega, this]
        rfl
  refine ⟨g, cap, by rw [List.length_map], hB, (Array.getElem?_eq_some_iff.1 hg).1, by rw [List.length_map]; exact hle, hm, by simpa using hcell, by simp [World.frozen?, hg], E.set i ⟨⟨E[i].x.m, true, E[i].x.d⟩, E[i].ad, E[i].cap⟩, ?_, ?_, fun k hk => ?_⟩
  · rw [List.map_set]; simp
  · rw [List.length_set, List.length_map, ← hset E i hi]
    refine ⟨by rw [List.length_set]; exact h1.1, .inr ⟨g, cap, cur.setIfInBounds (i * 3 + 1) (.bool true), rfl, hB, heap_set_b w g (i * 3 + 1) _ cur _ _ hg, hle, hm, by simpa using hsz, ?_⟩⟩
    rw [Array.toList_setIfInBounds, List.take_set, htake]
  · rcases List.mem_or_eq_of_mem_set hk with h3 | h3
    · exact hkeep k (h2 k h3)
    · have h4 := hkeep E[i] (h2 _ (List.getElem_mem hi))
      subst h3
      exact ⟨h4.lie, h4.le, h4.mx, h4.nn⟩
theorem Kq.grow (h : Kq w B C v l) (hb : Below w0.heap.size w0 w) (hB : w0.heap.size ≤ B) (hg : w.grownBy w' v.ownBlock) : Below w0.heap.size w0 w' :=
  hb.grown hg hb.size fun k hk => Nat.le_trans hB (h.lt k hk).1
end
theorem infoB : (Tryd.prog.info? 57).map (fun i => (i.zero, i.size, i.bytes)) = some (some (.agg #[.bool false, .bool false, .slice none 0 0]), 3, 32) := by kernel_rfl
theorem info_b : ∃ i : TypeInfo, Tryd.prog.info? 57 = some i ∧ i.zero = some (.agg #[.bool false, .bool false, .slice none 0 0]) ∧ i.size = 3 ∧ i.bytes = 32 := by
  have h := infoB
  rcases hi : Tryd.prog.info? 57 with _ | i
  · rw [hi] at h; simp at h
  · rw [hi] at h
    simp only [Option.map_some, Option.some.injEq, Prod.mk.injEq] at h
    exact ⟨i, rfl, h.1, h.2.1, h.2.2⟩
/-- blocks appended to a list of the call's own -/
theorem wpList_append_k {w : World} {ops : Array Oper} {rest : List Oper} {o : Oper} {a : Act} {Q : Exit → Act → World → Prop} (hgd : o.guard = none) (s x : Operand)
    (ho : o.op = .call { callee := .builtin .append, args := #[s, x], argTypes := #[29, 29] })
    (B C C2 C' : Nat) (v : Value) (l : List Blk) (hs : a.eval s = v) (hown : Kq w B C v l) (ad : Option Addr) (n cap : Nat) (z : List Blk) (hcap : ad = none → cap = 0) (hz : Kx w C2 v.ownBlock ad z) (hn : n = z.length) (hx : a.eval x = .slice ad n cap) (hlen : l.length + n ≤ 100000) (hbase : B ≤ w.heap.size) (hC : C' ≤ C) (hC2 : C' ≤ C2)
    (h : ∀ v' w', Kq w' B C' v' (l ++ z) → w.grownBy w' v.ownBlock → (v'.ownBlock = v.ownBlock ∨ v'.ownBlock = some w.heap.size) → wpList Tryd.prog ops Q rest (a.put o.dst v') w') : wpList Tryd.prog ops Q (o :: rest) a w := by
  subst hn
  obtain ⟨i, hi, hz0, hz1, hz2⟩ := info_b
  obtain ⟨E, rfl, h1, h2⟩ := hown
  obtain ⟨F, rfl, h3, h4⟩ := hz
  have hnone : ∀ F : List Bk, cellsB F = [] → F = [] := fun F h => List.eq_nil_of_length_eq_zero (by have := cellsB_length F; rw [h] at this; simp at this; omega)
  cases ad with
  | none =>
    have hF : F = [] := by
      rcases h3 with h0 | ⟨b, off, h0, _⟩
      · exact hnone F h0
      · cases h0
    subst hF
    obtain rfl := hcap rfl
    refine wpList_append_own_none hgd s x 29 ho B 57 i 3 Tryd.underlying29 hi v _ (cellsB E) hs h1 hx (h v w ?_ ⟨rfl, rfl, rfl, Nat.le_refl _, fun _ _ _ => rfl⟩ (.inl rfl))
    rw [List.map_nil, List.append_nil]
    exact (show Kq w B C v (E.map Bk.x) from ⟨E, rfl, h1, h2⟩).mono (Nat.le_refl _) hC
  | some a0 =>
    have hnews : ∀ j u, (cellsB F)[j]? = some u → w.cell? (a0.add j) = some u := by
      rcases h3 with h0 | ⟨b, off, e, _, hc⟩
      · rw [h0]; intro j u hu; simp at hu
      · cases e
        intro j u hu
        rw [Go.WideShapes.add_plain]
        exact hc j u hu
    simp only [List.length_map] at hlen hx
    refine wpList_append_own_at w hgd s x 29 ho B 57 i (.agg #[.bool false, .bool false, .slice none 0 0]) 3 32 Tryd.underlying29 hi hz0 hz1 hz2 rfl (by decide) v _ (cellsB E) hs h1 a0 F.length cap (cellsB F) hx (cellsB_length F) hnews (cellsB_one F) (by simp only [List.length_map]; unfold maxLen; omega) (by simp only [List.length_map]; omega) hbase
      (fun v' w' h5 h6 _ hat => h v' w' ⟨E ++ F, by rw [List.map_append], ?_, fun k hk => ?_⟩ h6 hat)
    · rw [List.length_append, List.length_map, List.length_map, cellsB_append]
      rw [List.length_map] at h5
      exact h5
    · rcases List.mem_append.1 hk with hk | hk
      · exact ((h2 k hk).grown h6 hat).mono hC
      · exact ((h4 k hk).grown h6 hat).mono hC2
/-- one block, in the newest cells -/
theorem Kx.one {w : World} {C : Nat} {y : Option Nat} (m bad : Bool) (ad : Option Addr) (d : List UInt8) (cap : Nat) (hl : LieX w C y ad d) (h1 : d.length ≤ cap) (h2 : cap ≤ maxLen) (h3 : ad = none → cap = 0) (g : Nat) (hg : g = w.heap.size) :
    Kx (w.alloc (.cells #[.bool m, .bool bad, .slice ad d.length cap] 57)) C y (some ⟨g, 0, none⟩) [⟨m, bad, d⟩] := by
  subst hg
  refine ⟨[⟨⟨m, bad, d⟩, ad, cap⟩], rfl, .inr ⟨w.heap.size, 0, rfl, by simp, fun j u hu => ?_⟩, fun k hk => ?_⟩
  · rw [Nat.zero_add, World.cell?_alloc_mark]
    simpa [cellsB, Bk.cells] using hu
  · obtain rfl : k = ⟨⟨m, bad, d⟩, ad, cap⟩ := by simpa using hk
    exact ⟨hl.below ((Below.refl _ _).alloc (Nat.le_refl _) _), h1, h2, h3⟩
/-- a call gives a new list of blocks -/
def GivesK (w : World) (l : List Blk) (e : Ending) (w' : World) : Prop := ∃ v, e = .returned v ∧ Kq w' w.heap.size w.heap.size v l ∧ Below w.heap.size w w'
end Go.Proofs.YtjiijjdmkeeilaaDoor
namespace Go.Proofs.YtjiijjdmkeeilaaDoor
open Go.RowKit Go.ChangeShapes Go.WideShapes Go.Deep
set_option linter.unusedVariables false
set_option maxRecDepth 100000
/-- the bytes of the block lie -/
structure Bk.In (w : World) (k : Bk) : Prop where
  lie : Lie w k.ad k.x.d
  le : k.x.d.length ≤ k.cap
  mx : k.cap ≤ maxLen
  nn : k.ad = none → k.cap = 0
/-- blocks to be read, wherever they lie -/
def Ki (w : World) (ad : Option Addr) (l : List Blk) : Prop := ∃ E : List Bk, E.map Bk.x = l ∧ LieV w ad (cellsB E) ∧ ∀ k ∈ E, k.In w
theorem Ki.below {w w' : World} {ad : Option Addr} {l : List Blk} (h : Ki w ad l) (hb : Below w.heap.size w w') : Ki w' ad l := by
  obtain ⟨E, e, h1, h2⟩ := h
  exact ⟨E, e, h1.below hb, fun k hk => ⟨(h2 k hk).lie.below hb rfl, (h2 k hk).le, (h2 k hk).mx, (h2 k hk).nn⟩⟩
theorem Ki.nil (w : World) (ad : Option Addr) : Ki w ad [] := ⟨[], rfl, .inl rfl, fun k h => by simp at h⟩
/-- beside a list of the call's own -/
theorem Ki.kx {w0 w : World} {ad : Option Addr} {l : List Blk} (h : Ki w0 ad l) (hb : Below w0.heap.size w0 w) {y : Option Nat} (hy : ∀ g, y = some g → w0.heap.size ≤ g) : Kx w 0 y ad l := by
  obtain ⟨E, e, h1, h2⟩ := h
  refine ⟨E, e, h1.below hb, fun k hk => ⟨LieX.of_low (h2 k hk).lie hb hy, (h2 k hk).le, (h2 k hk).mx, (h2 k hk).nn⟩⟩
theorem Kx.ki {w : World} {C : Nat} {y : Option Nat} {ad : Option Addr} {l : List Blk} (h : Kx w C y ad l) : Ki w ad l := by
  obtain ⟨E, e, h1, h2⟩ := h
  exact ⟨E, e, h1, fun k hk => ⟨(h2 k hk).lie.lie, (h2 k hk).le, (h2 k hk).mx, (h2 k hk).nn⟩⟩
/-- the cells of the element i -/
theorem Ki.get {w : World} {ad : Option Addr} {l : List Blk} (h : Ki w ad l) {i : Nat} (hi : i < l.length) :
    ∃ b off ad' cap', ad = some ⟨b, off, none⟩ ∧ b < w.heap.size ∧ w.cell? ⟨b, off + i * 3, none⟩ = some (.bool l[i].m) ∧ w.cell? ⟨b, off + i * 3 + 1, none⟩ = some (.bool l[i].bad) ∧ w.cell? ⟨b, off + i * 3 + 2, none⟩ = some (.slice ad' l[i].d.length cap') ∧
      Lie w ad' l[i].d ∧ l[i].d.length ≤ cap' ∧ cap' ≤ maxLen ∧ (ad' = none → cap' = 0) := by
  obtain ⟨E, rfl, h1, h2⟩ := h
  rw [List.length_map] at hi
  have hg := cellsB_get E i hi
  rcases h1 with h0 | ⟨b, off, e, hlt, hc⟩
  · have := cellsB_length E
    rw [h0] at this
    simp at this
    omega
  · have ho := h2 E[i] (List.getElem_mem hi)
    simp only [List.getElem_map]
    exact ⟨b, off, E[i].ad, E[i].cap, e, hlt, hc _ _ hg.1, by rw [Nat.add_assoc]; exact hc _ _ hg.2.1, by rw [Nat.add_assoc]; exact hc _ _ hg.2.2, ho.lie, ho.le, ho.mx, ho.nn⟩
/-- the first n of them, from a place on -/
theorem Ki.part {w : World} {b off : Nat} {l : List Blk} (h : Ki w (some ⟨b, off, none⟩) l) (q n : Nat) : Ki w (some ⟨b, off + q * 3, none⟩) ((l.drop q).take n) := by
  obtain ⟨E, rfl, h1, h2⟩ := h
  refine ⟨(E.drop q).take n, by rw [List.map_take, List.map_drop], ?_, fun k hk => h2 k (List.mem_of_mem_drop (List.mem_of_mem_take hk))⟩
  rcases h1 with h0 | ⟨b', off', e, hlt, hc⟩
  · left
    have hE : E = [] := List.eq_nil_of_length_eq_zero (by have := cellsB_length E; rw [h0] at this; simp at this; omega)
    subst hE
    simp [cellsB]
  · cases e
    refine .inr ⟨b, off + q * 3, rfl, hlt, fun j u hu => ?_⟩
    rw [Nat.add_assoc]
    refine hc _ _ ?_
    rw [← cellsB_take] at hu
    have hj : j < n * 3 := by
      rcases Nat.lt_or_ge j (n * 3) with h | h
      · exact h
      · rw [List.getElem?_eq_none (by rw [List.length_take]; omega)] at hu; cases hu
    rw [List.getElem?_take_of_lt hj] at hu
    have hd : ∀ (E : List Bk) (q : Nat), cellsB (E.drop q) = (cellsB E).drop (q * 3) := by
      intro E
      induction E with
      | nil => intro q; simp [cellsB]
      | cons k E ih =>
        intro q
        cases q with
        | zero => simp
        | succ q =>
          have h3 : k.cells.length = 3 := rfl
          have e : k.cells.drop ((q + 1) * 3) = [] := List.drop_eq_nil_of_le (by omega)
          rw [List.drop_succ_cons, cellsB_cons, ih, List.drop_append, h3, e, List.nil_append, show (q + 1) * 3 - 3 = q * 3 by omega]
    rw [hd, List.getElem?_drop] at hu
    exact hu
/-- a cartridge -/
structure Crt where
  bc : ByteArray
  W : Int
  L : Int
  S : Int
  T : Int
  J : Int
  R : Int
  wo : Bool
  lk : Bool
  l : List Blk
  ep : Int
  lo : Int
  pa : Int
def crC (c : Crt) (ad : Option Addr) (cap : Nat) : List Value := [.string c.bc, .int .i64 c.W, .int .i64 c.L, .int .i64 c.S, .int .i64 c.T, .int .i64 c.J, .int .i64 c.R, .bool c.wo, .bool c.lk, .slice ad c.l.length cap, .int .i64 c.ep, .int .i64 c.lo, .int .i64 c.pa]
section
variable {H : Type} {enc' : TypeId × Value → H} {w : World} {base : Nat} {held : Bool}
theorem trod_bytesC {fuel : Nat} {c : Value} {x : DataW H × List MemPlace} (hf : DataW.trod enc' Tryd.prog w base (fun _ => true) held fuel 26 [c] = some x) :
    ∃ (ad : Option Addr) (cap : Nat) (xs : List UInt8), c = .slice ad xs.length cap ∧ Lie w ad xs ∧ xs.length ≤ cap ∧ cap ≤ maxLen ∧ (ad = none → cap = 0) := by
  rcases open_ints Tryd.underlying26 Tryd.underlying5 (by kernel_rfl) hf with ⟨hcs, _⟩ | ⟨x, l, c, zs, hcs, _, hl, hm, hz, _, hcell, hwz⟩
  · simp at hcs
    subst hcs
    exact ⟨none, 0, [], rfl, .nil _ _, Nat.le_refl _, Nat.zero_le _, fun _ => rfl⟩
  · simp at hcs
    subst hcs
    obtain ⟨xs, rfl, h1, h2, h3, h4⟩ := lie_of w (some x) l _ zs (.inr ⟨x, rfl, hl, hm, by simpa using hz, hcell, hwz⟩)
    exact ⟨_, _, xs, rfl, h1, h2, h3, h4⟩
theorem cellsBlk : Tryd.prog.cellsOf 57 = 3 := by kernel_rfl
theorem trod_blk {fuel : Nat} {cs : List Value} {x : DataW H × List MemPlace} (h : DataW.trod enc' Tryd.prog w base (fun _ => true) held fuel 57 cs = some x) : ∃ k : Bk, cs = k.cells ∧ k.In w := by
  have hone : ∀ fs, Tryd.prog.underlying 57 = some (.struct fs) → oneCellFields Tryd.prog fs = true := by
    intro fs hfs
    rw [Tryd.underlying57] at hfs
    cases hfs
    kernel_rfl
  have ho := hone _ Tryd.underlying57
  obtain ⟨xs, n, _, _, hlen, hxl, hf⟩ := DataW.trod_struct Tryd.underlying57 h
  rw [cellsBlk] at hlen
  match cs, hlen, xs, hxl with
  | [c0, c1, c2], _, [y0, y1, y2], _ =>
    have g0 := hf 0 _ rfl
    have g1 := hf 1 _ rfl
    have g2 := hf 2 _ rfl
    rw [(hone_of ho 0 _ rfl).1, (hone_of ho 0 _ rfl).2] at g0
    rw [(hone_of ho 1 _ rfl).1, (hone_of ho 1 _ rfl).2] at g1
    rw [(hone_of ho 2 _ rfl).1, (hone_of ho 2 _ rfl).2] at g2
    obtain ⟨a, e0, _⟩ := DataW.trod_bool Tryd.underlying4 g0
    obtain ⟨b, e1, _⟩ := DataW.trod_bool Tryd.underlying4 g1
    obtain ⟨ad, cap, d, e2, hl, h1, h2, h3⟩ := trod_bytesC (c := c2) (by simpa using g2)
    simp at e0 e1
    subst e0 e1 e2
    exact ⟨⟨⟨a, b, d⟩, ad, cap⟩, rfl, hl, h1, h2, h3⟩
theorem trod_blocks {fuel : Nat} {v : Value} {x : DataW H × List MemPlace} (hf : DataW.trod enc' Tryd.prog w base (fun _ => true) held fuel 29 [v] = some x) :
    ∃ (ad : Option Addr) (cap : Nat) (l : List Blk), v = .slice ad l.length cap ∧ Ki w ad l ∧ l.length ≤ cap ∧ cap ≤ maxLen ∧ (ad = none → cap = 0) := by
  rcases open_slice Tryd.underlying29 hf with ⟨hcs, _⟩ | ⟨a', len, cap, m, n, D, Pl, hcs, hb, hl, hm, hmm, _, hi⟩
  · cases hcs
    exact ⟨none, 0, [], rfl, .nil _ _, Nat.le_refl _, Nat.zero_le _, fun _ => rfl⟩
  · cases hcs
    have hlm : len ≤ m := by rw [hmm]; split <;> omega
    rw [cellsBlk] at hi
    have hx : ∀ i, ∃ k : Bk, i < len → k.In w ∧ ∀ j, j < 3 → w.cell? ((a'.add (i * 3)).add j) = k.cells[j]? := by
      intro i
      by_cases h : i < len
      · obtain ⟨cs', hc, ht⟩ := hi i (by omega)
        obtain ⟨k, rfl, h1⟩ := trod_blk ht
        exact ⟨k, fun _ => ⟨h1, (World.cells?_some hc).2.2⟩⟩
      · exact ⟨⟨⟨false, false, []⟩, none, 0⟩, fun h' => absurd h' h⟩
    obtain ⟨f, hf'⟩ := Classical.axiomOfChoice hx
    refine ⟨some a', cap, ((List.range len).map f).map Bk.x, by simp, ⟨(List.range len).map f, rfl, ?_, ?_⟩, by simpa using hl, hm, fun h => by cases h⟩
    · by_cases h0 : len = 0
      · left; subst h0; rfl
      · right
        have hc0 := (hf' 0 (by omega)).2 0 (by omega)
        obtain ⟨b, off, spot⟩ := a'
        have hspot : spot = none := by
          have e0 : (⟨b, off, spot⟩ : Addr).add (0 * 3) = ⟨b, off, spot⟩ := rfl
          rw [e0] at hc0
          have e1 : (⟨b, off, spot⟩ : Addr).add 0 = ⟨b, off, spot⟩ := rfl
          rw [e1] at hc0
          exact World.cell?_spot (v := .bool (f 0).x.m) hc0
        subst hspot
        have hget : ∀ i, i < len → ∀ j, j < 3 → w.cell? ⟨b, off + (i * 3 + j), none⟩ = (f i).cells[j]? := fun i hi j hj => by
          have := (hf' i hi).2 j hj
          rwa [Go.WideShapes.add_plain, Go.WideShapes.add_plain, Nat.add_assoc] at this
        refine ⟨b, off, rfl, ?_, fun j u hu => ?_⟩
        · have := hget 0 (by omega) 0 (by omega)
          rcases Nat.lt_or_ge b w.heap.size with h' | h'
          · exact h'
          · simp [World.cell?, Array.getElem?_eq_none h', Bk.cells] at this
        · have hj : j < len * 3 := by
            have := (List.getElem?_eq_some_iff.1 hu).1
            rw [cellsB_length] at this
            simpa using this
          have hq : j / 3 < len := by omega
          have hql : j / 3 < ((List.range len).map f).length := by simpa using hq
          have hg := cellsB_get _ (j / 3) hql
          have hfj : ((List.range len).map f)[j / 3] = f (j / 3) := by simp
          rw [hfj] at hg
          have hr := hget (j / 3) hq (j % 3) (by omega)
          rw [show j / 3 * 3 + j % 3 = j by omega] at hr
          rw [hr, ← hu]
          have h3 : j % 3 = 0 ∨ j % 3 = 1 ∨ j % 3 = 2 := by omega
          rcases h3 with h3 | h3 | h3
          · rw [h3]; conv => rhs; rw [show j = j / 3 * 3 by omega]
            rw [hg.1]; rfl
          · rw [h3]; conv => rhs; rw [show j = j / 3 * 3 + 1 by omega]
            rw [hg.2.1]; rfl
          · rw [h3]; conv => rhs; rw [show j = j / 3 * 3 + 2 by omega]
            rw [hg.2.2]; rfl
    · intro k hk
      obtain ⟨i, hi', rfl⟩ := List.mem_map.1 hk
      exact (hf' i (by simpa using hi')).1
theorem open_blocks {r : Reach} {b0 : Nat} {v : Value} {d : DataW H} {p : List MemPlace} (hv : Value.okWide Tryd.prog w r b0 29 v) (h : DataW.Trod enc' Tryd.prog w base (fun _ => true) held 29 v d p) :
    ∃ (ad : Option Addr) (cap : Nat) (l : List Blk), v = .slice ad l.length cap ∧ Ki w ad l ∧ l.length ≤ cap ∧ cap ≤ maxLen ∧ (ad = none → cap = 0) := by
  obtain ⟨a, len, cap, rfl⟩ := okWide_slice Tryd.underlying29 hv
  obtain ⟨fuel, hf⟩ := h
  exact trod_blocks (v := .slice a len cap) (by simpa [Value.cells] using hf)
theorem cellsStr1 : Tryd.prog.cellsOf 9 = 1 := by kernel_rfl
theorem cellsBool1 : Tryd.prog.cellsOf 4 = 1 := by kernel_rfl
theorem cellsInt1 : Tryd.prog.cellsOf 3 = 1 := by kernel_rfl
theorem cellsSl1 : Tryd.prog.cellsOf 29 = 1 := by kernel_rfl
end
end Go.Proofs.YtjiijjdmkeeilaaDoor
namespace Go.Proofs.YtjiijjdmkeeilaaDoor
open Go.RowKit
set_option linter.unusedVariables false
theorem below_boxC (w : World) (o : Obj) : Below w.heap.size w (w.alloc o) := (Below.refl _ _).alloc (Nat.le_refl _) _
/-- a block is valid -/
def okB (m : Bool) (n : Nat) : Bool := if m then (n : Int) == 0 else decide ((1 : Int) ≤ (n : Int)) && decide ((n : Int) ≤ 64)
def cnt (n : Int) : Bool := decide (0 ≤ n) && decide (n ≤ 1125899906842624)
/-- a byte of a barcode -/
def chr (x : UInt8) : Bool := (decide (65 ≤ x.toNat) && decide (x.toNat ≤ 90)) || (decide (48 ≤ x.toNat) && decide (x.toNat ≤ 57))
def bar (s : ByteArray) : Bool := s.data.toList.all chr && (decide (1 ≤ s.size) && decide (s.size ≤ 24))
end Go.Proofs.YtjiijjdmkeeilaaDoor
