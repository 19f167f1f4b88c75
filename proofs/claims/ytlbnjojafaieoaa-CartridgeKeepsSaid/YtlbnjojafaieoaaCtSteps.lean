/-
  Lists of steps (a bool, a place, blocks) that come in.
-/
import Derived.Test.YtlbnjojafaieoaaCtOpen
namespace Go.Proofs.Ytlbnjojafaieoaa
open Go.RowKit Go.ChangeShapes Go.WideShapes Go.Deep
set_option linter.unusedVariables false
/-- a step: does it erase, where, what does it write -/
structure Stp where
  er : Bool
  a : Int
  z : List Blk
/-- a step, and where its blocks lie -/
structure Sk where
  x : Stp
  ad : Option Addr
  cap : Nat
def Sk.cells (k : Sk) : List Value := [.bool k.x.er, .int .i64 k.x.a, .slice k.ad k.x.z.length k.cap]
def cellsS (E : List Sk) : List Value := E.flatMap Sk.cells
theorem cellsS_cons (k : Sk) (E : List Sk) : cellsS (k :: E) = k.cells ++ cellsS E := by simp [cellsS]
theorem cellsS_length (E : List Sk) : (cellsS E).length = E.length * 3 := by
  induction E with
  | nil => rfl
  | cons k E ih => rw [cellsS_cons, List.length_append, ih]; simp [Sk.cells]; omega
theorem cellsS_get : ∀ (E : List Sk) (i : Nat) (h : i < E.length), (cellsS E)[i * 3]? = some (.bool E[i].x.er) ∧ (cellsS E)[i * 3 + 1]? = some (.int .i64 E[i].x.a) ∧ (cellsS E)[i * 3 + 2]? = some (.slice E[i].ad E[i].x.z.length E[i].cap)
  | k :: E, 0, _ => by rw [cellsS_cons]; exact ⟨rfl, rfl, rfl⟩
  | k :: E, i + 1, h => by
    have ih := cellsS_get E i (by simpa using h)
    have h3 : k.cells.length = 3 := rfl
    rw [cellsS_cons, show (i + 1) * 3 = i * 3 + 3 by omega]
    refine ⟨?_, ?_, ?_⟩
    · rw [List.getElem?_append_right (by omega), h3, show i * 3 + 3 - 3 = i * 3 by omega]; exact ih.1
    · rw [List.getElem?_append_right (by omega), h3, show i * 3 + 3 + 1 - 3 = i * 3 + 1 by omega]; exact ih.2.1
    · rw [List.getElem?_append_right (by omega), h3, show i * 3 + 3 + 2 - 3 = i * 3 + 2 by omega]; exact ih.2.2
/-- the blocks of the step lie -/
structure Sk.In (w : World) (k : Sk) : Prop where
  ki : Ki w k.ad k.x.z
  le : k.x.z.length ≤ k.cap
  mx : k.cap ≤ maxLen
  nn : k.ad = none → k.cap = 0
  a0 : -9223372036854775808 ≤ k.x.a
  a1 : k.x.a ≤ 9223372036854775807
/-- steps to be read -/
def Kst (w : World) (ad : Option Addr) (l : List Stp) : Prop := ∃ E : List Sk, E.map Sk.x = l ∧ LieV w ad (cellsS E) ∧ ∀ k ∈ E, k.In w
theorem Kst.below {w w' : World} {ad : Option Addr} {l : List Stp} (h : Kst w ad l) (hb : Below w.heap.size w w') : Kst w' ad l := by
  obtain ⟨E, e, h1, h2⟩ := h
  exact ⟨E, e, h1.below hb, fun k hk => ⟨(h2 k hk).ki.below hb, (h2 k hk).le, (h2 k hk).mx, (h2 k hk).nn, (h2 k hk).a0, (h2 k hk).a1⟩⟩
/-- the cells of the element i -/
theorem Kst.get {w : World} {ad : Option Addr} {l : List Stp} (h : Kst w ad l) {i : Nat} (hi : i < l.length) :
    ∃ b off ad' cap', ad = some ⟨b, off, none⟩ ∧ b < w.heap.size ∧ w.cell? ⟨b, off + i * 3, none⟩ = some (.bool l[i].er) ∧ w.cell? ⟨b, off + i * 3 + 1, none⟩ = some (.int .i64 l[i].a) ∧ w.cell? ⟨b, off + i * 3 + 2, none⟩ = some (.slice ad' l[i].z.length cap') ∧
      Ki w ad' l[i].z ∧ l[i].z.length ≤ cap' ∧ cap' ≤ maxLen ∧ (ad' = none → cap' = 0) ∧ -9223372036854775808 ≤ l[i].a ∧ l[i].a ≤ 9223372036854775807 := by
  obtain ⟨E, rfl, h1, h2⟩ := h
  rw [List.length_map] at hi
  have hg := cellsS_get E i hi
  rcases h1 with h0 | ⟨b, off, e, hlt, hc⟩
  · have := cellsS_length E
    rw [h0] at this
    simp at this
    omega
  · have ho := h2 E[i] (List.getElem_mem hi)
    simp only [List.getElem_map]
    exact ⟨b, off, E[i].ad, E[i].cap, e, hlt, hc _ _ hg.1, by rw [Nat.add_assoc]; exact hc _ _ hg.2.1, by rw [Nat.add_assoc]; exact hc _ _ hg.2.2, ho.ki, ho.le, ho.mx, ho.nn, ho.a0, ho.a1⟩
section
variable {H : Type} {enc' : TypeId × Value → H} {w : World} {base : Nat} {held : Bool}
theorem cellsStp : Try.prog.cellsOf 52 = 3 := by kernel_rfl
theorem trod_stp {fuel : Nat} {cs : List Value} {x : DataW H × List MemPlace} (h : DataW.trod enc' Try.prog w base (fun _ => true) held fuel 52 cs = some x) : ∃ k : Sk, cs = k.cells ∧ k.In w := by
  have hone : ∀ fs, Try.prog.underlying 52 = some (.struct fs) → oneCellFields Try.prog fs = true := by
    intro fs hfs
    rw [Try.underlying52] at hfs
    cases hfs
    kernel_rfl
  have ho := hone _ Try.underlying52
  obtain ⟨xs, n, _, _, hlen, hxl, hf⟩ := DataW.trod_struct Try.underlying52 h
  rw [cellsStp] at hlen
  match cs, hlen, xs, hxl with
  | [c0, c1, c2], _, [y0, y1, y2], _ =>
    have g0 := hf 0 _ rfl
    have g1 := hf 1 _ rfl
    have g2 := hf 2 _ rfl
    rw [(hone_of ho 0 _ rfl).1, (hone_of ho 0 _ rfl).2] at g0
    rw [(hone_of ho 1 _ rfl).1, (hone_of ho 1 _ rfl).2] at g1
    rw [(hone_of ho 2 _ rfl).1, (hone_of ho 2 _ rfl).2] at g2
    obtain ⟨a, e0, _⟩ := DataW.trod_bool Try.underlying4 g0
    obtain ⟨b, e1, _, wb⟩ := DataW.trod_int Try.underlying3 g1
    obtain ⟨ad, cap, d, e2, hl, h1, h2, h3⟩ := trod_blocks (v := c2) (by simpa using g2)
    simp at e0 e1
    subst e0 e1 e2
    have bb : -9223372036854775808 ≤ b ∧ b ≤ 9223372036854775807 := by simpa [Lit.wf, IntKind.min, IntKind.max, IntKind.signed, IntKind.bits] using wb
    exact ⟨⟨⟨a, b, d⟩, ad, cap⟩, rfl, hl, h1, h2, h3, bb.1, bb.2⟩
theorem open_steps {r : Reach} {b0 : Nat} {v : Value} {d : DataW H} {p : List MemPlace} (hv : Value.okWide Try.prog w r b0 50 v) (h : DataW.Trod enc' Try.prog w base (fun _ => true) held 50 v d p) :
    ∃ (ad : Option Addr) (cap : Nat) (l : List Stp), v = .slice ad l.length cap ∧ Kst w ad l ∧ l.length ≤ cap ∧ cap ≤ maxLen := by
  obtain ⟨a, len, cap, rfl⟩ := okWide_slice Try.underlying50 hv
  obtain ⟨fuel, hf⟩ := h
  have hf := (show DataW.trod enc' Try.prog w base (fun _ => true) held fuel 50 [.slice a len cap] = some (d, p) by simpa [Value.cells] using hf)
  rcases open_slice Try.underlying50 hf with ⟨hcs, _⟩ | ⟨a', len, cap, m, n, D, Pl, hcs, hb, hl, hm, hmm, _, hi⟩
  · cases hcs
    exact ⟨none, 0, [], rfl, ⟨[], rfl, .inl rfl, fun k h => by simp at h⟩, Nat.le_refl _, Nat.zero_le _⟩
  · cases hcs
    have hlm : len ≤ m := by rw [hmm]; split <;> omega
    rw [cellsStp] at hi
    have hx : ∀ i, ∃ k : Sk, i < len → k.In w ∧ ∀ j, j < 3 → w.cell? ((a'.add (i * 3)).add j) = k.cells[j]? := by
      intro i
      by_cases h : i < len
      · obtain ⟨cs', hc, ht⟩ := hi i (by omega)
        obtain ⟨k, rfl, h1⟩ := trod_stp ht
        exact ⟨k, fun _ => ⟨h1, (World.cells?_some hc).2.2⟩⟩
      · exact ⟨⟨⟨false, 0, []⟩, none, 0⟩, fun h' => absurd h' h⟩
    obtain ⟨f, hf'⟩ := Classical.axiomOfChoice hx
    refine ⟨some a', cap, ((List.range len).map f).map Sk.x, by simp, ⟨(List.range len).map f, rfl, ?_, ?_⟩, by simpa using hl, hm⟩
    · by_cases h0 : len = 0
      · left; subst h0; rfl
      · right
        have hc0 := (hf' 0 (by omega)).2 0 (by omega)
        obtain ⟨b, off, spot⟩ := a'
        have hspot : spot = none := by
          have e0 : (⟨b, off, spot⟩ : Addr).add (0 * 3) = ⟨b, off, spot⟩ := rfl
          rw [e0] at hc0
          have e1 : (⟨b, off, spot⟩ : Addr).add 0 = ⟨b, off, spot⟩ := rfl
          rw [e1] at hc0
          exact World.cell?_spot (v := .bool (f 0).x.er) hc0
        subst hspot
        have hget : ∀ i, i < len → ∀ j, j < 3 → w.cell? ⟨b, off + (i * 3 + j), none⟩ = (f i).cells[j]? := fun i hi j hj => by
          have := (hf' i hi).2 j hj
          rwa [Go.WideShapes.add_plain, Go.WideShapes.add_plain, Nat.add_assoc] at this
        refine ⟨b, off, rfl, ?_, fun j u hu => ?_⟩
        · have := hget 0 (by omega) 0 (by omega)
          rcases Nat.lt_or_ge b w.heap.size with h' | h'
          · exact h'
          · simp [World.cell?, Array.getElem?_eq_none h', Sk.cells] at this
        · have hj : j < len * 3 := by
            have := (List.getElem?_eq_some_iff.1 hu).1
            rw [cellsS_length] at this
            simpa using this
          have hq : j / 3 < len := by omega
          have hql : j / 3 < ((List.range len).map f).length := by simpa using hq
          have hg := cellsS_get _ (j / 3) hql
          have hfj : ((List.range len).map f)[j / 3] = f (j / 3) := by simp
          rw [hfj] at hg
          have hr := hget (j / 3) hq (j % 3) (by omega)
          rw [show j / 3 * 3 + j % 3 = j by omega] at hr
          rw [hr, ← hu]
          have h3 : j % 3 = 0 ∨ j % 3 = 1 ∨ j % 3 = 2 := by omega
          rcases h3 with h3 | h3 | h3
          · rw [h3]; conv => rhs; rw [show j = j / 3 * 3 by omega]
            rw [hg.1]; rfl
          · rw [h3]; conv => rhs; rw [show j = j / 3 * 3 + 1 by omega]
            rw [hg.2.1]; rfl
          · rw [h3]; conv => rhs; rw [show j = j / 3 * 3 + 2 by omega]
            rw [hg.2.2]; rfl
    · intro k hk
      obtain ⟨i, hi', rfl⟩ := List.mem_map.1 hk
      exact (hf' i (by simpa using hi')).1
end
end Go.Proofs.Ytlbnjojafaieoaa
