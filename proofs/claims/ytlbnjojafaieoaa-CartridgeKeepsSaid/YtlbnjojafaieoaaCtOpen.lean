/-
  Blocks, lists of blocks and cartridges that come in.
-/
import Derived.Test.YtlbnjojafaieoaaCtMem
import Derived.Deep.Slices
import Derived.Deep.Fields
import Derived.ChangeSame
import Derived.ChangeArms
import Derived.OpenShut
import Derived.Lib.SmallJoins
namespace Go.Proofs.Ytlbnjojafaieoaa
open Go.RowKit Go.ChangeShapes Go.WideShapes Go.Deep
set_option linter.unusedVariables false
/-- the bytes of the block lie -/
structure Bk.In (w : World) (k : Bk) : Prop where
  lie : Lie w k.ad k.x.d
  le : k.x.d.length ≤ k.cap
  mx : k.cap ≤ maxLen
  nn : k.ad = none → k.cap = 0
/-- blocks to be read, wherever they lie -/
def Ki (w : World) (ad : Option Addr) (l : List Blk) : Prop := ∃ E : List Bk, E.map Bk.x = l ∧ LieV w ad (cellsB E) ∧ ∀ k ∈ E, k.In w
theorem Ki.below {w w' : World} {ad : Option Addr} {l : List Blk} (h : Ki w ad l) (hb : Below w.heap.size w w') : Ki w' ad l := by
  obtain ⟨E, e, h1, h2⟩ := h
  exact ⟨E, e, h1.below hb, fun k hk => ⟨(h2 k hk).lie.below hb rfl, (h2 k hk).le, (h2 k hk).mx, (h2 k hk).nn⟩⟩
theorem Ki.nil (w : World) (ad : Option Addr) : Ki w ad [] := ⟨[], rfl, .inl rfl, fun k h => by simp at h⟩
/-- beside a list of the call's own -/
theorem Ki.kx {w0 w : World} {ad : Option Addr} {l : List Blk} (h : Ki w0 ad l) (hb : Below w0.heap.size w0 w) {y : Option Nat} (hy : ∀ g, y = some g → w0.heap.size ≤ g) : Kx w 0 y ad l := by
  obtain ⟨E, e, h1, h2⟩ := h
  refine ⟨E, e, h1.below hb, fun k hk => ⟨LieX.of_low (h2 k hk).lie hb hy, (h2 k hk).le, (h2 k hk).mx, (h2 k hk).nn⟩⟩
theorem Kx.ki {w : World} {C : Nat} {y : Option Nat} {ad : Option Addr} {l : List Blk} (h : Kx w C y ad l) : Ki w ad l := by
  obtain ⟨E, e, h1, h2⟩ := h
  exact ⟨E, e, h1, fun k hk => ⟨(h2 k hk).lie.lie, (h2 k hk).le, (h2 k hk).mx, (h2 k hk).nn⟩⟩
/-- the cells of the element i -/
theorem Ki.get {w : World} {ad : Option Addr} {l : List Blk} (h : Ki w ad l) {i : Nat} (hi : i < l.length) :
    ∃ b off ad' cap', ad = some ⟨b, off, none⟩ ∧ b < w.heap.size ∧ w.cell? ⟨b, off + i * 3, none⟩ = some (.bool l[i].m) ∧ w.cell? ⟨b, off + i * 3 + 1, none⟩ = some (.bool l[i].bad) ∧ w.cell? ⟨b, off + i * 3 + 2, none⟩ = some (.slice ad' l[i].d.length cap') ∧
      Lie w ad' l[i].d ∧ l[i].d.length ≤ cap' ∧ cap' ≤ maxLen ∧ (ad' = none → cap' = 0) := by
  obtain ⟨E, rfl, h1, h2⟩ := h
  rw [List.length_map] at hi
  have hg := cellsB_get E i hi
  rcases h1 with h0 | ⟨b, off, e, hlt, hc⟩
  · have := cellsB_length E
    rw [h0] at this
    simp at this
    omega
  · have ho := h2 E[i] (List.getElem_mem hi)
    simp only [List.getElem_map]
    exact ⟨b, off, E[i].ad, E[i].cap, e, hlt, hc _ _ hg.1, by rw [Nat.add_assoc]; exact hc _ _ hg.2.1, by rw [Nat.add_assoc]; exact hc _ _ hg.2.2, ho.lie, ho.le, ho.mx, ho.nn⟩
/-- the first n of them, from a place on -/
theorem Ki.part {w : World} {b off : Nat} {l : List Blk} (h : Ki w (some ⟨b, off, none⟩) l) (q n : Nat) : Ki w (some ⟨b, off + q * 3, none⟩) ((l.drop q).take n) := by
  obtain ⟨E, rfl, h1, h2⟩ := h
  refine ⟨(E.drop q).take n, by rw [List.map_take, List.map_drop], ?_, fun k hk => h2 k (List.mem_of_mem_drop (List.mem_of_mem_take hk))⟩
  rcases h1 with h0 | ⟨b', off', e, hlt, hc⟩
  · left
    have hE : E = [] := List.eq_nil_of_length_eq_zero (by have := cellsB_length E; rw [h0] at this; simp at this; omega)
    subst hE
    simp [cellsB]
  · cases e
    refine .inr ⟨b, off + q * 3, rfl, hlt, fun j u hu => ?_⟩
    rw [Nat.add_assoc]
    refine hc _ _ ?_
    rw [← cellsB_take] at hu
    have hj : j < n * 3 := by
      rcases Nat.lt_or_ge j (n * 3) with h | h
      · exact h
      · rw [List.getElem?_eq_none (by rw [List.length_take]; omega)] at hu; cases hu
    rw [List.getElem?_take_of_lt hj] at hu
    have hd : ∀ (E : List Bk) (q : Nat), cellsB (E.drop q) = (cellsB E).drop (q * 3) := by
      intro E
      induction E with
      | nil => intro q; simp [cellsB]
      | cons k E ih =>
        intro q
        cases q with
        | zero => simp
        | succ q =>
          have h3 : k.cells.length = 3 := rfl
          have e : k.cells.drop ((q + 1) * 3) = [] := List.drop_eq_nil_of_le (by omega)
          rw [List.drop_succ_cons, cellsB_cons, ih, List.drop_append, h3, e, List.nil_append, show (q + 1) * 3 - 3 = q * 3 by omega]
    rw [hd, List.getElem?_drop] at hu
    exact hu
/-- a cartridge -/
structure Crt where
  bc : ByteArray
  W : Int
  L : Int
  S : Int
  T : Int
  J : Int
  R : Int
  wo : Bool
  lk : Bool
  l : List Blk
  ep : Int
  lo : Int
  pa : Int
def crC (c : Crt) (ad : Option Addr) (cap : Nat) : List Value := [.string c.bc, .int .i64 c.W, .int .i64 c.L, .int .i64 c.S, .int .i64 c.T, .int .i64 c.J, .int .i64 c.R, .bool c.wo, .bool c.lk, .slice ad c.l.length cap, .int .i64 c.ep, .int .i64 c.lo, .int .i64 c.pa]
section
variable {H : Type} {enc' : TypeId × Value → H} {w : World} {base : Nat} {held : Bool}
theorem trod_bytesC {fuel : Nat} {c : Value} {x : DataW H × List MemPlace} (hf : DataW.trod enc' Try.prog w base (fun _ => true) held fuel 54 [c] = some x) :
    ∃ (ad : Option Addr) (cap : Nat) (xs : List UInt8), c = .slice ad xs.length cap ∧ Lie w ad xs ∧ xs.length ≤ cap ∧ cap ≤ maxLen ∧ (ad = none → cap = 0) := by
  rcases open_ints Try.underlying54 Try.underlying5 (by kernel_rfl) hf with ⟨hcs, _⟩ | ⟨x, l, c, zs, hcs, _, hl, hm, hz, _, hcell, hwz⟩
  · simp at hcs
    subst hcs
    exact ⟨none, 0, [], rfl, .nil _ _, Nat.le_refl _, Nat.zero_le _, fun _ => rfl⟩
  · simp at hcs
    subst hcs
    obtain ⟨xs, rfl, h1, h2, h3, h4⟩ := lie_of w (some x) l _ zs (.inr ⟨x, rfl, hl, hm, by simpa using hz, hcell, hwz⟩)
    exact ⟨_, _, xs, rfl, h1, h2, h3, h4⟩
theorem cellsBlk : Try.prog.cellsOf 56 = 3 := by kernel_rfl
theorem trod_blk {fuel : Nat} {cs : List Value} {x : DataW H × List MemPlace} (h : DataW.trod enc' Try.prog w base (fun _ => true) held fuel 56 cs = some x) : ∃ k : Bk, cs = k.cells ∧ k.In w := by
  have hone : ∀ fs, Try.prog.underlying 56 = some (.struct fs) → oneCellFields Try.prog fs = true := by
    intro fs hfs
    rw [Try.underlying56] at hfs
    cases hfs
    kernel_rfl
  have ho := hone _ Try.underlying56
  obtain ⟨xs, n, _, _, hlen, hxl, hf⟩ := DataW.trod_struct Try.underlying56 h
  rw [cellsBlk] at hlen
  match cs, hlen, xs, hxl with
  | [c0, c1, c2], _, [y0, y1, y2], _ =>
    have g0 := hf 0 _ rfl
    have g1 := hf 1 _ rfl
    have g2 := hf 2 _ rfl
    rw [(hone_of ho 0 _ rfl).1, (hone_of ho 0 _ rfl).2] at g0
    rw [(hone_of ho 1 _ rfl).1, (hone_of ho 1 _ rfl).2] at g1
    rw [(hone_of ho 2 _ rfl).1, (hone_of ho 2 _ rfl).2] at g2
    obtain ⟨a, e0, _⟩ := DataW.trod_bool Try.underlying4 g0
    obtain ⟨b, e1, _⟩ := DataW.trod_bool Try.underlying4 g1
    obtain ⟨ad, cap, d, e2, hl, h1, h2, h3⟩ := trod_bytesC (c := c2) (by simpa using g2)
    simp at e0 e1
    subst e0 e1 e2
    exact ⟨⟨⟨a, b, d⟩, ad, cap⟩, rfl, hl, h1, h2, h3⟩
theorem trod_blocks {fuel : Nat} {v : Value} {x : DataW H × List MemPlace} (hf : DataW.trod enc' Try.prog w base (fun _ => true) held fuel 24 [v] = some x) :
    ∃ (ad : Option Addr) (cap : Nat) (l : List Blk), v = .slice ad l.length cap ∧ Ki w ad l ∧ l.length ≤ cap ∧ cap ≤ maxLen ∧ (ad = none → cap = 0) := by
  rcases open_slice Try.underlying24 hf with ⟨hcs, _⟩ | ⟨a', len, cap, m, n, D, Pl, hcs, hb, hl, hm, hmm, _, hi⟩
  · cases hcs
    exact ⟨none, 0, [], rfl, .nil _ _, Nat.le_refl _, Nat.zero_le _, fun _ => rfl⟩
  · cases hcs
    have hlm : len ≤ m := by rw [hmm]; split <;> omega
    rw [cellsBlk] at hi
    have hx : ∀ i, ∃ k : Bk, i < len → k.In w ∧ ∀ j, j < 3 → w.cell? ((a'.add (i * 3)).add j) = k.cells[j]? := by
      intro i
      by_cases h : i < len
      · obtain ⟨cs', hc, ht⟩ := hi i (by omega)
        obtain ⟨k, rfl, h1⟩ := trod_blk ht
        exact ⟨k, fun _ => ⟨h1, (World.cells?_some hc).2.2⟩⟩
      · exact ⟨⟨⟨false, false, []⟩, none, 0⟩, fun h' => absurd h' h⟩
    obtain ⟨f, hf'⟩ := Classical.axiomOfChoice hx
    refine ⟨some a', cap, ((List.range len).map f).map Bk.x, by simp, ⟨(List.range len).map f, rfl, ?_, ?_⟩, by simpa using hl, hm, fun h => by cases h⟩
    · by_cases h0 : len = 0
      · left; subst h0; rfl
      · right
        have hc0 := (hf' 0 (by omega)).2 0 (by omega)
        obtain ⟨b, off, spot⟩ := a'
        have hspot : spot = none := by
          have e0 : (⟨b, off, spot⟩ : Addr).add (0 * 3) = ⟨b, off, spot⟩ := rfl
          rw [e0] at hc0
          have e1 : (⟨b, off, spot⟩ : Addr).add 0 = ⟨b, off, spot⟩ := rfl
          rw [e1] at hc0
          exact World.cell?_spot (v := .bool (f 0).x.m) hc0
        subst hspot
        have hget : ∀ i, i < len → ∀ j, j < 3 → w.cell? ⟨b, off + (i * 3 + j), none⟩ = (f i).cells[j]? := fun i hi j hj => by
          have := (hf' i hi).2 j hj
          rwa [Go.WideShapes.add_plain, Go.WideShapes.add_plain, Nat.add_assoc] at this
        refine ⟨b, off, rfl, ?_, fun j u hu => ?_⟩
        · have := hget 0 (by omega) 0 (by omega)
          rcases Nat.lt_or_ge b w.heap.size with h' | h'
          · exact h'
          · simp [World.cell?, Array.getElem?_eq_none h', Bk.cells] at this
        · have hj : j < len * 3 := by
            have := (List.getElem?_eq_some_iff.1 hu).1
            rw [cellsB_length] at this
            simpa using this
          have hq : j / 3 < len := by omega
          have hql : j / 3 < ((List.range len).map f).length := by simpa using hq
          have hg := cellsB_get _ (j / 3) hql
          have hfj : ((List.range len).map f)[j / 3] = f (j / 3) := by simp
          rw [hfj] at hg
          have hr := hget (j / 3) hq (j % 3) (by omega)
          rw [show j / 3 * 3 + j % 3 = j by omega] at hr
          rw [hr, ← hu]
          have h3 : j % 3 = 0 ∨ j % 3 = 1 ∨ j % 3 = 2 := by omega
          rcases h3 with h3 | h3 | h3
          · rw [h3]; conv => rhs; rw [show j = j / 3 * 3 by omega]
            rw [hg.1]; rfl
          · rw [h3]; conv => rhs; rw [show j = j / 3 * 3 + 1 by omega]
            rw [hg.2.1]; rfl
          · rw [h3]; conv => rhs; rw [show j = j / 3 * 3 + 2 by omega]
            rw [hg.2.2]; rfl
    · intro k hk
      obtain ⟨i, hi', rfl⟩ := List.mem_map.1 hk
      exact (hf' i (by simpa using hi')).1
theorem open_blocks {r : Reach} {b0 : Nat} {v : Value} {d : DataW H} {p : List MemPlace} (hv : Value.okWide Try.prog w r b0 24 v) (h : DataW.Trod enc' Try.prog w base (fun _ => true) held 24 v d p) :
    ∃ (ad : Option Addr) (cap : Nat) (l : List Blk), v = .slice ad l.length cap ∧ Ki w ad l ∧ l.length ≤ cap ∧ cap ≤ maxLen ∧ (ad = none → cap = 0) := by
  obtain ⟨a, len, cap, rfl⟩ := okWide_slice Try.underlying24 hv
  obtain ⟨fuel, hf⟩ := h
  exact trod_blocks (v := .slice a len cap) (by simpa [Value.cells] using hf)
theorem cellsCrt : Try.prog.cellsOf 26 = 13 := by kernel_rfl
theorem cellsGeo6 : Try.prog.cellsOf 23 = 6 := by kernel_rfl
theorem cellsStr1 : Try.prog.cellsOf 9 = 1 := by kernel_rfl
theorem cellsBool1 : Try.prog.cellsOf 4 = 1 := by kernel_rfl
theorem cellsInt1 : Try.prog.cellsOf 3 = 1 := by kernel_rfl
theorem cellsSl1 : Try.prog.cellsOf 24 = 1 := by kernel_rfl
theorem trod_geoC {fuel : Nat} {cs : List Value} {x : DataW H × List MemPlace} (h : DataW.trod enc' Try.prog w base (fun _ => true) held fuel 23 cs = some x) :
    ∃ W L S T J R : Int, cs = [.int .i64 W, .int .i64 L, .int .i64 S, .int .i64 T, .int .i64 J, .int .i64 R] := by
  have hone : ∀ fs, Try.prog.underlying 23 = some (.struct fs) → oneCellFields Try.prog fs = true := by
    intro fs hfs
    rw [Try.underlying23] at hfs
    cases hfs
    kernel_rfl
  have ho := hone _ Try.underlying23
  obtain ⟨xs, n, _, _, hlen, hxl, hf⟩ := DataW.trod_struct Try.underlying23 h
  rw [cellsGeo6] at hlen
  match cs, hlen, xs, hxl with
  | [c0, c1, c2, c3, c4, c5], _, [y0, y1, y2, y3, y4, y5], _ =>
    have g0 := hf 0 _ rfl
    have g1 := hf 1 _ rfl
    have g2 := hf 2 _ rfl
    have g3 := hf 3 _ rfl
    have g4 := hf 4 _ rfl
    have g5 := hf 5 _ rfl
    rw [(hone_of ho 0 _ rfl).1, (hone_of ho 0 _ rfl).2] at g0
    rw [(hone_of ho 1 _ rfl).1, (hone_of ho 1 _ rfl).2] at g1
    rw [(hone_of ho 2 _ rfl).1, (hone_of ho 2 _ rfl).2] at g2
    rw [(hone_of ho 3 _ rfl).1, (hone_of ho 3 _ rfl).2] at g3
    rw [(hone_of ho 4 _ rfl).1, (hone_of ho 4 _ rfl).2] at g4
    rw [(hone_of ho 5 _ rfl).1, (hone_of ho 5 _ rfl).2] at g5
    obtain ⟨a0, e0, _, _⟩ := DataW.trod_int Try.underlying3 g0
    obtain ⟨a1, e1, _, _⟩ := DataW.trod_int Try.underlying3 g1
    obtain ⟨a2, e2, _, _⟩ := DataW.trod_int Try.underlying3 g2
    obtain ⟨a3, e3, _, _⟩ := DataW.trod_int Try.underlying3 g3
    obtain ⟨a4, e4, _, _⟩ := DataW.trod_int Try.underlying3 g4
    obtain ⟨a5, e5, _, _⟩ := DataW.trod_int Try.underlying3 g5
    simp at e0 e1 e2 e3 e4 e5
    subst e0 e1 e2 e3 e4 e5
    exact ⟨a0, a1, a2, a3, a4, a5, rfl⟩
theorem open_crt {r : Reach} {b0 : Nat} {v : Value} {d : DataW H} {p : List MemPlace} (hv : Value.okWide Try.prog w r b0 26 v) (h : DataW.Trod enc' Try.prog w base (fun _ => true) held 26 v d p) :
    ∃ (c : Crt) (ad : Option Addr) (cap : Nat), v = .agg (crC c ad cap).toArray ∧ Ki w ad c.l ∧ c.l.length ≤ cap ∧ cap ≤ maxLen ∧ (ad = none → cap = 0) ∧ c.bc.size ≤ maxLen := by
  obtain ⟨cs, rfl, _⟩ := okWide_struct Try.underlying26 hv
  obtain ⟨fuel, hf⟩ := h
  obtain ⟨xs, n, _, _, hlen, hxl, hf⟩ := DataW.trod_struct Try.underlying26 hf
  rw [cellsCrt] at hlen
  have hcs : (Value.agg cs).cells.toList = cs.toList := by simp [Value.cells]
  rw [hcs] at hlen hf
  obtain ⟨l⟩ := cs
  simp only at hlen hf
  match l, hlen, xs, hxl with
  | [c0, c1, c2, c3, c4, c5, c6, c7, c8, c9, c10, c11, c12], _, [y0, y1, y2, y3, y4, y5, y6, y7], _ =>
    have g0 := hf 0 _ rfl
    have g1 := hf 1 _ rfl
    have g2 := hf 2 _ rfl
    have g3 := hf 3 _ rfl
    have g4 := hf 4 _ rfl
    have g5 := hf 5 _ rfl
    have g6 := hf 6 _ rfl
    have g7 := hf 7 _ rfl
    change DataW.trod enc' Try.prog w base (fun _ => true) held n 9 (([c0, c1, c2, c3, c4, c5, c6, c7, c8, c9, c10, c11, c12].drop 0).take (Try.prog.cellsOf 9)) = some y0 at g0
    rw [cellsStr1] at g0
    change DataW.trod enc' Try.prog w base (fun _ => true) held n 23 (([c0, c1, c2, c3, c4, c5, c6, c7, c8, c9, c10, c11, c12].drop 1).take (Try.prog.cellsOf 23)) = some y1 at g1
    rw [cellsGeo6] at g1
    change DataW.trod enc' Try.prog w base (fun _ => true) held n 4 (([c0, c1, c2, c3, c4, c5, c6, c7, c8, c9, c10, c11, c12].drop 7).take (Try.prog.cellsOf 4)) = some y2 at g2
    rw [cellsBool1] at g2
    change DataW.trod enc' Try.prog w base (fun _ => true) held n 4 (([c0, c1, c2, c3, c4, c5, c6, c7, c8, c9, c10, c11, c12].drop 8).take (Try.prog.cellsOf 4)) = some y3 at g3
    rw [cellsBool1] at g3
    change DataW.trod enc' Try.prog w base (fun _ => true) held n 24 (([c0, c1, c2, c3, c4, c5, c6, c7, c8, c9, c10, c11, c12].drop 9).take (Try.prog.cellsOf 24)) = some y4 at g4
    rw [cellsSl1] at g4
    change DataW.trod enc' Try.prog w base (fun _ => true) held n 3 (([c0, c1, c2, c3, c4, c5, c6, c7, c8, c9, c10, c11, c12].drop 10).take (Try.prog.cellsOf 3)) = some y5 at g5
    rw [cellsInt1] at g5
    change DataW.trod enc' Try.prog w base (fun _ => true) held n 3 (([c0, c1, c2, c3, c4, c5, c6, c7, c8, c9, c10, c11, c12].drop 11).take (Try.prog.cellsOf 3)) = some y6 at g6
    rw [cellsInt1] at g6
    change DataW.trod enc' Try.prog w base (fun _ => true) held n 3 (([c0, c1, c2, c3, c4, c5, c6, c7, c8, c9, c10, c11, c12].drop 12).take (Try.prog.cellsOf 3)) = some y7 at g7
    rw [cellsInt1] at g7
    obtain ⟨bc, e0, _, hbc⟩ := DataW.trod_string Try.underlying9 g0
    obtain ⟨W, L, S, T, J, R, e1⟩ := trod_geoC g1
    obtain ⟨wo, e2, _⟩ := DataW.trod_bool Try.underlying4 g2
    obtain ⟨lk, e3, _⟩ := DataW.trod_bool Try.underlying4 g3
    obtain ⟨ad, cap, l, e4, h1, h2, h3, h4⟩ := trod_blocks (v := c9) g4
    obtain ⟨ep, e5, _, _⟩ := DataW.trod_int Try.underlying3 g5
    obtain ⟨lo, e6, _, _⟩ := DataW.trod_int Try.underlying3 g6
    obtain ⟨pa, e7, _, _⟩ := DataW.trod_int Try.underlying3 g7
    simp at e0 e1 e2 e3 e5 e6 e7
    obtain ⟨rfl, rfl, rfl, rfl, rfl, rfl⟩ := e1
    subst e0 e2 e3 e4 e5 e6 e7
    exact ⟨⟨bc, W, L, S, T, J, R, wo, lk, l, ep, lo, pa⟩, ad, cap, rfl, h1, h2, h3, h4, hbc⟩
end
end Go.Proofs.Ytlbnjojafaieoaa
