/-
  The law package's small.
  Lists of steps on drives that come in.
  Lists of cartridges that come in.
  The law package's few.
  SameBlocks and Same of the specification of drives.
  What the laws on drives share: cartridges and operations that are few, results of an operation in a box, sizes.
-/
import Derived.Test.YtepmmlnopdjjdaaCtVal
import Derived.Test.YtepmmlnopdjjdaaQCt
import Derived.Test.YtepmmlnopdjjdaaQStr
import Derived.Test.YtepmmlnopdjjdaaDrMem
import Derived.Test.YtepmmlnopdjjdaaDvLives
import Derived.Test.YtepmmlnopdjjdaaDrPrg
import Derived.Test.YtepmmlnopdjjdaaDrDoc
import Derived.Test.YtepmmlnopdjjdaaDrCopied
namespace Go.Proofs.Ytepmmlnopdjjdaa
open Go.RowKit
set_option linter.unusedVariables false
set_option maxRecDepth 100000
def smB (l : List Blk) : Bool := l.all fun b => decide (b.d.length ≤ 200)
theorem smB_iff {l : List Blk} : smB l = true ↔ ∀ b ∈ l, b.d.length ≤ 200 := by
  unfold smB
  rw [List.all_eq_true]
  simp only [decide_eq_true_eq]
theorem smB_no {l : List Blk} {i : Nat} (h : i < l.length) (h2 : 200 < l[i].d.length) : smB l = false := by
  cases hl : smB l with
  | false => rfl
  | true => have := smB_iff.1 hl _ (List.getElem_mem h); omega
attribute [local irreducible] smB
set_option maxRecDepth 100000 in
set_option maxHeartbeats 1000000 in
theorem small_any (ad : Option Addr) (n cap : Nat) (l : List Blk) (w : World) (hl : Ki w ad l) (hn : n = l.length) (hs : n ≤ 9223372036854775807) :
    Calls Try.prog 26 #[.slice ad n cap] w fun e w' => e = .returned (.bool (smB l)) ∧ w' = w := by
  have HL := Lib.hid hl
  have HN := Lib.hid hn
  have HNO := Lib.hid (fun i (h : i < l.length) => @smB_no l i h)
  have HY := Lib.hid (@smB_iff l)
  clear hl hn
  go_enter Try.func26, Try.ntmps26
  go_wp2
  go_loopg [3] n (fun gk vk wx => ∃ k : Nat, vk = .int .i64 k ∧ k + gk = n ∧ wx = w ∧ Hid (∀ j (h : j < l.length), j < k → l[j].d.length ≤ 200))
  case atStart => exact ⟨0, rfl, by omega, rfl, Lib.hid fun j _ hj => by omega⟩
  case round =>
    obtain ⟨k, rfl, hk, rfl, hall⟩ := hrel
    cases gk with
    | zero =>
      obtain rfl : k = n := by omega
      have HF := Lib.hid (HY.out.2 (fun b hb => by
        obtain ⟨j, hj, rfl⟩ := List.getElem_of_mem hb
        exact hall.out j hj (by rw [HN.out]; exact hj)))
      go_wp2
      go_ret
      exact ⟨by rw [HF.out]; rfl, rfl⟩
    | succ gk0 =>
      have hkn : k < n := by omega
      have hkl : k < l.length := by rw [← HN.out]; exact hkn
      obtain ⟨b, off, ad', cap', rfl, hlt, q0, q1, q2, qr⟩ := HL.out.get hkl
      clear qr q0 q1
      have HNX : l[k].d.length ≤ 200 → Hid (∀ j (h : j < l.length), j < k + 1 → l[j].d.length ≤ 200) := fun hc => Lib.hid fun j h hj => by
        rcases Nat.lt_or_ge j k with h3 | h3
        · exact hall.out j h h3
        · obtain rfl : j = k := by omega
          exact hc
      have HN2 : 200 < l[k].d.length → Hid (smB l = false) := fun hc => Lib.hid (HNO.out k hkl hc)
      generalize l[k].d.length = xn at *
      clear hkl
      by_cases hx : 200 < xn
      · have HR := HN2 hx
        clear HNX HN2
        go_wp2
        go_ret
        exact ⟨by rw [HR.out]; rfl, rfl⟩
      · have HR := HNX (by omega)
        clear HNX HN2
        go_wp2
        go_roundg gk0
        case rel => exact ⟨k + 1, by go_num, by omega, rfl, HR⟩
        case measure => omega
end Go.Proofs.Ytepmmlnopdjjdaa
namespace Go.Proofs.Ytepmmlnopdjjdaa
open Go.RowKit Go.ChangeShapes Go.WideShapes Go.Deep
set_option linter.unusedVariables false
set_option maxRecDepth 100000
/-- a step: its kind, its cartridge, its number, its blocks -/
structure St4 where
  k : Int
  i : Int
  n : Int
  z : List Blk
/-- a step, and where its blocks lie -/
structure Sp4 where
  x : St4
  ad : Option Addr
  cap : Nat
def st4C (x : St4) (ad : Option Addr) (cap : Nat) : List Value := [.int .i64 x.k, .int .i64 x.i, .int .i64 x.n, .slice ad x.z.length cap]
def Sp4.cells (k : Sp4) : List Value := st4C k.x k.ad k.cap
def cells4 (E : List Sp4) : List Value := E.flatMap Sp4.cells
theorem Sp4.len (k : Sp4) : k.cells.length = 4 := rfl
theorem cells4_cons (k : Sp4) (E : List Sp4) : cells4 (k :: E) = k.cells ++ cells4 E := by simp [cells4]
theorem cells4_length (E : List Sp4) : (cells4 E).length = E.length * 4 := by
  induction E with
  | nil => rfl
  | cons k E ih => rw [cells4_cons, List.length_append, ih, Sp4.len, List.length_cons]; omega
theorem cells4_at : ∀ (E : List Sp4) (i : Nat) (h : i < E.length) (j : Nat), j < 4 → (cells4 E)[i * 4 + j]? = E[i].cells[j]?
  | k :: E, 0, _, j, hj => by
    rw [cells4_cons, Nat.zero_mul, Nat.zero_add, List.getElem?_append_left (by rw [Sp4.len]; exact hj)]
    rfl
  | k :: E, i + 1, h, j, hj => by
    rw [cells4_cons, List.getElem?_append_right (by rw [Sp4.len]; omega), Sp4.len, show (i + 1) * 4 + j - 4 = i * 4 + j by omega]
    exact cells4_at E i (by simpa using h) j hj
/-- the blocks of the step lie -/
structure St4.In (w : World) (x : St4) (ad : Option Addr) (cap : Nat) : Prop where
  ki : Ki w ad x.z
  le : x.z.length ≤ cap
  mx : cap ≤ maxLen
  nn : ad = none → cap = 0
  n0 : -9223372036854775808 ≤ x.n
  n1 : x.n ≤ 9223372036854775807
theorem St4.In.below {w w' : World} {x : St4} {ad : Option Addr} {cap : Nat} (h : St4.In w x ad cap) (hb : Below w.heap.size w w') : St4.In w' x ad cap := ⟨h.ki.below hb, h.le, h.mx, h.nn, h.n0, h.n1⟩
def Sp4.In (w : World) (k : Sp4) : Prop := St4.In w k.x k.ad k.cap
/-- steps to be read -/
def Ks4 (w : World) (ad : Option Addr) (l : List St4) : Prop := ∃ E : List Sp4, E.map Sp4.x = l ∧ LieV w ad (cells4 E) ∧ ∀ k ∈ E, k.In w
theorem Ks4.below {w w' : World} {ad : Option Addr} {l : List St4} (h : Ks4 w ad l) (hb : Below w.heap.size w w') : Ks4 w' ad l := by
  obtain ⟨E, e, h1, h2⟩ := h
  exact ⟨E, e, h1.below hb, fun k hk => St4.In.below (h2 k hk) hb⟩
/-- the cells of the element i -/
theorem Ks4.get {w : World} {ad : Option Addr} {l : List St4} (h : Ks4 w ad l) {i : Nat} (hi : i < l.length) :
    ∃ b off ad' cap', ad = some ⟨b, off, none⟩ ∧ b < w.heap.size ∧ (∀ j, j < 4 → w.cell? ⟨b, off + i * 4 + j, none⟩ = (st4C l[i] ad' cap')[j]?) ∧ St4.In w l[i] ad' cap' := by
  obtain ⟨E, rfl, h1, h2⟩ := h
  rw [List.length_map] at hi
  rcases h1 with h0 | ⟨b, off, e, hlt, hc⟩
  · have := cells4_length E
    rw [h0] at this
    simp at this
    omega
  · have ho := h2 E[i] (List.getElem_mem hi)
    simp only [List.getElem_map]
    refine ⟨b, off, E[i].ad, E[i].cap, e, hlt, fun j hj => ?_, ho⟩
    have hg := cells4_at E i hi j hj
    have hl : j < E[i].cells.length := by rw [Sp4.len]; exact hj
    rw [List.getElem?_eq_getElem hl] at hg
    rw [Nat.add_assoc, hc _ _ hg]
    exact (List.getElem?_eq_getElem hl).symm
section
variable {H : Type} {enc' : TypeId × Value → H} {w : World} {base : Nat} {held : Bool}
theorem cellsStp4 : Try.prog.cellsOf 32 = 4 := by kernel_rfl
theorem trod_stp4 {fuel : Nat} {cs : List Value} {x : DataW H × List MemPlace} (h : DataW.trod enc' Try.prog w base (fun _ => true) held fuel 32 cs = some x) : ∃ k : Sp4, cs = k.cells ∧ k.In w := by
  have hone : ∀ fs, Try.prog.underlying 32 = some (.struct fs) → oneCellFields Try.prog fs = true := by
    intro fs hfs
    rw [Try.underlying32] at hfs
    cases hfs
    kernel_rfl
  have ho := hone _ Try.underlying32
  obtain ⟨xs, n, _, _, hlen, hxl, hf⟩ := DataW.trod_struct Try.underlying32 h
  rw [cellsStp4] at hlen
  match cs, hlen, xs, hxl with
  | [c0, c1, c2, c3], _, [y0, y1, y2, y3], _ =>
    have g0 := hf 0 _ rfl
    have g1 := hf 1 _ rfl
    have g2 := hf 2 _ rfl
    have g3 := hf 3 _ rfl
    rw [(hone_of ho 0 _ rfl).1, (hone_of ho 0 _ rfl).2] at g0
    rw [(hone_of ho 1 _ rfl).1, (hone_of ho 1 _ rfl).2] at g1
    rw [(hone_of ho 2 _ rfl).1, (hone_of ho 2 _ rfl).2] at g2
    rw [(hone_of ho 3 _ rfl).1, (hone_of ho 3 _ rfl).2] at g3
    obtain ⟨a, e0, _, wa⟩ := DataW.trod_int Try.underlying3 g0
    obtain ⟨b, e1, _, wb⟩ := DataW.trod_int Try.underlying3 g1
    obtain ⟨k, e2, _, wk⟩ := DataW.trod_int Try.underlying3 g2
    obtain ⟨ad, cap, d, e3, hl, h1, h2, h3⟩ := trod_blocks (v := c3) (by simpa using g3)
    simp at e0 e1 e2
    subst e0 e1 e2 e3
    have bb : -9223372036854775808 ≤ k ∧ k ≤ 9223372036854775807 := by simpa [Lit.wf, IntKind.min, IntKind.max, IntKind.signed, IntKind.bits] using wk
    exact ⟨⟨⟨a, b, k, d⟩, ad, cap⟩, rfl, hl, h1, h2, h3, bb.1, bb.2⟩
theorem open_steps4 {r : Reach} {b0 : Nat} {v : Value} {d : DataW H} {p : List MemPlace} (hv : Value.okWide Try.prog w r b0 36 v) (h : DataW.Trod enc' Try.prog w base (fun _ => true) held 36 v d p) :
    ∃ (ad : Option Addr) (cap : Nat) (l : List St4), v = .slice ad l.length cap ∧ Ks4 w ad l ∧ l.length ≤ cap ∧ cap ≤ maxLen := by
  obtain ⟨a, len, cap, rfl⟩ := okWide_slice Try.underlying36 hv
  obtain ⟨fuel, hf⟩ := h
  have hf := (show DataW.trod enc' Try.prog w base (fun _ => true) held fuel 36 [.slice a len cap] = some (d, p) by simpa [Value.cells] using hf)
  rcases open_slice Try.underlying36 hf with ⟨hcs, _⟩ | ⟨a', len, cap, m, n, D, Pl, hcs, hb, hl, hm, hmm, _, hi⟩
  · cases hcs
    exact ⟨none, 0, [], rfl, ⟨[], rfl, .inl rfl, fun k h => by simp at h⟩, Nat.le_refl _, Nat.zero_le _⟩
  · cases hcs
    have hlm : len ≤ m := by rw [hmm]; split <;> omega
    rw [cellsStp4] at hi
    have hx : ∀ i, ∃ k : Sp4, i < len → k.In w ∧ ∀ j, j < 4 → w.cell? ((a'.add (i * 4)).add j) = k.cells[j]? := by
      intro i
      by_cases h : i < len
      · obtain ⟨cs', hc, ht⟩ := hi i (by omega)
        obtain ⟨k, rfl, h1⟩ := trod_stp4 ht
        exact ⟨k, fun _ => ⟨h1, (World.cells?_some hc).2.2⟩⟩
      · exact ⟨⟨⟨0, 0, 0, []⟩, none, 0⟩, fun h' => absurd h' h⟩
    obtain ⟨f, hf'⟩ := Classical.axiomOfChoice hx
    refine ⟨some a', cap, ((List.range len).map f).map Sp4.x, by simp, ⟨(List.range len).map f, rfl, ?_, ?_⟩, by simpa using hl, hm⟩
    · by_cases h0 : len = 0
      · left; subst h0; rfl
      · right
        have hc0 := (hf' 0 (by omega)).2 0 (by omega)
        obtain ⟨b, off, spot⟩ := a'
        have hspot : spot = none := by
          have e0 : (⟨b, off, spot⟩ : Addr).add (0 * 4) = ⟨b, off, spot⟩ := rfl
          rw [e0] at hc0
          have e1 : (⟨b, off, spot⟩ : Addr).add 0 = ⟨b, off, spot⟩ := rfl
          rw [e1] at hc0
          exact World.cell?_spot (v := .int .i64 (f 0).x.k) hc0
        subst hspot
        have hget : ∀ i, i < len → ∀ j, j < 4 → w.cell? ⟨b, off + (i * 4 + j), none⟩ = (f i).cells[j]? := fun i hi j hj => by
          have := (hf' i hi).2 j hj
          rwa [Go.WideShapes.add_plain, Go.WideShapes.add_plain, Nat.add_assoc] at this
        refine ⟨b, off, rfl, ?_, fun j u hu => ?_⟩
        · have := hget 0 (by omega) 0 (by omega)
          rcases Nat.lt_or_ge b w.heap.size with h' | h'
          · exact h'
          · simp [World.cell?, Array.getElem?_eq_none h', Sp4.cells, st4C] at this
        · have hj : j < len * 4 := by
            have := (List.getElem?_eq_some_iff.1 hu).1
            rw [cells4_length] at this
            simpa using this
          have hq : j / 4 < len := by omega
          have hql : j / 4 < ((List.range len).map f).length := by simpa using hq
          have hg := cells4_at _ (j / 4) hql (j % 4) (by omega)
          have hfj : ((List.range len).map f)[j / 4] = f (j / 4) := by simp
          rw [hfj, show j / 4 * 4 + j % 4 = j by omega] at hg
          have hr := hget (j / 4) hq (j % 4) (by omega)
          rw [show j / 4 * 4 + j % 4 = j by omega] at hr
          rw [hr, ← hg]
          exact hu
    · intro k hk
      obtain ⟨i, hi', rfl⟩ := List.mem_map.1 hk
      exact (hf' i (by simpa using hi')).1
end
end Go.Proofs.Ytepmmlnopdjjdaa
namespace Go.Proofs.Ytepmmlnopdjjdaa
open Go.RowKit Go.ChangeShapes Go.WideShapes Go.Deep
set_option linter.unusedVariables false
set_option maxRecDepth 100000
/-- a cartridge, and where its blocks lie -/
structure Ck where
  x : Crt
  ad : Option Addr
  cap : Nat
def Ck.cells (k : Ck) : List Value := crC k.x k.ad k.cap
def cellsC (E : List Ck) : List Value := E.flatMap Ck.cells
theorem Ck.len (k : Ck) : k.cells.length = 13 := rfl
theorem cellsC_cons (k : Ck) (E : List Ck) : cellsC (k :: E) = k.cells ++ cellsC E := by simp [cellsC]
theorem cellsC_length (E : List Ck) : (cellsC E).length = E.length * 13 := by
  induction E with
  | nil => rfl
  | cons k E ih => rw [cellsC_cons, List.length_append, ih, Ck.len, List.length_cons]; omega
theorem cellsC_at : ∀ (E : List Ck) (i : Nat) (h : i < E.length) (j : Nat), j < 13 → (cellsC E)[i * 13 + j]? = E[i].cells[j]?
  | k :: E, 0, _, j, hj => by
    rw [cellsC_cons, Nat.zero_mul, Nat.zero_add, List.getElem?_append_left (by rw [Ck.len]; exact hj)]
    rfl
  | k :: E, i + 1, h, j, hj => by
    rw [cellsC_cons, List.getElem?_append_right (by rw [Ck.len]; omega), Ck.len, show (i + 1) * 13 + j - 13 = i * 13 + j by omega]
    exact cellsC_at E i (by simpa using h) j hj
/-- the blocks of the cartridge lie -/
def Ck.In (w : World) (k : Ck) : Prop := CrIn w k.x k.ad k.cap
/-- cartridges to be read -/
def Kcs (w : World) (ad : Option Addr) (l : List Crt) : Prop := ∃ E : List Ck, E.map Ck.x = l ∧ LieV w ad (cellsC E) ∧ ∀ k ∈ E, k.In w
theorem Kcs.below {w w' : World} {ad : Option Addr} {l : List Crt} (h : Kcs w ad l) (hb : Below w.heap.size w w') : Kcs w' ad l := by
  obtain ⟨E, e, h1, h2⟩ := h
  exact ⟨E, e, h1.below hb, fun k hk => CrIn.below (h2 k hk) hb⟩
/-- the cells of the element i -/
theorem Kcs.get {w : World} {ad : Option Addr} {l : List Crt} (h : Kcs w ad l) {i : Nat} (hi : i < l.length) :
    ∃ b off ad' cap', ad = some ⟨b, off, none⟩ ∧ b < w.heap.size ∧ (∀ j, j < 13 → w.cell? ⟨b, off + i * 13 + j, none⟩ = (crC l[i] ad' cap')[j]?) ∧ CrIn w l[i] ad' cap' := by
  obtain ⟨E, rfl, h1, h2⟩ := h
  rw [List.length_map] at hi
  rcases h1 with h0 | ⟨b, off, e, hlt, hc⟩
  · have := cellsC_length E
    rw [h0] at this
    simp at this
    omega
  · have ho := h2 E[i] (List.getElem_mem hi)
    simp only [List.getElem_map]
    refine ⟨b, off, E[i].ad, E[i].cap, e, hlt, fun j hj => ?_, ho⟩
    have hg := cellsC_at E i hi j hj
    have hl : j < E[i].cells.length := by rw [Ck.len]; exact hj
    rw [List.getElem?_eq_getElem hl] at hg
    rw [Nat.add_assoc, hc _ _ hg]
    exact (List.getElem?_eq_getElem hl).symm
section
variable {H : Type} {enc' : TypeId × Value → H} {w : World} {base : Nat} {held : Bool}
theorem trod_crt {fuel : Nat} {cs : List Value} {x : DataW H × List MemPlace} (h : DataW.trod enc' Try.prog w base (fun _ => true) held fuel 30 cs = some x) : ∃ k : Ck, cs = k.cells ∧ k.In w := by
  obtain ⟨xs, n, _, _, hlen, hxl, hf⟩ := DataW.trod_struct Try.underlying30 h
  rw [cellsCrt] at hlen
  match cs, hlen, xs, hxl with
  | [c0, c1, c2, c3, c4, c5, c6, c7, c8, c9, c10, c11, c12], _, [y0, y1, y2, y3, y4, y5, y6, y7], _ =>
    have g0 := hf 0 _ rfl
    have g1 := hf 1 _ rfl
    have g2 := hf 2 _ rfl
    have g3 := hf 3 _ rfl
    have g4 := hf 4 _ rfl
    have g5 := hf 5 _ rfl
    have g6 := hf 6 _ rfl
    have g7 := hf 7 _ rfl
    change DataW.trod enc' Try.prog w base (fun _ => true) held n 9 (([c0, c1, c2, c3, c4, c5, c6, c7, c8, c9, c10, c11, c12].drop 0).take (Try.prog.cellsOf 9)) = some y0 at g0
    rw [cellsStr1] at g0
    change DataW.trod enc' Try.prog w base (fun _ => true) held n 27 (([c0, c1, c2, c3, c4, c5, c6, c7, c8, c9, c10, c11, c12].drop 1).take (Try.prog.cellsOf 27)) = some y1 at g1
    rw [cellsGeo6] at g1
    change DataW.trod enc' Try.prog w base (fun _ => true) held n 4 (([c0, c1, c2, c3, c4, c5, c6, c7, c8, c9, c10, c11, c12].drop 7).take (Try.prog.cellsOf 4)) = some y2 at g2
    rw [cellsBool1] at g2
    change DataW.trod enc' Try.prog w base (fun _ => true) held n 4 (([c0, c1, c2, c3, c4, c5, c6, c7, c8, c9, c10, c11, c12].drop 8).take (Try.prog.cellsOf 4)) = some y3 at g3
    rw [cellsBool1] at g3
    change DataW.trod enc' Try.prog w base (fun _ => true) held n 28 (([c0, c1, c2, c3, c4, c5, c6, c7, c8, c9, c10, c11, c12].drop 9).take (Try.prog.cellsOf 28)) = some y4 at g4
    rw [cellsSl1] at g4
    change DataW.trod enc' Try.prog w base (fun _ => true) held n 3 (([c0, c1, c2, c3, c4, c5, c6, c7, c8, c9, c10, c11, c12].drop 10).take (Try.prog.cellsOf 3)) = some y5 at g5
    rw [cellsInt1] at g5
    change DataW.trod enc' Try.prog w base (fun _ => true) held n 3 (([c0, c1, c2, c3, c4, c5, c6, c7, c8, c9, c10, c11, c12].drop 11).take (Try.prog.cellsOf 3)) = some y6 at g6
    rw [cellsInt1] at g6
    change DataW.trod enc' Try.prog w base (fun _ => true) held n 3 (([c0, c1, c2, c3, c4, c5, c6, c7, c8, c9, c10, c11, c12].drop 12).take (Try.prog.cellsOf 3)) = some y7 at g7
    rw [cellsInt1] at g7
    obtain ⟨bc, e0, _, hbc⟩ := DataW.trod_string Try.underlying9 g0
    obtain ⟨W, L, S, T, J, R, e1⟩ := trod_geoC g1
    obtain ⟨wo, e2, _⟩ := DataW.trod_bool Try.underlying4 g2
    obtain ⟨lk, e3, _⟩ := DataW.trod_bool Try.underlying4 g3
    obtain ⟨ad, cap, l, e4, h1, h2, h3, h4⟩ := trod_blocks (v := c9) g4
    obtain ⟨ep, e5, _, _⟩ := DataW.trod_int Try.underlying3 g5
    obtain ⟨lo, e6, _, _⟩ := DataW.trod_int Try.underlying3 g6
    obtain ⟨pa, e7, _, _⟩ := DataW.trod_int Try.underlying3 g7
    simp at e0 e1 e2 e3 e5 e6 e7
    obtain ⟨rfl, rfl, rfl, rfl, rfl, rfl⟩ := e1
    subst e0 e2 e3 e4 e5 e6 e7
    exact ⟨⟨⟨bc, W, L, S, T, J, R, wo, lk, l, ep, lo, pa⟩, ad, cap⟩, rfl, h1, h2, h3, h4, hbc⟩
theorem open_crts {r : Reach} {b0 : Nat} {v : Value} {d : DataW H} {p : List MemPlace} (hv : Value.okWide Try.prog w r b0 35 v) (h : DataW.Trod enc' Try.prog w base (fun _ => true) held 35 v d p) :
    ∃ (ad : Option Addr) (cap : Nat) (l : List Crt), v = .slice ad l.length cap ∧ Kcs w ad l ∧ l.length ≤ cap ∧ cap ≤ maxLen := by
  obtain ⟨a, len, cap, rfl⟩ := okWide_slice Try.underlying35 hv
  obtain ⟨fuel, hf⟩ := h
  have hf := (show DataW.trod enc' Try.prog w base (fun _ => true) held fuel 35 [.slice a len cap] = some (d, p) by simpa [Value.cells] using hf)
  rcases open_slice Try.underlying35 hf with ⟨hcs, _⟩ | ⟨a', len, cap, m, n, D, Pl, hcs, hb, hl, hm, hmm, _, hi⟩
  · cases hcs
    exact ⟨none, 0, [], rfl, ⟨[], rfl, .inl rfl, fun k h => by simp at h⟩, Nat.le_refl _, Nat.zero_le _⟩
  · cases hcs
    have hlm : len ≤ m := by rw [hmm]; split <;> omega
    rw [cellsCrt] at hi
    have hx : ∀ i, ∃ k : Ck, i < len → k.In w ∧ ∀ j, j < 13 → w.cell? ((a'.add (i * 13)).add j) = k.cells[j]? := by
      intro i
      by_cases h : i < len
      · obtain ⟨cs', hc, ht⟩ := hi i (by omega)
        obtain ⟨k, rfl, h1⟩ := trod_crt ht
        exact ⟨k, fun _ => ⟨h1, (World.cells?_some hc).2.2⟩⟩
      · exact ⟨⟨⟨⟨#[]⟩, 0, 0, 0, 0, 0, 0, false, false, [], 0, 0, 0⟩, none, 0⟩, fun h' => absurd h' h⟩
    obtain ⟨f, hf'⟩ := Classical.axiomOfChoice hx
    refine ⟨some a', cap, ((List.range len).map f).map Ck.x, by simp, ⟨(List.range len).map f, rfl, ?_, ?_⟩, by simpa using hl, hm⟩
    · by_cases h0 : len = 0
      · left; subst h0; rfl
      · right
        have hc0 := (hf' 0 (by omega)).2 0 (by omega)
        obtain ⟨b, off, spot⟩ := a'
        have hspot : spot = none := by
          have e0 : (⟨b, off, spot⟩ : Addr).add (0 * 13) = ⟨b, off, spot⟩ := rfl
          rw [e0] at hc0
          have e1 : (⟨b, off, spot⟩ : Addr).add 0 = ⟨b, off, spot⟩ := rfl
          rw [e1] at hc0
          exact World.cell?_spot (v := .string (f 0).x.bc) hc0
        subst hspot
        have hget : ∀ i, i < len → ∀ j, j < 13 → w.cell? ⟨b, off + (i * 13 + j), none⟩ = (f i).cells[j]? := fun i hi j hj => by
          have := (hf' i hi).2 j hj
          rwa [Go.WideShapes.add_plain, Go.WideShapes.add_plain, Nat.add_assoc] at this
        refine ⟨b, off, rfl, ?_, fun j u hu => ?_⟩
        · have := hget 0 (by omega) 0 (by omega)
          rcases Nat.lt_or_ge b w.heap.size with h' | h'
          · exact h'
          · simp [World.cell?, Array.getElem?_eq_none h', Ck.cells, crC] at this
        · have hj : j < len * 13 := by
            have := (List.getElem?_eq_some_iff.1 hu).1
            rw [cellsC_length] at this
            simpa using this
          have hq : j / 13 < len := by omega
          have hql : j / 13 < ((List.range len).map f).length := by simpa using hq
          have hg := cellsC_at _ (j / 13) hql (j % 13) (by omega)
          have hfj : ((List.range len).map f)[j / 13] = f (j / 13) := by simp
          rw [hfj, show j / 13 * 13 + j % 13 = j by omega] at hg
          have hr := hget (j / 13) hq (j % 13) (by omega)
          rw [show j / 13 * 13 + j % 13 = j by omega] at hr
          rw [hr, ← hg]
          exact hu
    · intro k hk
      obtain ⟨i, hi', rfl⟩ := List.mem_map.1 hk
      exact (hf' i (by simpa using hi')).1
end
end Go.Proofs.Ytepmmlnopdjjdaa
namespace Go.Proofs.Ytepmmlnopdjjdaa
open Go.RowKit
set_option linter.unusedVariables false
set_option maxRecDepth 100000
def okC (c : Crt) : Bool := decide (c.l.length ≤ 200) && smB c.l
def okS (s : St4) : Bool := decide (s.z.length ≤ 60) && smB s.z
def fewB (cs : List Crt) (ls : List St4) (most : Int) : Bool := (decide (cs.length ≤ 4) && decide ((ls.length : Int) ≤ most)) && (cs.all okC && ls.all okS)
theorem all_no {α : Type} {p : α → Bool} {l : List α} {i : Nat} (h : i < l.length) (h2 : p l[i] = false) : l.all p = false := by
  rw [List.all_eq_false]
  exact ⟨l[i], List.getElem_mem h, by rw [h2]; simp⟩
theorem all_yes {α : Type} {p : α → Bool} {l : List α} (h : ∀ j (h : j < l.length), p l[j] = true) : l.all p = true := by
  rw [List.all_eq_true]
  intro x hx
  obtain ⟨j, hj, rfl⟩ := List.getElem_of_mem hx
  exact h j hj
attribute [local irreducible] smB okC okS fewB
set_option maxRecDepth 100000 in
set_option maxHeartbeats 4000000 in
theorem few_any (ad : Option Addr) (n cap : Nat) (cs : List Crt) (sd : Option Addr) (sn sc : Nat) (ls : List St4) (most : Int) (w : World) (hc : Kcs w ad cs) (hn : n = cs.length) (hs : Ks4 w sd ls) (hsn : sn = ls.length) (hm : n ≤ 9223372036854775807) (hm2 : sn ≤ 9223372036854775807) :
    Calls Try.prog 9 #[.slice ad n cap, .slice sd sn sc, .int .i64 most] w fun e w' => e = .returned (.bool (fewB cs ls most)) ∧ w' = w := by
  have HF := Lib.hid (show fewB cs ls most = ((decide (n ≤ 4) && decide ((sn : Int) ≤ most)) && (cs.all okC && ls.all okS)) by unfold fewB; rw [hn, hsn])
  have HC := Lib.hid hc
  have HS := Lib.hid hs
  have HN := Lib.hid hn
  have HSN := Lib.hid hsn
  have HOC := Lib.hid (fun (c : Crt) => show okC c = (decide (c.l.length ≤ 200) && smB c.l) by unfold okC; rfl)
  have HOS := Lib.hid (fun (s : St4) => show okS s = (decide (s.z.length ≤ 60) && smB s.z) by unfold okS; rfl)
  clear hc hs hn hsn
  by_cases h4 : 4 < n
  · have HR := Lib.hid (show fewB cs ls most = false by rw [HF.out, decide_eq_false (by omega)]; rfl)
    go_enter Try.func9, Try.ntmps9
    go_wp2
    go_ret
    exact ⟨by rw [HR.out]; rfl, rfl⟩
  by_cases hmo : most < (sn : Int)
  · have HR := Lib.hid (show fewB cs ls most = false by rw [HF.out, decide_eq_false (by omega : ¬ (sn : Int) ≤ most), Bool.and_false]; rfl)
    go_enter Try.func9, Try.ntmps9
    go_wp2
    go_ret
    exact ⟨by rw [HR.out]; rfl, rfl⟩
  replace HF := Lib.hid (show fewB cs ls most = (cs.all okC && ls.all okS) by rw [HF.out, decide_eq_true (by omega), decide_eq_true (by omega : (sn : Int) ≤ most)]; rfl)
  have d1 : decide (4 < n) = false := decide_eq_false (by omega)
  have d2 : decide (most < (sn : Int)) = false := decide_eq_false (by omega)
  have d3 : decide ((4 : Int) < (n : Int)) = false := decide_eq_false (by omega)
  go_enter Try.func9, Try.ntmps9
  go_wp2
  go_loopg [7] n (fun gk vk wx => ∃ k : Nat, vk = .int .i64 k ∧ k + gk = n ∧ wx = w ∧ Hid (∀ j (h : j < cs.length), j < k → okC cs[j] = true))
  case atStart => exact ⟨0, rfl, by omega, rfl, Lib.hid fun j _ hj => by omega⟩
  case round =>
    obtain ⟨k, rfl, hk, rfl, hall⟩ := hrel
    cases gk with
    | succ gk0 =>
      have hkn : k < n := by omega
      have hkl : k < cs.length := by rw [← HN.out]; exact hkn
      obtain ⟨b, off, ad', cap', rfl, hlt, hq, hin⟩ := HC.out.get hkl
      have q9 : wr.cell? ⟨b, off + k * 13 + 9, none⟩ = some (.slice ad' cs[k].l.length cap') := hq 9 (by omega)
      have HNX : okC cs[k] = true → Hid (∀ j (h : j < cs.length), j < k + 1 → okC cs[j] = true) := fun hc => Lib.hid fun j h hj => by
        rcases Nat.lt_or_ge j k with h3 | h3
        · exact hall.out j h h3
        · obtain rfl : j = k := by omega
          exact hc
      have HNO : okC cs[k] = false → Hid (fewB cs ls most = false) := fun hc => Lib.hid (by rw [HF.out, all_no hkl hc]; rfl)
      have HOK := Lib.hid (HOC.out cs[k])
      generalize cs[k] = x at *
      have HIN := Lib.hid hin
      have HMX := Lib.hid (show x.l.length ≤ 9223372036854775807 from Nat.le_trans hin.le hin.mx)
      have HSM := Lib.hid (fun m (hm : m = x.l.length) => small_any ad' m cap' x.l wr HIN.out.ki hm (by rw [hm]; exact HMX.out))
      obtain ⟨M, hM⟩ : ∃ M, M = x.l.length := ⟨_, rfl⟩
      have HSM2 := Lib.hid (HSM.out M hM)
      rw [← hM] at q9 HOK
      generalize smB x.l = sb at *
      clear hkl hq hin hM
      by_cases h200 : 200 < M
      · have HR := HNO (by rw [HOK.out, decide_eq_false (by omega)]; rfl)
        clear HNX HNO
        go_wp2
        go_ret
        exact ⟨by rw [HR.out]; rfl, rfl⟩
      have d200 : decide ((200 : Int) < (M : Int)) = false := decide_eq_false (by omega)
      go_wp2_with fail
      refine HSM2.out.mono ?_
      rintro e w1 ⟨rfl, rfl⟩
      cases sb
      · have HR := HNO (by rw [HOK.out, Bool.and_false])
        clear HNX HNO
        go_wp2
        go_ret
        exact ⟨by rw [HR.out]; rfl, rfl⟩
      · have HR := HNX (by rw [HOK.out, decide_eq_true (by omega)]; rfl)
        clear HNX HNO
        go_wp2
        go_roundg gk0
        case rel => exact ⟨k + 1, by go_num, by omega, rfl, HR⟩
        case measure => omega
    | zero =>
      obtain rfl : k = n := by omega
      have HA := Lib.hid (all_yes (p := okC) (l := cs) (fun j hj => hall.out j hj (by rw [HN.out]; exact hj)))
      replace HF := Lib.hid (show fewB cs ls most = ls.all okS by rw [HF.out, HA.out]; rfl)
      clear hall
      obtain ⟨w0, hw0⟩ : ∃ w0, w0 = wr := ⟨_, rfl⟩
      subst hw0
      go_wp2
      go_loopg [8] sn (fun gk vk wx => ∃ k2 : Nat, vk = .int .i64 k2 ∧ k2 + gk = sn ∧ wx = w0 ∧ Hid (∀ j (h : j < ls.length), j < k2 → okS ls[j] = true))
      case atStart => exact ⟨0, rfl, by omega, rfl, Lib.hid fun j _ hj => by omega⟩
      case round =>
        obtain ⟨k2, rfl, hk2, rfl, hall⟩ := hrel
        cases gk with
        | zero =>
          obtain rfl : k2 = sn := by omega
          have HA2 := Lib.hid (all_yes (p := okS) (l := ls) (fun j hj => hall.out j hj (by rw [HSN.out]; exact hj)))
          have HR := Lib.hid (show fewB cs ls most = true by rw [HF.out, HA2.out])
          go_wp2
          go_ret
          exact ⟨by rw [HR.out]; rfl, rfl⟩
        | succ gk1 =>
          have hkn : k2 < sn := by omega
          have hkl : k2 < ls.length := by rw [← HSN.out]; exact hkn
          obtain ⟨b, off, ad', cap', rfl, hlt, hq, hin⟩ := HS.out.get hkl
          have q3 := hq 3 (by omega)
          rw [show (st4C ls[k2] ad' cap')[3]? = some (.slice ad' ls[k2].z.length cap') from rfl] at q3
          have HNX : okS ls[k2] = true → Hid (∀ j (h : j < ls.length), j < k2 + 1 → okS ls[j] = true) := fun hc => Lib.hid fun j h hj => by
            rcases Nat.lt_or_ge j k2 with h3 | h3
            · exact hall.out j h h3
            · obtain rfl : j = k2 := by omega
              exact hc
          have HNO : okS ls[k2] = false → Hid (fewB cs ls most = false) := fun hc => Lib.hid (by rw [HF.out, all_no hkl hc])
          have HOK := Lib.hid (HOS.out ls[k2])
          generalize ls[k2] = x at *
          have HIN := Lib.hid hin
          have HMX := Lib.hid (show x.z.length ≤ 9223372036854775807 from Nat.le_trans hin.le hin.mx)
          have HSM := Lib.hid (fun m (hm : m = x.z.length) => small_any ad' m cap' x.z _ HIN.out.ki hm (by rw [hm]; exact HMX.out))
          obtain ⟨M, hM⟩ : ∃ M, M = x.z.length := ⟨_, rfl⟩
          have HSM2 := Lib.hid (HSM.out M hM)
          rw [← hM] at q3 HOK
          generalize smB x.z = sb at *
          clear hkl hq hin hM
          by_cases h60 : 60 < M
          · have HR := HNO (by rw [HOK.out, decide_eq_false (by omega)]; rfl)
            clear HNX HNO
            go_wp2
            go_ret
            exact ⟨by rw [HR.out]; rfl, rfl⟩
          have d60 : decide ((60 : Int) < (M : Int)) = false := decide_eq_false (by omega)
          go_wp2_with fail
          refine HSM2.out.mono ?_
          rintro e w1 ⟨rfl, rfl⟩
          cases sb
          · have HR := HNO (by rw [HOK.out, Bool.and_false])
            clear HNX HNO
            go_wp2
            go_ret
            exact ⟨by rw [HR.out]; rfl, rfl⟩
          · have HR := HNX (by rw [HOK.out, decide_eq_true (by omega)]; rfl)
            clear HNX HNO
            go_wp2
            go_roundg gk1
            case rel => exact ⟨k2 + 1, by go_num, by omega, rfl, HR⟩
            case measure => omega
end Go.Proofs.Ytepmmlnopdjjdaa
namespace Go.Proofs.Ytepmmlnopdjjdaa
open Go.RowKit
set_option linter.unusedVariables false
attribute [local irreducible] eqK
set_option maxRecDepth 100000 in
set_option maxHeartbeats 4000000 in
theorem rdsame_any (ad bd : Option Addr) (n m cap mcap : Nat) (l k : List Blk) (w : World) (h1 : Ki w ad l) (h2 : Ki w bd k) (hn : n = l.length) (hm : m = k.length) (hs : n ≤ 100000) :
    Calls Try.prog 14 #[.slice ad n cap, .slice bd m mcap] w fun e w' => e = .returned (.bool (eqK l k)) ∧ Below w.heap.size w w' := by
  have H1 := Lib.hid h1
  have H2 := Lib.hid h2
  have HN := Lib.hid hn
  have HM := Lib.hid hm
  by_cases hnm : n = m
  rotate_left
  · have HF := Lib.hid (eqK_no (l := l) (m := k) (fun e => by subst e; omega))
    have hnm2 : ((n : Int) == (m : Int)) = false := by rw [beq_eq_false_iff_ne]; omega
    clear h1 h2 hn hm
    go_enter Try.func14, Try.ntmps14
    go_wp2
    go_ret
    exact ⟨by rw [HF.out]; rfl, Below.refl _ _⟩
  subst hnm
  clear h1 h2 hn hm
  go_enter Try.func14, Try.ntmps14
  go_wp2
  go_loopg [5] n (fun gk vk wx => ∃ i : Nat, i + gk = n ∧ vk = .int .i64 i ∧ Hid (∀ j (h : j < l.length) (h' : j < k.length), j < i → l[j] = k[j]) ∧ Hid (Below w.heap.size w wx))
  case atStart => exact ⟨0, by omega, rfl, Lib.hid fun j _ _ hj => by omega, Lib.hid (Below.refl _ _)⟩
  case round =>
    obtain ⟨i, hi, rfl, hall, hB⟩ := hrel
    cases gk with
    | zero =>
      obtain rfl : i = n := by omega
      have HR := Lib.hid (eqK_all (l := l) (m := k) (by have := HN.out; have := HM.out; omega) fun j h h' => hall.out j h h' (by have := HN.out; omega))
      go_wp2
      go_ret
      exact ⟨by rw [HR.out]; rfl, hB.out⟩
    | succ gk0 =>
      have hin : (i : Int) < (n : Int) := by omega
      have hil : i < l.length := by have := HN.out; omega
      have hik : i < k.length := by have := HM.out; omega
      obtain ⟨b, off, ad', cap', rfl, hlt, p0, p1, p2, hp, _⟩ := (H1.out.below hB.out).get hil
      obtain ⟨b2, off2, bd', cap2, rfl, hlt2, q0, q1, q2, hq, _⟩ := (H2.out.below hB.out).get hik
      have HNX : l[i] = k[i] → Hid (∀ j (h : j < l.length) (h' : j < k.length), j < i + 1 → l[j] = k[j]) := fun he => Lib.hid fun j h h' hj => by
        rcases Nat.lt_or_ge j i with h3 | h3
        · exact hall.out j h h' h3
        · obtain rfl : j = i := by omega
          exact he
      have HNO := Lib.hid (fun h => eqK_at (l := l) (m := k) hil hik h)
      have HEQ := Lib.hid (fun a b c => HNX (blk_eq a b c))
      have cv1 : ∀ z, (convert 59 9 (.slice ad' l[i].d.length cap')).run Try.prog (wr.drewN z) = .ok (.string ⟨l[i].d.toArray⟩) (wr.drewN z) := fun z => conv_lie cap' (hp.drewN z)
      have cv2 : ∀ z, (convert 59 9 (.slice bd' k[i].d.length cap2)).run Try.prog (wr.drewN z) = .ok (.string ⟨k[i].d.toArray⟩) (wr.drewN z) := fun z => conv_lie cap2 (hq.drewN z)
      clear HNX hp hq
      generalize l[i].m = xm at *
      generalize l[i].bad = xb at *
      generalize k[i].m = ym at *
      generalize k[i].bad = yb at *
      by_cases e1 : xm = ym
      rotate_left
      · have HR := Lib.hid (HNO.out (.inl e1))
        have hm1 : (xm == ym) = false := by rw [beq_eq_false_iff_ne]; exact e1
        clear HNO HEQ e1
        go_wp2_with fail
        go_quiet (fail)
        go_wp2
        go_ret
        exact ⟨by rw [HR.out]; rfl, below_drewN hB.out _⟩
      subst e1
      have hm1 : (xm == xm) = true := by simp
      by_cases e2 : xb = yb
      rotate_left
      · have HR := Lib.hid (HNO.out (.inr (.inl e2)))
        have hm2 : (xb == yb) = false := by rw [beq_eq_false_iff_ne]; exact e2
        clear HNO HEQ e2
        go_wp2_with fail
        go_quiet (fail)
        go_wp2
        go_ret
        exact ⟨by rw [HR.out]; rfl, below_drewN hB.out _⟩
      subst e2
      have hm2 : (xb == xb) = true := by simp
      by_cases e3 : l[i].d = k[i].d
      rotate_left
      · have HR := Lib.hid (HNO.out (.inr (.inr e3)))
        have hst := textC_beq (textC_inj e3)
        clear HNO HEQ e3
        generalize (⟨l[i].d.toArray⟩ : ByteArray) = TS at *
        generalize (⟨k[i].d.toArray⟩ : ByteArray) = TT at *
        go_wp2_with fail
        go_quiet (fail)
        go_wp2
        go_ret
        exact ⟨by rw [HR.out]; rfl, below_drewN hB.out _⟩
      · have HR := HEQ.out rfl rfl e3
        rw [← e3] at cv2 q2
        clear e3
        clear HNO HEQ
        generalize (⟨l[i].d.toArray⟩ : ByteArray) = TS at *
        have hst : (TS.toList == TS.toList) = true := by simp
        go_wp2_with fail
        go_quiet (fail)
        go_wp2
        go_roundg gk0
        case rel => exact ⟨i + 1, by omega, by go_num, HR, Lib.hid (below_drewN hB.out _)⟩
        case measure => omega
attribute [local irreducible] tim vld bar cnt okB capU allB vldC
set_option maxRecDepth 100000 in
set_option maxHeartbeats 4000000 in
theorem rdsamec_any (c : Crt) (ad bd : Option Addr) (cap cap2 : Nat) (w : World) (h1 : Ki w ad c.l) (h2 : Ki w bd c.l) (hs : c.l.length ≤ 100000) :
    Calls Try.prog 13 #[crV c ad cap, crV c bd cap2] w fun e w' => e = .returned (.bool true) ∧ Below w.heap.size w w' := by
  obtain ⟨bc, W, L, S, T, J, R, wo, lk, l, ep, lo, pa⟩ := c
  simp only at h1 h2 hs
  show Calls Try.prog 13 #[crW bc W L S T J R wo lk ad l.length cap ep lo pa, crW bc W L S T J R wo lk bd l.length cap2 ep lo pa] w _
  obtain ⟨M, hM⟩ : ∃ M, M = l.length := ⟨_, rfl⟩
  have HE := Lib.hid (eqK_yes (rfl : l = l))
  have HM := Lib.hid hM
  rw [← hM] at hs ⊢
  clear hM
  have HB0 := Lib.hid (below_box2 w (boxK bc W L S T J R wo lk ad M cap ep lo pa) (boxK bc W L S T J R wo lk bd M cap2 ep lo pa))
  have HC := Lib.hid ((CrAt.new w bc W L S T J R wo lk ad M cap ep lo pa 30).alloc (boxK bc W L S T J R wo lk bd M cap2 ep lo pa))
  have HD := Lib.hid (CrAt.new (w.alloc (boxK bc W L S T J R wo lk ad M cap ep lo pa)) bc W L S T J R wo lk bd M cap2 ep lo pa 30)
  simp only [World.size_alloc] at HD
  have H1 := Lib.hid (h1.below HB0.out)
  have H2 := Lib.hid (h2.below HB0.out)
  clear h1 h2
  go_enter Try.func13, Try.ntmps13
  go_wp2_with fail
  generalize World.alloc _ _ = X0 at *
  obtain ⟨_, k0, k1, k2, k3, k4, k5, k6, k7, k8, k9, k10, k11, k12⟩ := HC.out
  obtain ⟨_, q0, q1, q2, q3, q4, q5, q6, q7, q8, q9, q10, q11, q12⟩ := HD.out
  go_wp2_with fail
  clear k0 k1 k2 k3 k4 k5 k6 k7 k8 k9 k10 k11 k12 q0 q1 q2 q3 q4 q5 q6 q7 q8 q9 q10 q11 q12
  refine (rdsame_any ad bd M M cap cap2 l l X0 H1.out H2.out HM.out HM.out hs).mono ?_
  rw [HE.out]
  rintro e w1 ⟨rfl, hb⟩
  have HB1 := Lib.hid (HB0.out.trans (hb.mono HB0.out.size))
  obtain ⟨_, k0, k1, k2, k3, k4, k5, k6, k7, k8, k9, k10, k11, k12⟩ := HC.out.below hb HC.out.lt
  obtain ⟨_, q0, q1, q2, q3, q4, q5, q6, q7, q8, q9, q10, q11, q12⟩ := HD.out.below hb HD.out.lt
  clear hb
  go_wp2
  go_ret
  exact ⟨rfl, HB1.out⟩
end Go.Proofs.Ytepmmlnopdjjdaa
namespace Go.Proofs.Ytepmmlnopdjjdaa
open Go.RowKit
set_option linter.unusedVariables false
set_option linter.unusedSimpArgs false
set_option maxRecDepth 100000
section
variable {w w' X Y : World} {S T : Nat → Prop} {ad : Option Addr} {l : List Blk}
/-- one cartridge, one operation, in new cells -/
theorem kcs_one {g : Nat} {c : Crt} {cap : Nat} (h : X.heap[g]? = some (.cells (crQ c ad cap) 30 (0, 0))) (hi : CrIn X c ad cap) : Kcs X (some ⟨g, 0, none⟩) [c] := by
  refine ⟨[⟨c, ad, cap⟩], rfl, .inr ⟨g, 0, rfl, (Array.getElem?_eq_some_iff.1 h).1, fun j u hu => ?_⟩, fun k hk => ?_⟩
  · rw [Nat.zero_add, row_cell h j]
    simpa [cellsC, Ck.cells, crC] using hu
  · have e : k = ⟨c, ad, cap⟩ := by simpa using hk
    rw [e]
    exact hi
theorem ks4_one {g : Nat} {s : St4} {cap : Nat} (h : X.heap[g]? = some (.cells #[.int .i64 s.k, .int .i64 s.i, .int .i64 s.n, .slice ad s.z.length cap] 32 (0, 0))) (hi : St4.In X s ad cap) : Ks4 X (some ⟨g, 0, none⟩) [s] := by
  refine ⟨[⟨s, ad, cap⟩], rfl, .inr ⟨g, 0, rfl, (Array.getElem?_eq_some_iff.1 h).1, fun j u hu => ?_⟩, fun k hk => ?_⟩
  · rw [Nat.zero_add, row_cell h j]
    simpa [cells4, Sp4.cells, st4C] using hu
  · have e : k = ⟨s, ad, cap⟩ := by simpa using hk
    rw [e]
    exact hi
/-- blocks that lie outside of S, beside a new box -/
theorem KnoS.add (h : KnoS X S ad l) (o : Obj) (hT : ∀ k, T k → S k ∨ k = X.heap.size) : KnoS (X.alloc o) T ad l := fun Z hZ hs => h Z (fun k hk hlt => (hZ k (fun ht => (hT k ht).elim hk (fun e => by omega)) (by simp; omega)).trans (Below.heap_alloc X o k hlt)) (Nat.le_trans (by simp) hs)
theorem KnoS.of_fr {C : Nat} (h : Kfr X C ad l) (hS : ∀ k, S k → k < C) : KnoS X S ad l := fun Z hZ hs => h Z (fun k hk hlt => hZ k (fun hs => by have := hS k hs; omega) hlt) hs
theorem KnoS.row {g : Nat} {cs : Array Value} (h : KnoS X S ad l) (hg : S g) : KnoS (X.setRow g cs) S ad l := h.step (fun k hk _ => setRow_other _ _ _ _ (fun e => hk (e ▸ hg))) (by simp [World.setRow])
end
theorem okC_iff {c : Crt} : okC c = true ↔ c.l.length ≤ 200 ∧ ∀ b ∈ c.l, b.d.length ≤ 200 := by unfold okC; rw [Bool.and_eq_true, decide_eq_true_iff, smB_iff]
theorem okS_iff {s : St4} : okS s = true ↔ s.z.length ≤ 60 ∧ ∀ b ∈ s.z, b.d.length ≤ 200 := by unfold okS; rw [Bool.and_eq_true, decide_eq_true_iff, smB_iff]
theorem fewB_iff {cs : List Crt} {ls : List St4} {most : Int} : fewB cs ls most = true ↔ (cs.length ≤ 4 ∧ (ls.length : Int) ≤ most) ∧ (∀ c ∈ cs, okC c = true) ∧ ∀ s ∈ ls, okS s = true := by
  unfold fewB
  rw [Bool.and_eq_true, Bool.and_eq_true, Bool.and_eq_true, decide_eq_true_iff, decide_eq_true_iff, List.all_eq_true, List.all_eq_true]
/-- how many blocks an operation leaves, and hands back -/
theorem stU_len (m : Mdl) (d : Drv) (c : Crt) (k n : Int) (z : List Blk) : (stU m d c k n z).c.l.length ≤ c.l.length + z.length ∧ (stU m d c k n z).l.length ≤ c.l.length := by
  have hz : crZ.l.length = 0 := rfl
  unfold stU
  by_cases h0 : k = 0
  · rw [if_pos h0]
    unfold ldU
    repeat' split
    all_goals (refine ⟨?_, Nat.zero_le _⟩; dsimp only; first | omega | exact Nat.zero_le _)
  rw [if_neg h0]
  by_cases h1 : k = 1
  · rw [if_pos h1]
    unfold ulU
    split
    all_goals (refine ⟨?_, Nat.zero_le _⟩; dsimp only; first | (rw [mvC_l]; omega) | exact Nat.zero_le _)
  rw [if_neg h1]
  by_cases h2 : k = 2
  · rw [if_pos h2]
    unfold skU
    repeat' split
    all_goals (refine ⟨?_, Nat.zero_le _⟩; dsimp only; first | (rw [mvC_l]; omega) | exact Nat.zero_le _)
  rw [if_neg h2]
  by_cases h3 : k = 3
  · rw [if_pos h3]
    unfold rdU
    repeat' split
    all_goals (refine ⟨?_, ?_⟩ <;> dsimp only <;> first | (rw [mvC_l]; omega) | exact Nat.zero_le _ | (unfold rdR; exact Nat.le_trans (rdk_len _ _) (by rw [List.length_drop]; omega)))
  rw [if_neg h3]
  by_cases h4 : k = 4
  · rw [if_pos h4]
    unfold wrU
    by_cases hf : fstU m d c = 0
    · rw [if_pos hf]
      by_cases hw : worn m c = true
      · rw [if_pos hw]; exact ⟨Nat.zero_le _, Nat.zero_le _⟩
      rw [if_neg hw]
      by_cases hz0 : z = []
      · rw [if_pos hz0]; exact ⟨Nat.zero_le _, Nat.zero_le _⟩
      rw [if_neg hz0]
      by_cases hr : (wriC (vldC c) c d.hd z).2 = 0
      · rw [if_pos hr]
        refine ⟨?_, Nat.zero_le _⟩
        dsimp only
        rw [mvC_l, (wri_is hr).2.2.2.2.2]
        show (if z = [] then c.l else c.l.take d.hd.toNat ++ z).length ≤ _
        rw [if_neg hz0, List.length_append, List.length_take]
        omega
      · rw [if_neg hr]; exact ⟨Nat.zero_le _, Nat.zero_le _⟩
    · rw [if_neg hf]; exact ⟨Nat.zero_le _, Nat.zero_le _⟩
  rw [if_neg h4]
  exact ⟨Nat.le_add_right _ _, Nat.zero_le _⟩
/-- the cells of an operation's result -/
structure DnAt (X : World) (g : Nat) (d : Drv) (c : Crt) (ad : Option Addr) (n cap : Nat) (zd : Option Addr) (zn zc : Nat) (t e : Int) : Prop where
  lt : g < X.heap.size
  e0 : X.cell? ⟨g, 0, none⟩ = some (.int .i64 d.st)
  e1 : X.cell? ⟨g, 1, none⟩ = some (.string d.bc)
  e2 : X.cell? ⟨g, 2, none⟩ = some (.int .i64 d.hd)
  e3 : X.cell? ⟨g, 3, none⟩ = some (.int .i64 d.lo)
  e4 : X.cell? ⟨g, 4, none⟩ = some (.int .i64 d.pa)
  e5 : X.cell? ⟨g, 5, none⟩ = some (.int .i64 d.si)
  e6 : X.cell? ⟨g, 6, none⟩ = some (.string c.bc)
  e7 : X.cell? ⟨g, 7, none⟩ = some (.int .i64 c.W)
  e8 : X.cell? ⟨g, 8, none⟩ = some (.int .i64 c.L)
  e9 : X.cell? ⟨g, 9, none⟩ = some (.int .i64 c.S)
  e10 : X.cell? ⟨g, 10, none⟩ = some (.int .i64 c.T)
  e11 : X.cell? ⟨g, 11, none⟩ = some (.int .i64 c.J)
  e12 : X.cell? ⟨g, 12, none⟩ = some (.int .i64 c.R)
  e13 : X.cell? ⟨g, 13, none⟩ = some (.bool c.wo)
  e14 : X.cell? ⟨g, 14, none⟩ = some (.bool c.lk)
  e15 : X.cell? ⟨g, 15, none⟩ = some (.slice ad n cap)
  e16 : X.cell? ⟨g, 16, none⟩ = some (.int .i64 c.ep)
  e17 : X.cell? ⟨g, 17, none⟩ = some (.int .i64 c.lo)
  e18 : X.cell? ⟨g, 18, none⟩ = some (.int .i64 c.pa)
  e19 : X.cell? ⟨g, 19, none⟩ = some (.slice zd zn zc)
  e20 : X.cell? ⟨g, 20, none⟩ = some (.int .i64 t)
  e21 : X.cell? ⟨g, 21, none⟩ = some (.int .i64 e)
theorem DnAt.of {X : World} {g : Nat} {d : Drv} {c : Crt} {ad : Option Addr} {n cap : Nat} {zd : Option Addr} {zn zc : Nat} {t e : Int} (h : X.heap[g]? = some (.cells (dnK d c ad n cap zd zn zc t e) 39 (0, 0))) : DnAt X g d c ad n cap zd zn zc t e := by
  refine ⟨(Array.getElem?_eq_some_iff.1 h).1, ?_, ?_, ?_, ?_, ?_, ?_, ?_, ?_, ?_, ?_, ?_, ?_, ?_, ?_, ?_, ?_, ?_, ?_, ?_, ?_, ?_, ?_⟩ <;> (rw [row_cell h]; rfl)
/-- a whole result stored into a new box -/
theorem oper_store_dn {o : Oper} {a : Act} {w : World} {K : Act → World → Prop} {Q : Exit → Act → World → Prop} (x y : Operand) (ho : o.op = .store 39 x y)
    (g : Nat) (hx : a.eval x = .pointer (some ⟨g, 0, none⟩)) (d : Drv) (c : Crt) (ad : Option Addr) (n cap : Nat) (zd : Option Addr) (zn zc : Nat) (t e : Int) (hy : a.eval y = .agg (dnK d c ad n cap zd zn zc t e)) (hg : w.heap[g]? = some (.cells dnZ 39 (0, 0)))
    (h : K (a.put o.dst undef) (w.setRow g (dnK d c ad n cap zd zn zc t e))) : Oper.wp Try.prog o a w K Q :=
  oper_store_agg _ x y ho g hx _ _ hy _ hg infoDn rfl (by simp [Value.oneCell']) h
abbrev boxDn : Obj := .cells #[.int .i64 0, .string ⟨#[]⟩, .int .i64 0, .int .i64 0, .int .i64 0, .int .i64 0, .string ⟨#[]⟩, .int .i64 0, .int .i64 0, .int .i64 0, .int .i64 0, .int .i64 0, .int .i64 0, .bool false, .bool false, .slice none 0 0, .int .i64 0, .int .i64 0, .int .i64 0, .slice none 0 0, .int .i64 0, .int .i64 0] 39
/-- where an operation's result lies -/
structure DnOk (X : World) (S : Nat → Prop) (r : Dn) (ad : Option Addr) (n cap : Nat) (zd : Option Addr) (zn zc : Nat) : Prop where
  nl : n = r.c.l.length
  zl : zn = r.l.length
  k : KnoS X S ad r.c.l
  z : KnoS X S zd r.l
  le : n ≤ cap
  mx : cap ≤ maxLen
  nn : ad = none → cap = 0
  bs : r.c.bc.size ≤ maxLen
  zb : zn ≤ zc ∧ zc ≤ maxLen ∧ (zd = none → zc = 0)
section
variable {X Y : World} {S T : Nat → Prop} {r : Dn} {ad : Option Addr} {n cap : Nat} {zd : Option Addr} {zn zc : Nat}
theorem DnOk.below (h : DnOk X S r ad n cap zd zn zc) (hb : Below X.heap.size X Y) : DnOk Y S r ad n cap zd zn zc := ⟨h.nl, h.zl, h.k.below hb, h.z.below hb, h.le, h.mx, h.nn, h.bs, h.zb⟩
theorem DnOk.add (h : DnOk X S r ad n cap zd zn zc) (o : Obj) (hT : ∀ k, T k → S k ∨ k = X.heap.size) : DnOk (X.alloc o) T r ad n cap zd zn zc := ⟨h.nl, h.zl, h.k.add o hT, h.z.add o hT, h.le, h.mx, h.nn, h.bs, h.zb⟩
theorem DnOk.row {g : Nat} {cs : Array Value} (h : DnOk X S r ad n cap zd zn zc) (hg : S g) : DnOk (X.setRow g cs) S r ad n cap zd zn zc := ⟨h.nl, h.zl, h.k.row hg, h.z.row hg, h.le, h.mx, h.nn, h.bs, h.zb⟩
theorem DnOk.i (h : DnOk X S r ad n cap zd zn zc) : CrIn X r.c ad cap := ⟨h.k.ki, by have := h.le; rw [h.nl] at this; exact this, h.mx, h.nn, h.bs⟩
/-- what a call leaves, whose argument's blocks lie outside of S -/
theorem DnOk.of {r : Dn} {ad0 : Option Addr} {l0 : List Blk} {e : Ending} (h : RetDn X ad0 l0 r e Y) (hk : KnoS X S ad0 l0) (hS : ∀ k, S k → k < X.heap.size) :
    ∃ ad n cap zd zn zc, e = .returned (.agg (dnK r.d r.c ad n cap zd zn zc r.t r.e)) ∧ DnOk Y S r ad n cap zd zn zc ∧ Below X.heap.size X Y := by
  obtain ⟨ad, n, cap, zd, zn, zc, h1, h2, h3, h4, h5, h6, h7, h8, h9, h10⟩ := h
  exact ⟨ad, n, cap, zd, zn, zc, h1, ⟨h2, h3, h5 S hS hk, KnoS.of_fr h6 hS, by rw [h2]; exact h4.le, h4.mx, h4.nn, h4.bs, h7, h8, h9⟩, h10⟩
end
/-- two results' cartridges are the same -/
theorem same_n {c : Crt} {n1 n2 : Nat} (h1 : n1 = c.l.length) (h2 : n2 = c.l.length) {ad bd : Option Addr} {cap cap2 : Nat} (X : World) (k1 : Ki X ad c.l) (k2 : Ki X bd c.l) (hs : c.l.length ≤ 100000) :
    Calls Try.prog 13 #[crW c.bc c.W c.L c.S c.T c.J c.R c.wo c.lk ad n1 cap c.ep c.lo c.pa, crW c.bc c.W c.L c.S c.T c.J c.R c.wo c.lk bd n2 cap2 c.ep c.lo c.pa] X fun e w' => e = .returned (.bool true) ∧ Below X.heap.size X w' := by
  subst h1 h2
  exact rdsamec_any c ad bd cap cap2 X k1 k2 hs
theorem same_l {l : List Blk} {n1 n2 : Nat} (h1 : n1 = l.length) (h2 : n2 = l.length) {ad bd : Option Addr} {cap cap2 : Nat} (X : World) (k1 : Ki X ad l) (k2 : Ki X bd l) (hs : n1 ≤ 100000) :
    Calls Try.prog 14 #[.slice ad n1 cap, .slice bd n2 cap2] X fun e w' => e = .returned (.bool true) ∧ Below X.heap.size X w' := by
  have h := rdsame_any ad bd n1 n2 cap cap2 l l X k1 k2 h1 h2 hs
  rw [eqK_yes rfl] at h
  exact h
end Go.Proofs.Ytepmmlnopdjjdaa
