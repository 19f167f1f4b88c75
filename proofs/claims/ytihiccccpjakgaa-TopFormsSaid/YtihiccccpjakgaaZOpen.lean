/-
  Bytes, small numbers and lists of tokens that come in.
-/
import Derived.Test.YtihiccccpjakgaaMem
import Derived.Deep.Slices
import Derived.Deep.Fields
import Derived.ChangeSame
import Derived.ChangeArms
import Derived.Lib.SmallJoins
namespace Go.Proofs.Ytihiccccpjakgaa
open Go.RowKit Go.ChangeShapes Go.WideShapes Go.Deep
set_option linter.unusedVariables false
theorem open_u16 {a : Int} (h : (Lit.int .u16 a).wf = true) : ∃ n : Nat, a = n ∧ n < 65536 := by
  have hb : 0 ≤ a ∧ a ≤ 65535 := by simpa [Lit.wf, IntKind.min, IntKind.max, IntKind.signed, IntKind.bits] using h
  exact ⟨a.toNat, by omega, by omega⟩
theorem open_u8n {a : Int} (h : (Lit.int .u8 a).wf = true) : ∃ n : Nat, a = n ∧ n < 256 := by
  have hb : 0 ≤ a ∧ a ≤ 255 := by simpa [Lit.wf, IntKind.min, IntKind.max, IntKind.signed, IntKind.bits] using h
  exact ⟨a.toNat, by omega, by omega⟩
/-- a token that came in: literals, and where they lie; a count, a distance -/
structure Tkn where
  l : List UInt8
  ad : Option Addr
  lc : Nat
  c : Int
  d : Int
def Tkn.cells (x : Tkn) : Array Value := #[.slice x.ad x.l.length x.lc, .int .i64 x.c, .int .i64 x.d]
/-- the token x lies at ⟨b, o⟩ -/
structure TknAt (w : World) (b o : Nat) (x : Tkn) : Prop where
  c0 : w.cell? ⟨b, o, none⟩ = some (.slice x.ad x.l.length x.lc)
  c1 : w.cell? ⟨b, o + 1, none⟩ = some (.int .i64 x.c)
  c2 : w.cell? ⟨b, o + 2, none⟩ = some (.int .i64 x.d)
  li : Lie w x.ad x.l
/-- numbers in their bounds, a nil slice without capacity -/
structure Tkn.Ok (x : Tkn) : Prop where
  c0 : -9223372036854775808 ≤ x.c
  c1 : x.c ≤ 9223372036854775807
  d0 : -9223372036854775808 ≤ x.d
  d1 : x.d ≤ 9223372036854775807
  na : x.ad = none → x.lc = 0
  le : x.l.length ≤ x.lc
  lm : x.lc ≤ maxLen
structure ToksAt (w : World) (ad : Option Addr) (l : List Tkn) : Prop where
  at_ : l = [] ∨ ∃ b off, ad = some ⟨b, off, none⟩ ∧ b < w.heap.size ∧ ∀ i (h : i < l.length), TknAt w b (off + i * 3) l[i]
theorem ToksAt.below {W w : World} {ad : Option Addr} {l : List Tkn} {B : Nat} (h : ToksAt W ad l) (hb : Below B W w) (hB : B = W.heap.size) : ToksAt w ad l := by
  subst hB
  rcases h.at_ with h0 | ⟨b, off, rfl, hlt, hc⟩
  · exact ⟨.inl h0⟩
  · refine ⟨.inr ⟨b, off, rfl, Nat.lt_of_lt_of_le hlt hb.size, fun i hi => ?_⟩⟩
    obtain ⟨c0, c1, c2, c3⟩ := hc i hi
    exact ⟨(hb.cell (by exact hlt)).trans c0, (hb.cell (by exact hlt)).trans c1, (hb.cell (by exact hlt)).trans c2, c3.below hb rfl⟩
section
variable {H : Type} {enc' : TypeId × Value → H} {w : World} {base : Nat} {held : Bool}
theorem open_bytes {r : Reach} {b0 : Nat} {v : Value} {d : DataW H} {p : List MemPlace} (hv : Value.okWide Try.prog w r b0 22 v) (h : DataW.Trod enc' Try.prog w base (fun _ => true) held 22 v d p) :
    ∃ (ad : Option Addr) (cap : Nat) (xs : List UInt8), v = .slice ad xs.length cap ∧ Lie w ad xs ∧ xs.length ≤ cap ∧ cap ≤ maxLen ∧ (ad = none → cap = 0) := by
  obtain ⟨a, len, cap, rfl⟩ := okWide_slice Try.underlying22 hv
  obtain ⟨fuel, hf⟩ := h
  rcases open_ints Try.underlying22 Try.underlying5 (by kernel_rfl) hf with ⟨hcs, _⟩ | ⟨x, l, c, zs, hcs, _, hl, hm, hz, _, hcell, hwz⟩
  · simp [Value.cells] at hcs
    obtain ⟨rfl, rfl, rfl⟩ := hcs
    exact ⟨none, 0, [], rfl, .nil _ _, Nat.le_refl _, Nat.zero_le _, fun _ => rfl⟩
  · simp [Value.cells] at hcs
    obtain ⟨rfl, rfl, rfl⟩ := hcs
    obtain ⟨xs, rfl, h1, h2, h3, h4⟩ := lie_of w (some x) len cap zs (.inr ⟨x, rfl, hl, hm, by simpa using hz, hcell, hwz⟩)
    exact ⟨_, cap, xs, rfl, h1, h2, h3, h4⟩
theorem trod_bytes {fuel : Nat} {c : Value} {x : DataW H × List MemPlace} (hf : DataW.trod enc' Try.prog w base (fun _ => true) held fuel 22 [c] = some x) :
    ∃ (ad : Option Addr) (cap : Nat) (xs : List UInt8), c = .slice ad xs.length cap ∧ Lie w ad xs ∧ xs.length ≤ cap ∧ cap ≤ maxLen ∧ (ad = none → cap = 0) := by
  rcases open_ints Try.underlying22 Try.underlying5 (by kernel_rfl) hf with ⟨hcs, _⟩ | ⟨x, l, c, zs, hcs, _, hl, hm, hz, _, hcell, hwz⟩
  · simp at hcs
    subst hcs
    exact ⟨none, 0, [], rfl, .nil _ _, Nat.le_refl _, Nat.zero_le _, fun _ => rfl⟩
  · simp at hcs
    subst hcs
    obtain ⟨xs, rfl, h1, h2, h3, h4⟩ := lie_of w (some x) l _ zs (.inr ⟨x, rfl, hl, hm, by simpa using hz, hcell, hwz⟩)
    exact ⟨_, _, xs, rfl, h1, h2, h3, h4⟩
theorem cellsTkn : Try.prog.cellsOf 32 = 3 := by kernel_rfl
theorem trod_tkn {fuel : Nat} {cs : List Value} {x : DataW H × List MemPlace} (h : DataW.trod enc' Try.prog w base (fun _ => true) held fuel 32 cs = some x) :
    ∃ it : Tkn, cs = it.cells.toList ∧ it.Ok ∧ Lie w it.ad it.l := by
  have hone : ∀ fs, Try.prog.underlying 32 = some (.struct fs) → oneCellFields Try.prog fs = true := by
    intro fs hfs
    rw [Try.underlying32] at hfs
    cases hfs
    kernel_rfl
  have ho := hone _ Try.underlying32
  obtain ⟨xs, n, _, _, hlen, hxl, hf⟩ := DataW.trod_struct Try.underlying32 h
  rw [cellsTkn] at hlen
  match cs, hlen, xs, hxl with
  | [c0, c1, c2], _, [y0, y1, y2], _ =>
    have g0 := hf 0 _ rfl
    have g1 := hf 1 _ rfl
    have g2 := hf 2 _ rfl
    rw [(hone_of ho 0 _ rfl).1, (hone_of ho 0 _ rfl).2] at g0
    rw [(hone_of ho 1 _ rfl).1, (hone_of ho 1 _ rfl).2] at g1
    rw [(hone_of ho 2 _ rfl).1, (hone_of ho 2 _ rfl).2] at g2
    obtain ⟨ad, cap, l, e0, hl, h1, h2, h3⟩ := trod_bytes (c := c0) (by simpa using g0)
    obtain ⟨k, e1, _, hk⟩ := DataW.trod_int Try.underlying3 g1
    obtain ⟨m, e2, _, hm⟩ := DataW.trod_int Try.underlying3 g2
    simp at e1 e2
    subst e0 e1 e2
    have bk : -9223372036854775808 ≤ k ∧ k ≤ 9223372036854775807 := by simpa [Lit.wf, IntKind.min, IntKind.max, IntKind.signed, IntKind.bits] using hk
    have bm : -9223372036854775808 ≤ m ∧ m ≤ 9223372036854775807 := by simpa [Lit.wf, IntKind.min, IntKind.max, IntKind.signed, IntKind.bits] using hm
    exact ⟨⟨l, ad, cap, k, m⟩, rfl, ⟨bk.1, bk.2, bm.1, bm.2, h3, h1, h2⟩, hl⟩
theorem open_toks {r : Reach} {b0 : Nat} {v : Value} {d : DataW H} {p : List MemPlace} (hv : Value.okWide Try.prog w r b0 30 v) (h : DataW.Trod enc' Try.prog w base (fun _ => true) held 30 v d p) :
    ∃ (ad : Option Addr) (cap : Nat) (l : List Tkn), v = .slice ad l.length cap ∧ ToksAt w ad l ∧ (∀ x ∈ l, x.Ok) ∧ l.length ≤ cap ∧ cap ≤ maxLen := by
  obtain ⟨a, len, cap, rfl⟩ := okWide_slice Try.underlying30 hv
  obtain ⟨fuel, hf⟩ := h
  rcases open_slice Try.underlying30 hf with ⟨hcs, _⟩ | ⟨a', len', cap', m, n, D, Pl, hcs, hb, hl, hm, hmm, _, hi⟩
  · simp [Value.cells] at hcs
    obtain ⟨rfl, rfl, rfl⟩ := hcs
    exact ⟨none, 0, [], rfl, ⟨.inl rfl⟩, by simp, Nat.le_refl _, Nat.zero_le _⟩
  · simp [Value.cells] at hcs
    obtain ⟨rfl, rfl, rfl⟩ := hcs
    have hlm : len ≤ m := by rw [hmm]; split <;> omega
    rw [cellsTkn] at hi
    have hx : ∀ i, ∃ it : Tkn, i < len → it.Ok ∧ Lie w it.ad it.l ∧ ∀ j, j < 3 → w.cell? ((a'.add (i * 3)).add j) = it.cells.toList[j]? := by
      intro i
      by_cases h : i < len
      · obtain ⟨cs', hc, ht⟩ := hi i (by omega)
        obtain ⟨it, rfl, h1, h2⟩ := trod_tkn ht
        exact ⟨it, fun _ => ⟨h1, h2, (World.cells?_some hc).2.2⟩⟩
      · exact ⟨⟨[], none, 0, 0, 0⟩, fun h' => absurd h' h⟩
    obtain ⟨f, hf'⟩ := Classical.axiomOfChoice hx
    refine ⟨some a', cap, (List.range len).map f, by simp, ⟨?_⟩, ?_, by simpa using hl, hm⟩
    · by_cases h0 : len = 0
      · left; subst h0; rfl
      · right
        have hc0 := (hf' 0 (by omega)).2.2 0 (by omega)
        obtain ⟨b, off, spot⟩ := a'
        have hspot : spot = none := by
          have e0 : (⟨b, off, spot⟩ : Addr).add (0 * 3) = ⟨b, off, spot⟩ := rfl
          rw [e0] at hc0
          have e1 : (⟨b, off, spot⟩ : Addr).add 0 = ⟨b, off, spot⟩ := rfl
          rw [e1] at hc0
          exact World.cell?_spot (v := .slice (f 0).ad (f 0).l.length (f 0).lc) hc0
        subst hspot
        have hget : ∀ i, i < len → ∀ j, j < 3 → w.cell? ⟨b, off + i * 3 + j, none⟩ = (f i).cells.toList[j]? := fun i hi j hj => by
          have := (hf' i hi).2.2 j hj
          rwa [Go.WideShapes.add_plain, Go.WideShapes.add_plain] at this
        refine ⟨b, off, rfl, ?_, fun i hi => ?_⟩
        · have := hget 0 (by omega) 0 (by omega)
          rcases Nat.lt_or_ge b w.heap.size with h' | h'
          · exact h'
          · simp [World.cell?, Array.getElem?_eq_none h', Tkn.cells] at this
        · have hi' : i < len := by simpa using hi
          simp only [List.getElem_map, List.getElem_range]
          exact ⟨hget i hi' 0 (by omega), hget i hi' 1 (by omega), hget i hi' 2 (by omega), (hf' i hi').2.1⟩
    · intro x hx'
      obtain ⟨i, hi', rfl⟩ := List.mem_map.1 hx'
      exact (hf' i (by simpa using hi')).1
end
end Go.Proofs.Ytihiccccpjakgaa
