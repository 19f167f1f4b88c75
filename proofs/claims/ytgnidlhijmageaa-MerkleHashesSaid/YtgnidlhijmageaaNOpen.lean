/-
  Numbers, lists of numbers, strings and claims that come in.
-/
import Derived.Test.YtgnidlhijmageaaNLin
import Derived.Deep.Slices
import Derived.Deep.Fields
import Derived.ChangeSame
import Derived.ChangeArms
import Derived.Lib.SmallJoins
namespace Go.Proofs.Ytgnidlhijmageaa
open Go.RowKit Go.ChangeShapes Go.WideShapes Go.Deep
theorem open_u64 {a : Int} (h : (Lit.int .u64 a).wf = true) : ∃ x, a = gv x := by
  have hb : 0 ≤ a ∧ a ≤ 18446744073709551615 := by simpa [Lit.wf, IntKind.min, IntKind.max, IntKind.signed, IntKind.bits] using h
  exact exists_gv a hb.1 (by omega)
section
variable {H : Type} {enc' : TypeId × Value → H} {w : World} {base : Nat} {held : Bool}
theorem open_bytes {r : Reach} {b0 : Nat} {v : Value} {d : DataW H} {p : List MemPlace} (hv : Value.okWide Try.prog w r b0 22 v) (h : DataW.Trod enc' Try.prog w base (fun _ => true) held 22 v d p) :
    ∃ (ad : Option Addr) (cap : Nat) (xs : List UInt8), v = .slice ad xs.length cap ∧ Lie w ad xs ∧ xs.length ≤ cap ∧ cap ≤ maxLen ∧ (ad = none → cap = 0) := by
  obtain ⟨a, len, cap, rfl⟩ := okWide_slice Try.underlying22 hv
  obtain ⟨fuel, hf⟩ := h
  rcases open_ints Try.underlying22 Try.underlying5 (by kernel_rfl) hf with ⟨hcs, _⟩ | ⟨x, l, c, zs, hcs, _, hl, hm, hz, _, hcell, hwz⟩
  · simp [Value.cells] at hcs
    obtain ⟨rfl, rfl, rfl⟩ := hcs
    exact ⟨none, 0, [], rfl, .nil _ _, Nat.le_refl _, Nat.zero_le _, fun _ => rfl⟩
  · simp [Value.cells] at hcs
    obtain ⟨rfl, rfl, rfl⟩ := hcs
    obtain ⟨xs, rfl, h1, h2, h3, h4⟩ := lie_of w (some x) len cap zs (.inr ⟨x, rfl, hl, hm, by simpa using hz, hcell, hwz⟩)
    exact ⟨_, cap, xs, rfl, h1, h2, h3, h4⟩
theorem trod_nums {fuel : Nat} {v : Value} {x : DataW H × List MemPlace} (h : DataW.trod enc' Try.prog w base (fun _ => true) held fuel 28 [v] = some x) :
    ∃ (ad : Option Addr) (cap : Nat) (xs : List UInt64), v = .slice ad xs.length cap ∧ Lin w ad xs ∧ xs.length ≤ cap ∧ cap ≤ maxLen ∧ (ad = none → cap = 0) := by
  rcases open_ints Try.underlying28 Try.underlying23 (by kernel_rfl) h with ⟨hcs, _⟩ | ⟨x, l, c, zs, hcs, _, hl, hm, hz, _, hcell, hwz⟩
  · cases hcs
    exact ⟨none, 0, [], rfl, .nil _ _, Nat.le_refl _, Nat.zero_le _, fun _ => rfl⟩
  · cases hcs
    obtain ⟨xs, rfl, h1, h2, h3, h4⟩ := lin_of w (some x) l c zs (.inr ⟨x, rfl, hl, hm, by simpa using hz, hcell, hwz⟩)
    exact ⟨_, c, xs, rfl, h1, h2, h3, h4⟩
theorem open_nums {r : Reach} {b0 : Nat} {v : Value} {d : DataW H} {p : List MemPlace} (hv : Value.okWide Try.prog w r b0 28 v) (h : DataW.Trod enc' Try.prog w base (fun _ => true) held 28 v d p) :
    ∃ (ad : Option Addr) (cap : Nat) (xs : List UInt64), v = .slice ad xs.length cap ∧ Lin w ad xs ∧ xs.length ≤ cap ∧ cap ≤ maxLen ∧ (ad = none → cap = 0) := by
  obtain ⟨a, len, cap, rfl⟩ := okWide_slice Try.underlying28 hv
  obtain ⟨fuel, hf⟩ := h
  exact trod_nums (v := .slice a len cap) (by simpa [Value.cells] using hf)
theorem cellsClaim : Try.prog.cellsOf 38 = 5 := by kernel_rfl
theorem open_claim {r : Reach} {b0 : Nat} {v : Value} {d : DataW H} {p : List MemPlace} (hv : Value.okWide Try.prog w r b0 38 v) (h : DataW.Trod enc' Try.prog w base (fun _ => true) held 38 v d p) :
    ∃ (x y : UInt64) (i n : Int) (ad : Option Addr) (cap : Nat) (xs : List UInt64), v = .agg #[.int .u64 (gv x), .int .u64 (gv y), .int .i64 i, .int .i64 n, .slice ad xs.length cap] ∧ (-9223372036854775808 ≤ i ∧ i ≤ 9223372036854775807) ∧ (-9223372036854775808 ≤ n ∧ n ≤ 9223372036854775807) ∧ Lin w ad xs ∧ xs.length ≤ cap ∧ cap ≤ maxLen := by
  obtain ⟨cs, rfl, _⟩ := okWide_struct Try.underlying38 hv
  obtain ⟨fuel, hf⟩ := h
  have hone : ∀ fs, Try.prog.underlying 38 = some (.struct fs) → oneCellFields Try.prog fs = true := by
    intro fs hfs
    rw [Try.underlying38] at hfs
    cases hfs
    kernel_rfl
  have ho := hone _ Try.underlying38
  obtain ⟨ys, n, _, _, hlen, hxl, hf⟩ := DataW.trod_struct Try.underlying38 hf
  rw [cellsClaim] at hlen
  have hcs : (Value.agg cs).cells.toList = cs.toList := by simp [Value.cells]
  rw [hcs] at hlen hf
  obtain ⟨l⟩ := cs
  simp only at hlen hf
  match l, hlen, ys, hxl with
  | [c0, c1, c2, c3, c4], _, [y0, y1, y2, y3, y4], _ =>
    have g0 := hf 0 _ rfl
    have g1 := hf 1 _ rfl
    have g2 := hf 2 _ rfl
    have g3 := hf 3 _ rfl
    have g4 := hf 4 _ rfl
    rw [(hone_of ho 0 _ rfl).1, (hone_of ho 0 _ rfl).2] at g0
    rw [(hone_of ho 1 _ rfl).1, (hone_of ho 1 _ rfl).2] at g1
    rw [(hone_of ho 2 _ rfl).1, (hone_of ho 2 _ rfl).2] at g2
    rw [(hone_of ho 3 _ rfl).1, (hone_of ho 3 _ rfl).2] at g3
    rw [(hone_of ho 4 _ rfl).1, (hone_of ho 4 _ rfl).2] at g4
    obtain ⟨a0, e0, _, w0⟩ := DataW.trod_int Try.underlying23 g0
    obtain ⟨a1, e1, _, w1⟩ := DataW.trod_int Try.underlying23 g1
    obtain ⟨a2, e2, _, w2⟩ := DataW.trod_int Try.underlying3 g2
    obtain ⟨a3, e3, _, w3⟩ := DataW.trod_int Try.underlying3 g3
    obtain ⟨ad, cap, xs, e4, hl, h1, h2, _⟩ := trod_nums (v := c4) (by simpa using g4)
    simp at e0 e1 e2 e3
    subst e0 e1 e2 e3 e4
    obtain ⟨x, rfl⟩ := open_u64 w0
    obtain ⟨y, rfl⟩ := open_u64 w1
    have b2 : -9223372036854775808 ≤ a2 ∧ a2 ≤ 9223372036854775807 := by simpa [Lit.wf, IntKind.min, IntKind.max, IntKind.signed, IntKind.bits] using w2
    have b3 : -9223372036854775808 ≤ a3 ∧ a3 ≤ 9223372036854775807 := by simpa [Lit.wf, IntKind.min, IntKind.max, IntKind.signed, IntKind.bits] using w3
    exact ⟨x, y, a2, a3, ad, cap, xs, rfl, b2, b3, hl, h1, h2⟩
end
end Go.Proofs.Ytgnidlhijmageaa
