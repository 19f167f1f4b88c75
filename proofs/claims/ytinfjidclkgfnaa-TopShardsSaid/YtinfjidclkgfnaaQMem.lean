/-
  Elements of the field as the numbers of the program.
  Bytes that lie in memory: a slice of bytes as a list of bytes.
  Bytes of a slice, one byte, or a string appended to a slice of bytes that the call itself owns.
  Bytes that lie, by their numbers.
  Slices of the call's own, written place by place; the sum of a list and a multiple of a list.
  A slice of the call's own whose elements are slices of bytes: what it holds lies on as other memory turns; appended to. (XFList's text without the frames: for a seat without package frame.)
  A matrix in memory of the call's own: rows in different blocks; an element written, two rows exchanged, a row replaced, a row appended.
  A block of bytes that is known whole: what is read of it, a byte stored into it, made anew, copied into.
-/
import Derived.Test.YtinfjidclkgfnaaRows
import Derived.Test.YtinfjidclkgfnaaQMath
import Derived.WalkKit
import Derived.Lib.Hide
import Derived.WalkSpells
import Derived.WalkLawsBesides
import Derived.Below
import Derived.Deep.Draws
import Derived.Laws.AppendOwn
import Derived.OwnWalk
import Derived.OpenShut
import Derived.Laws.AppendOwnNone
import Derived.Lib.AppendStr
import Derived.RangeFuncBox
import Derived.Maps.AppendAt
import Derived.Laws.CopyOwn
import Derived.Laws.MakeOwn
namespace Go.Proofs.Ytinfjidclkgfnaa
open Go.RowKit

/-- the number that stands for an element; kept closed -/
@[irreducible] def ev (x : UInt8) : Int := (x.toNat : Int)
theorem ev_nat (x : UInt8) : ev x = (x.toNat : Int) := by unfold ev; rfl
theorem ev_lo (x : UInt8) : 0 ≤ ev x := by rw [ev_nat]; omega
theorem ev_hi (x : UInt8) : ev x < 256 := by rw [ev_nat]; have := x.toNat_lt; omega
theorem ev_inj {x y : UInt8} (h : ev x = ev y) : x = y := by rw [ev_nat, ev_nat] at h; exact UInt8.toNat_inj.1 (by omega)
theorem ev_lit (n : Nat) (h : n < 256) : (n : Int) = ev (UInt8.ofNat n) := by rw [ev_nat, UInt8.toNat_ofNat']; omega
theorem exists_ev (z : Int) (h0 : 0 ≤ z) (h1 : z < 256) : ∃ x, z = ev x := ⟨UInt8.ofNat z.toNat, by rw [← ev_lit _ (by omega)]; omega⟩
theorem ev_zero : ev 0 = 0 := (ev_lit 0 (by decide)).symm
theorem ev_one : ev 1 = 1 := (ev_lit 1 (by decide)).symm
theorem ev_eq0 (x : UInt8) : ev x = 0 ↔ x = 0 := ⟨fun h => ev_inj (by rw [h, ev_zero]), fun h => by rw [h, ev_zero]⟩
theorem ev_eq1 (x : UInt8) : ev x = 1 ↔ x = 1 := ⟨fun h => ev_inj (by rw [h, ev_one]), fun h => by rw [h, ev_one]⟩
theorem bits_xor_ev (a b : UInt8) : bits .xor .u8 (ev a) (ev b) = ev (a ^^^ b) := by
  rw [ev_nat, ev_nat, ev_nat, u8_xor_nat _ _ a.toNat_lt b.toNat_lt, UInt8.toNat_xor]
theorem ret_u8 {a b : Int} (h : a = b) : Ending.returned (.int .u8 a) = .returned (.int .u8 b) := by rw [h]
theorem dbl_small (a : UInt8) (h : ev a < 128) : ev a * 2 = ev (dblU a) := by
  rw [ev_nat, ev_nat, dbl_lo a (by rw [ev_nat] at h; omega)]; omega
theorem val_zero : Value.int .u8 0 = .int .u8 (ev 0) := by rw [ev_zero]
theorem val_one : Value.int .u8 1 = .int .u8 (ev 1) := by rw [ev_one]
end Go.Proofs.Ytinfjidclkgfnaa
namespace Go.Proofs.Ytinfjidclkgfnaa
open Go.RowKit Go.ChangeShapes

def cellsU (l : List UInt8) : List Value := l.map fun x => Value.int .u8 (x.toNat : Int)
theorem cellsU_length (l : List UInt8) : (cellsU l).length = l.length := by simp [cellsU]
theorem cellsU_append (l m : List UInt8) : cellsU l ++ cellsU m = cellsU (l ++ m) := by simp [cellsU]
theorem cellsU_get (l : List UInt8) (j : Nat) (h : j < l.length) : (cellsU l)[j]? = some (.int .u8 ((l[j]'h).toNat : Int)) := by simp [cellsU, h]
theorem cellsU_one (l : List UInt8) : ∀ u ∈ cellsU l, u.oneCell' = true := by
  intro u hu
  obtain ⟨y, _, rfl⟩ := List.mem_map.1 hu
  rfl
theorem toNat_ofNat8 (n : Nat) (h : n < 256) : (UInt8.ofNat n).toNat = n := by
  simp [UInt8.toNat_ofNat']; omega

/-- The bytes xs lie at ad. -/
structure Lie (w : World) (ad : Option Addr) (xs : List UInt8) : Prop where
  at_ : xs = [] ∨ ∃ b off, ad = some ⟨b, off, none⟩ ∧ b < w.heap.size ∧ ∀ j (h : j < xs.length), w.cell? ⟨b, off + j, none⟩ = some (.int .u8 ((xs[j]'h).toNat : Int))

theorem Lie.nil (w : World) (ad : Option Addr) : Lie w ad [] := ⟨.inl rfl⟩
theorem Lie.below {W w : World} {ad : Option Addr} {xs : List UInt8} {B : Nat} (h : Lie W ad xs) (hb : Below B W w) (hB : B = W.heap.size) : Lie w ad xs := by
  subst hB
  rcases h.at_ with h0 | ⟨b, off, rfl, hlt, hc⟩
  · exact ⟨.inl h0⟩
  · exact ⟨.inr ⟨b, off, rfl, Nat.lt_of_lt_of_le hlt hb.size, fun j hj => by rw [hb.cell (by exact hlt)]; exact hc j hj⟩⟩
theorem Lie.drew {w : World} {ad : Option Addr} {xs : List UInt8} (h : Lie w ad xs) : Lie w.drew ad xs := ⟨h.at_⟩
theorem Lie.drewN {w : World} {ad : Option Addr} {xs : List UInt8} (h : Lie w ad xs) (n : Nat) : Lie (w.drewN n) ad xs := ⟨h.at_⟩

theorem lie_of (w : World) (a : Option Addr) (len cap : Nat) (zs : List Int)
    (h : (a = none ∧ len = 0 ∧ cap = 0 ∧ zs = []) ∨ ∃ x, a = some x ∧ len ≤ cap ∧ cap ≤ maxLen ∧ zs.length = cap ∧ (∀ i, i < zs.length → w.cell? (x.add i) = some (.int .u8 (zs.getD i 0))) ∧ ∀ n ∈ zs, (Lit.int .u8 n).wf = true) :
    ∃ xs : List UInt8, xs.length = len ∧ Lie w a xs ∧ len ≤ cap ∧ cap ≤ maxLen ∧ (a = none → cap = 0) := by
  rcases h with ⟨rfl, rfl, rfl, rfl⟩ | ⟨x, rfl, hl, hm, hz, hc, hw⟩
  · exact ⟨[], rfl, .nil _ _, Nat.le_refl _, Nat.zero_le _, fun _ => rfl⟩
  · refine ⟨(zs.take len).map fun z => UInt8.ofNat z.toNat, by simp; omega, ⟨?_⟩, hl, hm, fun h => by cases h⟩
    by_cases h0 : len = 0
    · left; subst h0; simp
    · right
      have hp : 0 < zs.length := by omega
      obtain ⟨b, off, rfl, hcell⟩ := ints_at hc hp
      refine ⟨b, off, rfl, ?_, fun j hj => ?_⟩
      · have := hcell 0 hp
        rcases Nat.lt_or_ge b w.heap.size with h' | h'
        · exact h'
        · simp [World.cell?, Array.getElem?_eq_none h'] at this
      · have hj' : j < len := by simp at hj; omega
        have hjz : j < zs.length := by omega
        have hb : 0 ≤ zs[j] ∧ zs[j] ≤ 255 := by simpa [Lit.wf, IntKind.min, IntKind.max, IntKind.signed, IntKind.bits] using hw zs[j] (List.getElem_mem hjz)
        have e : zs.getD j 0 = zs[j] := by simp [hjz]
        rw [hcell j hjz, e]
        simp only [List.getElem_map, List.getElem_take]
        rw [toNat_ofNat8 _ (by omega)]
        congr 2
        omega

theorem lie_own {w : World} {base : Nat} {v : Value} {n : Nat} {zs : List UInt8} (hown : w.ownsRow base 5 1 v n (cellsU zs)) (hn : n = zs.length) :
    ∃ ad cap, v = .slice ad zs.length cap ∧ Lie w ad zs ∧ zs.length ≤ cap ∧ cap ≤ maxLen ∧ (ad = none → cap = 0) := by
  subst hn
  rcases hown.2 with ⟨rfl, h0⟩ | ⟨g, cap, cur, rfl, _, hg, hle, hm, hsz, htake⟩
  · have : zs = [] := List.eq_nil_of_length_eq_zero h0
    subst this
    exact ⟨none, 0, rfl, .nil _ _, Nat.le_refl _, Nat.zero_le _, fun _ => rfl⟩
  · refine ⟨some ⟨g, 0, none⟩, cap, rfl, ⟨.inr ⟨g, 0, rfl, (Array.getElem?_eq_some_iff.1 hg).1, fun j hj => ?_⟩⟩, hle, hm, fun h => by cases h⟩
    rw [Nat.zero_add, cell_of_row w g j cur 5 (0, 0) hg]
    have h1 : (cur.toList.take (zs.length * 1))[j]? = some (.int .u8 ((zs[j]'hj).toNat : Int)) := by rw [htake]; exact cellsU_get zs j hj
    rw [List.getElem?_take_of_lt (by omega)] at h1
    simpa using h1
end Go.Proofs.Ytinfjidclkgfnaa
namespace Go.Proofs.Ytinfjidclkgfnaa
open Go.RowKit

theorem infoU : (Try.prog.info? 5).map (fun i => (i.zero, i.size, i.bytes)) = some (some (.int .u8 0), 1, 1) := by kernel_rfl
theorem info_u : ∃ i : TypeInfo, Try.prog.info? 5 = some i ∧ i.zero = some (.int .u8 0) ∧ i.size = 1 ∧ i.bytes = 1 := by
  have h := infoU
  rcases hi : Try.prog.info? 5 with _ | i
  · rw [hi] at h; simp at h
  · rw [hi] at h
    simp only [Option.map_some, Option.some.injEq, Prod.mk.injEq] at h
    exact ⟨i, rfl, h.1, h.2.1, h.2.2⟩

/-- The value v owns the bytes l, behind block B. -/
def Own (w : World) (B : Nat) (v : Value) (l : List UInt8) : Prop := w.ownsRow B 5 1 v l.length (cellsU l)
theorem Own.row {w : World} {B : Nat} {v : Value} {l : List UInt8} (h : Own w B v l) : w.ownsRow B 5 1 v l.length (cellsU l) := h
theorem Own.lt {w : World} {B : Nat} {v : Value} {l : List UInt8} (h : Own w B v l) : ∀ k, v.ownBlock = some k → B ≤ k ∧ k < w.heap.size := fun k hk => h.row.lt k hk
theorem Own.slice {w : World} {B : Nat} {v : Value} {l : List UInt8} (h : Own w B v l) :
    ∃ ad cap, v = .slice ad l.length cap ∧ Lie w ad l ∧ l.length ≤ cap ∧ cap ≤ maxLen ∧ (ad = none → cap = 0) := lie_own h rfl
theorem Own.ofNil (w : World) (B : Nat) : Own w B (.slice none 0 0) [] := ⟨rfl, .inl ⟨rfl, rfl⟩⟩
theorem Own.made (w : World) : Own (w.alloc (.cells #[] 5)) w.heap.size (.slice (some ⟨w.heap.size, 0, none⟩) 0 0) [] := World.ownsRow_made w #[] 0 (Nat.le_refl _) (by decide) rfl
theorem Own.below {w w' : World} {B : Nat} {v : Value} {l : List UInt8} (h : Own w B v l) (hb : Below w.heap.size w w') : Own w' B v l := by
  refine ⟨h.row.1, ?_⟩
  rcases h.row.2 with h0 | ⟨g, cap, cur, hv, hB, hg, h1, h2, h3, h4⟩
  · exact .inl h0
  · exact .inr ⟨g, cap, cur, hv, hB, (hb.block g (Array.getElem?_eq_some_iff.1 hg).1).trans hg, h1, h2, h3, h4⟩
theorem Own.mono {w : World} {B B' : Nat} {v : Value} {l : List UInt8} (h : Own w B v l) (hB : B' ≤ B) : Own w B' v l := by
  refine ⟨h.row.1, ?_⟩
  rcases h.row.2 with h0 | ⟨g, cap, cur, hv, hg0, hg⟩
  · exact .inl h0
  · exact .inr ⟨g, cap, cur, hv, Nat.le_trans hB hg0, hg⟩
theorem Lie.one (w : World) (n : Int) (v : UInt8) (hn : n = (v.toNat : Int)) : Lie (w.alloc (.cells #[.int .u8 n] 5)) (some ⟨w.heap.size, 0, none⟩) [v] := by
  subst hn
  refine ⟨.inr ⟨w.heap.size, 0, rfl, by simp, fun j hj => ?_⟩⟩
  obtain rfl : j = 0 := by simpa using hj
  rw [World.cell?_alloc_mark]
  rfl
theorem strCells_eq (s : ByteArray) : Lib.strCells s = cellsU s.data.toList := rfl

theorem wpList_append_u {w : World} {ops : Array Oper} {rest : List Oper} {o : Oper} {a : Act} {Q : Exit → Act → World → Prop} (hgd : o.guard = none) (s x : Operand)
    (ho : o.op = .call { callee := .builtin .append, args := #[s, x], argTypes := #[33, 33] })
    (B : Nat) (v : Value) (ys : List UInt8) (hs : a.eval s = v) (hown : Own w B v ys)
    (ad : Option Addr) (n cap : Nat) (xs : List UInt8) (hcap : ad = none → cap = 0) (hl : Lie w ad xs) (hn : n = xs.length) (hx : a.eval x = .slice ad n cap) (hlen : ys.length + n ≤ 10000000) (hbase : B ≤ w.heap.size)
    (h : ∀ v' w', Own w' B v' (ys ++ xs) → w.grownBy w' v.ownBlock → wpList Try.prog ops Q rest (a.put o.dst v') w') : wpList Try.prog ops Q (o :: rest) a w := by
  subst hn
  obtain ⟨i, hi, hz0, hz1, hz2⟩ := info_u
  cases ad with
  | none =>
    have hxs : xs = [] := by
      rcases hl.at_ with h0 | ⟨b, off, h0, _⟩
      · exact h0
      · cases h0
    subst hxs
    obtain rfl := hcap rfl
    refine wpList_append_own_none hgd s x 33 ho B 5 i 1 Try.underlying33 hi v ys.length (cellsU ys) hs hown hx (h v w ?_ ⟨rfl, rfl, rfl, Nat.le_refl _, fun _ _ _ => rfl⟩)
    rw [List.append_nil]
    exact hown
  | some a0 =>
    refine wpList_append_own w hgd s x 33 ho B 5 i (.int .u8 0) 1 1 Try.underlying33 hi hz0 hz1 hz2 rfl (by decide) v ys.length (cellsU ys) hs hown a0 xs.length cap (cellsU xs) hx ?_ ?_ (cellsU_one _) ?_ ?_ hbase (fun v' w' h2 h3 _ => h v' w' ?_ h3)
    · rw [cellsU_length, Nat.mul_one]
    · intro j u hu
      have hj : j < xs.length := by
        have := (List.getElem?_eq_some_iff.1 hu).1
        rwa [cellsU_length] at this
      rcases hl.at_ with h0 | ⟨b, off, h0, _, hc⟩
      · subst h0; simp at hj
      · cases h0
        rw [Go.WideShapes.add_plain, hc j hj]
        rw [cellsU_get xs j hj] at hu
        exact hu
    · unfold maxLen; omega
    · omega
    · unfold Own
      rw [cellsU_append, List.length_append] at *
      exact h2

theorem wpList_append_s {w : World} {ops : Array Oper} {rest : List Oper} {o : Oper} {a : Act} {Q : Exit → Act → World → Prop} (hgd : o.guard = none) (s x : Operand)
    (ho : o.op = .call { callee := .builtin .append, args := #[s, x], argTypes := #[33, 9] })
    (B : Nat) (v : Value) (ys : List UInt8) (hs : a.eval s = v) (hown : Own w B v ys) (t : ByteArray) (hx : a.eval x = .string t) (hlen : ys.length + t.size ≤ 10000000) (hbase : B ≤ w.heap.size)
    (h : ∀ v' w', Own w' B v' (ys ++ t.data.toList) → w.grownBy w' v.ownBlock → wpList Try.prog ops Q rest (a.put o.dst v') w') : wpList Try.prog ops Q (o :: rest) a w := by
  obtain ⟨i, hi, hz0, hz1, hz2⟩ := info_u
  refine Lib.wpList_append_own_string w hgd s x 33 9 ho B 5 i Try.underlying33 Try.underlying9 hi hz0 hz1 hz2 v ys.length (cellsU ys) hs hown t hx (by unfold maxLen; omega) (by omega) hbase (fun v' w' h2 h3 _ => h v' w' ?_ h3)
  unfold Own
  rw [strCells_eq, cellsU_append] at h2
  rw [List.length_append, Array.length_toList]
  exact h2

theorem wpList_make_u {w : World} {ops : Array Oper} {rest : List Oper} {o : Oper} {a : Act} {Q : Exit → Act → World → Prop} (hgd : o.guard = none) (l c : Operand) (hop : o.op = Op.makeSlice 33 l c)
    (B : Nat) (C : Int) (n : Nat) (hl : a.eval l = .int .i64 0) (hc : a.eval c = .int .i64 C) (hC : C = (n : Int)) (hn : n ≤ 10000000) (hB : B ≤ w.heap.size)
    (h : ∀ v' w', Own w' B v' [] → w.grownBy w' Option.none → wpList Try.prog ops Q rest (a.put o.dst v') w') : wpList Try.prog ops Q (o :: rest) a w := by
  obtain ⟨i, hi, hz0, hz1, hz2⟩ := info_u
  refine wpList_make_own w hgd l c 33 hop B 5 i (.int .u8 0) 1 Try.underlying33 hi hz0 hz1 .i64 .i64 C n hl hc hC (by rw [hz2]; omega) (by unfold maxLen; omega) hB (fun w' h2 h3 => h _ w' h2 h3)

theorem below_new {w w1 : World} {o : Obj} {row : Option Nat} (hg : (w.alloc o).grownBy w1 row) (hr : ∀ k, row = some k → w.heap.size ≤ k) : Below w.heap.size w w1 :=
  ((Below.refl _ _).alloc (Nat.le_refl _) o).grown hg (by simp) hr
end Go.Proofs.Ytinfjidclkgfnaa
namespace Go.Proofs.Ytinfjidclkgfnaa
open Go.RowKit
theorem calls_left {P : Program} {f : FuncId} {args : Array Value} {w : World} {v : Value} (h : Calls P f args w fun e w' => e = .returned v ∧ w = w') : Calls P f args w fun e w' => e = .returned v ∧ w' = w :=
  h.mono fun _ _ ⟨he, hw⟩ => ⟨he, hw.symm⟩
/-- the bytes that lie, by their numbers -/
theorem Lie.ev {w : World} {ad : Option Addr} {xs : List UInt8} (h : Lie w ad xs) (hp : 0 < xs.length) :
    ∃ b off, ad = some ⟨b, off, none⟩ ∧ b < w.heap.size ∧ ∀ j (h : j < xs.length), w.cell? ⟨b, off + j, none⟩ = some (.int .u8 (ev (xs[j]'h))) := by
  rcases h.at_ with h0 | ⟨b, off, h1, h2, h3⟩
  · subst h0; simp at hp
  · exact ⟨b, off, h1, h2, fun j hj => by rw [ev_nat]; exact h3 j hj⟩
theorem below_drewN {B : Nat} {a w : World} (h : Below B a w) (n : Nat) : Below B a (w.drewN n) := ⟨h.os, h.tape, h.output, h.size, h.block⟩
theorem ev_idx (x : UInt8) : (ev x).toNat < 256 := by have := ev_lo x; have := ev_hi x; omega
theorem eval_next (xs : List UInt8) (x c V : UInt8) (j : Nat) (h : j < xs.length) (hc : c = xs[j]) (hV : V = evalU (xs.drop (j + 1)) x) : mulU V x ^^^ c = evalU (xs.drop j) x := by
  subst hc hV
  exact (evalU_drop xs x j h).symm
theorem eval_start (xs : List UInt8) (x : UInt8) : evalU (xs.drop xs.length) x = 0 := by rw [List.drop_length]; rfl
end Go.Proofs.Ytinfjidclkgfnaa
namespace Go.Proofs.Ytinfjidclkgfnaa
open Go.RowKit

/-- a call gives a new slice with the bytes l, and what was there is as it was -/
def GivesU (w : World) (l : List UInt8) (e : Ending) (w' : World) : Prop := ∃ v, e = .returned v ∧ Own w' w.heap.size v l ∧ Below w.heap.size w w'
theorem below_app {w0 w w' : World} {v : Value} {l : List UInt8} (hb : Below w0.heap.size w0 w) (ho : Own w w0.heap.size v l) (hg : w.grownBy w' v.ownBlock) : Below w0.heap.size w0 w' :=
  hb.grown hg hb.size (fun k hk => (ho.lt k hk).1)

/-- what a value that owns bytes gives and takes, place by place -/
theorem Own.at_ {w : World} {B : Nat} {v : Value} {l : List UInt8} (h : Own w B v l) (N : Nat) (hN : l.length = N) (hp : 0 < N) :
    ∃ g cap, v = .slice (some ⟨g, 0, none⟩) N cap ∧ B ≤ g ∧ g < w.heap.size ∧ (∀ i (hi : i < l.length), w.cell? ⟨g, i, none⟩ = some (.int .u8 (ev (l[i]'hi))) ∧ w.frozen? ⟨g, i, none⟩ = false) ∧
      ∀ i c, i < l.length → Own (w.setCell ⟨g, i, none⟩ (.int .u8 (ev c))) B v (l.set i c) := by
  subst hN
  rcases h.row.2 with ⟨_, h0⟩ | ⟨g, cap, cur, hv, hB, hg, hle, hm, hsz, htake⟩
  · omega
  · have hget : ∀ i (hi : i < l.length), cur[i]? = some (.int .u8 (ev (l[i]'hi))) := fun i hi => by
      have h1 : (cur.toList.take (l.length * 1))[i]? = some (.int .u8 ((l[i]'hi).toNat : Int)) := by rw [htake]; exact cellsU_get l i hi
      rw [List.getElem?_take_of_lt (by omega)] at h1
      rw [ev_nat]
      simpa using h1
    refine ⟨g, cap, hv, hB, (Array.getElem?_eq_some_iff.1 hg).1, fun i hi => ⟨?_, ?_⟩, fun i c hi => ?_⟩
    · rw [cell_of_row w g i cur 5 (0, 0) hg]; exact hget i hi
    · simp [World.frozen?, hg]
    · have hlen : (l.set i c).length = l.length := List.length_set
      refine ⟨by rw [cellsU_length, hlen]; omega, .inr ⟨g, cap, cur.setIfInBounds i (.int .u8 (ev c)), by rw [hlen]; exact hv, hB, ?_, by rw [hlen]; exact hle, hm, by simpa using hsz, ?_⟩⟩
      · simp [World.setCell, Array.getElem?_modify, hg]
      · rw [hlen, Array.toList_setIfInBounds, List.take_set, htake, ev_nat]
        simp [cellsU, List.map_set]

/-- the sum of dst and the multiple of src with b -/
def sc : List UInt8 → List UInt8 → UInt8 → List UInt8
  | [], _, _ => []
  | d :: ds, [], _ => d :: ds
  | d :: ds, s :: ss, b => (d ^^^ mulU s b) :: sc ds ss b
theorem sc_nil (d : List UInt8) (b : UInt8) : sc d [] b = d := by cases d <;> rfl
theorem sc_length (d s : List UInt8) (b : UInt8) : (sc d s b).length = d.length := by
  induction d generalizing s with
  | nil => rfl
  | cons x d ih => cases s with
    | nil => rfl
    | cons y s => simp [sc, ih]
theorem sc_at (d s : List UInt8) (b : UInt8) (k : Nat) (hd : k < d.length) (h : k < (sc d (s.take k) b).length) : (sc d (s.take k) b)[k] = d[k] := by
  induction d generalizing s k with
  | nil => simp at hd
  | cons x d ih =>
    cases s with
    | nil => simp [sc_nil]
    | cons y s =>
      cases k with
      | zero => simp [sc_nil]
      | succ k =>
        simp only [List.take_succ_cons, sc, List.getElem_cons_succ]
        exact ih s k (by simpa using hd) _
theorem sc_next (d s : List UInt8) (b : UInt8) (k : Nat) (hd : k < d.length) (hs : k < s.length) : (sc d (s.take k) b).set k (d[k] ^^^ mulU s[k] b) = sc d (s.take (k + 1)) b := by
  induction d generalizing s k with
  | nil => simp at hd
  | cons x d ih =>
    cases s with
    | nil => simp at hs
    | cons y s =>
      cases k with
      | zero => simp [sc_nil, sc]
      | succ k =>
        simp only [List.take_succ_cons, sc, List.set_cons_succ, List.getElem_cons_succ]
        rw [ih s k (by simpa using hd) (by simpa using hs)]
theorem sc_end (d s : List UInt8) (b : UInt8) (k : Nat) (h : k = min d.length s.length) : sc d (s.take k) b = sc d s b := by
  subst h
  induction d generalizing s with
  | nil => rfl
  | cons x d ih =>
    cases s with
    | nil => rfl
    | cons y s =>
      rw [List.length_cons, List.length_cons, Nat.succ_min_succ, List.take_succ_cons]
      simp only [sc]
      rw [ih s]
theorem sc_twice (d s : List UInt8) (a b : UInt8) : sc (sc d s a) s b = sc d s (a ^^^ b) := by
  induction d generalizing s with
  | nil => rfl
  | cons x d ih =>
    cases s with
    | nil => rfl
    | cons y s => simp only [sc, ih, mulU_xor, UInt8.xor_assoc]
end Go.Proofs.Ytinfjidclkgfnaa
namespace Go.Proofs.Ytinfjidclkgfnaa
open Go.RowKit
set_option linter.unusedVariables false

/-- The bytes l lie at ad, in a block below B or in one of bytes. -/
structure LieS (w : World) (B : Nat) (ad : Option Addr) (l : List UInt8) : Prop where
  at_ : l = [] ∨ ∃ b off, ad = some ⟨b, off, none⟩ ∧ b < w.heap.size ∧ (b < B ∨ ∃ cur fr, w.heap[b]? = some (.cells cur 5 fr)) ∧ (∃ cur e fr, w.heap[b]? = some (.cells cur e fr)) ∧ ∀ j (h : j < l.length), w.cell? ⟨b, off + j, none⟩ = some (.int .u8 ((l[j]'h).toNat : Int))
theorem LieS.lie {w : World} {B : Nat} {ad : Option Addr} {l : List UInt8} (h : LieS w B ad l) : Lie w ad l := by
  rcases h.at_ with h0 | ⟨b, off, e, hb, _, _, hc⟩
  · exact ⟨.inl h0⟩
  · exact ⟨.inr ⟨b, off, e, hb, hc⟩⟩
theorem cells_of_cell' {w : World} {b o : Nat} {v : Value} (h : w.cell? ⟨b, o, none⟩ = some v) : ∃ cur e fr, w.heap[b]? = some (.cells cur e fr) := by
  obtain ⟨ob, h1, h2⟩ := cells_of_cell h
  cases ob <;> simp_all [Obj.isCells]
theorem LieS.of_low {w : World} {B : Nat} {ad : Option Addr} {l : List UInt8} (h : Lie w ad l) (hB : w.heap.size ≤ B) : LieS w B ad l := by
  by_cases hl : l = []
  · exact ⟨.inl hl⟩
  rcases h.at_ with h0 | ⟨b, off, e, hb, hc⟩
  · exact absurd h0 hl
  · exact ⟨.inr ⟨b, off, e, hb, .inl (by omega), cells_of_cell' (hc 0 (List.length_pos_iff.2 hl)), hc⟩⟩
theorem LieS.of_own {w : World} {B B' : Nat} {v : Value} {l : List UInt8} (h : Own w B' v l) : ∃ ad cap, v = .slice ad l.length cap ∧ LieS w B ad l ∧ l.length ≤ cap ∧ cap ≤ maxLen ∧ (ad = none → cap = 0) := by
  obtain ⟨ad, cap, e, hl, h1, h2, h3⟩ := h.slice
  refine ⟨ad, cap, e, ?_, h1, h2, h3⟩
  by_cases h0 : l = []
  · exact ⟨.inl h0⟩
  rcases h.row.2 with ⟨_, hz⟩ | ⟨g, cap', cur, e2, _, hg, _⟩
  · exact absurd (List.eq_nil_of_length_eq_zero hz) h0
  · rw [e] at e2
    cases e2
    rcases hl.at_ with h4 | ⟨b, off, e3, hb, hc⟩
    · exact absurd h4 h0
    · cases e3
      exact ⟨.inr ⟨_, _, rfl, hb, .inr ⟨_, _, hg⟩, ⟨_, _, _, hg⟩, hc⟩⟩
/-- It lies on, where the block that turns lies at or beyond B and is none of bytes. -/
theorem LieS.kept {w w' : World} {B : Nat} {ad : Option Addr} {l : List UInt8} {row : Option Nat} (h : LieS w B ad l) (hg : w.grownBy w' row) (hr : ∀ r, row = some r → (B ≤ r ∧ ∀ cur fr, w.heap[r]? ≠ some (.cells cur 5 fr)) ∨ (∀ cur e fr, w.heap[r]? ≠ some (.cells cur e fr))) : LieS w' B ad l := by
  rcases h.at_ with h0 | ⟨b, off, e, hb, ht, hcc, hc⟩
  · exact ⟨.inl h0⟩
  · have hne : some b ≠ row := by
      intro e'
      obtain ⟨cur2, e2, fr2, hcc2⟩ := hcc
      rcases hr b e'.symm with ⟨h1, h2⟩ | h2
      · rcases ht with h3 | ⟨cur, fr, h3⟩
        · omega
        · exact h2 cur fr h3
      · exact h2 _ _ _ hcc2
    have hbb := hg.block b hb hne
    refine ⟨.inr ⟨b, off, e, Nat.lt_of_lt_of_le hb hg.size, ?_, ?_, fun j hj => (World.cell?_of_block (a := ⟨b, off + j, none⟩) hbb).trans (hc j hj)⟩⟩
    · rcases ht with h3 | ⟨cur, fr, h3⟩
      · exact .inl h3
      · exact .inr ⟨cur, fr, hbb.trans h3⟩
    · obtain ⟨cur2, e2, fr2, hcc2⟩ := hcc
      exact ⟨cur2, e2, fr2, hbb.trans hcc2⟩
theorem grown_of_below {w w' : World} (hb : Below w.heap.size w w') : w.grownBy w' none := ⟨hb.os, hb.tape, hb.output, hb.size, fun k hk _ => hb.block k hk⟩
theorem LieS.below {w w' : World} {B : Nat} {ad : Option Addr} {l : List UInt8} (h : LieS w B ad l) (hb : Below w.heap.size w w') : LieS w' B ad l := h.kept (grown_of_below hb) (by simp)

/-- c is a slice that holds the bytes l. -/
def HoldS (w : World) (B : Nat) (c : Value) (l : List UInt8) : Prop := ∃ ad cap, c = .slice ad l.length cap ∧ LieS w B ad l ∧ l.length ≤ cap ∧ cap ≤ maxLen ∧ (ad = none → cap = 0)
theorem HoldS.kept {w w' : World} {B : Nat} {c : Value} {l : List UInt8} {row : Option Nat} (h : HoldS w B c l) (hg : w.grownBy w' row) (hr : ∀ r, row = some r → (B ≤ r ∧ ∀ cur fr, w.heap[r]? ≠ some (.cells cur 5 fr)) ∨ (∀ cur e fr, w.heap[r]? ≠ some (.cells cur e fr))) : HoldS w' B c l := by
  obtain ⟨ad, cap, e, h1, h2⟩ := h
  exact ⟨ad, cap, e, h1.kept hg hr, h2⟩
/-- The value v owns, behind block B, slices that hold the texts ls. -/
def Ls (w : World) (B : Nat) (v : Value) (ls : List (List UInt8)) : Prop := ∃ cs, w.ownsRow B 33 1 v ls.length cs ∧ cs.length = ls.length ∧ ∀ i (h : i < ls.length) (h' : i < cs.length), HoldS w B (cs[i]) (ls[i])
theorem Ls.nil (w : World) (B : Nat) : Ls w B (.slice none 0 0) [] := ⟨[], ⟨rfl, .inl ⟨rfl, rfl⟩⟩, rfl, fun i h => by simp at h⟩
theorem Ls.kept {w w' : World} {B : Nat} {v : Value} {ls : List (List UInt8)} {row : Option Nat} (h : Ls w B v ls) (hg : w.grownBy w' row)
    (hr : ∀ r, row = some r → (B ≤ r ∧ (∀ cur fr, w.heap[r]? ≠ some (.cells cur 5 fr)) ∧ ∀ cur fr, w.heap[r]? ≠ some (.cells cur 33 fr)) ∨ (∀ cur e fr, w.heap[r]? ≠ some (.cells cur e fr))) : Ls w' B v ls := by
  obtain ⟨cs, h1, h2, h3⟩ := h
  refine ⟨cs, h1.kept hg ?_, h2, fun i hi hi' => (h3 i hi hi').kept hg fun r e => ?_⟩
  · rcases h1.2 with ⟨rfl, _⟩ | ⟨g, cap, cur, rfl, hB, hgg, _⟩
    · exact .inl rfl
    · right
      intro e
      have e' : row = some g := e.symm
      rcases hr g e' with ⟨_, _, h4⟩ | h4
      · exact h4 _ _ hgg
      · exact h4 _ _ _ hgg
  · rcases hr r e with ⟨h4, h5, _⟩ | h4
    · exact .inl ⟨h4, h5⟩
    · exact .inr h4
theorem Ls.below {w w' : World} {B : Nat} {v : Value} {ls : List (List UInt8)} (h : Ls w B v ls) (hb : Below w.heap.size w w') : Ls w' B v ls := h.kept (grown_of_below hb) (by simp)
theorem Ls.alloc {w : World} {B : Nat} {v : Value} {ls : List (List UInt8)} (h : Ls w B v ls) (o : Obj) : Ls (w.alloc o) B v ls := h.below ((Below.refl _ _).alloc (Nat.le_refl _) o)
theorem Ls.lt {w : World} {B : Nat} {v : Value} {ls : List (List UInt8)} (h : Ls w B v ls) : ∀ k, v.ownBlock = some k → B ≤ k ∧ k < w.heap.size := by obtain ⟨cs, h1, _⟩ := h; exact h1.lt

theorem infoL : (Try.prog.info? 33).map (fun i => (i.zero, i.size, i.bytes)) = some (some (.slice none 0 0), 1, 24) := by kernel_rfl
theorem info_l : ∃ i : TypeInfo, Try.prog.info? 33 = some i ∧ i.zero = some (.slice none 0 0) ∧ i.size = 1 ∧ i.bytes = 24 := by
  have h := infoL
  rcases hi : Try.prog.info? 33 with _ | i
  · rw [hi] at h; simp at h
  · rw [hi] at h
    simp only [Option.map_some, Option.some.injEq, Prod.mk.injEq] at h
    exact ⟨i, rfl, h.1, h.2.1, h.2.2⟩
/-- What the law on append gives: the longer list. -/
theorem Ls.appended {w w' : World} {B : Nat} {v v' c : Value} {ls : List (List UInt8)} {l : List UInt8} {cs : List Value} (h1 : w.ownsRow B 33 1 v ls.length cs) (h2 : cs.length = ls.length) (h3 : ∀ i (h : i < ls.length) (h' : i < cs.length), HoldS w B (cs[i]) (ls[i]))
    (hc : HoldS w B c l) (ho : w'.ownsRow B 33 1 v' (ls.length + 1) (cs ++ [c])) (hg : w.grownBy w' v.ownBlock) : Ls w' B v' (ls ++ [l]) := by
  have hr : ∀ r, v.ownBlock = some r → (B ≤ r ∧ ∀ cur fr, w.heap[r]? ≠ some (.cells cur 5 fr)) ∨ (∀ cur e fr, w.heap[r]? ≠ some (.cells cur e fr)) := by
    intro r e
    rcases h1.2 with ⟨rfl, _⟩ | ⟨g, cap, cur, rfl, hB, hgg, _⟩
    · cases e
    · have e' : some g = some r := e
      cases e'
      refine .inl ⟨hB, fun cur2 fr2 h => ?_⟩
      rw [hgg] at h
      simp at h
  refine ⟨cs ++ [c], by rw [List.length_append]; exact ho, by simp [h2], fun i hi hi' => ?_⟩
  by_cases hlt : i < ls.length
  · rw [List.getElem_append_left (by omega), List.getElem_append_left hlt]
    exact (h3 i hlt (by omega)).kept hg hr
  · have hi2 : i = ls.length := by simp at hi; omega
    subst hi2
    rw [List.getElem_append_right (by omega), List.getElem_append_right (Nat.le_refl _)]
    simp only [h2, Nat.sub_self, List.getElem_cons_zero]
    exact hc.kept hg hr
theorem HoldS.one {w : World} {B : Nat} {c : Value} {l : List UInt8} (h : HoldS w B c l) : c.oneCell' = true := by obtain ⟨ad, cap, rfl, _⟩ := h; rfl

theorem wpList_append_l {w : World} {ops : Array Oper} {rest : List Oper} {o : Oper} {a : Act} {Q : Exit → Act → World → Prop} (hgd : o.guard = none) (s x : Operand)
    (ho : o.op = .call { callee := .builtin .append, args := #[s, x], argTypes := #[22, 22] })
    (B : Nat) (v c : Value) (ls : List (List UInt8)) (l : List UInt8) (hs : a.eval s = v) (hown : Ls w B v ls) (ad : Addr) (hx : a.eval x = .slice (some ad) 1 1) (hcell : ∀ j u, [c][j]? = some u → w.cell? (ad.add j) = some u) (hc : HoldS w B c l) (hlen : ls.length ≤ 100000) (hbase : B ≤ w.heap.size)
    (h : ∀ v' w', Ls w' B v' (ls ++ [l]) → w.grownBy w' v.ownBlock → wpList Try.prog ops Q rest (a.put o.dst v') w') : wpList Try.prog ops Q (o :: rest) a w := by
  obtain ⟨i, hi, hz0, hz1, hz2⟩ := info_l
  obtain ⟨cs, h1, h2, h3⟩ := hown
  exact wpList_append_own w hgd s x 22 ho B 33 i (.slice none 0 0) 1 24 Try.underlying22 hi hz0 hz1 hz2 rfl (by decide) v ls.length cs hs h1 ad 1 1 [c] hx rfl hcell (by simp [hc.one]) (by unfold maxLen; omega) (by omega) hbase
    (fun v' w' h4 h5 _ => h v' w' (Ls.appended h1 h2 h3 hc h4 h5) h5)
/-- A slice whose elements hold the texts ls, to be read. -/
structure Lr (w : World) (ad : Option Addr) (ls : List (List UInt8)) : Prop where
  at_ : ls = [] ∨ ∃ b off, ad = some ⟨b, off, none⟩ ∧ b < w.heap.size ∧ ∀ i (h : i < ls.length), ∃ ad' cap', w.cell? ⟨b, off + i, none⟩ = some (.slice ad' (ls[i]).length cap') ∧ Lie w ad' (ls[i]) ∧ (ls[i]).length ≤ cap' ∧ cap' ≤ maxLen ∧ (ad' = none → cap' = 0)
theorem Lr.below {w w' : World} {ad : Option Addr} {ls : List (List UInt8)} (h : Lr w ad ls) (hb : Below w.heap.size w w') : Lr w' ad ls := by
  rcases h.at_ with h0 | ⟨b, off, e, hlt, hc⟩
  · exact ⟨.inl h0⟩
  · refine ⟨.inr ⟨b, off, e, Nat.lt_of_lt_of_le hlt hb.size, fun i hi => ?_⟩⟩
    obtain ⟨ad', cap', h1, h2, h3⟩ := hc i hi
    exact ⟨ad', cap', (hb.cell (p := ⟨b, off + i, none⟩) hlt).trans h1, h2.below hb rfl, h3⟩
theorem Lr.drewN {w : World} {ad : Option Addr} {ls : List (List UInt8)} (h : Lr w ad ls) (k : Nat) : Lr (w.drewN k) ad ls := h.below (below_drewN (.refl _ _) k)
theorem Lr.take {w : World} {ad : Option Addr} {ls : List (List UInt8)} (h : Lr w ad ls) (k : Nat) : Lr w ad (ls.take k) := by
  rcases h.at_ with h0 | ⟨b, off, e, hlt, hc⟩
  · exact ⟨.inl (by rw [h0]; simp)⟩
  · refine ⟨.inr ⟨b, off, e, hlt, fun i hi => ?_⟩⟩
    rw [List.length_take] at hi
    rw [List.getElem_take]
    exact hc i (by omega)
theorem Ls.read {w : World} {B : Nat} {v : Value} {ls : List (List UInt8)} (h : Ls w B v ls) : ∃ ad cap, v = .slice ad ls.length cap ∧ Lr w ad ls ∧ ls.length ≤ cap ∧ cap ≤ maxLen ∧ (ad = none → cap = 0) := by
  obtain ⟨cs, h1, h2, h3⟩ := h
  rcases h1.2 with ⟨rfl, h0⟩ | ⟨g, cap, cur, rfl, hB, hg, hle, hm, hsz, htake⟩
  · have : ls = [] := List.eq_nil_of_length_eq_zero h0
    subst this
    exact ⟨none, 0, rfl, ⟨.inl rfl⟩, Nat.le_refl _, Nat.zero_le _, fun _ => rfl⟩
  · refine ⟨some ⟨g, 0, none⟩, cap, rfl, ⟨.inr ⟨g, 0, rfl, (Array.getElem?_eq_some_iff.1 hg).1, fun i hi => ?_⟩⟩, hle, hm, fun h => by cases h⟩
    obtain ⟨ad', cap', e, hl, h4⟩ := h3 i hi (by omega)
    refine ⟨ad', cap', ?_, hl.lie, h4⟩
    rw [Nat.zero_add, cell_of_row w g i cur 33 (0, 0) hg]
    have h5 : (cur.toList.take (ls.length * 1))[i]? = some (cs[i]'(by omega)) := by rw [htake]; exact List.getElem?_eq_getElem _
    rw [List.getElem?_take_of_lt (by omega)] at h5
    rw [e] at h5
    simpa using h5
end Go.Proofs.Ytinfjidclkgfnaa
namespace Go.Proofs.Ytinfjidclkgfnaa
open Go.RowKit

theorem types_ne : (5 : TypeId) ≠ 33 := by decide
/-- Block g holds r slices of L elements, whose elements lie in the blocks gs. -/
structure OM (w : World) (B g : Nat) (gs cps : Nat → Nat) (r L : Nat) (M : Nat → Nat → UInt8) : Prop where
  base : B ≤ g
  outer : ∃ cur, w.heap[g]? = some (.cells cur 33 (0, 0)) ∧ ∀ i, i < r → cur[i]? = some (.slice (some ⟨gs i, 0, none⟩) L (cps i))
  rows : ∀ i, i < r → B ≤ gs i ∧ L ≤ cps i ∧ cps i ≤ maxLen ∧ ∃ cur, w.heap[gs i]? = some (.cells cur 5 (0, 0)) ∧ ∀ k, k < L → cur[k]? = some (.int .u8 (ev (M i k)))
  dist : ∀ i j, i < j → j < r → gs i ≠ gs j
section
variable {w w' : World} {B g r L : Nat} {gs cps : Nat → Nat} {M : Nat → Nat → UInt8}
theorem OM.lt (h : OM w B g gs cps r L M) : g < w.heap.size := by obtain ⟨cur, h1, _⟩ := h.outer; exact (Array.getElem?_eq_some_iff.1 h1).1
theorem OM.ltRow (h : OM w B g gs cps r L M) (i : Nat) (hi : i < r) : gs i < w.heap.size := by obtain ⟨_, _, _, cur, h1, _⟩ := h.rows i hi; exact (Array.getElem?_eq_some_iff.1 h1).1
theorem OM.ne (h : OM w B g gs cps r L M) (i : Nat) (hi : i < r) : gs i ≠ g := by
  obtain ⟨cur, h1, _⟩ := h.outer
  obtain ⟨_, _, _, cur2, h2, _⟩ := h.rows i hi
  intro e
  rw [e, h1] at h2
  simp only [Option.some.injEq, Obj.cells.injEq] at h2
  exact types_ne h2.2.1.symm
theorem OM.apart (h : OM w B g gs cps r L M) (i j : Nat) (hi : i < r) (hj : j < r) (hne : i ≠ j) : gs i ≠ gs j := by
  rcases Nat.lt_or_gt_of_ne hne with h' | h'
  · exact h.dist i j h' hj
  · exact fun e => h.dist j i h' hi e.symm
theorem OM.rowCell (h : OM w B g gs cps r L M) (i : Nat) (hi : i < r) : w.cell? ⟨g, i, none⟩ = some (.slice (some ⟨gs i, 0, none⟩) L (cps i)) ∧ w.frozen? ⟨g, i, none⟩ = false := by
  obtain ⟨cur, h1, h2⟩ := h.outer
  exact ⟨by rw [cell_of_row w g i cur 33 (0, 0) h1]; exact h2 i hi, by simp [World.frozen?, h1]⟩
theorem OM.cell (h : OM w B g gs cps r L M) (i k : Nat) (hi : i < r) (hk : k < L) : w.cell? ⟨gs i, k, none⟩ = some (.int .u8 (ev (M i k))) ∧ w.frozen? ⟨gs i, k, none⟩ = false := by
  obtain ⟨_, _, _, cur, h1, h2⟩ := h.rows i hi
  exact ⟨by rw [cell_of_row w (gs i) k cur 5 (0, 0) h1]; exact h2 k hk, by simp [World.frozen?, h1]⟩
theorem OM.congr {M' : Nat → Nat → UInt8} (h : OM w B g gs cps r L M) (e : ∀ i, i < r → ∀ k, k < L → M' i k = M i k) : OM w B g gs cps r L M' :=
  ⟨h.base, h.outer, fun i hi => by
    obtain ⟨h1, h2, h3, cur, h4, h5⟩ := h.rows i hi
    exact ⟨h1, h2, h3, cur, h4, fun k hk => by rw [e i hi k hk]; exact h5 k hk⟩, h.dist⟩
/-- what turns only other blocks leaves it -/
theorem OM.kept (h : OM w B g gs cps r L M) (hk : ∀ b, (b = g ∨ ∃ i, i < r ∧ b = gs i) → w'.heap[b]? = w.heap[b]?) : OM w' B g gs cps r L M := by
  obtain ⟨cur, h1, h2⟩ := h.outer
  refine ⟨h.base, ⟨cur, (hk g (.inl rfl)).trans h1, h2⟩, fun i hi => ?_, h.dist⟩
  obtain ⟨h3, h4, h5, cur2, h6, h7⟩ := h.rows i hi
  exact ⟨h3, h4, h5, cur2, (hk (gs i) (.inr ⟨i, hi, rfl⟩)).trans h6, h7⟩
theorem OM.below (h : OM w B g gs cps r L M) (hb : Below w.heap.size w w') : OM w' B g gs cps r L M :=
  h.kept fun b hb' => hb.block b (by
    rcases hb' with rfl | ⟨i, hi, rfl⟩
    · exact h.lt
    · exact h.ltRow i hi)
theorem OM.drew (h : OM w B g gs cps r L M) : OM w.drew B g gs cps r L M := h.kept fun _ _ => rfl
theorem OM.drewN (h : OM w B g gs cps r L M) (n : Nat) : OM (w.drewN n) B g gs cps r L M := h.kept fun _ _ => rfl
/-- the element in row i and column k is x now -/
def updE (M : Nat → Nat → UInt8) (i k : Nat) (x : UInt8) (i' k' : Nat) : UInt8 := if i' = i ∧ k' = k then x else M i' k'
theorem heap_set_same (w : World) (b i : Nat) (u : Value) (cur : Array Value) (t : TypeId) (fr : Nat × Nat) (h : w.heap[b]? = some (.cells cur t fr)) : (w.setCell ⟨b, i, none⟩ u).heap[b]? = some (.cells (cur.setIfInBounds i u) t fr) := by
  simp [World.setCell, Array.getElem?_modify, h]
theorem heap_set_other (w : World) (b i k : Nat) (u : Value) (h : k ≠ b) : (w.setCell ⟨b, i, none⟩ u).heap[k]? = w.heap[k]? := Below.heap_setCell w ⟨b, i, none⟩ u k h
theorem OM.setE (h : OM w B g gs cps r L M) (i k : Nat) (hi : i < r) (hk : k < L) (x : UInt8) : OM (w.setCell ⟨gs i, k, none⟩ (.int .u8 (ev x))) B g gs cps r L (updE M i k x) := by
  obtain ⟨cur, h1, h2⟩ := h.outer
  refine ⟨h.base, ⟨cur, by rw [heap_set_other _ _ _ _ _ (fun e => h.ne i hi e.symm)]; exact h1, h2⟩, fun j hj => ?_, h.dist⟩
  obtain ⟨h3, h4, h5, cur2, h6, h7⟩ := h.rows j hj
  by_cases e : j = i
  · subst e
    refine ⟨h3, h4, h5, _, heap_set_same w (gs j) k _ cur2 _ _ h6, fun l hl => ?_⟩
    rw [Array.getElem?_setIfInBounds]
    unfold updE
    by_cases e2 : k = l
    · subst e2
      have hs : k < cur2.size := by
        have := h7 k hk
        exact (Array.getElem?_eq_some_iff.1 this).1
      rw [if_pos rfl, if_pos hs, if_pos ⟨rfl, rfl⟩]
    · rw [if_neg e2, if_neg (fun h' => e2 h'.2.symm)]; exact h7 l hl
  · refine ⟨h3, h4, h5, cur2, by rw [heap_set_other _ _ _ _ _ (h.apart j i hj hi e)]; exact h6, fun l hl => ?_⟩
    unfold updE
    rw [if_neg (fun h' => e h'.1)]; exact h7 l hl
/-- a row is replaced by another slice of the call's own -/
theorem OM.putRow (h : OM w B g gs cps r L M) (i : Nat) (hi : i < r) (b c : Nat) (N : Nat → UInt8) (hb : B ≤ b) (hc : L ≤ c) (hc2 : c ≤ maxLen) (hN : ∃ cur, w.heap[b]? = some (.cells cur 5 (0, 0)) ∧ ∀ k, k < L → cur[k]? = some (.int .u8 (ev (N k))))
    (hd : ∀ j, j < r → j ≠ i → gs j ≠ b) : OM (w.setCell ⟨g, i, none⟩ (.slice (some ⟨b, 0, none⟩) L c)) B g (fun j => if j = i then b else gs j) (fun j => if j = i then c else cps j) r L (fun j => if j = i then N else M j) := by
  obtain ⟨cur, h1, h2⟩ := h.outer
  obtain ⟨cur3, h8, h9⟩ := hN
  have hbg : b ≠ g := fun e => by
    rw [e, h1] at h8
    simp only [Option.some.injEq, Obj.cells.injEq] at h8
    exact types_ne h8.2.1.symm
  have hsz : ∀ j, j < r → j < cur.size := fun j hj => (Array.getElem?_eq_some_iff.1 (h2 j hj)).1
  refine ⟨h.base, ⟨_, heap_set_same w g i _ cur _ _ h1, fun j hj => ?_⟩, fun j hj => ?_, fun j k hjk hk => ?_⟩
  · rw [Array.getElem?_setIfInBounds]
    by_cases e : i = j
    · subst e; rw [if_pos rfl, if_pos (hsz i hi), if_pos rfl, if_pos rfl]
    · rw [if_neg e, if_neg (fun h' => e h'.symm), if_neg (fun h' => e h'.symm)]; exact h2 j hj
  · by_cases e : j = i
    · rw [if_pos e, if_pos e, if_pos e]
      exact ⟨hb, hc, hc2, cur3, by rw [heap_set_other _ _ _ _ _ hbg]; exact h8, h9⟩
    · rw [if_neg e, if_neg e, if_neg e]
      obtain ⟨h3, h4, h5, cur2, h6, h7⟩ := h.rows j hj
      exact ⟨h3, h4, h5, cur2, by rw [heap_set_other _ _ _ _ _ (h.ne j hj)]; exact h6, h7⟩
  · show (if j = i then b else gs j) ≠ if k = i then b else gs k
    by_cases e1 : j = i
    · rw [if_pos e1, if_neg (by omega)]; exact fun e => hd k hk (by omega) e.symm
    · rw [if_neg e1]
      by_cases e2 : k = i
      · rw [if_pos e2]; exact hd j (by omega) e1
      · rw [if_neg e2]; exact h.dist j k hjk hk
/-- two rows are exchanged -/
theorem OM.swap (h : OM w B g gs cps r L M) (a b : Nat) (ha : a < r) (hb : b < r) :
    OM ((w.setCell ⟨g, a, none⟩ (.slice (some ⟨gs b, 0, none⟩) L (cps b))).setCell ⟨g, b, none⟩ (.slice (some ⟨gs a, 0, none⟩) L (cps a))) B g (fun i => gs (sw a b i)) (fun i => cps (sw a b i)) r L (fun i => M (sw a b i)) := by
  obtain ⟨cur, h1, h2⟩ := h.outer
  have hsz : ∀ j, j < r → j < cur.size := fun j hj => (Array.getElem?_eq_some_iff.1 (h2 j hj)).1
  have hs : ∀ i, i < r → sw a b i < r := fun i hi => sw_lt ha hb hi
  refine ⟨h.base, ⟨_, heap_set_same _ g b _ _ _ _ (heap_set_same w g a _ cur _ _ h1), fun j hj => ?_⟩, fun j hj => ?_, fun i j hij hj e => ?_⟩
  · rw [Array.getElem?_setIfInBounds, Array.getElem?_setIfInBounds]
    unfold sw
    by_cases e1 : b = j
    · subst e1
      rw [if_pos rfl, if_pos (by simpa using hsz b hj)]
      by_cases e2 : b = a
      · subst e2; rw [if_pos rfl]
      · rw [if_neg e2, if_pos rfl]
    · rw [if_neg e1]
      by_cases e2 : a = j
      · subst e2
        rw [if_pos rfl, if_pos (hsz a hj), if_pos rfl]
      · rw [if_neg e2, if_neg (fun h' => e2 h'.symm), if_neg (fun h' => e1 h'.symm)]; exact h2 j hj
  · obtain ⟨h3, h4, h5, cur2, h6, h7⟩ := h.rows (sw a b j) (hs j hj)
    exact ⟨h3, h4, h5, cur2, by rw [heap_set_other _ _ _ _ _ (h.ne _ (hs j hj)), heap_set_other _ _ _ _ _ (h.ne _ (hs j hj))]; exact h6, h7⟩
  · have hi : i < r := by omega
    refine h.apart _ _ (hs i hi) (hs j hj) (fun e' => ?_) e
    have := congrArg (sw a b) e'
    rw [sw_sw, sw_sw] at this
    omega
/-- a row, to be read -/
theorem OM.lie (h : OM w B g gs cps r L M) (i : Nat) (hi : i < r) : Lie w (some ⟨gs i, 0, none⟩) ((List.range L).map (M i)) := by
  refine ⟨.inr ⟨gs i, 0, rfl, h.ltRow i hi, fun j hj => ?_⟩⟩
  have hj' : j < L := by simpa using hj
  rw [Nat.zero_add, (h.cell i j hi hj').1, ev_nat]
  simp
/-- the matrix, to be read -/
theorem OM.lr (h : OM w B g gs cps r L M) : Lr w (some ⟨g, 0, none⟩) (matL r L M) := by
  refine ⟨.inr ⟨g, 0, rfl, h.lt, fun i hi => ?_⟩⟩
  rw [matL_length] at hi
  obtain ⟨_, h4, h5, _⟩ := h.rows i hi
  refine ⟨some ⟨gs i, 0, none⟩, cps i, ?_, ?_, ?_, h5, fun h' => by cases h'⟩
  · rw [Nat.zero_add, (h.rowCell i hi).1, matL_row]
    simp
  · rw [matL_row]; exact h.lie i hi
  · rw [matL_row]; simpa using h4
end

/-- The value v is a matrix of the call's own, its rows in blocks below D: of no row yet, or OM's. -/
def OMv (w : World) (B D : Nat) (v : Value) (r L : Nat) (M : Nat → Nat → UInt8) : Prop :=
  ∃ cs : List Value, w.ownsRow B 33 1 v r cs ∧ (∀ i (h : i < cs.length), Own w B (cs[i]) ((List.range L).map (M i)) ∧ ∃ k, (cs[i]).ownBlock = some k ∧ k < D) ∧ ∀ i j (hi : i < cs.length) (hj : j < cs.length), i < j → (cs[i]).ownBlock ≠ (cs[j]).ownBlock
theorem row_len {w : World} {B r : Nat} {v : Value} {cs : List Value} (h : w.ownsRow B 33 1 v r cs) : cs.length = r := by have := h.1; omega
theorem Own.form {w : World} {B g : Nat} {c : Value} {l : List UInt8} (h : Own w B c l) (hg : c.ownBlock = some g) : ∃ cap cur, c = .slice (some ⟨g, 0, none⟩) l.length cap ∧ B ≤ g ∧ w.heap[g]? = some (.cells cur 5 (0, 0)) ∧ l.length ≤ cap ∧ cap ≤ maxLen ∧ ∀ i (hi : i < l.length), cur[i]? = some (.int .u8 (ev (l[i]'hi))) := by
  rcases h.row.2 with ⟨rfl, _⟩ | ⟨g', cap, cur, rfl, hB, hgg, hle, hm, hsz, htake⟩
  · cases hg
  · have e : some g' = some g := hg
    cases e
    refine ⟨cap, cur, rfl, hB, hgg, hle, hm, fun i hi => ?_⟩
    have h1 : (cur.toList.take (l.length * 1))[i]? = some (.int .u8 ((l[i]'hi).toNat : Int)) := by rw [htake]; exact cellsU_get l i hi
    rw [List.getElem?_take_of_lt (by omega)] at h1
    rw [ev_nat]
    simpa using h1
/-- with rows: what the walk needs -/
theorem OMv.open_ {w : World} {B D r L : Nat} {v : Value} {M : Nat → Nat → UInt8} (h : OMv w B D v r L M) (hr : 0 < r) : ∃ g cap gs cps, v = .slice (some ⟨g, 0, none⟩) r cap ∧ r ≤ cap ∧ cap ≤ maxLen ∧ OM w B g gs cps r L M := by
  obtain ⟨cs, h1, h2, h3⟩ := h
  have hl := row_len h1
  rcases h1.2 with ⟨_, h0⟩ | ⟨g, cap, cur, rfl, hB, hg, hle, hm, hsz, htake⟩
  · omega
  have hx : ∀ i, ∃ b, (hi : i < cs.length) → (cs[i]).ownBlock = some b := fun i => by
    by_cases hi : i < cs.length
    · obtain ⟨b, e, _⟩ := (h2 i hi).2
      exact ⟨b, fun _ => e⟩
    · exact ⟨0, fun h' => absurd h' hi⟩
  obtain ⟨gs, hgs⟩ := Classical.axiomOfChoice hx
  have hy : ∀ i, ∃ c, (hi : i < cs.length) → cs[i] = .slice (some ⟨gs i, 0, none⟩) L c ∧ B ≤ gs i ∧ L ≤ c ∧ c ≤ maxLen ∧ ∃ cur, w.heap[gs i]? = some (.cells cur 5 (0, 0)) ∧ ∀ k, k < L → cur[k]? = some (.int .u8 (ev (M i k))) := fun i => by
    by_cases hi : i < cs.length
    · obtain ⟨c, cur2, e, h4, h5, h6, h7, h8⟩ := (h2 i hi).1.form (hgs i hi)
      rw [List.length_map, List.length_range] at e h6
      exact ⟨c, fun _ => ⟨e, h4, h6, h7, cur2, h5, fun k hk => by have := h8 k (by simpa using hk); simpa using this⟩⟩
    · exact ⟨0, fun h' => absurd h' hi⟩
  obtain ⟨cps, hcps⟩ := Classical.axiomOfChoice hy
  refine ⟨g, cap, gs, cps, rfl, hle, hm, hB, ⟨cur, hg, fun i hi => ?_⟩, fun i hi => (hcps i (by omega)).2, fun i j hij hj e => ?_⟩
  · have h4 : (cur.toList.take (r * 1))[i]? = some (cs[i]'(by omega)) := by rw [htake]; exact List.getElem?_eq_getElem _
    rw [List.getElem?_take_of_lt (by omega), (hcps i (by omega)).1] at h4
    simpa using h4
  · refine h3 i j (by omega) (by omega) hij ?_
    rw [hgs i (by omega), hgs j (by omega), e]
theorem OMv.nil (w : World) (B D L : Nat) (M : Nat → Nat → UInt8) : OMv w B D (.slice none 0 0) 0 L M := ⟨[], ⟨rfl, .inl ⟨rfl, rfl⟩⟩, fun i h => by simp at h, fun i j h => by simp at h⟩
theorem OMv.lt {w : World} {B D r L : Nat} {v : Value} {M : Nat → Nat → UInt8} (h : OMv w B D v r L M) : ∀ k, v.ownBlock = some k → B ≤ k ∧ k < w.heap.size := by obtain ⟨cs, h1, _⟩ := h; exact h1.lt
theorem OMv.below {w w' : World} {B D r L : Nat} {v : Value} {M : Nat → Nat → UInt8} (h : OMv w B D v r L M) (hb : Below w.heap.size w w') : OMv w' B D v r L M := by
  obtain ⟨cs, h1, h2, h3⟩ := h
  refine ⟨cs, ⟨h1.1, ?_⟩, fun i hi => ⟨(h2 i hi).1.below hb, (h2 i hi).2⟩, h3⟩
  rcases h1.2 with h0 | ⟨g, cap, cur, hv, hB, hg, h4⟩
  · exact .inl h0
  · exact .inr ⟨g, cap, cur, hv, hB, (hb.block g (Array.getElem?_eq_some_iff.1 hg).1).trans hg, h4⟩
theorem Own.other {w w' : World} {B : Nat} {v : Value} {l : List UInt8} {row : Option Nat} (h : Own w B v l) (hg : w.grownBy w' row) (hne : ∀ k, v.ownBlock = some k → some k ≠ row) : Own w' B v l := by
  refine ⟨h.row.1, ?_⟩
  rcases h.row.2 with h0 | ⟨g, cap, cur, hv, hB, hgg, h4⟩
  · exact .inl h0
  · exact .inr ⟨g, cap, cur, hv, hB, (hg.block g (Array.getElem?_eq_some_iff.1 hgg).1 (hne g (by rw [hv]; rfl))).trans hgg, h4⟩
/-- a row more: what the law on append gives -/
theorem wpList_append_row {w : World} {ops : Array Oper} {rest : List Oper} {o : Oper} {a : Act} {Q : Exit → Act → World → Prop} (hgd : o.guard = none) (s x : Operand)
    (ho : o.op = .call { callee := .builtin .append, args := #[s, x], argTypes := #[22, 22] })
    (B : Nat) (v c : Value) (r L : Nat) (M : Nat → Nat → UInt8) (D : Nat) (hs : a.eval s = v) (hown : OMv w B D v r L M) (ad : Addr) (hx : a.eval x = .slice (some ad) 1 1) (hcell : ∀ j u, [c][j]? = some u → w.cell? (ad.add j) = some u)
    (hc : Own w D c ((List.range L).map (M r))) (hL : 0 < L) (hD : B ≤ D) (hlen : r ≤ 100000) (hbase : B ≤ w.heap.size)
    (h : ∀ v' w', OMv w' B w'.heap.size v' (r + 1) L M → w.grownBy w' v.ownBlock → wpList Try.prog ops Q rest (a.put o.dst v') w') : wpList Try.prog ops Q (o :: rest) a w := by
  obtain ⟨i, hi, hz0, hz1, hz2⟩ := info_l
  obtain ⟨cs, h1, h2, h3⟩ := hown
  have hl := row_len h1
  have hone : c.oneCell' = true := by
    obtain ⟨ad, cap, rfl, _⟩ := hc.slice
    rfl
  refine wpList_append_own w hgd s x 22 ho B 33 i (.slice none 0 0) 1 24 Try.underlying22 hi hz0 hz1 hz2 rfl (by decide) v r cs hs h1 ad 1 1 [c] hx rfl hcell (by simp [hone]) (by unfold maxLen; omega) (by omega) hbase
    (fun v' w' h4 h5 _ => h v' w' ?_ h5)
  -- the outer row's block is none of bytes
  have hrow : ∀ (u : Value) (l : List UInt8) (D : Nat), Own w D u l → ∀ k, u.ownBlock = some k → some k ≠ v.ownBlock := by
    intro u l D hu k hk e
    obtain ⟨cap, cur, _, _, hg, _⟩ := hu.form hk
    rcases h1.2 with ⟨rfl, _⟩ | ⟨g, cap2, cur2, rfl, _, hg2, _⟩
    · cases e
    · have e' : some k = some g := e
      cases e'
      rw [hg2] at hg
      simp only [Option.some.injEq, Obj.cells.injEq] at hg
      exact types_ne hg.2.1.symm
  have hcb : ∃ k, c.ownBlock = some k := by
    rcases hc.row.2 with ⟨_, h0⟩ | ⟨g, cap, cur, rfl, _⟩
    · rw [List.length_map, List.length_range] at h0; omega
    · exact ⟨g, rfl⟩
  refine ⟨cs ++ [c], h4, fun i hi => ?_, fun i j hi hj hij => ?_⟩
  · by_cases hlt : i < cs.length
    · rw [List.getElem_append_left hlt]
      obtain ⟨k, hk, _⟩ := (h2 i hlt).2
      have ho := (h2 i hlt).1.other h5 (hrow _ _ _ (h2 i hlt).1)
      exact ⟨ho, k, hk, (ho.lt k hk).2⟩
    · have e : i = cs.length := by simp at hi; omega
      subst e
      rw [List.getElem_append_right (Nat.le_refl _)]
      simp only [Nat.sub_self, List.getElem_cons_zero]
      rw [hl]
      obtain ⟨k, hk⟩ := hcb
      have ho := hc.other h5 (hrow _ _ _ hc)
      exact ⟨ho.mono hD, k, hk, (ho.lt k hk).2⟩
  · by_cases hlt : j < cs.length
    · rw [List.getElem_append_left hlt, List.getElem_append_left (by omega)]
      exact h3 i j (by omega) hlt hij
    · have e : j = cs.length := by simp at hj; omega
      subst e
      rw [List.getElem_append_right (Nat.le_refl _), List.getElem_append_left hij]
      simp only [Nat.sub_self, List.getElem_cons_zero]
      intro e
      obtain ⟨k, hk, hkD⟩ := (h2 i hij).2
      rw [hk] at e
      have h7 := (hc.lt k e.symm).1
      omega
end Go.Proofs.Ytinfjidclkgfnaa
namespace Go.Proofs.Ytinfjidclkgfnaa
open Go.RowKit

/-- Block g is the cells cs. -/
def Blk (w : World) (g : Nat) (cs : Array Value) : Prop := w.heap[g]? = some (.cells cs 5 (0, 0))
theorem Blk.lt {w : World} {g : Nat} {cs : Array Value} (h : Blk w g cs) : g < w.heap.size := (Array.getElem?_eq_some_iff.1 h).1
theorem Blk.cell {w : World} {g : Nat} {cs : Array Value} (h : Blk w g cs) (i : Nat) : w.cell? ⟨g, i, none⟩ = cs[i]? := cell_of_row w g i cs 5 (0, 0) h
theorem Blk.frozen {w : World} {g : Nat} {cs : Array Value} (h : Blk w g cs) (i : Nat) : w.frozen? ⟨g, i, none⟩ = false := by
  unfold Blk at h
  simp [World.frozen?, h]
theorem Blk.set_ {w : World} {g : Nat} {cs : Array Value} (h : Blk w g cs) (i : Nat) (u : Value) : Blk (w.setCell ⟨g, i, none⟩ u) g (cs.setIfInBounds i u) := by
  unfold Blk at h ⊢
  simp [World.setCell, Array.getElem?_modify, h]
theorem Blk.below {w w' : World} {g B : Nat} {cs : Array Value} (h : Blk w g cs) (hb : Below B w w') (hg : g < B) : Blk w' g cs := (hb.block g hg).trans h

/-- Block g is the bytes R. -/
def Rowu (w : World) (g : Nat) (R : List UInt8) : Prop := Blk w g (cellsU R).toArray
theorem Rowu.blk {w : World} {g : Nat} {R : List UInt8} (h : Rowu w g R) : Blk w g (cellsU R).toArray := h
theorem Rowu.cell {w : World} {g : Nat} {R : List UInt8} (h : Rowu w g R) (i : Nat) (hi : i < R.length) : w.cell? ⟨g, i, none⟩ = some (.int .u8 ((R[i]'hi).toNat : Int)) := by
  rw [h.blk.cell i, List.getElem?_toArray]
  exact cellsU_get R i hi
theorem Rowu.set_ {w : World} {g : Nat} {R : List UInt8} (h : Rowu w g R) (i : Nat) (n : Int) (v : UInt8) (hn : n = (v.toNat : Int)) : Rowu (w.setCell ⟨g, i, none⟩ (.int .u8 n)) g (R.set i v) := by
  subst hn
  have := h.blk.set_ i (.int .u8 (v.toNat : Int))
  unfold Rowu
  rwa [List.setIfInBounds_toArray, show (cellsU R).set i (Value.int .u8 (v.toNat : Int)) = cellsU (R.set i v) by simp [cellsU, List.map_set]] at this
theorem Rowu.lie {w : World} {g : Nat} {R : List UInt8} (h : Rowu w g R) : Lie w (some ⟨g, 0, none⟩) R :=
  ⟨.inr ⟨g, 0, rfl, h.blk.lt, fun j hj => by rw [Nat.zero_add]; exact h.cell j hj⟩⟩
theorem Rowu.below {w w' : World} {g B : Nat} {R : List UInt8} (h : Rowu w g R) (hb : Below B w w') (hg : g < B) : Rowu w' g R := h.blk.below hb hg

theorem made_eq (n : Nat) : (madeCells (Value.int .u8 0).cells (n * 1)).toList = cellsU (List.replicate n 0) := by
  apply List.ext_getElem
  · simp [madeCells, cellsU]
  · intro i h1 h2
    simp [madeCells, cellsU, Value.cells, Nat.mod_one]

theorem wpList_make_row {w : World} {ops : Array Oper} {rest : List Oper} {o : Oper} {a : Act} {Q : Exit → Act → World → Prop} (hgd : o.guard = none) (l c : Operand) (hop : o.op = Op.makeSlice 33 l c)
    (L C : Int) (n : Nat) (hl : a.eval l = .int .i64 L) (hc : a.eval c = .int .i64 C) (hL : L = (n : Int)) (hC : C = (n : Int)) (hn : n ≤ 10000000)
    (h : ∀ g w', Rowu w' g (List.replicate n 0) → w.heap.size ≤ g → Below w.heap.size w w' → wpList Try.prog ops Q rest (a.put o.dst (.slice (some ⟨g, 0, none⟩) n n)) w') : wpList Try.prog ops Q (o :: rest) a w := by
  obtain ⟨i, hi, hz0, hz1, hz2⟩ := info_u
  refine wpList_make_full w hgd l c 33 hop w.heap.size 5 i (.int .u8 0) 1 Try.underlying33 hi hz0 hz1 .i64 .i64 L C n hl hc hL hC (by rw [hz2]; omega) (by unfold maxLen; omega) (Nat.le_refl _) (fun w' h2 h3 => ?_)
  refine h _ w' ?_ (Nat.le_refl _) ((Below.refl _ _).grown h3 (Nat.le_refl _) (by simp))
  rcases h2.2 with ⟨h4, _⟩ | ⟨g, cap, cur, h4, _, h5, _, _, h6, h7⟩
  · cases h4
  · cases h4
    rw [made_eq] at h7
    have : cur = (cellsU (List.replicate n 0)).toArray := by
      rw [← h7, List.take_of_length_le (by rw [Array.length_toList, h6]; exact Nat.le_refl _)]
    unfold Rowu Blk
    rw [← this]
    exact h5

theorem wpList_copy_u {w : World} {ops : Array Oper} {rest : List Oper} {o : Oper} {a : Act} {Q : Exit → Act → World → Prop} (hgd : o.guard = none) (d s : Operand)
    (ho : o.op = .call { callee := .builtin .copy, args := #[d, s], argTypes := #[33, 33] })
    (g dLen dCap : Nat) (hd : a.eval d = .slice (some ⟨g, 0, none⟩) dLen dCap) (ad : Option Addr) (sLen sCap : Nat) (hs : a.eval s = .slice ad sLen sCap) (xs : List UInt8) (hsl : sLen = xs.length) (hl : Lie w ad xs)
    (R : List UInt8) (hR : Rowu w g R) (hdl : dLen = R.length) (hle : xs.length ≤ R.length) (w0 : World) (hb : Below w0.heap.size w0 w) (hBg : w0.heap.size ≤ g)
    (h : ∀ w', Rowu w' g (xs ++ R.drop xs.length) → Below w0.heap.size w0 w' → wpList Try.prog ops Q rest (a.put o.dst (goInt xs.length)) w') : wpList Try.prog ops Q (o :: rest) a w := by
  subst hsl hdl
  obtain ⟨i, hi, hz0, hz1, hz2⟩ := info_u
  have h1 : (cellsU xs).length = xs.length := cellsU_length xs
  refine wpList_copy_splice hgd d s 33 33 ho 5 Try.underlying33 (by rw [hi]; simp [hz1]) _ _ _ _ _ _ hd hs g 0 (cellsU R) 5 hR (cellsU xs)
    (by rw [h1]; exact (Nat.min_eq_left hle).symm) (fun hp => ⟨rfl, ?_⟩) (by rw [h1, cellsU_length]; omega) (cellsU_one xs) w0.heap.size w0 hb hBg (fun w' h2 h3 => ?_)
  · rcases hl.at_ with rfl | ⟨b, off, rfl, _, hc⟩
    · simp [cellsU] at hp
    · refine ⟨_, rfl, fun j v hj => ?_⟩
      have hjx : j < xs.length := by
        have := (List.getElem?_eq_some_iff.1 hj).1
        rwa [h1] at this
      rw [Go.WideShapes.add_plain, hc j hjx]
      rw [cellsU_get xs j hjx] at hj
      exact hj
  · rw [h1]
    refine h w' ?_ h3
    have := h2.out
    unfold Rowu Blk
    rw [this]
    simp [splice, cellsU, List.map_drop]
end Go.Proofs.Ytinfjidclkgfnaa
