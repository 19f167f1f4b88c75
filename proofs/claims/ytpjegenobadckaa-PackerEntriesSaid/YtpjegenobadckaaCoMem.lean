/-
  Headers of containers and their entries in memory.
-/
import Derived.Test.YtpjegenobadckaaFlat
import Derived.Test.YtpjegenobadckaaZStr
namespace Go.Proofs.Ytpjegenobadckaa
open Go.RowKit
set_option linter.unusedVariables false
/-- an entry: a file, its version, an offset, a length, a checksum -/
structure Ent where
  f : Int
  v : Int
  o : Int
  n : Int
  s : Nat
  deriving DecidableEq
/-- a header -/
structure Hdr where
  id : Int
  kd : Int
  vr : Int
  st : Int
  ix : Int
  da : Int
  pa : Int
  cm : Int
  es : List Ent
  sz : Int
  sm : Nat
def Hdr.zero : Hdr := ⟨0, 0, 0, 0, 0, 0, 0, 0, [], 0, 0⟩
def enC (x : Ent) : List Value := [.int .i64 x.f, .int .i64 x.v, .int .i64 x.o, .int .i64 x.n, .int .u32 (x.s : Int)]
abbrev enV (x : Ent) : Value := .agg #[.int .i64 x.f, .int .i64 x.v, .int .i64 x.o, .int .i64 x.n, .int .u32 (x.s : Int)]
theorem celE : Cel enC 5 := ⟨fun _ => rfl, fun x u hu => by simp [enC] at hu; rcases hu with rfl | rfl | rfl | rfl | rfl <;> rfl, by decide⟩
theorem typE : Typ Try.prog 54 48 5 40 (.agg #[.int .i64 0, .int .i64 0, .int .i64 0, .int .i64 0, .int .u32 0]) := ⟨by kernel_rfl, Try.underlying48, rfl, by decide⟩
/-- a header's cells, its list at ad -/
abbrev hdC (h : Hdr) (ad : Option Addr) (n cap : Nat) : Array Value := #[.int .i64 h.id, .int .i64 h.kd, .int .i64 h.vr, .int .i64 h.st, .int .i64 h.ix, .int .i64 h.da, .int .i64 h.pa, .int .i64 h.cm, .slice ad n cap, .int .i64 h.sz, .int .u32 (h.sm : Int)]
abbrev hdV (h : Hdr) (ad : Option Addr) (n cap : Nat) : Value := .agg #[.int .i64 h.id, .int .i64 h.kd, .int .i64 h.vr, .int .i64 h.st, .int .i64 h.ix, .int .i64 h.da, .int .i64 h.pa, .int .i64 h.cm, .slice ad n cap, .int .i64 h.sz, .int .u32 (h.sm : Int)]
/-- the header's list lies -/
structure HdIn (w : World) (h : Hdr) (ad : Option Addr) (n cap : Nat) : Prop where
  lf : Lf enC w ad h.es
  len : n = h.es.length
  le : n ≤ cap
  mx : cap ≤ maxLen
  nn : ad = none → cap = 0
theorem HdIn.below {w w' : World} {h : Hdr} {ad : Option Addr} {n cap : Nat} (hi : HdIn w h ad n cap) (hb : Below w.heap.size w w') : HdIn w' h ad n cap := ⟨hi.lf.below hb, hi.len, hi.le, hi.mx, hi.nn⟩
theorem HdIn.zero (w : World) : HdIn w .zero none 0 0 := ⟨.nil _ _ _, rfl, Nat.le_refl _, Nat.zero_le _, fun _ => rfl⟩
section
variable {w W : World} {g B : Nat} {h : Hdr} {ad : Option Addr} {n cap : Nat}
/-- its cells -/
structure HdAt (w : World) (g : Nat) (h : Hdr) (ad : Option Addr) (n cap : Nat) : Prop where
  lt : g < w.heap.size
  c0 : w.cell? ⟨g, 0, none⟩ = some (.int .i64 h.id)
  c1 : w.cell? ⟨g, 1, none⟩ = some (.int .i64 h.kd)
  c2 : w.cell? ⟨g, 2, none⟩ = some (.int .i64 h.vr)
  c3 : w.cell? ⟨g, 3, none⟩ = some (.int .i64 h.st)
  c4 : w.cell? ⟨g, 4, none⟩ = some (.int .i64 h.ix)
  c5 : w.cell? ⟨g, 5, none⟩ = some (.int .i64 h.da)
  c6 : w.cell? ⟨g, 6, none⟩ = some (.int .i64 h.pa)
  c7 : w.cell? ⟨g, 7, none⟩ = some (.int .i64 h.cm)
  c8 : w.cell? ⟨g, 8, none⟩ = some (.slice ad n cap)
  c9 : w.cell? ⟨g, 9, none⟩ = some (.int .i64 h.sz)
  c10 : w.cell? ⟨g, 10, none⟩ = some (.int .u32 (h.sm : Int))
theorem hd_set (w : World) (b i : Nat) (u : Value) (cur : Array Value) (t : TypeId) (fr : Nat × Nat) (h : w.heap[b]? = some (.cells cur t fr)) : (w.setCell ⟨b, i, none⟩ u).heap[b]? = some (.cells (cur.setIfInBounds i u) t fr) := by
  simp [World.setCell, Array.getElem?_modify, h]
end
theorem co_box1 (w : World) (o : Obj) : Below w.heap.size w (w.alloc o) := (Below.refl _ _).alloc (Nat.le_refl _) _
theorem co_box2 (w : World) (o p : Obj) : Below w.heap.size w ((w.alloc o).alloc p) := (co_box1 w o).alloc (by simp) _
end Go.Proofs.Ytpjegenobadckaa
