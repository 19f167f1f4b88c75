/-
  A block of bytes that is known whole: what is read of it, a byte stored into it, made anew, copied into.
-/
import Derived.Test.YtpjegenobadckaaApp
import Derived.Laws.CopyOwn
import Derived.Laws.MakeOwn
namespace Go.Proofs.Ytpjegenobadckaa
open Go.RowKit

/-- Block g is the cells cs. -/
def Blkc (w : World) (g : Nat) (cs : Array Value) : Prop := w.heap[g]? = some (.cells cs 5 (0, 0))
theorem Blkc.lt {w : World} {g : Nat} {cs : Array Value} (h : Blkc w g cs) : g < w.heap.size := (Array.getElem?_eq_some_iff.1 h).1
theorem Blkc.cell {w : World} {g : Nat} {cs : Array Value} (h : Blkc w g cs) (i : Nat) : w.cell? ⟨g, i, none⟩ = cs[i]? := cell_of_row w g i cs 5 (0, 0) h
theorem Blkc.frozen {w : World} {g : Nat} {cs : Array Value} (h : Blkc w g cs) (i : Nat) : w.frozen? ⟨g, i, none⟩ = false := by
  unfold Blkc at h
  simp [World.frozen?, h]
theorem Blkc.set_ {w : World} {g : Nat} {cs : Array Value} (h : Blkc w g cs) (i : Nat) (u : Value) : Blkc (w.setCell ⟨g, i, none⟩ u) g (cs.setIfInBounds i u) := by
  unfold Blkc at h ⊢
  simp [World.setCell, Array.getElem?_modify, h]
theorem Blkc.below {w w' : World} {g B : Nat} {cs : Array Value} (h : Blkc w g cs) (hb : Below B w w') (hg : g < B) : Blkc w' g cs := (hb.block g hg).trans h

/-- Block g is the bytes R. -/
def Rowu (w : World) (g : Nat) (R : List UInt8) : Prop := Blkc w g (cellsU R).toArray
theorem Rowu.blk {w : World} {g : Nat} {R : List UInt8} (h : Rowu w g R) : Blkc w g (cellsU R).toArray := h
theorem Rowu.cell {w : World} {g : Nat} {R : List UInt8} (h : Rowu w g R) (i : Nat) (hi : i < R.length) : w.cell? ⟨g, i, none⟩ = some (.int .u8 ((R[i]'hi).toNat : Int)) := by
  rw [h.blk.cell i, List.getElem?_toArray]
  exact cellsU_get R i hi
theorem Rowu.set_ {w : World} {g : Nat} {R : List UInt8} (h : Rowu w g R) (i : Nat) (n : Int) (v : UInt8) (hn : n = (v.toNat : Int)) : Rowu (w.setCell ⟨g, i, none⟩ (.int .u8 n)) g (R.set i v) := by
  subst hn
  have := h.blk.set_ i (.int .u8 (v.toNat : Int))
  unfold Rowu
  rwa [List.setIfInBounds_toArray, show (cellsU R).set i (Value.int .u8 (v.toNat : Int)) = cellsU (R.set i v) by simp [cellsU, List.map_set]] at this
theorem Rowu.lie {w : World} {g : Nat} {R : List UInt8} (h : Rowu w g R) : Lie w (some ⟨g, 0, none⟩) R :=
  ⟨.inr ⟨g, 0, rfl, h.blk.lt, fun j hj => by rw [Nat.zero_add]; exact h.cell j hj⟩⟩
theorem Rowu.below {w w' : World} {g B : Nat} {R : List UInt8} (h : Rowu w g R) (hb : Below B w w') (hg : g < B) : Rowu w' g R := h.blk.below hb hg

theorem made_eq (n : Nat) : (madeCells (Value.int .u8 0).cells (n * 1)).toList = cellsU (List.replicate n 0) := by
  apply List.ext_getElem
  · simp [madeCells, cellsU]
  · intro i h1 h2
    simp [madeCells, cellsU, Value.cells, Nat.mod_one]

theorem wpList_make_row {w : World} {ops : Array Oper} {rest : List Oper} {o : Oper} {a : Act} {Q : Exit → Act → World → Prop} (hgd : o.guard = none) (l c : Operand) (hop : o.op = Op.makeSlice 47 l c)
    (L C : Int) (n : Nat) (hl : a.eval l = .int .i64 L) (hc : a.eval c = .int .i64 C) (hL : L = (n : Int)) (hC : C = (n : Int)) (hn : n ≤ 10000000)
    (h : ∀ g w', Rowu w' g (List.replicate n 0) → w.heap.size ≤ g → Below w.heap.size w w' → wpList Try.prog ops Q rest (a.put o.dst (.slice (some ⟨g, 0, none⟩) n n)) w') : wpList Try.prog ops Q (o :: rest) a w := by
  obtain ⟨i, hi, hz0, hz1, hz2⟩ := info_u
  refine wpList_make_full w hgd l c 47 hop w.heap.size 5 i (.int .u8 0) 1 Try.underlying47 hi hz0 hz1 .i64 .i64 L C n hl hc hL hC (by rw [hz2]; omega) (by unfold maxLen; omega) (Nat.le_refl _) (fun w' h2 h3 => ?_)
  refine h _ w' ?_ (Nat.le_refl _) ((Below.refl _ _).grown h3 (Nat.le_refl _) (by simp))
  rcases h2.2 with ⟨h4, _⟩ | ⟨g, cap, cur, h4, _, h5, _, _, h6, h7⟩
  · cases h4
  · cases h4
    rw [made_eq] at h7
    have : cur = (cellsU (List.replicate n 0)).toArray := by
      rw [← h7, List.take_of_length_le (by rw [Array.length_toList, h6]; exact Nat.le_refl _)]
    unfold Rowu Blkc
    rw [← this]
    exact h5

theorem wpList_copy_u {w : World} {ops : Array Oper} {rest : List Oper} {o : Oper} {a : Act} {Q : Exit → Act → World → Prop} (hgd : o.guard = none) (d s : Operand)
    (ho : o.op = .call { callee := .builtin .copy, args := #[d, s], argTypes := #[47, 47] })
    (g dLen dCap : Nat) (hd : a.eval d = .slice (some ⟨g, 0, none⟩) dLen dCap) (ad : Option Addr) (sLen sCap : Nat) (hs : a.eval s = .slice ad sLen sCap) (xs : List UInt8) (hsl : sLen = xs.length) (hl : Lie w ad xs)
    (R : List UInt8) (hR : Rowu w g R) (hdl : dLen = R.length) (hle : xs.length ≤ R.length) (w0 : World) (hb : Below w0.heap.size w0 w) (hBg : w0.heap.size ≤ g)
    (h : ∀ w', Rowu w' g (xs ++ R.drop xs.length) → Below w0.heap.size w0 w' → wpList Try.prog ops Q rest (a.put o.dst (goInt xs.length)) w') : wpList Try.prog ops Q (o :: rest) a w := by
  subst hsl hdl
  obtain ⟨i, hi, hz0, hz1, hz2⟩ := info_u
  have h1 : (cellsU xs).length = xs.length := cellsU_length xs
  refine wpList_copy_splice hgd d s 47 47 ho 5 Try.underlying47 (by rw [hi]; simp [hz1]) _ _ _ _ _ _ hd hs g 0 (cellsU R) 5 hR (cellsU xs)
    (by rw [h1]; exact (Nat.min_eq_left hle).symm) (fun hp => ⟨rfl, ?_⟩) (by rw [h1, cellsU_length]; omega) (cellsU_one xs) w0.heap.size w0 hb hBg (fun w' h2 h3 => ?_)
  · rcases hl.at_ with rfl | ⟨b, off, rfl, _, hc⟩
    · simp [cellsU] at hp
    · refine ⟨_, rfl, fun j v hj => ?_⟩
      have hjx : j < xs.length := by
        have := (List.getElem?_eq_some_iff.1 hj).1
        rwa [h1] at this
      rw [Go.WideShapes.add_plain, hc j hjx]
      rw [cellsU_get xs j hjx] at hj
      exact hj
  · rw [h1]
    refine h w' ?_ h3
    have := h2.out
    unfold Rowu Blkc
    rw [this]
    simp [splice, cellsU, List.map_drop]
end Go.Proofs.Ytpjegenobadckaa
