/-
  Bytes of a slice appended to a slice that the call itself owns; and what is owned, read as bytes.
-/
import Derived.Test.YtheoklpgnchmcaaLawA
import Derived.Laws.AppendOwnNone
namespace Go.Proofs.Ytheoklpgnchmcaa
open Go.RowKit

def cellsB (xs : List (BitVec 32)) : List Value := xs.map fun x => Value.int .u8 (iv x)
theorem cellsB_length (xs : List (BitVec 32)) : (cellsB xs).length = xs.length := by simp [cellsB]
theorem cellsB_get (xs : List (BitVec 32)) (j : Nat) (h : j < xs.length) : (cellsB xs)[j]? = some (.int .u8 (iv (xs.getD j 0#32))) := by simp [cellsB, h]
theorem cellsB_append (xs ys : List (BitVec 32)) : cellsB xs ++ cellsB ys = cellsB (xs ++ ys) := by simp [cellsB]
theorem infoByte : (Try.prog.info? 5).map (fun i => (i.zero, i.size, i.bytes)) = some (some (.int .u8 0), 1, 1) := by kernel_rfl

theorem wpList_append_bytes {w : World} {ops : Array Oper} {rest : List Oper} {o : Oper} {a : Act} {Q : Exit → Act → World → Prop} (hgd : o.guard = none) (s x : Operand)
    (ho : o.op = .call { callee := .builtin .append, args := #[s, x], argTypes := #[23, 23] })
    (base : Nat) (v : Value) (n : Nat) (ys : List Value) (hs : a.eval s = v) (hown : w.ownsRow base 5 1 v n ys)
    (ad : Option Addr) (cap : Nat) (xs : List (BitVec 32)) (hcap : ad = none → cap = 0) (hl : Lies w ad xs) (hx : a.eval x = .slice ad xs.length cap) (hlen : n + xs.length ≤ 100000) (hbase : base ≤ w.heap.size)
    (h : ∀ v' w', w'.ownsRow base 5 1 v' (n + xs.length) (ys ++ cellsB xs) → w.grownBy w' v.ownBlock → wpList Try.prog ops Q rest (a.put o.dst v') w') : wpList Try.prog ops Q (o :: rest) a w := by
  obtain ⟨i, hi, hz0, hz1, hz2⟩ := info_parts infoByte
  cases ad with
  | none =>
    have hxs : xs = [] := by
      rcases hl.at_ with h0 | ⟨b, off, h0, _⟩
      · exact h0
      · cases h0
    subst hxs
    obtain rfl := hcap rfl
    refine wpList_append_own_none hgd s x 23 ho base 5 i 1 Try.underlying23 hi v n ys hs hown hx (h v w ?_ ⟨rfl, rfl, rfl, Nat.le_refl _, fun _ _ _ => rfl⟩)
    simpa [cellsB] using hown
  | some a0 =>
    refine wpList_append_own w hgd s x 23 ho base 5 i (.int .u8 0) 1 1 Try.underlying23 hi hz0 hz1 hz2 rfl (by decide) v n ys hs hown a0 xs.length cap (cellsB xs) hx ?_ ?_ ?_ ?_ ?_ hbase (fun v' w' h2 h3 _ => h v' w' h2 h3)
    · rw [cellsB_length, Nat.mul_one]
    · intro j u hu
      have hj : j < xs.length := by
        have := (List.getElem?_eq_some_iff.1 hu).1
        rwa [cellsB_length] at this
      rcases hl.at_ with h0 | ⟨b, off, h0, _, hc⟩
      · subst h0; simp at hj
      · cases h0
        rw [Go.WideShapes.add_plain, hc j hj]
        rw [cellsB_get xs j hj] at hu
        exact hu
    · intro u hu
      obtain ⟨y, _, rfl⟩ := List.mem_map.1 hu
      rfl
    · unfold maxLen; omega
    · omega

theorem lies_own {w : World} {base : Nat} {v : Value} {n : Nat} {zs : List (BitVec 32)} (hown : w.ownsRow base 5 1 v n (cellsB zs)) (hn : n = zs.length) (hb : ∀ j, j < zs.length → iv (zs.getD j 0#32) < 256) :
    ∃ ad cap, v = .slice ad zs.length cap ∧ Lies w ad zs := by
  subst hn
  rcases hown.2 with ⟨rfl, h0⟩ | ⟨g, cap, cur, rfl, _, hg, hle, _, hsz, htake⟩
  · have : zs = [] := List.eq_nil_of_length_eq_zero h0
    subst this
    exact ⟨none, 0, rfl, fun j hj => by simp at hj, .inl rfl⟩
  · refine ⟨some ⟨g, 0, none⟩, cap, rfl, hb, .inr ⟨g, 0, rfl, (Array.getElem?_eq_some_iff.1 hg).1, fun j hj => ?_⟩⟩
    rw [Nat.zero_add, cell_of_row w g j cur 5 (0, 0) hg]
    have h1 : (cur.toList.take (zs.length * 1))[j]? = some (.int .u8 (iv (zs.getD j 0#32))) := by rw [htake]; exact cellsB_get zs j hj
    rw [List.getElem?_take_of_lt (by omega)] at h1
    simpa using h1
theorem bytes_append {xs ys : List (BitVec 32)} (hx : ∀ j, j < xs.length → iv (xs.getD j 0#32) < 256) (hy : ∀ j, j < ys.length → iv (ys.getD j 0#32) < 256) :
    ∀ j, j < (xs ++ ys).length → iv ((xs ++ ys).getD j 0#32) < 256 := by
  intro j hj
  simp only [List.length_append] at hj
  by_cases h : j < xs.length
  · have := hx j h
    simpa [List.getElem?_append_left h] using this
  · have := hy (j - xs.length) (by omega)
    simpa [List.getElem?_append_right (Nat.le_of_not_lt h)] using this
theorem below_own {w w1 : World} {o : Obj} {row : Option Nat} (hg : (w.alloc o).grownBy w1 row) (hr : ∀ k, row = some k → w.heap.size ≤ k) : Below w.heap.size w w1 :=
  ((Below.refl _ _).alloc (Nat.le_refl _) o).grown hg (by simp) hr
theorem row_cap {w : World} {a : Option Addr} {len cap : Nat} {zs : List Int}
    (h : (a = none ∧ len = 0 ∧ cap = 0 ∧ zs = []) ∨ ∃ x, a = some x ∧ len ≤ cap ∧ cap ≤ maxLen ∧ zs.length = cap ∧ (∀ i, i < zs.length → w.cell? (x.add i) = some (.int .u8 (zs.getD i 0))) ∧ ∀ n ∈ zs, (Lit.int .u8 n).wf = true) :
    (a = none → cap = 0) ∧ len ≤ cap ∧ cap ≤ maxLen := by
  rcases h with ⟨rfl, rfl, rfl, rfl⟩ | ⟨x, rfl, hl, hm, _⟩
  · exact ⟨fun _ => rfl, Nat.le_refl _, Nat.zero_le _⟩
  · exact ⟨(fun h => by cases h), hl, hm⟩
end Go.Proofs.Ytheoklpgnchmcaa
