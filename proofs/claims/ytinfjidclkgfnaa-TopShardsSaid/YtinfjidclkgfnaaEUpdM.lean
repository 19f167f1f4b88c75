/-
  What Update gives, on both sides.
-/
import Derived.Test.YtinfjidclkgfnaaEAwake
import Derived.Test.YtinfjidclkgfnaaQRows
namespace Go.Proofs.Ytinfjidclkgfnaa
open Go.RowKit
/-- the parity shards after a change -/
def upL (ls : List (List UInt8)) (k x : Nat) (old new : List UInt8) : List (List UInt8) := (List.range ls.length).map fun i => combL [1, cauF k i x] [ls.getD i [], combL [1, 1] [old, new]]
theorem upL_length (ls : List (List UInt8)) (k x : Nat) (old new : List UInt8) : (upL ls k x old new).length = ls.length := by simp [upL]
theorem upL_get (ls : List (List UInt8)) (k x : Nat) (old new : List UInt8) (i : Nat) (h : i < ls.length) (h' : i < (upL ls k x old new).length) : (upL ls k x old new)[i] = combL [1, cauF k i x] [ls[i], combL [1, 1] [old, new]] := by
  simp [upL, h]
theorem upL_take (ls : List (List UInt8)) (k x : Nat) (old new : List UInt8) (i : Nat) (h : i < ls.length) : (upL ls k x old new).take (i + 1) = (upL ls k x old new).take i ++ [combL [1, cauF k i x] [ls[i], combL [1, 1] [old, new]]] := by
  have h' : i < (upL ls k x old new).length := by rw [upL_length]; exact h
  rw [List.take_add_one, List.getElem?_eq_getElem h', upL_get ls k x old new i h h']
  rfl
/-- the error that Update gives -/
def upE (ls : List (List UInt8)) (d x : Int) (old new : List UInt8) : Int := if vc d ls.length = true then (if 0 ≤ x then (if x < d then (if sameL (old :: new :: ls) = true then 0 else 8) else 7) else 7) else 7
def upR (ls : List (List UInt8)) (d x : Int) (old new : List UInt8) : List (List UInt8) := if upE ls d x old new = 0 then upL ls d.toNat x.toNat old new else []
/-- what Update gives -/
def UpdP (w : World) (ls : List (List UInt8)) (d x : Int) (old new : List UInt8) (e : Ending) (w' : World) : Prop :=
  ∃ v, e = .returned (.tuple #[v, .int .i64 (upE ls d x old new)]) ∧ Lq w' w.heap.size w.heap.size v (upR ls d x old new) ∧ Below w.heap.size w w'
section
variable {w w' : World} {ls : List (List UInt8)} {d x : Int} {old new : List UInt8}
theorem UpdP.no {c : Int} (hc : c ≠ 0) (h : upE ls d x old new = c) (hb : Below w.heap.size w w') : UpdP w ls d x old new (.returned (.tuple #[.slice none 0 0, .int .i64 c])) w' := by
  have hr : upR ls d x old new = [] := by unfold upR; rw [if_neg (by rw [h]; exact hc)]
  unfold UpdP
  rw [hr, h]
  exact ⟨_, rfl, Lq.nil _ _ _, hb⟩
theorem upE_range (h : vc d ls.length = false ∨ x < 0 ∨ d ≤ x) : upE ls d x old new = 7 := by
  unfold upE
  split
  · rename_i h1
    split
    · split
      · rcases h with h | h | h
        · rw [h1] at h; cases h
        · omega
        · omega
      · rfl
    · rfl
  · rfl
theorem upE_same (h : vc d ls.length = true) (h1 : 0 ≤ x) (h2 : x < d) (h3 : sameL (old :: new :: ls) = false) : upE ls d x old new = 8 := by unfold upE; rw [if_pos h, if_pos h1, if_pos h2, if_neg (by rw [h3]; decide)]
theorem upE_ok (h : vc d ls.length = true) (h1 : 0 ≤ x) (h2 : x < d) (h3 : sameL (old :: new :: ls) = true) : upE ls d x old new = 0 := by unfold upE; rw [if_pos h, if_pos h1, if_pos h2, if_pos h3]
theorem UpdP.ok {k i : Nat} {v : Value} (h : upE ls k i old new = 0) (ho : Lq w' w.heap.size w.heap.size v (upL ls k i old new)) (hb : Below w.heap.size w w') : UpdP w ls k i old new (.returned (.tuple #[v, .int .i64 0])) w' := by
  have hr : upR ls k i old new = upL ls k i old new := by unfold upR; rw [if_pos h, Int.toNat_natCast, Int.toNat_natCast]
  unfold UpdP
  rw [hr, h]
  exact ⟨v, rfl, ho, hb⟩
end
/-- all lengths are that of the first one -/
theorem same_cons (old new : List UInt8) (ls : List (List UInt8)) : sameL (old :: new :: ls) = true ↔ new.length = old.length ∧ ∀ r ∈ ls, r.length = old.length := by
  rw [sameL_iff]
  constructor
  · intro h
    exact ⟨h new (by simp), fun r hr => h r (by simp [hr])⟩
  · rintro ⟨h1, h2⟩ r hr
    rcases List.mem_cons.1 hr with rfl | hr
    · rfl
    rcases List.mem_cons.1 hr with rfl | hr
    · exact h1
    · exact h2 r hr
theorem same_two (a b : List UInt8) (h : b.length = a.length) : ∀ i (hi : i < [a, b].length), ([a, b][i]).length = cols [a, b] := fun i hi => two_at (P := fun i => ∀ (hi : i < [a, b].length), ([a, b][i]).length = cols [a, b]) (fun _ => rfl) (fun _ => h) i (by simpa using hi) hi
/-- two shards with two factors -/
theorem combL_two (c d : UInt8) (a b : List UInt8) (q : Nat) (ha : q < a.length) (hb : q < b.length) (h : q < (combL [c, d] [a, b]).length) : (combL [c, d] [a, b])[q] = mulU c a[q] ^^^ mulU d b[q] := by
  rw [combL_get]
  show (0 ^^^ mulU c (ent [a, b] 0 q)) ^^^ mulU d (ent [a, b] 1 q) = _
  rw [UInt8.zero_xor, show ent [a, b] 0 q = a[q] by simp [ent, ha], show ent [a, b] 1 q = b[q] by simp [ent, hb]]
theorem combL_two_length (c : List UInt8) (a b : List UInt8) : (combL c [a, b]).length = a.length := combL_length c [a, b]
/-- a list written out, which the call owns -/
theorem Lq.lits (w : World) (cs : List Value) (ls : List (List UInt8)) (n m : Nat) (hn : n = w.heap.size) (hm : m = ls.length) (hl : cs.length = ls.length) (hs : ls.length ≤ 1000) (h : ∀ i (hi : i < cs.length) (hi' : i < ls.length), Hds w (cs[i]) (ls[i])) : Lq (w.alloc (.cells cs.toArray 33)) w.heap.size 0 (.slice (some ⟨n, 0, none⟩) m m) ls := by
  subst hn hm
  refine ⟨cs, ⟨by omega, .inr ⟨w.heap.size, ls.length, cs.toArray, rfl, Nat.le_refl _, heap_alloc_new w _, Nat.le_refl _, by unfold maxLen; omega, by simp [hl], by rw [List.take_of_length_le (by simp; omega)]⟩⟩, fun i hi => ?_⟩
  obtain ⟨ad, cap, e, h1, h2⟩ := h i (by omega) hi
  exact ⟨ad, cap, by rw [List.getElem?_eq_getElem (by omega), e], LieX.of_low h1 ((Below.refl _ _).alloc (Nat.le_refl _) _) (fun g hg => by cases hg; exact Nat.le_refl _), h2⟩
theorem Lq.two (w : World) (c0 c1 : Value) (l0 l1 : List UInt8) (n : Nat) (hn : n = w.heap.size) (h0 : Hds w c0 l0) (h1 : Hds w c1 l1) : Lq (w.alloc (.cells #[c0, c1] 33)) w.heap.size 0 (.slice (some ⟨n, 0, none⟩) 2 2) [l0, l1] :=
  Lq.lits w [c0, c1] [l0, l1] n 2 hn rfl rfl (by simp) fun i hi hi' => two_at (P := fun i => ∀ (hi : i < [c0, c1].length) (hi' : i < [l0, l1].length), Hds w ([c0, c1][i]) ([l0, l1][i])) (fun _ _ => h0) (fun _ _ => h1) i hi hi hi'
/-- two bytes written out -/
theorem Lie.two' (w : World) (x y : Int) (a b : UInt8) (n : Nat) (hx : x = (a.toNat : Int)) (hy : y = (b.toNat : Int)) (hn : n = w.heap.size) : Lie (w.alloc (.cells #[.int .u8 x, .int .u8 y] 5)) (some ⟨n, 0, none⟩) [a, b] := by
  subst hx hy hn
  refine ⟨.inr ⟨_, 0, rfl, by simp, fun j hj => ?_⟩⟩
  rw [Nat.zero_add, cell_of_row (w.alloc (.cells #[.int .u8 (a.toNat : Int), .int .u8 (b.toNat : Int)] 5)) w.heap.size j _ 5 (0, 0) (heap_alloc_new w _)]
  exact two_at (P := fun j => ∀ (hj : j < [a, b].length), (#[Value.int .u8 (a.toNat : Int), .int .u8 (b.toNat : Int)])[j]? = some (.int .u8 (([a, b][j]).toNat : Int))) (fun _ => rfl) (fun _ => rfl) j hj hj
end Go.Proofs.Ytinfjidclkgfnaa
