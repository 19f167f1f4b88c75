/-
  Plain mathematics of Split and Join; copying a part.
-/
import Derived.Test.YtinfjidclkgfnaaQRows
import Derived.Test.YtinfjidclkgfnaaHIdent
import Derived.Laws.CopyOwn
namespace Go.Proofs.Ytinfjidclkgfnaa
open Go.RowKit
/-- the i-th of the shards of size sz -/
def shardL (b : List UInt8) (sz i : Nat) : List UInt8 := rowF sz fun q => b.getD (i * sz + q) 0
def splitL (b : List UInt8) (sz n : Nat) : List (List UInt8) := (List.range n).map (shardL b sz)
theorem splitL_length (b : List UInt8) (sz n : Nat) : (splitL b sz n).length = n := by simp [splitL]
theorem splitL_succ (b : List UInt8) (sz n : Nat) : splitL b sz (n + 1) = splitL b sz n ++ [shardL b sz n] := by simp [splitL, List.range_succ]
theorem shardL_length (b : List UInt8) (sz i : Nat) : (shardL b sz i).length = sz := rowF_length _ _
theorem shardL_get (b : List UInt8) (sz i q : Nat) (h : q < (shardL b sz i).length) : (shardL b sz i)[q] = b.getD (i * sz + q) 0 := rowF_get _ _ _ h
/-- what is left of the bytes, and zeros behind it -/
theorem shard_copy (b : List UInt8) (sz i k : Nat) (hk : k = min (b.drop (i * sz)).length sz) : (b.drop (i * sz)).take k ++ (List.replicate sz (0 : UInt8)).drop k = shardL b sz i := by
  have hl := List.length_drop (i := i * sz) (l := b)
  apply List.ext_getElem
  · rw [List.length_append, List.length_take, List.length_drop, List.length_drop, List.length_replicate, shardL_length]
    omega
  · intro j h1 h2
    rw [shardL_length] at h2
    have e2 : (shardL b sz i)[j]'(by rw [shardL_length]; exact h2) = b.getD (i * sz + j) 0 := rowF_get _ _ _ _
    rw [e2]
    by_cases hj : j < k
    · rw [List.getElem_append_left (by rw [List.length_take]; omega), List.getElem_take, List.getElem_drop]
      rw [List.getD_eq_getElem?_getD, List.getElem?_eq_getElem (by omega)]
      rfl
    · rw [List.getElem_append_right (by rw [List.length_take]; omega)]
      rw [List.getElem_drop, List.getElem_replicate]
      rw [List.getD_eq_getElem?_getD, List.getElem?_eq_none (by omega)]
      rfl
theorem rest_next (b : List UInt8) (sz i k : Nat) (hk : k = min (b.drop (i * sz)).length sz) : (b.drop (i * sz)).drop k = b.drop ((i + 1) * sz) := by
  rw [List.length_drop] at hk
  rw [List.drop_drop]
  by_cases h : k = sz
  · rw [h, Nat.add_mul, Nat.one_mul]
  · have hb : (i + 1) * sz = i * sz + sz := by rw [Nat.add_mul, Nat.one_mul]
    rw [List.drop_eq_nil_of_le (by omega), List.drop_eq_nil_of_le (by omega)]
/-- one byte more of a shard -/
theorem shard_take (b : List UInt8) (sz i q : Nat) (hq : q < sz) : (shardL b sz i).take q ++ [b.getD (i * sz + q) 0] = (shardL b sz i).take (q + 1) := by
  have h : q < (shardL b sz i).length := by rw [shardL_length]; exact hq
  rw [List.take_add_one, List.getElem?_eq_getElem h, shardL_get]
  rfl
theorem shard_full (b : List UInt8) (sz i : Nat) : (shardL b sz i).take sz = shardL b sz i := List.take_of_length_le (by rw [shardL_length]; exact Nat.le_refl _)
/-- the shards one after another -/
theorem split_flat (b : List UInt8) (sz n : Nat) : (splitL b sz n).flatten = rowF (n * sz) fun j => b.getD j 0 := by
  induction n with
  | zero => simp [splitL, rowF]
  | succ n ih =>
    rw [splitL_succ, List.flatten_append, ih]
    simp only [List.flatten_cons, List.flatten_nil, List.append_nil]
    apply List.ext_getElem
    · rw [List.length_append, rowF_length, shardL_length, rowF_length, Nat.add_mul, Nat.one_mul]
    · intro j h1 h2
      rw [rowF_get]
      by_cases hj : j < n * sz
      · rw [List.getElem_append_left (by rw [rowF_length]; exact hj), rowF_get]
      · rw [List.getElem_append_right (by rw [rowF_length]; omega)]
        have h3 : j - (rowF (n * sz) fun j => b.getD j 0).length < (rowF sz fun q => b.getD (n * sz + q) 0).length := by
          rw [rowF_length, rowF_length]
          rw [rowF_length, Nat.add_mul, Nat.one_mul] at h2
          omega
        show (rowF sz fun q => b.getD (n * sz + q) 0)[j - (rowF (n * sz) fun j => b.getD j 0).length]'h3 = _
        rw [rowF_get, rowF_length]
        congr 1
        omega
theorem split_join (b : List UInt8) (sz n : Nat) (h : b.length ≤ n * sz) : ((splitL b sz n).flatten).take b.length = b := by
  rw [split_flat]
  apply List.ext_getElem
  · rw [List.length_take, rowF_length]; omega
  · intro j h1 h2
    rw [List.getElem_take, rowF_get, List.getD_eq_getElem?_getD, List.getElem?_eq_getElem h2]
    rfl
/-- the least size that suffices -/
theorem size_fits (m n : Nat) (hn : 1 ≤ n) : m ≤ n * ((m + n - 1) / n) := by
  have h := Nat.div_add_mod (m + n - 1) n
  have h2 := Nat.mod_lt (m + n - 1) (by omega : 0 < n)
  omega
theorem join_take (ls : List (List UInt8)) (k s : Nat) (hk : k < ls.length) (m : Nat) (hm : m = min (ls[k]).length (s - (((ls.take k).flatten).take s).length)) : ((ls.take k).flatten).take s ++ (ls[k]).take m = ((ls.take (k + 1)).flatten).take s := by
  rw [List.take_add_one, List.flatten_append, List.getElem?_eq_getElem hk]
  simp only [Option.toList_some, List.flatten_cons, List.flatten_nil, List.append_nil]
  rw [List.take_append]
  congr 1
  rw [hm, List.length_take]
  rw [List.take_eq_take_iff]
  omega
theorem flat_next (ls : List (List UInt8)) (k : Nat) (hk : k < ls.length) : (ls.take (k + 1)).flatten = (ls.take k).flatten ++ ls[k] := by
  rw [List.take_add_one, List.flatten_append, List.getElem?_eq_getElem hk]
  simp
theorem flat_le (ls : List (List UInt8)) (k : Nat) : ((ls.take k).flatten).length ≤ (ls.flatten).length := by
  have h : ls.flatten = (ls.take k).flatten ++ (ls.drop k).flatten := by rw [← List.flatten_append, List.take_append_drop]
  rw [h, List.length_append]
  omega
theorem Lie.rest {w : World} {a : Addr} {l : List UInt8} (h : Lie w (some a) l) (n : Nat) : Lie w (some (a.add n)) (l.drop n) := by
  rcases h.at_ with h0 | ⟨b', off', e, hb, hc⟩
  · exact ⟨.inl (by rw [h0]; simp)⟩
  · cases e
    rw [Go.WideShapes.add_plain]
    refine ⟨.inr ⟨_, _, rfl, hb, fun j hj => ?_⟩⟩
    rw [List.length_drop] at hj
    rw [List.getElem_drop, Nat.add_assoc]
    exact hc (n + j) (by omega)
/-- bytes copied, as many as fit -/
theorem wpList_copy_part {w : World} {ops : Array Oper} {rest : List Oper} {o : Oper} {a : Act} {Q : Exit → Act → World → Prop} (hgd : o.guard = none) (d s : Operand)
    (ho : o.op = .call { callee := .builtin .copy, args := #[d, s], argTypes := #[33, 33] })
    (g dLen dCap : Nat) (hd : a.eval d = .slice (some ⟨g, 0, none⟩) dLen dCap) (ad : Option Addr) (sLen sCap : Nat) (hs : a.eval s = .slice ad sLen sCap) (xs : List UInt8) (hsl : sLen = xs.length) (hl : Lie w ad xs)
    (R : List UInt8) (hR : Rowu w g R) (hdl : dLen = R.length) (k : Nat) (hk : k = min sLen dLen)
    (h : ∀ w', Rowu w' g (xs.take k ++ R.drop k) → Below g w w' → wpList Try.prog ops Q rest (a.put o.dst (.int .i64 (k : Int))) w') : wpList Try.prog ops Q (o :: rest) a w := by
  subst hsl hdl
  obtain ⟨i, hi, hz0, hz1, hz2⟩ := info_u
  have h1 : (cellsU (xs.take k)).length = k := by rw [cellsU_length, List.length_take]; omega
  refine wpList_copy_splice hgd d s 33 33 ho 5 Try.underlying33 (by rw [hi]; simp [hz1]) _ _ _ _ _ _ hd hs g 0 (cellsU R) 5 hR (cellsU (xs.take k))
    (by rw [h1]; exact hk) (fun hp => ⟨rfl, ?_⟩) (by rw [h1, cellsU_length]; omega) (cellsU_one _) g w (Below.refl _ _) (Nat.le_refl _) (fun w' h2 h3 => ?_)
  · rcases hl.at_ with rfl | ⟨b, off, rfl, _, hc⟩
    · simp [cellsU] at hp
    · refine ⟨_, rfl, fun j v hj => ?_⟩
      have hjk : j < k := by
        have := (List.getElem?_eq_some_iff.1 hj).1
        rwa [h1] at this
      have hjt : j < (xs.take k).length := by rw [List.length_take]; omega
      have hjx : j < xs.length := by omega
      rw [Go.WideShapes.add_plain, hc j hjx]
      rw [cellsU_get (xs.take k) j hjt, List.getElem_take] at hj
      exact hj
  · rw [h1]
    refine h w' ?_ h3
    have := h2.out
    unfold Rowu Blk
    rw [this]
    simp only [splice, h1, List.take_zero, List.nil_append, Nat.zero_add]
    simp [cellsU, List.map_drop]
end Go.Proofs.Ytinfjidclkgfnaa
