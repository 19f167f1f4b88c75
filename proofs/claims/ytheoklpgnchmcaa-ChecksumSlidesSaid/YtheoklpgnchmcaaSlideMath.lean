/-
  Plain mathematics of the weak checksum: moving a window by one byte.
-/
import Derived.Test.YtheoklpgnchmcaaWeak
namespace Go.Proofs.Ytheoklpgnchmcaa

def sumI : List (BitVec 32) → Int
  | [] => 0
  | x :: l => iv x + sumI l
def wsumI : List (BitVec 32) → Int
  | [] => 0
  | x :: l => ((l.length : Int) + 1) * iv x + wsumI l
theorem sumI_append (l : List (BitVec 32)) (y : BitVec 32) : sumI (l ++ [y]) = sumI l + iv y := by
  induction l with
  | nil => simp [sumI]
  | cons x l ih => simp only [List.cons_append, sumI, ih]; omega
theorem wsumI_append (l : List (BitVec 32)) (y : BitVec 32) : wsumI (l ++ [y]) = wsumI l + sumI l + iv y := by
  induction l with
  | nil => simp [wsumI, sumI]
  | cons x l ih =>
    simp only [List.cons_append, wsumI, sumI, ih, List.length_append, List.length_cons, List.length_nil]
    rw [show (((l.length + (0 + 1) : Nat) : Int) + 1) * iv x = ((l.length : Int) + 1) * iv x + iv x by
      rw [show ((l.length + (0 + 1) : Nat) : Int) + 1 = ((l.length : Int) + 1) + 1 by omega, Int.add_mul ((l.length : Int) + 1) 1, Int.one_mul]]
    omega
theorem wk_eq (l : List (BitVec 32)) : wk l = (sumI l % 65521, wsumI l % 65521) := by
  obtain ⟨n, hn⟩ : ∃ n, n = l.length := ⟨_, rfl⟩
  induction n generalizing l with
  | zero =>
    have : l = [] := List.eq_nil_of_length_eq_zero hn.symm
    subst this
    rfl
  | succ n ih =>
    have hne : l ≠ [] := by intro h; subst h; simp at hn
    obtain ⟨m, y, rfl⟩ : ∃ m y, l = m ++ [y] := ⟨l.dropLast, l.getLast hne, (List.dropLast_concat_getLast hne).symm⟩
    have e := ih m (by simp at hn; omega)
    rw [sumI_append, wsumI_append]
    have h1 : wk (m ++ [y]) = wkStep (wk m) y := by unfold wk; rw [List.foldl_append]; rfl
    rw [h1, e]
    unfold wkStep
    simp only [Prod.mk.injEq]
    constructor <;> omega

theorem weakI_lo (l : List (BitVec 32)) : weakI l % 65536 = (wk l).1 := by
  have := wk_bd l
  unfold weakI
  omega
theorem weakI_hi (l : List (BitVec 32)) : weakI l / 65536 = (wk l).2 := by
  have := wk_bd l
  unfold weakI
  omega
theorem weakI_bd (l : List (BitVec 32)) : 0 ≤ weakI l ∧ weakI l < 4294967296 := by
  have := wk_bd l
  unfold weakI
  omega
/-- the window x :: m becomes m ++ [y] -/
theorem roll_window (m : List (BitVec 32)) (x y : BitVec 32) : rollI (weakI (x :: m)) ((m.length : Int) + 1) (iv x) (iv y) = weakI (m ++ [y]) := by
  have hL : rollL (weakI (x :: m)) (iv x) (iv y) = (wk (m ++ [y])).1 := by
    unfold rollL
    rw [weakI_lo, wk_eq, wk_eq, sumI_append]
    simp only [sumI]
    omega
  have hU : rollU (weakI (x :: m)) ((m.length : Int) + 1) (iv x) (iv y) = (wk (m ++ [y])).2 := by
    unfold rollU
    rw [weakI_hi, hL, wk_eq, wk_eq, sumI_append, wsumI_append]
    simp only [wsumI]
    generalize ((m.length : Int) + 1) * iv x = t
    omega
  unfold rollI
  rw [hL, hU]
  rfl
/-- the window of n bytes at the place i -/
def win (xs : List (BitVec 32)) (n i : Nat) : List (BitVec 32) := (xs.drop i).take n
theorem win_next (xs : List (BitVec 32)) (n i : Nat) (hn : 1 ≤ n) (h : i + n < xs.length) :
    rollI (weakI (win xs n i)) (n : Int) (iv (xs.getD i 0#32)) (iv (xs.getD (i + n) 0#32)) = weakI (win xs n (i + 1)) := by
  obtain ⟨k, rfl⟩ : ∃ k, n = k + 1 := ⟨n - 1, by omega⟩
  have e1 : win xs (k + 1) i = xs.getD i 0#32 :: (xs.drop (i + 1)).take k := by
    unfold win
    rw [List.drop_eq_getElem_cons (by omega), List.take_succ_cons]
    simp [show i < xs.length by omega]
  have e2 : win xs (k + 1) (i + 1) = (xs.drop (i + 1)).take k ++ [xs.getD (i + (k + 1)) 0#32] := by
    unfold win
    rw [List.take_succ_eq_append_getElem (by simp; omega)]
    congr 2
    simp only [List.getElem_drop]
    rw [List.getD_eq_getElem?_getD, List.getElem?_eq_getElem (by omega : i + (k + 1) < xs.length)]
    simp only [Option.getD_some]
    congr 1
    omega
  have hlen : ((xs.drop (i + 1)).take k).length = k := by simp; omega
  have := roll_window ((xs.drop (i + 1)).take k) (xs.getD i 0#32) (xs.getD (i + (k + 1)) 0#32)
  rw [hlen] at this
  rw [e1, e2, ← this]
  congr 1
theorem win_last (xs : List (BitVec 32)) (n : Nat) (h : n ≤ xs.length) : win xs n (xs.length - n) = xs.drop (xs.length - n) := by
  unfold win
  exact List.take_of_length_le (by simp; omega)
end Go.Proofs.Ytheoklpgnchmcaa
