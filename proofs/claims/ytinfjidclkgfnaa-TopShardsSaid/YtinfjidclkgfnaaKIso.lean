/-
  Elimination, step by step.
-/
import Derived.Test.YtinfjidclkgfnaaQRows
import Derived.Test.YtinfjidclkgfnaaQMath
namespace Go.Proofs.Ytinfjidclkgfnaa
/-- row R divided by its element in column c -/
def divR (R c : Nat) (M : Nat → Nat → UInt8) (i k : Nat) : UInt8 := if i = R then mulU (M R k) (invU (M R c)) else M i k
/-- .. and its multiples added to the rows before n -/
def isoN (R c n : Nat) (M : Nat → Nat → UInt8) (i k : Nat) : UInt8 := if i = R then mulU (M R k) (invU (M R c)) else if i < n then M i k ^^^ mulU (M i c) (mulU (M R k) (invU (M R c))) else M i k
theorem isoN_zero (R c : Nat) (M : Nat → Nat → UInt8) : isoN R c 0 M = divR R c M := by
  funext i k
  unfold isoN divR
  by_cases e : i = R
  · rw [if_pos e, if_pos e]
  · rw [if_neg e, if_neg e, if_neg (Nat.not_lt_zero _)]
theorem isoN_skip (R c : Nat) (M : Nat → Nat → UInt8) : isoN R c (R + 1) M = isoN R c R M := by
  funext i k
  unfold isoN
  by_cases e : i = R
  · rw [if_pos e, if_pos e]
  · rw [if_neg e, if_neg e]
    by_cases h : i < R
    · rw [if_pos (by omega), if_pos h]
    · rw [if_neg (by omega), if_neg h]
theorem matL_set (r L i : Nat) (M N : Nat → Nat → UInt8) (h : ∀ j, j < r → ∀ k, k < L → (j = i → N i k = N i k) ∧ (j ≠ i → N j k = M j k)) : (matL r L M).set i (rowF L (N i)) = matL r L N := by
  apply List.ext_getElem
  · simp [matL_length]
  · intro j h1 h2
    rw [List.getElem_set, matL_rowF]
    have hj : j < r := by rw [matL_length] at h2; exact h2
    by_cases e : i = j
    · subst e; rw [if_pos rfl, matL_rowF]
    · rw [if_neg e, matL_rowF]
      exact List.map_congr_left fun k hk => ((h j hj k (by simpa using hk)).2 (fun e' => e e'.symm)).symm
theorem div_set (r L R c : Nat) (M : Nat → Nat → UInt8) : (matL r L M).set R (sc (List.replicate L 0) (rowF L (M R)) (invU (M R c))) = matL r L (divR R c M) := by
  rw [zeros_rowF, sc_rowF, show (fun k => (0 : UInt8) ^^^ mulU (M R k) (invU (M R c))) = divR R c M R by
    funext k; unfold divR; rw [if_pos rfl, UInt8.zero_xor]]
  exact matL_set r L R M _ fun j _ k _ => ⟨fun _ => rfl, fun e => by unfold divR; rw [if_neg e]⟩
theorem iso_set (r L R c n : Nat) (M : Nat → Nat → UInt8) (hne : n ≠ R) : (matL r L (isoN R c n M)).set n (sc (rowF L (isoN R c n M n)) (rowF L (isoN R c n M R)) (isoN R c n M n c)) = matL r L (isoN R c (n + 1) M) := by
  rw [sc_rowF, show (fun k => isoN R c n M n k ^^^ mulU (isoN R c n M R k) (isoN R c n M n c)) = isoN R c (n + 1) M n by
    funext k; unfold isoN; rw [if_neg hne, if_neg (Nat.lt_irrefl _), if_pos rfl, if_neg hne, if_neg (Nat.lt_irrefl _), if_neg hne, if_pos (Nat.lt_succ_self _), mulU_comm (M n c)]]
  refine matL_set r L n _ _ fun j _ k _ => ⟨fun _ => rfl, fun e => ?_⟩
  unfold isoN
  by_cases e2 : j = R
  · rw [if_pos e2, if_pos e2]
  · rw [if_neg e2, if_neg e2]
    by_cases h : j < n
    · rw [if_pos h, if_pos (by omega)]
    · rw [if_neg h, if_neg (by omega)]

theorem Reduced.skip {r L j R : Nat} {M0 M : Nat → Nat → UInt8} {p : Nat → Nat} (h : Reduced r L M0 M j R p) (c : Nat) (hj : j ≤ c) (hz : ∀ k, j ≤ k → k < c → ∀ i, R ≤ i → i < r → M i k = 0) : Reduced r L M0 M c R p := by
  induction c with
  | zero =>
    obtain rfl : j = 0 := by omega
    exact h
  | succ c ih =>
    by_cases e : j = c + 1
    · subst e; exact h
    · exact (ih (by omega) fun k h1 h2 => hz k h1 (by omega)).none fun i h1 h2 => hz c (by omega) (Nat.lt_succ_self c) i h1 h2
theorem sw_first (a k : Nat) : sw a k k = a := by
  unfold sw
  by_cases e : k = a
  · rw [if_pos e]; exact e
  · rw [if_neg e, if_pos rfl]
theorem sw_second (a k : Nat) : sw a k a = k := by unfold sw; rw [if_pos rfl]
theorem sw_other (a k i : Nat) (h1 : i ≠ a) (h2 : i ≠ k) : sw a k i = i := by unfold sw; rw [if_neg h1, if_neg h2]
theorem swap_set (r L a k : Nat) (M : Nat → Nat → UInt8) : ((matL r L M).set k (rowF L (M a))).set a (rowF L (M k)) = matL r L fun i => M (sw a k i) := by
  apply List.ext_getElem
  · simp [matL_length]
  · intro i h1 h2
    rw [List.getElem_set, List.getElem_set, matL_rowF]
    by_cases e1 : a = i
    · subst e1; rw [if_pos rfl, matL_rowF]; show _ = rowF L (M (sw a k a)); rw [sw_second]
    · rw [if_neg e1]
      by_cases e2 : k = i
      · subst e2; rw [if_pos rfl, matL_rowF]; show _ = rowF L (M (sw a k k)); rw [sw_first]
      · rw [if_neg e2, matL_rowF]; show _ = rowF L (M (sw a k i)); rw [sw_other a k i (fun e => e1 e.symm) (fun e => e2 e.symm)]
theorem iso_pivoted (r L a k c : Nat) (M : Nat → Nat → UInt8) : matL r L (isoN k c r fun i => M (sw a k i)) = matL r L (pivoted k a c M) :=
  matL_congr r L _ _ fun i hi j _ => by
    unfold isoN pivoted
    show (if i = k then mulU (M (sw a k k) _) (invU (M (sw a k k) c)) else if i < r then M (sw a k i) _ ^^^ mulU (M (sw a k i) c) (mulU (M (sw a k k) _) (invU (M (sw a k k) c))) else M (sw a k i) _) = _
    rw [sw_first]
    by_cases e : i = k
    · rw [if_pos e, if_pos e]
    · rw [if_neg e, if_neg e, if_pos hi]

end Go.Proofs.Ytinfjidclkgfnaa
