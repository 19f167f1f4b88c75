/-
  The link of a beginning, by the program.
-/
import Derived.Test.YtihiccccpjakgaaNRoot
namespace Go.Proofs.Ytihiccccpjakgaa
open Go.RowKit
theorem linkU_all (xs : List UInt64) (n m : Nat) (hn : n = xs.length) (h : m = n) : linkU xs m true = [] := by subst hn; unfold linkU; rw [linkM, if_pos h]; rfl
theorem linkU_root (xs : List UInt64) (n m : Nat) (hn : n = xs.length) (h : m = n) : linkU xs m false = [rootU xs] := by subst hn; unfold linkU; rw [linkM, if_pos h]; rfl
theorem linkU_left (xs : List UInt64) (n m : Nat) (f : Bool) (hn : n = xs.length) (h : 2 ≤ n) (hm : m ≠ n) (hi : m ≤ spl n) : linkU xs m f = linkU (xs.take (spl n)) m f ++ [rootU (xs.drop (spl n))] := by
  subst hn; unfold linkU; rw [linkM, if_neg hm, dif_pos h, if_pos hi]
theorem linkU_right (xs : List UInt64) (n m : Nat) (f : Bool) (hn : n = xs.length) (h : 2 ≤ n) (hm : m ≠ n) (hi : ¬ m ≤ spl n) : linkU xs m f = linkU (xs.drop (spl n)) (m - spl n) false ++ [rootU (xs.take (spl n))] := by
  subst hn; unfold linkU; rw [linkM, if_neg hm, dif_pos h, if_neg hi]
theorem link_length {α : Type} {nd : α → α → α} {e : α} (d : Nat) : ∀ (l : List α) (m : Nat) (f : Bool), l.length ≤ 2 ^ d → (linkM nd e l m f).length ≤ d + 1 := by
  induction d with
  | zero =>
    intro l m f h
    rw [linkM]
    split
    · split <;> simp
    · rw [dif_neg (by omega)]; simp
  | succ d ih =>
    intro l m f hl
    rw [linkM]
    split
    · split <;> simp
    · by_cases h : 2 ≤ l.length
      · rw [dif_pos h]
        have hs := spl_lt h
        have hh := spl_half h
        have hk : spl l.length ≤ 2 ^ d := by
          have h2 : 2 ^ Nat.log2 (l.length - 1) < 2 ^ (d + 1) := by unfold spl at hs; omega
          have h3 := (Nat.pow_lt_pow_iff_right (by omega : 1 < 2)).1 h2
          exact Nat.pow_le_pow_right (by omega) (by omega)
        split
        · have := ih (l.take (spl l.length)) m f (by rw [List.length_take]; omega)
          rw [List.length_append, List.length_singleton]; omega
        · have := ih (l.drop (spl l.length)) (m - spl l.length) false (by rw [List.length_drop]; omega)
          rw [List.length_append, List.length_singleton]; omega
      · rw [dif_neg h]; simp
theorem linkU_len (xs : List UInt64) (m : Nat) (f : Bool) (h : xs.length ≤ 1000000) : (linkU xs m f).length ≤ 1000000 :=
  Nat.le_trans (link_length 20 xs m f (Nat.le_trans h (by decide))) (by decide)
theorem onu_one (W : World) (y : UInt64) : Onu (W.alloc (.cells #[.int .u64 (gv y)] 44)) W.heap.size (.slice (some ⟨W.heap.size, 0, none⟩) 1 1) [y] := by
  refine ⟨rfl, .inr ⟨W.heap.size, 1, #[.int .u64 (gv y)], rfl, Nat.le_refl _, ?_, Nat.le_refl _, by decide, rfl, rfl⟩⟩
  show (W.heap.push _)[W.heap.size]? = _
  simp
attribute [local irreducible] accU fnv basis byteU beU hashU nodeU spl
end Go.Proofs.Ytihiccccpjakgaa
