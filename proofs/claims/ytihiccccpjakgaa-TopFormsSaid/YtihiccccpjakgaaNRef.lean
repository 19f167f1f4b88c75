/-
  The specification's bytes of a number and hashes of blocks and of two hashes.
-/
import Derived.Test.YtihiccccpjakgaaNLeaf
import Derived.Test.YtihiccccpjakgaaNLin
namespace Go.Proofs.Ytihiccccpjakgaa
open Go.RowKit
theorem heap_newN (w : World) (o : Obj) : (w.alloc o).heap[w.heap.size]? = some o := by
  show (w.heap.push o)[w.heap.size]? = some o
  simp
theorem Own.litsN (w : World) (cs : Array Value) (xs : List UInt8) (h : cs.toList = cellsU xs) (hm : xs.length ≤ 10000000) : Own (w.alloc (.cells cs 5)) w.heap.size (.slice (some ⟨w.heap.size, 0, none⟩) xs.length xs.length) xs := by
  have hs : cs.size = xs.length := by rw [← Array.length_toList, h, cellsU_length]
  refine ⟨by rw [cellsU_length]; omega, .inr ⟨w.heap.size, xs.length, cs, rfl, Nat.le_refl _, heap_newN w _, Nat.le_refl _, by unfold maxLen; omega, by omega, ?_⟩⟩
  rw [h, List.take_of_length_le (by rw [cellsU_length]; omega)]
theorem own_one0 (w : World) : Own (w.alloc (.cells #[.int .u8 0] 5)) w.heap.size (.slice (some ⟨w.heap.size, 0, none⟩) 1 1) [0] := Own.litsN w _ [0] rfl (by decide)
theorem own_one1 (w : World) : Own (w.alloc (.cells #[.int .u8 1] 5)) w.heap.size (.slice (some ⟨w.heap.size, 0, none⟩) 1 1) [1] := Own.litsN w _ [1] rfl (by decide)
attribute [local irreducible] accU fnv basis byteU beU hashU

end Go.Proofs.Ytihiccccpjakgaa
