/-
  The bytes of a slice that came in, as words; and the walks of the statements over slices that only read.
-/
import Derived.Test.YtheoklpgnchmcaaAwake
import Derived.OpenShut
namespace Go.Proofs.Ytheoklpgnchmcaa
open Go.RowKit Go.ChangeShapes

theorem lies_of (w : World) (a : Option Addr) (len cap : Nat) (zs : List Int)
    (h : (a = none ∧ len = 0 ∧ cap = 0 ∧ zs = []) ∨ ∃ x, a = some x ∧ len ≤ cap ∧ cap ≤ maxLen ∧ zs.length = cap ∧ (∀ i, i < zs.length → w.cell? (x.add i) = some (.int .u8 (zs.getD i 0))) ∧ ∀ n ∈ zs, (Lit.int .u8 n).wf = true) :
    ∃ xs : List (BitVec 32), xs.length = len ∧ Lies w a xs := by
  rcases h with ⟨rfl, rfl, rfl, rfl⟩ | ⟨x, rfl, hl, hm, hz, hc, hw⟩
  · exact ⟨[], rfl, fun j hj => by simp at hj, .inl rfl⟩
  · refine ⟨(zs.take len).map fun z => BitVec.ofNat 32 z.toNat, by simp; omega, ?_⟩
    have hget : ∀ j, j < len → iv (((zs.take len).map fun z => BitVec.ofNat 32 z.toNat).getD j 0#32) = zs.getD j 0 ∧ 0 ≤ zs.getD j 0 ∧ zs.getD j 0 < 256 := by
      intro j hj
      have hjz : j < zs.length := by omega
      have e : zs.getD j 0 = zs[j] := by simp [hjz]
      have hb : 0 ≤ zs[j] ∧ zs[j] ≤ 255 := by simpa [Lit.wf, IntKind.min, IntKind.max, IntKind.signed, IntKind.bits] using hw zs[j] (List.getElem_mem hjz)
      refine ⟨?_, by omega, by omega⟩
      rw [e]
      have e2 : ((zs.take len).map fun z => BitVec.ofNat 32 z.toNat).getD j 0#32 = BitVec.ofNat 32 zs[j].toNat := by simp [hj, hjz]
      rw [e2, iv_ofNat _ (by omega)]
      omega
    refine ⟨fun j hj => ?_, ?_⟩
    · have hj' : j < len := by simp at hj; omega
      have := hget j hj'
      omega
    · by_cases h0 : len = 0
      · left; subst h0; simp
      · right
        have hp : 0 < zs.length := by omega
        obtain ⟨b, off, rfl, hcell⟩ := ints_at hc hp
        refine ⟨b, off, rfl, ?_, fun j hj => ?_⟩
        · have := hcell 0 hp
          rcases Nat.lt_or_ge b w.heap.size with h' | h'
          · exact h'
          · simp [World.cell?, Array.getElem?_eq_none h'] at this
        · have hj' : j < len := by simp at hj; omega
          rw [hcell j (by omega), (hget j hj').1]
end Go.Proofs.Ytheoklpgnchmcaa
