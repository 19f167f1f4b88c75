/-
  Where the head is behind an operation (for DriveCosts): no program.
-/
import Derived.Test.YtepmmlnopdjjdaaDvCostB
import Derived.Test.YtepmmlnopdjjdaaDvRunB
namespace Go.Proofs.Ytepmmlnopdjjdaa
open Go.RowKit
set_option linter.unusedVariables false
set_option linter.unusedSimpArgs false
theorem hd_of {m : Mdl} {d : Drv} (h1 : mdlU m = true) (h2 : drvU d = true) : (0 ≤ m.ul ∧ m.ul ≤ 1000000) ∧ (0 ≤ d.hd ∧ d.hd ≤ 4096) := ⟨(mdlU_bd h1).2.1, (drvU_cnt h2).2.2.2⟩
theorem st_hd {m : Mdl} {d : Drv} {c : Crt} {k n : Int} {z : List Blk} (hL : c.l.length ≤ 100000) (hZ : z.length ≤ 1000) (he : (stU m d c k n z).e = 0 ∨ (stU m d c k n z).e = 15) :
    (0 ≤ m.ul ∧ m.ul ≤ 1000000) ∧ (0 ≤ d.hd ∧ d.hd ≤ 1000000) ∧ (0 ≤ (stU m d c k n z).d.hd ∧ (stU m d c k n z).d.hd ≤ 1000000) := by
  have hlen := (stU_len m d c k n z).2
  unfold stU at he hlen ⊢
  by_cases h0 : k = 0
  · rw [if_pos h0] at he ⊢
    unfold ldU at he ⊢
    by_cases hv : (mdlU m && (drvU d && vldC c)) = true
    · simp only [Bool.and_eq_true] at hv
      have hb := hd_of hv.1 hv.2.1
      refine ⟨hb.1, by omega, ?_⟩
      repeat' split
      all_goals (dsimp only; first | decide | omega)
    · rw [if_neg hv] at he; exact absurd he (by dsimp only; decide)
  rw [if_neg h0] at he hlen ⊢
  by_cases h1 : k = 1
  · rw [if_pos h1] at he ⊢
    unfold ulU at he ⊢
    by_cases hf : fstU m d c = 0
    · rw [if_pos hf] at ⊢
      have hb := hd_of (fst_ok hf).1 (fst_ok hf).2.1
      exact ⟨hb.1, by omega, by show (0 : Int) ≤ 0 ∧ (0 : Int) ≤ 1000000; decide⟩
    · rw [if_neg hf] at he; exact absurd he (by have := fst_no15 m d c; dsimp only; omega)
  rw [if_neg h1] at he hlen ⊢
  by_cases h2 : k = 2
  · rw [if_pos h2] at he ⊢
    unfold skU at he ⊢
    by_cases hf : fstU m d c = 0
    · rw [if_pos hf] at he ⊢
      have hb := hd_of (fst_ok hf).1 (fst_ok hf).2.1
      refine ⟨hb.1, by omega, ?_⟩
      by_cases hn : 0 ≤ n ∧ n ≤ (c.l.length : Int)
      · rw [if_pos hn]
        show 0 ≤ n ∧ n ≤ 1000000
        omega
      · rw [if_neg hn] at he; exact absurd he (by dsimp only; decide)
    · rw [if_neg hf] at he; exact absurd he (by have := fst_no15 m d c; dsimp only; omega)
  rw [if_neg h2] at he hlen ⊢
  by_cases h3 : k = 3
  · rw [if_pos h3] at he hlen ⊢
    unfold rdU at he hlen ⊢
    by_cases hf : fstU m d c = 0
    · rw [if_pos hf] at he hlen ⊢
      have hb := hd_of (fst_ok hf).1 (fst_ok hf).2.1
      refine ⟨hb.1, by omega, ?_⟩
      by_cases hn : n < 1 ∨ (c.l.length : Int) - d.hd < n
      · rw [if_pos hn] at he; exact absurd he (by dsimp only; decide)
      · rw [if_neg hn] at hlen ⊢
        dsimp only at hlen
        show 0 ≤ d.hd + ((rdR d c n).1.length : Int) ∧ d.hd + ((rdR d c n).1.length : Int) ≤ 1000000
        omega
    · rw [if_neg hf] at he; exact absurd he (by have := fst_no15 m d c; dsimp only; omega)
  rw [if_neg h3] at he hlen ⊢
  by_cases h4 : k = 4
  · rw [if_pos h4] at he ⊢
    unfold wrU at he ⊢
    by_cases hf : fstU m d c = 0
    · rw [if_pos hf] at he ⊢
      have hb := hd_of (fst_ok hf).1 (fst_ok hf).2.1
      refine ⟨hb.1, by omega, ?_⟩
      by_cases hw : worn m c = true
      · rw [if_pos hw] at he; exact absurd he (by dsimp only; decide)
      rw [if_neg hw] at he ⊢
      by_cases hz0 : z = []
      · rw [if_pos hz0] at he; exact absurd he (by dsimp only; decide)
      rw [if_neg hz0] at he ⊢
      by_cases hr : (wriC (vldC c) c d.hd z).2 = 0
      · rw [if_pos hr]
        show 0 ≤ d.hd + (z.length : Int) ∧ d.hd + (z.length : Int) ≤ 1000000
        omega
      · rw [if_neg hr] at he; exact absurd he (by have := wri_no15 (vldC c) c d.hd z; dsimp only; omega)
    · rw [if_neg hf] at he; exact absurd he (by have := fst_no15 m d c; dsimp only; omega)
  rw [if_neg h4] at he ⊢
  unfold clU at he ⊢
  by_cases hv : (mdlU m && drvU d) = true
  · have hv2 := hv
    simp only [Bool.and_eq_true] at hv2
    have hb := hd_of hv2.1 hv2.2
    refine ⟨hb.1, by omega, ?_⟩
    rw [if_pos hv] at he ⊢
    repeat' split
    all_goals (dsimp only; first | decide | omega)
  · rw [if_neg hv] at he; exact absurd he (by dsimp only; decide)
/-- a result of an operation, in its box -/
structure StS (Z X : World) (T : Nat → Prop) (p : Nat) (r : Dn) (ad2 : Option Addr) (n2 cap2 : Nat) (zd2 : Option Addr) (zn2 zc2 : Nat) : Prop where
  x : X.heap[p]? = some (.cells (dnK r.d r.c ad2 n2 cap2 zd2 zn2 zc2 r.t r.e) 39 (0, 0))
  ok : DnOk X (fun j : Nat => T j ∨ j = p) r ad2 n2 cap2 zd2 zn2 zc2
  b : Below Z.heap.size Z X
  np : Z.heap.size ≤ p
theorem sts_fin {Z X : World} {T : Nat → Prop} {p : Nat} {r : Dn} {ad2 : Option Addr} {n2 cap2 : Nat} {zd2 : Option Addr} {zn2 zc2 : Nat} (hp : X.heap[p]? = some (.cells dnZ 39 (0, 0)))
    (h2 : DnOk X (fun j : Nat => T j ∨ j = p) r ad2 n2 cap2 zd2 zn2 zc2) (hnp : Z.heap.size ≤ p) (hT : Below Z.heap.size Z X) : StS Z (X.setRow p (dnK r.d r.c ad2 n2 cap2 zd2 zn2 zc2 r.t r.e)) T p r ad2 n2 cap2 zd2 zn2 zc2 :=
  ⟨setRow_heap _ _ _ _ _ _ hp, h2.row (.inr rfl), below_row hT hnp _, hnp⟩
theorem StS.next {Z X Y : World} {T : Nat → Prop} {p : Nat} {r : Dn} {ad2 : Option Addr} {n2 cap2 : Nat} {zd2 : Option Addr} {zn2 zc2 : Nat} (h : StS Z X T p r ad2 n2 cap2 zd2 zn2 zc2) (hb : Below X.heap.size X Y) : StS Z Y T p r ad2 n2 cap2 zd2 zn2 zc2 :=
  ⟨row_next h.x hb, h.ok.below hb, h.b.trans (hb.mono h.b.size), h.np⟩
end Go.Proofs.Ytepmmlnopdjjdaa
