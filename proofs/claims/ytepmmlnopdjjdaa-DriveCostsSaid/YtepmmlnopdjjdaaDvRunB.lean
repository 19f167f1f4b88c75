/-
  Operations of a drive with some cartridges of the call's own: the state between two of them.
-/
import Derived.Test.YtepmmlnopdjjdaaDvList
namespace Go.Proofs.Ytepmmlnopdjjdaa
open Go.RowKit
set_option linter.unusedVariables false
set_option linter.unusedSimpArgs false
set_option maxRecDepth 100000
theorem or_last {a b c : Prop} (h : a ∨ b ∨ c) : (a ∨ b) ∨ c := h.elim (fun h => .inl (.inl h)) (fun h => h.elim (fun h => .inl (.inr h)) .inr)
theorem or_mid {a b c : Prop} (h : a ∨ c ∨ b) : (a ∨ b) ∨ c := h.elim (fun h => .inl (.inl h)) (fun h => h.elim .inr (fun h => .inl (.inr h)))
theorem below_row {w X : World} {n : Nat} (h : Below n w X) {g : Nat} (hg : n ≤ g) (cs : Array Value) : Below n w (X.setRow g cs) := below_set h hg cs
/-- what lies in the cartridge behind an operation lay there, or was written -/
theorem stU_sub (m : Mdl) (d : Drv) (c : Crt) (k n : Int) (z : List Blk) : ∀ b ∈ (stU m d c k n z).c.l, b ∈ c.l ∨ b ∈ z := by
  have hz : ∀ b ∈ crZ.l, b ∈ c.l ∨ b ∈ z := fun b hb => absurd (show b ∈ ([] : List Blk) from hb) (by simp)
  unfold stU
  by_cases h0 : k = 0
  · rw [if_pos h0]
    unfold ldU
    repeat' split
    all_goals first | exact hz | exact fun b hb => .inl hb
  rw [if_neg h0]
  by_cases h1 : k = 1
  · rw [if_pos h1]
    unfold ulU
    split
    all_goals first | exact hz | exact fun b hb => .inl hb
  rw [if_neg h1]
  by_cases h2 : k = 2
  · rw [if_pos h2]
    unfold skU
    repeat' split
    all_goals first | exact hz | exact fun b hb => .inl hb
  rw [if_neg h2]
  by_cases h3 : k = 3
  · rw [if_pos h3]
    unfold rdU
    repeat' split
    all_goals first | exact hz | exact fun b hb => .inl hb
  rw [if_neg h3]
  by_cases h4 : k = 4
  · rw [if_pos h4]
    unfold wrU
    by_cases hf : fstU m d c = 0
    · rw [if_pos hf]
      by_cases hw : worn m c = true
      · rw [if_pos hw]; exact hz
      rw [if_neg hw]
      by_cases hz0 : z = []
      · rw [if_pos hz0]; exact hz
      rw [if_neg hz0]
      by_cases hr : (wriC (vldC c) c d.hd z).2 = 0
      · rw [if_pos hr]
        intro b hb
        dsimp only at hb
        rw [mvC_l, (wri_is hr).2.2.2.2.2] at hb
        have h5 : b ∈ (if z = [] then c.l else c.l.take d.hd.toNat ++ z) := hb
        rw [if_neg hz0] at h5
        rcases List.mem_append.1 h5 with h6 | h6
        · exact .inl (List.mem_of_mem_take h6)
        · exact .inr h6
      · rw [if_neg hr]; exact hz
    · rw [if_neg hf]; exact hz
  rw [if_neg h4]
  exact fun b hb => .inl hb
/-- a cartridge stored into a list -/
theorem oper_store_el {o : Oper} {a : Act} {w : World} {K : Act → World → Prop} {Q : Exit → Act → World → Prop} (x y : Operand) (ho : o.op = .store 30 x y)
    (g i : Nat) (hx : a.eval x = .pointer (some ⟨g, i, none⟩)) (cs : Array Value) (hy : a.eval y = .agg cs) (C : Array Value) (hg : w.heap[g]? = some (.cells C 30 (0, 0))) (hs : cs.size = 13) (hle : i + 13 ≤ C.size) (h1 : cs.all (·.oneCell') = true)
    (h : K (a.put o.dst undef) (w.setRow g (putL C i cs.toList))) : Oper.wp Try.prog o a w K Q := by
  have hi := infoC
  have hr : (storeVar 30 ⟨g, i, none⟩ (.agg cs)).run Try.prog w = .ok () (w.setRow g (putL C i cs.toList)) := by
    have := run_storeCells_cells (P := Try.prog) g i cs.toList 0 w
      (fun j hj => by
        have hj2 : j < cs.size := by simpa using hj
        simp [World.cell?, hg]
        omega)
      (fun j hj => by simp [World.frozen?, hg])
      (fun u hu => (Array.all_eq_true_iff_forall_mem.1 h1) u (by simpa using hu))
    cases hq : Try.prog.info? 30 with
    | none => simp [hq] at hi
    | some i2 =>
      have hs2 : cs.size = i2.size := by simp [hq] at hi; omega
      simp only [Nat.add_zero] at this
      rw [setCells_row _ _ _ _ hg] at this
      simp [storeVar, sizeOf, typeInfo, hq, hs2, this, Value.cells]
  unfold Oper.wp execOp
  simp only [ho, hx, hy, Instr.storeAt, Instr.sureAddr, Sem.run_bind, Sem.run_pure, Result.andThen_ok, hr]
  exact h
/-- the drive in its box, the cartridges in a list of the call's own -/
structure Rl (w X : World) (L : List (Array Value × TypeId)) (dp : Nat) (d : Drv) (v : Value) (cs : List Crt) : Prop where
  x : X.heap[dp]? = some (.cells (drK d) 25 (0, 0))
  k : Lk X (w.heap.size + L.length) (fun j => j = dp) v cs
  np : w.heap.size + L.length ≤ dp
  ne : ∀ j, v.ownBlock = some j → j ≠ dp
  b : Bx w X L
/-- two results of an operation, in their boxes -/
structure StR (wr X : World) (T : Nat → Prop) (p q : Nat) (r : Dn) (ad2 : Option Addr) (n2 cap2 : Nat) (zd2 : Option Addr) (zn2 zc2 : Nat) (ad4 : Option Addr) (n4 cap4 : Nat) (zd4 : Option Addr) (zn4 zc4 : Nat) : Prop where
  x : X.heap[p]? = some (.cells (dnK r.d r.c ad2 n2 cap2 zd2 zn2 zc2 r.t r.e) 39 (0, 0))
  y : X.heap[q]? = some (.cells (dnK r.d r.c ad4 n4 cap4 zd4 zn4 zc4 r.t r.e) 39 (0, 0))
  okx : DnOk X (fun j : Nat => T j ∨ j = p ∨ j = q) r ad2 n2 cap2 zd2 zn2 zc2
  oky : DnOk X (fun j : Nat => T j ∨ j = p ∨ j = q) r ad4 n4 cap4 zd4 zn4 zc4
  b : Below wr.heap.size wr X
  np : wr.heap.size ≤ p
section
variable {w wr X Y : World} {L : List (Array Value × TypeId)} {dp p q : Nat} {d d2 : Drv} {v : Value} {cs : List Crt} {T : Nat → Prop}
theorem Rl.next (h : Rl w X L dp d v cs) (hb : Below X.heap.size X Y) : Rl w Y L dp d v cs := ⟨row_next h.x hb, h.k.next hb, h.np, h.ne, h.b.next hb⟩
theorem str_far {C : Array Value} {t : TypeId} (h : X.heap[q]? = some (.cells C t (0, 0))) (hne : p ≠ q ∨ q ≠ p) (cs : Array Value) : (X.setRow p cs).heap[q]? = some (.cells C t (0, 0)) := by
  rw [setRow_other _ _ _ _ (by omega)]; exact h
theorem str_fin {r : Dn} {ad2 : Option Addr} {n2 cap2 : Nat} {zd2 : Option Addr} {zn2 zc2 : Nat} {ad4 : Option Addr} {n4 cap4 : Nat} {zd4 : Option Addr} {zn4 zc4 : Nat} (hp : X.heap[p]? = some (.cells dnZ 39 (0, 0))) (hq : X.heap[q]? = some (.cells dnZ 39 (0, 0))) (hne : p ≠ q ∨ q ≠ p)
    (h2 : DnOk X (fun j : Nat => T j ∨ j = p ∨ j = q) r ad2 n2 cap2 zd2 zn2 zc2) (h4 : DnOk X (fun j : Nat => T j ∨ j = p ∨ j = q) r ad4 n4 cap4 zd4 zn4 zc4) (hnp : wr.heap.size ≤ p) (hnq : wr.heap.size ≤ q) (hT : Below wr.heap.size wr X) :
    StR wr ((X.setRow p (dnK r.d r.c ad2 n2 cap2 zd2 zn2 zc2 r.t r.e)).setRow q (dnK r.d r.c ad4 n4 cap4 zd4 zn4 zc4 r.t r.e)) T p q r ad2 n2 cap2 zd2 zn2 zc2 ad4 n4 cap4 zd4 zn4 zc4 := by
  refine ⟨?_, ?_, (h2.row (.inr (.inl rfl))).row (.inr (.inr rfl)), (h4.row (.inr (.inl rfl))).row (.inr (.inr rfl)), below_row (below_row hT hnp _) hnq _, hnp⟩
  · rw [setRow_other _ _ _ _ (by omega)]; exact setRow_heap _ _ _ _ _ _ hp
  · exact setRow_heap _ _ _ _ _ _ (by rw [setRow_other _ _ _ _ (by omega)]; exact hq)
theorem StR.next {r : Dn} {ad2 : Option Addr} {n2 cap2 : Nat} {zd2 : Option Addr} {zn2 zc2 : Nat} {ad4 : Option Addr} {n4 cap4 : Nat} {zd4 : Option Addr} {zn4 zc4 : Nat} (h : StR wr X T p q r ad2 n2 cap2 zd2 zn2 zc2 ad4 n4 cap4 zd4 zn4 zc4) (hb : Below X.heap.size X Y) : StR wr Y T p q r ad2 n2 cap2 zd2 zn2 zc2 ad4 n4 cap4 zd4 zn4 zc4 :=
  ⟨row_next h.x hb, row_next h.y hb, h.okx.below hb, h.oky.below hb, h.b.trans (hb.mono h.b.size), h.np⟩
/-- the drive's box written; a cartridge stored into the list: in any order -/
theorem Rl.put (h : Rl w X L dp d v cs) (W : Nat) (hW : W < cs.length) : ∃ lg cap C ad' cap', v = .slice (some ⟨lg, 0, none⟩) cs.length cap ∧ cs.length ≤ cap ∧ lg ≠ dp ∧ X.heap[lg]? = some (.cells C 30 (0, 0)) ∧ W * 13 + 13 ≤ C.size ∧ (∀ j, j < 13 → X.cell? ⟨lg, W * 13 + j, none⟩ = (crC cs[W] ad' cap')[j]?) ∧ (⟨cs[W], ad', cap'⟩ : Ck).Out X (fun j => j = dp ∨ j = lg) ∧ lg < X.heap.size ∧ dp < X.heap.size ∧
    ∀ Y : World, Below X.heap.size X Y → ∀ (d2 : Drv) (k : Ck), k.Out Y (fun j => j = dp ∨ j = lg) → Rl w ((Y.setRow dp (drK d2)).setRow lg (putL C (W * 13) k.cells)) L dp d2 v (cs.set W k.x) ∧ Rl w ((Y.setRow lg (putL C (W * 13) k.cells)).setRow dp (drK d2)) L dp d2 v (cs.set W k.x) := by
  obtain ⟨lg, cap, C, ad', cap', hv, hle, hB, hg, hC, hcell, hout, hset⟩ := h.k.at_ W hW
  have hlt := (Array.getElem?_eq_some_iff.1 hg).1
  have hdl := (Array.getElem?_eq_some_iff.1 h.x).1
  have hne : lg ≠ dp := h.ne lg (by rw [hv]; rfl)
  refine ⟨lg, cap, C, ad', cap', hv, hle, hne, hg, hC, hcell, hout, hlt, hdl, fun Y hb d2 k hk => ?_⟩
  have hY := h.next hb
  have hgY := row_next hg hb
  have hnp := h.np
  have hk1 : k.Out (Y.setRow dp (drK d2)) (fun j => j = dp ∨ j = lg) := ⟨hk.1.row (.inl rfl), hk.2⟩
  have hL1 : Lk (Y.setRow dp (drK d2)) (w.heap.size + L.length) (fun j => j = dp) v cs := hY.k.row rfl h.ne
  have hL2 := hset Y k hgY hY.k hk
  refine ⟨⟨?_, hset _ k (by rw [setRow_other _ _ _ _ (by omega)]; exact hgY) hL1 hk1, h.np, h.ne, (hY.b.far h.np _).far hB _⟩, ⟨?_, hL2.row rfl h.ne, h.np, h.ne, (hY.b.far hB _).far h.np _⟩⟩
  · rw [setRow_other _ _ _ _ (by omega)]; exact setRow_heap _ _ _ _ _ _ hY.x
  · exact setRow_heap _ _ _ _ _ _ (by rw [setRow_other _ _ _ _ (by omega)]; exact hY.x)
end
end Go.Proofs.Ytepmmlnopdjjdaa
