/-
  append of blocks upon a slice without room: the blocks lie in a new row, their bytes where they lay.
-/
import Derived.Test.YtlbnjojafaieoaaCtCopy
namespace Go.Proofs.Ytlbnjojafaieoaa
open Go.RowKit
set_option linter.unusedVariables false
theorem wpList_append_full {w : World} {ops : Array Oper} {rest : List Oper} {o : Oper} {a : Act} {Q : Exit → Act → World → Prop} (hgd : o.guard = none) (s x : Operand)
    (ho : o.op = .call { callee := .builtin .append, args := #[s, x], argTypes := #[24, 24] })
    (ad : Option Addr) (n : Nat) (l : List Blk) (hs : a.eval s = .slice ad n n) (hl : Ki w ad l) (hn : n = l.length) (hnil : ad = none → n = 0)
    (zd : Option Addr) (m c : Nat) (z : List Blk) (hx : a.eval x = .slice zd m c) (hz : Ki w zd z) (hm : m = z.length) (hm0 : 0 < m) (hznil : zd = none → c = 0) (hlen : n + m ≤ 100000)
    (h : ∀ v' w', Kq w' w.heap.size 0 v' (l ++ z) → Below w.heap.size w w' → wpList Try.prog ops Q rest (a.put o.dst v') w') : wpList Try.prog ops Q (o :: rest) a w := by
  cases ad with
  | none =>
    obtain rfl := hnil rfl
    obtain rfl : l = [] := List.eq_nil_of_length_eq_zero hn.symm
    refine wpList_append_k hgd s x ho w.heap.size 0 0 0 (.slice none 0 0) [] hs (Kq.nil _ _ _) zd m c z hznil (hz.kx (Below.refl _ _) (fun g hg => by cases hg)) hm hx (by simpa using hlen) (Nat.le_refl _) (Nat.le_refl _) (Nat.le_refl _) (fun v' w' h1 h2 h3 => h v' w' h1 ?_)
    exact (Below.refl w.heap.size w).grown h2 (Nat.le_refl _) (fun k hk => by cases hk)
  | some a0 =>
    obtain ⟨i, hi, hz0, hz1, hz2⟩ := info_b
    obtain ⟨E, rfl, h1, h2⟩ := hl
    obtain ⟨F, rfl, h3, h4⟩ := hz
    rw [List.length_map] at hn hm
    subst hn hm
    have hold : ∀ j u, (cellsB E)[j]? = some u → w.cell? (a0.add j) = some u := by
      rcases h1 with h0 | ⟨b, off, e, _, hc⟩
      · rw [h0]; intro j u hu; simp at hu
      · cases e
        intro j u hu
        rw [Go.WideShapes.add_plain]
        exact hc j u hu
    rcases h3 with h0 | ⟨b, off, e, hblt, hc⟩
    · have := cellsB_length F
      rw [h0] at this
      simp at this
      omega
    subst e
    have hnews : ∀ j u, (cellsB F)[j]? = some u → w.cell? ((⟨b, off, none⟩ : Addr).add j) = some u := fun j u hu => by
      rw [Go.WideShapes.add_plain]
      exact hc j u hu
    have hi3 : i.size = 3 := hz1
    refine wpList_plain hgd fun K hK => ?_
    have hr := run_append_grow (P := Try.prog) w 24 o.type 56 i (.agg #[.bool false, .bool false, .slice none 0 0]) Try.underlying24 hi hz0 a0 E.length E.length (cellsB E) (by rw [hi3]; exact cellsB_length E) hold ⟨b, off, none⟩ F.length c (cellsB F) (by rw [hi3]; exact cellsB_length F) hnews (by omega) (by omega)
      (growslice_fits (by omega) (by rw [hz2]; omega))
    have hge := grownCap_ge w (E.length + F.length) E.length 56
    have hcm : grownCap w (E.length + F.length) E.length 56 ≤ maxLen := grownCap_le_maxLen w (E.length + F.length) E.length 56 (by unfold maxLen; omega)
    generalize grownCap w (E.length + F.length) E.length 56 = gc at hr hge hcm
    have hb : Below w.heap.size w (w.drew.alloc (.cells ((cellsB E).toArray ++ (cellsB F).toArray ++ Builtin.zeroCells (Value.agg #[.bool false, .bool false, .slice none 0 0]).cells (gc - (E.length + F.length))) 56)) :=
      (Below.refl w.heap.size w).drew.alloc (by simp) _
    unfold Oper.wp execOp
    simp only [ho, resolve, invoke, builtin, Sem.run_bind, Sem.run_pure, Result.andThen_ok, List.map_toArray, List.map_cons, List.map_nil, hs, hx, hr]
    refine hK _ _ (h _ _ ⟨E ++ F, by rw [List.map_append], ?_, fun k hk => ?_⟩ hb)
    · rw [List.length_append, List.length_map, List.length_map, cellsB_append]
      refine ⟨by rw [List.length_append, cellsB_length, cellsB_length]; omega, .inr ⟨w.heap.size, gc, _, rfl, Nat.le_refl _, heap_alloc_new w.drew _, hge, hcm, ?_, ?_⟩⟩
      · have hzs : (Value.agg #[.bool false, .bool false, .slice none 0 0]).cells.size = 3 := rfl
        simp only [Array.size_append, List.size_toArray, size_zeroCells, hzs, cellsB_length]
        omega
      · have hll : (cellsB E ++ cellsB F).length = (E.length + F.length) * 3 := by rw [List.length_append, cellsB_length, cellsB_length]; omega
        simp only [Array.toList_append]
        rw [← hll]
        exact List.take_left
    · have hy : ∀ g, (Value.slice (some ⟨w.heap.size, 0, none⟩) (E.length + F.length) gc).ownBlock = some g → w.heap.size ≤ g := fun g hg => by
        have : w.heap.size = g := Option.some.inj hg
        omega
      rcases List.mem_append.1 hk with hk | hk
      · exact ⟨LieX.of_low (h2 k hk).lie hb hy, (h2 k hk).le, (h2 k hk).mx, (h2 k hk).nn⟩
      · exact ⟨LieX.of_low (h4 k hk).lie hb hy, (h4 k hk).le, (h4 k hk).mx, (h4 k hk).nn⟩
end Go.Proofs.Ytlbnjojafaieoaa
