/-
  A block of the call's own list gets other bytes.
-/
import Derived.Test.YtjiijjdmkeeilaaDoorCoLawQ
import Derived.Test.YtjiijjdmkeeilaaDoorCoTrip4
namespace Go.Proofs.YtjiijjdmkeeilaaDoor
open Go.RowKit
set_option linter.unusedVariables false
theorem Own.row1 {w : World} {B : Nat} {v : Value} {l : List UInt8} (h : Own w B v l) (h0 : 0 < l.length) : ∃ g cap, v = .slice (some ⟨g, 0, none⟩) l.length cap ∧ B ≤ g ∧ g < w.heap.size ∧ l.length ≤ cap ∧ cap ≤ maxLen ∧ (∀ j, w.frozen? ⟨g, j, none⟩ = false) ∧ ∀ j (h : j < l.length), w.cell? ⟨g, j, none⟩ = some (.int .u8 ((l[j]).toNat : Int)) := by
  obtain ⟨ad, cap0, hv, hl, _⟩ := h.slice
  rcases h.2 with ⟨_, e⟩ | ⟨g, cap, cur, hv2, hB, hg, hle, hm, _⟩
  · omega
  · rw [hv2] at hv
    injection hv with e1 e2 e3
    subst e1
    refine ⟨g, cap, hv2, hB, (Array.getElem?_eq_some_iff.1 hg).1, hle, hm, fun j => by simp [World.frozen?, hg], fun j hj => ?_⟩
    rcases hl.at_ with h1 | ⟨b, off, e, _, hc⟩
    · rw [h1] at h0; simp at h0
    · cases e
      have := hc j hj
      rwa [Nat.zero_add] at this
theorem Kq.row1 {w : World} {B C i : Nat} {v : Value} {L : List Blk} (h : Kq w B C v L) (hi : i < L.length) : ∃ g cap ad' cap', v = .slice (some ⟨g, 0, none⟩) L.length cap ∧ B ≤ g ∧ g < w.heap.size ∧ w.cell? ⟨g, i * 3 + 2, none⟩ = some (.slice ad' L[i].d.length cap') ∧ (∀ j, w.frozen? ⟨g, j, none⟩ = false) ∧ L.length ≤ cap ∧ cap ≤ maxLen := by
  obtain ⟨ad, cap0, hv, hx, hc, hm, _, h0⟩ := h.read
  obtain ⟨b, off, ad', cap', e, hlt, _, _, q2, _⟩ := hx.ki.get hi
  subst e
  obtain ⟨hB, rfl, _⟩ := h0 b off none rfl
  obtain ⟨E, _, h1, _⟩ := h
  refine ⟨b, cap0, ad', cap', hv, hB, hlt, by simpa using q2, fun j => ?_, hc, hm⟩
  rcases h1.2 with ⟨e, _⟩ | ⟨g, cap, cur, hv2, _, hg, _⟩
  · rw [hv] at e; cases e
  · rw [hv] at hv2
    cases hv2
    simp [World.frozen?, hg]
theorem Ki.chg {w W : World} {B g N cap i : Nat} {L : List Blk} (hk : Kq w B 0 (.slice (some ⟨g, 0, none⟩) N cap) L) (hi : i < L.length) (hsz : w.heap.size ≤ W.heap.size) (hkeep : ∀ k, k < w.heap.size → k ≠ g → W.heap[k]? = w.heap[k]?)
    (h7 : ∀ j, j ≠ i * 3 + 2 → W.cell? ⟨g, j, none⟩ = w.cell? ⟨g, j, none⟩) {ad : Option Addr} {c : Nat} {D : List UInt8} (hd : W.cell? ⟨g, i * 3 + 2, none⟩ = some (.slice ad D.length c)) (hl : Lie W ad D) (h1 : D.length ≤ c) (h2 : c ≤ maxLen) (h3 : ad = none → c = 0) :
    Ki W (some ⟨g, 0, none⟩) (L.set i ⟨L[i].m, L[i].bad, D⟩) := by
  obtain ⟨ad0, cap0, hv, hx, _⟩ := hk.read
  injection hv with e1 e2 e3
  subst e1
  obtain ⟨E, rfl, hc, ho⟩ := hx
  rw [List.length_map] at hi
  have hgl : g < w.heap.size := by
    rcases hc with h0 | ⟨b, off, e, hlt, _⟩
    · have := cellsB_length E; rw [h0] at this; simp at this; omega
    · cases e; exact hlt
  have hcell : ∀ j u, (cellsB E)[j]? = some u → w.cell? ⟨g, j, none⟩ = some u := by
    rcases hc with h0 | ⟨b, off, e, hlt, hc⟩
    · rw [h0]; intro j u hu; simp at hu
    · cases e; intro j u hu; have := hc j u hu; rwa [Nat.zero_add] at this
  have hE : (E.set i ⟨⟨E[i].x.m, E[i].x.bad, D⟩, ad, c⟩).map Bk.x = (E.map Bk.x).set i ⟨(E.map Bk.x)[i].m, (E.map Bk.x)[i].bad, D⟩ := by
    rw [List.map_set]; simp
  refine ⟨E.set i ⟨⟨E[i].x.m, E[i].x.bad, D⟩, ad, c⟩, hE, .inr ⟨g, 0, rfl, by omega, fun j u hu => ?_⟩, fun k hk' => ?_⟩
  · rw [Nat.zero_add]
    have hjl : j < E.length * 3 := by
      have := (List.getElem?_eq_some_iff.1 hu).1
      rw [cellsB_length, List.length_set] at this
      exact this
    obtain ⟨t, r, hj, hr⟩ : ∃ t r, j = t * 3 + r ∧ r < 3 := ⟨j / 3, j % 3, by omega, by omega⟩
    subst hj
    have hq : t < E.length := by omega
    have hql : t < (E.set i ⟨⟨E[i].x.m, E[i].x.bad, D⟩, ad, c⟩).length := by rw [List.length_set]; exact hq
    have hg := cellsB_get _ t hql
    have hg0 := cellsB_get E t hq
    rw [List.getElem_set] at hg
    by_cases e : i = t
    · rw [if_pos e] at hg
      subst e
      rcases (show r = 0 ∨ r = 1 ∨ r = 2 by omega) with rfl | rfl | rfl
      · rw [h7 _ (by omega)]; exact hcell _ u (hg0.1.trans (hg.1.symm.trans hu))
      · rw [h7 _ (by omega)]; exact hcell _ u (hg0.2.1.trans (hg.2.1.symm.trans hu))
      · rw [hd]; exact hg.2.2.symm.trans hu
    · rw [if_neg e] at hg
      rcases (show r = 0 ∨ r = 1 ∨ r = 2 by omega) with rfl | rfl | rfl
      · rw [h7 _ (by omega)]; exact hcell _ u (hg0.1.trans (hg.1.symm.trans hu))
      · rw [h7 _ (by omega)]; exact hcell _ u (hg0.2.1.trans (hg.2.1.symm.trans hu))
      · rw [h7 _ (by omega)]; exact hcell _ u (hg0.2.2.trans (hg.2.2.symm.trans hu))
  · rcases List.mem_or_eq_of_mem_set hk' with hk' | rfl
    · have h4 := ho k hk'
      refine ⟨?_, h4.le, h4.mx, h4.nn⟩
      rcases h4.lie with h0 | ⟨b, off, e, _, hb, hne, hcb⟩
      · exact ⟨.inl h0⟩
      · have hbg : b ≠ g := fun h' => hne (by rw [h']; rfl)
        exact ⟨.inr ⟨b, off, e, by omega, fun j hj => (World.cell?_of_block (a := ⟨b, off + j, none⟩) (hkeep b hb hbg)).trans (hcb j hj)⟩⟩
    · exact ⟨hl, h1, h2, h3⟩
end Go.Proofs.YtjiijjdmkeeilaaDoor
