/-
  Lists of cartridges of a call's own: none of their blocks lies in what the call may write, nor in the list.
-/
import Derived.Test.YtepmmlnopdjjdaaQBase
namespace Go.Proofs.Ytepmmlnopdjjdaa
open Go.RowKit
set_option linter.unusedVariables false
set_option linter.unusedSimpArgs false
set_option maxRecDepth 100000
theorem putL_get : ∀ (vs : List Value) (o : Nat) (C : Array Value) (j : Nat), o + vs.length ≤ C.size → (putL C o vs)[j]? = if o ≤ j ∧ j < o + vs.length then vs[j - o]? else C[j]?
  | [], o, C, j, h => by rw [if_neg (by simp)]; rfl
  | v :: r, o, C, j, h => by
    rw [List.length_cons] at h
    have ih := putL_get r (o + 1) (C.setIfInBounds o v) j (by simp; omega)
    show (putL (C.setIfInBounds o v) (o + 1) r)[j]? = _
    rw [ih, List.length_cons]
    by_cases h1 : o + 1 ≤ j ∧ j < o + 1 + r.length
    · rw [if_pos h1, if_pos (by omega), show j - o = (j - (o + 1)) + 1 by omega, List.getElem?_cons_succ]
    rw [if_neg h1]
    by_cases h2 : j = o
    · subst h2
      rw [if_pos (by omega), Nat.sub_self, Array.getElem?_setIfInBounds_self_of_lt (by omega)]
      rfl
    · rw [if_neg (by omega), Array.getElem?_setIfInBounds_ne (by omega)]
theorem cellsC_append (E F : List Ck) : cellsC (E ++ F) = cellsC E ++ cellsC F := by simp [cellsC]
theorem cellsC_one (E : List Ck) : ∀ u ∈ cellsC E, u.oneCell' = true := by
  intro u hu
  obtain ⟨k, _, hk⟩ := List.mem_flatMap.1 hu
  simp [Ck.cells, crC] at hk
  rcases hk with rfl | rfl | rfl | rfl | rfl | rfl | rfl | rfl | rfl | rfl | rfl | rfl | rfl <;> rfl
/-- the cartridge's blocks lie outside of S -/
def Ck.Out (k : Ck) (X : World) (S : Nat → Prop) : Prop := KnoS X S k.ad k.x.l ∧ k.x.l.length ≤ k.cap ∧ k.cap ≤ maxLen ∧ (k.ad = none → k.cap = 0) ∧ k.x.bc.size ≤ maxLen
/-- a list of the call's own -/
def Lk (X : World) (B : Nat) (S : Nat → Prop) (v : Value) (l : List Crt) : Prop := ∃ E : List Ck, E.map Ck.x = l ∧ X.ownsRow B 30 13 v E.length (cellsC E) ∧ ∀ k ∈ E, k.Out X (fun j => S j ∨ v.ownBlock = some j)
section
variable {X Y : World} {B : Nat} {S T : Nat → Prop} {v : Value} {l : List Crt} {k : Ck}
theorem Ck.Out.i (h : k.Out X S) : CrIn X k.x k.ad k.cap := ⟨h.1.ki, h.2.1, h.2.2.1, h.2.2.2.1, h.2.2.2.2⟩
theorem Lk.lt (h : Lk X B S v l) : ∀ j, v.ownBlock = some j → B ≤ j ∧ j < X.heap.size := fun j hj => by
  obtain ⟨E, _, h1, _⟩ := h
  exact h1.lt j hj
theorem Lk.next (h : Lk X B S v l) (hb : Below X.heap.size X Y) : Lk Y B S v l := by
  obtain ⟨E, e, h1, h2⟩ := h
  refine ⟨E, e, ⟨h1.1, ?_⟩, fun k hk => ⟨(h2 k hk).1.below hb, (h2 k hk).2⟩⟩
  rcases h1.2 with h0 | ⟨g, cap, cur, hv, hB, hg, h4⟩
  · exact .inl h0
  · exact .inr ⟨g, cap, cur, hv, hB, (hb.block g (Array.getElem?_eq_some_iff.1 hg).1).trans hg, h4⟩
/-- a newer box may be written, too -/
theorem Lk.add (h : Lk X B S v l) (o : Obj) (hT : ∀ j, T j → S j ∨ j = X.heap.size) : Lk (X.alloc o) B T v l := by
  have hn := h.next (below_boxC X o)
  obtain ⟨E, e, h1, h2⟩ := h
  obtain ⟨_, _, h3, _⟩ := hn
  refine ⟨E, e, ⟨h1.1, ?_⟩, fun k hk => ⟨(h2 k hk).1.add o (fun j hj => ?_), (h2 k hk).2⟩⟩
  · rcases h1.2 with h0 | ⟨g, cap, cur, hv, hB, hg, h4⟩
    · exact .inl h0
    · exact .inr ⟨g, cap, cur, hv, hB, ((below_boxC X o).block g (Array.getElem?_eq_some_iff.1 hg).1).trans hg, h4⟩
  · rcases hj with hj | hj
    · exact (hT j hj).elim (fun h => .inl (.inl h)) .inr
    · exact .inl (.inr hj)
/-- a box that may be written is written -/
theorem Lk.row {g : Nat} {cs : Array Value} (h : Lk X B S v l) (hg : S g) (hv : ∀ j, v.ownBlock = some j → j ≠ g) : Lk (X.setRow g cs) B S v l := by
  obtain ⟨E, e, h1, h2⟩ := h
  refine ⟨E, e, ⟨h1.1, ?_⟩, fun k hk => ⟨(h2 k hk).1.row (.inl hg), (h2 k hk).2⟩⟩
  rcases h1.2 with h0 | ⟨b, cap, cur, hvb, hB, hgb, h4⟩
  · exact .inl h0
  · exact .inr ⟨b, cap, cur, hvb, hB, by rw [setRow_other _ _ _ _ (hv b (by rw [hvb]; rfl))]; exact hgb, h4⟩
theorem Lk.less (h : Lk X B S v l) (hT : ∀ j, T j → S j) : Lk X B T v l := by
  obtain ⟨E, e, h1, h2⟩ := h
  exact ⟨E, e, h1, fun k hk => ⟨(h2 k hk).1.less (fun j hj => hj.imp (hT j) id), (h2 k hk).2⟩⟩
/-- its value, and its elements as they are read -/
theorem Lk.slice (h : Lk X B S v l) : ∃ ad cap, v = .slice ad l.length cap ∧ Kcs X ad l ∧ l.length ≤ cap ∧ cap ≤ maxLen := by
  obtain ⟨E, rfl, h1, h2⟩ := h
  rw [List.length_map]
  rcases h1.2 with ⟨rfl, h0⟩ | ⟨g, cap, cur, rfl, hB, hg, hle, hm, hsz, htake⟩
  · obtain rfl : E = [] := List.eq_nil_of_length_eq_zero h0
    exact ⟨none, 0, rfl, ⟨[], rfl, .inl rfl, fun k hk => by simp at hk⟩, Nat.le_refl _, Nat.zero_le _⟩
  · refine ⟨some ⟨g, 0, none⟩, cap, rfl, ⟨E, rfl, .inr ⟨g, 0, rfl, (Array.getElem?_eq_some_iff.1 hg).1, fun j u hu => ?_⟩, fun k hk => (h2 k hk).i⟩, hle, hm⟩
    rw [Nat.zero_add, row_cell hg j]
    have hj : j < E.length * 13 := by rw [← h1.1]; exact (List.getElem?_eq_some_iff.1 hu).1
    rw [← htake, List.getElem?_take_of_lt hj] at hu
    simpa using hu
/-- element i: its cells, and a cartridge stored over it -/
theorem Lk.at_ (h : Lk X B S v l) (i : Nat) (hi : i < l.length) : ∃ g cap C ad' cap', v = .slice (some ⟨g, 0, none⟩) l.length cap ∧ l.length ≤ cap ∧ B ≤ g ∧ X.heap[g]? = some (.cells C 30 (0, 0)) ∧ i * 13 + 13 ≤ C.size ∧
    (∀ j, j < 13 → X.cell? ⟨g, i * 13 + j, none⟩ = (crC l[i] ad' cap')[j]?) ∧ (⟨l[i], ad', cap'⟩ : Ck).Out X (fun j => S j ∨ j = g) ∧
    ∀ Y : World, ∀ k : Ck, Y.heap[g]? = some (.cells C 30 (0, 0)) → Lk Y B S v l → k.Out Y (fun j => S j ∨ j = g) → Lk (Y.setRow g (putL C (i * 13) k.cells)) B S v (l.set i k.x) := by
  obtain ⟨E, rfl, h1, h2⟩ := h
  rw [List.length_map] at hi
  rcases h1.2 with ⟨_, h0⟩ | ⟨g, cap, cur, rfl, hB, hg, hle, hm, hsz, htake⟩
  · omega
  have hS : ∀ j : Nat, (Value.slice (some ⟨g, 0, none⟩) E.length cap).ownBlock = some j ↔ j = g := fun j => ⟨fun h => (Option.some.inj h).symm, fun h => h ▸ rfl⟩
  have hC13 : i * 13 + 13 ≤ cur.size := by
    have : (i + 1) * 13 ≤ cap * 13 := Nat.mul_le_mul_right 13 (by omega)
    omega
  refine ⟨g, cap, cur, E[i].ad, E[i].cap, by rw [List.length_map], by rw [List.length_map]; exact hle, hB, hg, hC13, fun j hj => ?_, ?_, fun Y k hY hLY hk => ?_⟩
  · rw [row_cell hg]
    have h3 := cellsC_at E i hi j hj
    rw [← htake, List.getElem?_take_of_lt (by have : (i + 1) * 13 ≤ E.length * 13 := Nat.mul_le_mul_right 13 hi; omega)] at h3
    simp only [List.getElem_map]
    rw [← Array.getElem?_toList, h3]
    rfl
  · simp only [List.getElem_map]
    have h3 := h2 E[i] (List.getElem_mem hi)
    exact ⟨h3.1.less (fun j hj => hj.imp id (fun e => (hS j).2 e)), h3.2⟩
  · obtain ⟨F, hF, f1, f2⟩ := hLY
    have hFl : F.length = E.length := by have := congrArg List.length hF; simpa using this
    rcases f1.2 with ⟨h0, _⟩ | ⟨g', cap', cur', hv', hB', hg', hle', hm', hsz', htake'⟩
    · cases h0
    obtain ⟨rfl, rfl⟩ : g = g' ∧ cap = cap' := by
      have := hv'
      simp only [Value.slice.injEq, Option.some.injEq, Addr.mk.injEq] at this
      exact ⟨this.1.1, this.2.2⟩
    obtain rfl : cur = cur' := by rw [hY] at hg'; simpa using hg'
    refine ⟨F.set i k, by rw [List.map_set, hF], ⟨?_, .inr ⟨g, cap, putL cur (i * 13) k.cells, by rw [List.length_set, hFl], hB, setRow_heap _ _ _ _ _ _ hY, by rw [List.length_set]; exact hle', hm, by rw [putL_size]; exact hsz, ?_⟩⟩, fun c hc => ?_⟩
    · rw [cellsC_length]
    · rw [List.length_set]
      apply List.ext_getElem?
      intro j
      by_cases hj : j < F.length * 13
      · rw [List.getElem?_take_of_lt hj, Array.getElem?_toList, putL_get _ _ _ _ (by rw [Ck.len]; exact hC13), Ck.len]
        have hq : j / 13 < F.length := by omega
        have hr : j % 13 < 13 := Nat.mod_lt _ (by omega)
        have hjq : j = j / 13 * 13 + j % 13 := by omega
        have h5 := cellsC_at (F.set i k) (j / 13) (by rw [List.length_set]; exact hq) (j % 13) hr
        rw [← hjq] at h5
        rw [h5, List.getElem_set]
        by_cases hqi : i = j / 13
        · rw [if_pos hqi, if_pos (by omega)]
          congr 1
          omega
        · rw [if_neg hqi, if_neg (by omega)]
          have h6 := cellsC_at F (j / 13) hq (j % 13) hr
          rw [← hjq, ← htake', List.getElem?_take_of_lt hj, Array.getElem?_toList] at h6
          exact h6
      · rw [List.getElem?_eq_none (by rw [List.length_take]; omega), List.getElem?_eq_none (by rw [cellsC_length, List.length_set]; omega)]
    · rcases List.mem_or_eq_of_mem_set hc with h3 | rfl
      · exact ⟨(f2 c h3).1.row (.inr rfl), (f2 c h3).2⟩
      · exact ⟨(hk.1.row (.inr rfl)).less (fun j hj => hj.imp id (fun e => (hS j).1 e)), hk.2⟩
end
theorem infoC3 : (Try.prog.info? 30).map (fun i => (i.zero, i.size, i.bytes)) = some (some (.agg (crK ⟨#[]⟩ 0 0 0 0 0 0 false false none 0 0 0 0 0)), 13, 120) := by kernel_rfl
theorem info_c : ∃ i : TypeInfo, Try.prog.info? 30 = some i ∧ i.zero = some (.agg (crK ⟨#[]⟩ 0 0 0 0 0 0 false false none 0 0 0 0 0)) ∧ i.size = 13 ∧ i.bytes = 120 := by
  have h := infoC3
  rcases hi : Try.prog.info? 30 with _ | i
  · rw [hi] at h; simp at h
  · rw [hi] at h
    simp only [Option.map_some, Option.some.injEq, Prod.mk.injEq] at h
    exact ⟨i, rfl, h.1, h.2.1, h.2.2⟩
theorem KnoS.grown {w w' : World} {S : Nat → Prop} {ad : Option Addr} {l : List Blk} {v v' : Value} (h : KnoS w (fun j => S j ∨ v.ownBlock = some j) ad l) (hg : w.grownBy w' v.ownBlock) (hat : v'.ownBlock = v.ownBlock ∨ v'.ownBlock = some w.heap.size) : KnoS w' (fun j => S j ∨ v'.ownBlock = some j) ad l := by
  intro Z hZ hs
  refine h Z (fun j hj hlt => ?_) (Nat.le_trans hg.size hs)
  have hne : some j ≠ v.ownBlock := fun e => hj (.inr e.symm)
  rw [hZ j (fun hc => ?_) (Nat.lt_of_lt_of_le hlt hg.size)]
  · exact hg.block j hlt hne
  · rcases hc with hc | hc
    · exact hj (.inl hc)
    · rcases hat with h1 | h1
      · exact hne (by rw [← h1, hc])
      · rw [hc] at h1; have := Option.some.inj h1; omega
/-- a cartridge appended to a list of the call's own -/
theorem wpList_append_c {w : World} {ops : Array Oper} {rest : List Oper} {o : Oper} {a : Act} {Q : Exit → Act → World → Prop} (hgd : o.guard = none) (s x : Operand)
    (ho : o.op = .call { callee := .builtin .append, args := #[s, x], argTypes := #[35, 35] })
    (B : Nat) (S : Nat → Prop) (v : Value) (l : List Crt) (hs : a.eval s = v) (hown : Lk w B S v l) (k : Ck) (g cap : Nat) (hx : a.eval x = .slice (some ⟨g, 0, none⟩) 1 cap) (hg : w.heap[g]? = some (.cells k.cells.toArray 30 (0, 0))) (hk : k.Out w (fun j => S j ∨ v.ownBlock = some j))
    (hlen : l.length + 1 ≤ 100000) (hbase : B ≤ w.heap.size)
    (h : ∀ v' w', Lk w' B S v' (l ++ [k.x]) → w.grownBy w' v.ownBlock → (v'.ownBlock = v.ownBlock ∨ v'.ownBlock = some w.heap.size) → wpList Try.prog ops Q rest (a.put o.dst v') w') : wpList Try.prog ops Q (o :: rest) a w := by
  obtain ⟨i, hi, hz0, hz1, hz2⟩ := info_c
  obtain ⟨E, rfl, h1, h2⟩ := hown
  rw [List.length_map] at hlen
  have hnews : ∀ j u, (cellsC [k])[j]? = some u → w.cell? ((⟨g, 0, none⟩ : Addr).add j) = some u := by
    intro j u hu
    rw [Go.WideShapes.add_plain, Nat.zero_add, row_cell hg j]
    simpa [cellsC] using hu
  refine wpList_append_own_at w hgd s x 35 ho B 30 i (.agg (crK ⟨#[]⟩ 0 0 0 0 0 0 false false none 0 0 0 0 0)) 13 120 Try.underlying35 hi hz0 hz1 hz2 rfl (by decide) v _ (cellsC E) hs h1 ⟨g, 0, none⟩ 1 cap (cellsC [k]) hx (cellsC_length [k]) hnews (cellsC_one [k]) (by unfold maxLen; omega) (by omega) hbase
    (fun v' w' h5 h6 _ hat => h v' w' ⟨E ++ [k], by rw [List.map_append]; rfl, ?_, fun c hc => ?_⟩ h6 hat)
  · rw [List.length_append, cellsC_append]
    exact h5
  · rcases List.mem_append.1 hc with hc | hc
    · exact ⟨(h2 c hc).1.grown h6 hat, (h2 c hc).2⟩
    · obtain rfl : c = k := by simpa using hc
      exact ⟨hk.1.grown h6 hat, hk.2⟩
end Go.Proofs.Ytepmmlnopdjjdaa
