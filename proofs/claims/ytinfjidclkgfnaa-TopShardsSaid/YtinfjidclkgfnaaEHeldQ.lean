/-
  Appends inside a region that draws its order: one slice, one byte.
-/
import Derived.Test.YtinfjidclkgfnaaQList
import Derived.Test.YtinfjidclkgfnaaHeld
import Derived.Deep.RegionWith
namespace Go.Proofs.Ytinfjidclkgfnaa
open Go.RowKit
theorem held_go {P : Program} {md : Region.Mode} {ops : Array Oper} {Q : Exit → Act → World → Prop} {S : World → Prop} {fuel : Nat} {listed : Array Bool} {K' : Act → World → Prop} {a : Act} {w : World}
    (hK : Shut (∀ a w, S w → (S w → wpAnyH P md ops Q S fuel listed a w) → K' a w)) (hS : S w) (h : wpAnyH P md ops Q S fuel listed a w) : K' a w := hK.out a w hS (fun _ => h)
theorem wp_append_q1 {w : World} {o : Oper} {a : Act} {K : Act → World → Prop} {Q : Exit → Act → World → Prop} (s x : Operand)
    (ho : o.op = .call { callee := .builtin .append, args := #[s, x], argTypes := #[22, 22] })
    (B C C2 C' : Nat) (v : Value) (ls : List (List UInt8)) (hs : a.eval s = v) (hown : Lq w B C v ls) (ad : Addr) (hx : a.eval x = .slice (some ad) 1 1) (c : Value) (l : List UInt8) (hcell : ∀ j u, [c][j]? = some u → w.cell? (ad.add j) = some u)
    (hc : ∃ ad' cap', c = .slice ad' l.length cap' ∧ LieX w C2 v.ownBlock ad' l ∧ l.length ≤ cap' ∧ cap' ≤ maxLen ∧ (ad' = none → cap' = 0)) (hlen : ls.length ≤ 100000) (hbase : B ≤ w.heap.size) (hC : C' ≤ C) (hC2 : C' ≤ C2)
    (h : ∀ v' w', Lq w' B C' v' (ls ++ [l]) → w.grownBy w' v.ownBlock → K (a.put o.dst v') w') : o.wp Try.prog a w K Q := by
  obtain ⟨i, hi, hz0, hz1, hz2⟩ := info_l
  obtain ⟨cs, h1, h2⟩ := hown
  obtain ⟨ad', cap', rfl, h3, h4⟩ := hc
  have hcl : cs.length = ls.length := row_len h1
  obtain ⟨v', w', hr, h5, h6, _, hat⟩ := run_append_own_at (P := Try.prog) w B 22 o.type 33 i (.slice none 0 0) 1 24 Try.underlying22 hi hz0 hz1 hz2 rfl (by decide) v ls.length cs h1 ad 1 1 [.slice ad' l.length cap'] rfl hcell (fun u hu => by rw [List.mem_singleton.1 hu]; rfl) (by unfold maxLen; omega) (by omega) hbase
  unfold Oper.wp execOp
  simp only [ho, resolve, invoke, builtin, Sem.run_bind, Sem.run_pure, Result.andThen_ok, List.map_toArray, List.map_cons, List.map_nil, hs, hx, hr]
  refine h v' w' ⟨cs ++ [.slice ad' l.length cap'], by rw [List.length_append]; exact h5, fun i hi => ?_⟩ h6
  by_cases hlt : i < ls.length
  · rw [List.getElem?_append_left (by omega), List.getElem_append_left hlt]
    obtain ⟨a2, c2, e, h7, h8⟩ := h2 i hlt
    exact ⟨a2, c2, e, (h7.grown h6 hat).mono hC, h8⟩
  · rw [List.length_append, List.length_singleton] at hi
    have e : i = ls.length := by omega
    subst e
    rw [List.getElem?_append_right (by omega), List.getElem_append_right (by omega), hcl]
    simp only [Nat.sub_self, List.getElem_cons_zero]
    exact ⟨ad', cap', rfl, (h3.grown h6 hat).mono hC2, h4⟩
theorem wp_append_one {w : World} {o : Oper} {a : Act} {K : Act → World → Prop} {Q : Exit → Act → World → Prop} (s x : Operand)
    (ho : o.op = .call { callee := .builtin .append, args := #[s, x], argTypes := #[33, 33] })
    (B : Nat) (v : Value) (ys : List UInt8) (hs : a.eval s = v) (hown : Own w B v ys) (y : UInt8) (ad : Addr) (hx : a.eval x = .slice (some ad) 1 1) (hcell : ∀ j u, [Value.int .u8 (ev y)][j]? = some u → w.cell? (ad.add j) = some u) (hlen : ys.length ≤ 1000000) (hbase : B ≤ w.heap.size)
    (h : ∀ v' w', Own w' B v' (ys ++ [y]) → w.grownBy w' v.ownBlock → K (a.put o.dst v') w') : o.wp Try.prog a w K Q := by
  obtain ⟨i, hi, hz0, hz1, hz2⟩ := info_u
  refine wp_append_own w s x 33 ho B 5 i (.int .u8 0) 1 1 Try.underlying33 hi hz0 hz1 hz2 rfl (by decide) v ys.length (cellsU ys) hs hown.row ad 1 1 [Value.int .u8 (ev y)] hx rfl hcell (by simp [Value.oneCell']) (by unfold maxLen; omega) (by omega) hbase (fun v' w' h2 h3 _ => h v' w' ?_ h3)
  unfold Own
  rw [List.length_append, List.length_singleton]
  rw [show cellsU ys ++ [Value.int .u8 (ev y)] = cellsU (ys ++ [y]) by simp [cellsU, ev_nat]] at h2
  exact h2
end Go.Proofs.Ytinfjidclkgfnaa
