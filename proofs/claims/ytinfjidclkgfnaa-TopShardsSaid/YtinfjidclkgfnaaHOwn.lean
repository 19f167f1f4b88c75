/-
  A list of slices of the call's own, each in a block of its own: one replaced, one appended to; slices cloned, and lists of them.
-/
import Derived.Test.YtinfjidclkgfnaaQRows
import Derived.Test.YtinfjidclkgfnaaQMem
import Derived.ArgAppend
namespace Go.Proofs.Ytinfjidclkgfnaa
open Go.RowKit

theorem Own.setOther {w : World} {B : Nat} {v : Value} {l : List UInt8} (h : Own w B v l) (g i : Nat) (u : Value) (hg : g < B) : Own (w.setCell ⟨g, i, none⟩ u) B v l := by
  refine ⟨h.row.1, ?_⟩
  rcases h.row.2 with h0 | ⟨b, cap, cur, hv, hB, hb, h4⟩
  · exact .inl h0
  · exact .inr ⟨b, cap, cur, hv, hB, (Below.heap_setCell w ⟨g, i, none⟩ u b (by intro e; have e : b = g := e; omega)).trans hb, h4⟩
/-- Block g holds R slices; the first of them hold the rows ls, each in a block of its own behind g. -/
structure Mx (w : World) (B g R : Nat) (ls : List (List UInt8)) : Prop where
  base : B ≤ g
  fits : ls.length ≤ R
  most : R ≤ maxLen
  outer : ∃ cs : List Value, cs.length = ls.length ∧ (∃ cur, w.heap[g]? = some (.cells cur 33 (0, 0)) ∧ cur.size = R ∧ ∀ i (h : i < cs.length), cur[i]? = some (cs[i])) ∧
    (∀ i (h : i < cs.length) (h' : i < ls.length), Own w (g + 1) (cs[i]) (ls[i])) ∧ ∀ i j (hi : i < cs.length) (hj : j < cs.length), i < j → ∀ k, (cs[i]).ownBlock = some k → (cs[j]).ownBlock ≠ some k
section
variable {w w' : World} {B g R : Nat} {ls : List (List UInt8)}
theorem Mx.lt (h : Mx w B g R ls) : g < w.heap.size := by
  obtain ⟨cs, _, ⟨cur, h1, _⟩, _⟩ := h.outer
  exact (Array.getElem?_eq_some_iff.1 h1).1
theorem Mx.frozen (h : Mx w B g R ls) (i : Nat) : w.frozen? ⟨g, i, none⟩ = false := by
  obtain ⟨cs, _, ⟨cur, h1, _⟩, _⟩ := h.outer
  simp [World.frozen?, h1]
theorem Mx.get (h : Mx w B g R ls) (i : Nat) (hi : i < ls.length) : ∃ v, w.cell? ⟨g, i, none⟩ = some v ∧ Own w (g + 1) v (ls[i]) ∧
    ∀ v' l' w', w.grownBy w' v.ownBlock → Own w' (g + 1) v' l' → (v'.ownBlock = v.ownBlock ∨ ∀ k, v'.ownBlock = some k → w.heap.size ≤ k) → Mx (w'.setCell ⟨g, i, none⟩ v') B g R (ls.set i l') := by
  obtain ⟨cs, hcs, ⟨cur, h1, h2, h3⟩, h4, h5⟩ := h.outer
  have hi' : i < cs.length := by omega
  refine ⟨cs[i], by rw [cell_of_row w g i cur 33 (0, 0) h1]; exact h3 i hi', h4 i hi' hi, fun v' l' w' hg ho hf => ?_⟩
  have hne : some g ≠ (cs[i]).ownBlock := fun e => by
    have := ((h4 i hi' hi).lt g e.symm).1
    omega
  have hg1 : w'.heap[g]? = some (.cells cur 33 (0, 0)) := (hg.block g h.lt hne).trans h1
  have hfr : ∀ j (hj : j < cs.length), j ≠ i → ∀ k, v'.ownBlock = some k → (cs[j]).ownBlock ≠ some k := fun j hj hji k hk e => by
    rcases hf with hf | hf
    · rcases Nat.lt_or_gt_of_ne hji with h' | h'
      · exact h5 j i hj hi' h' k e (by rw [← hf]; exact hk)
      · exact h5 i j hi' hj h' k (by rw [← hf]; exact hk) e
    · have h6 := hf k hk
      have h7 := ((h4 j hj (by omega)).lt k e).2
      omega
  refine ⟨h.base, by simpa using h.fits, h.most, cs.set i v', by simpa using hcs, ⟨_, heap_set_here w' g i v' cur _ _ hg1, by simpa using h2, fun j hj => ?_⟩, fun j hj hj' => ?_, fun a b ha hb hab k hk => ?_⟩
  · rw [Array.getElem?_setIfInBounds, List.getElem_set]
    have hj2 : j < cs.length := by simpa using hj
    by_cases e : i = j
    · rw [if_pos e, if_pos e, if_pos (by have := h.fits; omega)]
    · rw [if_neg e, if_neg e]; exact h3 j hj2
  · have hj2 : j < cs.length := by simpa using hj
    rw [List.getElem_set, List.getElem_set]
    by_cases e : i = j
    · rw [if_pos e, if_pos e]; exact ho.setOther g i v' (by omega)
    · rw [if_neg e, if_neg e]
      refine Own.setOther ((h4 j hj2 (by omega)).other hg fun k hk e2 => ?_) g i v' (by omega)
      rcases Nat.lt_or_gt_of_ne e with h' | h'
      · exact h5 i j hi' hj2 h' k e2.symm hk
      · exact h5 j i hj2 hi' h' k hk e2.symm
  · have ha2 : a < cs.length := by simpa using ha
    have hb2 : b < cs.length := by simpa using hb
    rw [List.getElem_set] at hk ⊢
    by_cases ea : i = a
    · rw [if_pos ea] at hk
      rw [if_neg (by omega)]
      exact hfr b hb2 (by omega) k hk
    · rw [if_neg ea] at hk
      by_cases eb : i = b
      · rw [if_pos eb]
        exact fun e => hfr a ha2 (fun e => ea e.symm) k e hk
      · rw [if_neg eb]
        exact h5 a b ha2 hb2 hab k hk
theorem Mx.below (h : Mx w B g R ls) (hb : Below w.heap.size w w') : Mx w' B g R ls := by
  obtain ⟨cs, hcs, ⟨cur, h1, h2, h3⟩, h4, h5⟩ := h.outer
  exact ⟨h.base, h.fits, h.most, cs, hcs, ⟨cur, (hb.block g h.lt).trans h1, h2, h3⟩, fun i hi hi' => (h4 i hi hi').below hb, h5⟩
theorem Mx.out (h : Mx w B g R ls) : Out w B g R w.heap.size ls := by
  obtain ⟨cs, hcs, ⟨cur, h1, h2, h3⟩, h4, h5⟩ := h.outer
  refine ⟨h.base, h.fits, h.most, h.lt, Nat.le_refl _, cur, h1, h2, fun i hi => ?_⟩
  obtain ⟨ad, cap, e, h6⟩ := LieN.of_own (g := g) (h4 i (by omega) hi) (by omega) (Nat.le_refl _)
  exact ⟨ad, cap, by rw [h3 i (by omega), e], h6⟩
end
/-- n slices made anew: all nil -/
theorem wpList_make_mx {w : World} {ops : Array Oper} {rest : List Oper} {o : Oper} {a : Act} {Q : Exit → Act → World → Prop} (hgd : o.guard = none) (l c : Operand) (hop : o.op = Op.makeSlice 22 l c)
    (L C : Int) (n : Nat) (hl : a.eval l = .int .i64 L) (hc : a.eval c = .int .i64 C) (hL : L = (n : Int)) (hC : C = (n : Int)) (hn : n ≤ 100000)
    (h : ∀ g w', Mx w' w.heap.size g n (List.replicate n []) → Below w.heap.size w w' → wpList Try.prog ops Q rest (a.put o.dst (.slice (some ⟨g, 0, none⟩) n n)) w') : wpList Try.prog ops Q (o :: rest) a w := by
  obtain ⟨i, hi, hz0, hz1, hz2⟩ := info_l
  refine wpList_make_full w hgd l c 22 hop w.heap.size 33 i (.slice none 0 0) 1 Try.underlying22 hi hz0 hz1 .i64 .i64 L C n hl hc hL hC (by rw [hz2]; omega) (by unfold maxLen; omega) (Nat.le_refl _) (fun w' h2 h3 => ?_)
  refine h _ w' ?_ ((Below.refl _ _).grown h3 (Nat.le_refl _) (by simp))
  rcases h2.2 with ⟨h4, _⟩ | ⟨g, cap, cur, h4, _, h5, _, _, h6, h7⟩
  · cases h4
  · cases h4
    rw [made_nils] at h7
    refine ⟨Nat.le_refl _, by simp, by unfold maxLen; omega, List.replicate n (.slice none 0 0), by simp, ⟨cur, h5, by omega, fun j hj => ?_⟩, fun j hj hj' => ?_, fun a b ha hb hab k hk => ?_⟩
    · have hj' : j < n := by simpa using hj
      have h8 : (cur.toList.take (n * 1))[j]? = some (.slice none 0 0) := by rw [h7]; simp [hj']
      rw [List.getElem?_take_of_lt (by omega)] at h8
      rw [List.getElem_replicate]
      simpa using h8
    · rw [List.getElem_replicate, List.getElem_replicate]
      exact Own.ofNil _ _
    · rw [List.getElem_replicate] at hk
      cases hk
/-- bytes appended to a slice of the call's own: in its block, or in a new one -/
theorem wpList_append_keep {w : World} {ops : Array Oper} {rest : List Oper} {o : Oper} {a : Act} {Q : Exit → Act → World → Prop} (hgd : o.guard = none) (s x : Operand)
    (ho : o.op = .call { callee := .builtin .append, args := #[s, x], argTypes := #[33, 33] })
    (B : Nat) (v : Value) (ys : List UInt8) (hs : a.eval s = v) (hown : Own w B v ys) (hp : 0 < ys.length)
    (ad : Option Addr) (n cap : Nat) (xs : List UInt8) (hl : Lie w ad xs) (hn : n = xs.length) (hxp : 0 < xs.length) (hx : a.eval x = .slice ad n cap) (hlen : ys.length + n ≤ 10000000) (hbase : B ≤ w.heap.size)
    (h : ∀ v' w', Own w' B v' (ys ++ xs) → w.grownBy w' v.ownBlock → (v'.ownBlock = v.ownBlock ∨ ∀ k, v'.ownBlock = some k → w.heap.size ≤ k) → wpList Try.prog ops Q rest (a.put o.dst v') w') : wpList Try.prog ops Q (o :: rest) a w := by
  subst hn
  obtain ⟨i, hi, hz0, hz1, hz2⟩ := info_u
  rcases hl.at_ with h0 | ⟨b, off, rfl, _, hc⟩
  · subst h0; simp at hxp
  rcases hown.row.2 with ⟨_, h0⟩ | ⟨g, vc, cur, rfl, hbg, hg, hnc, hcm, hcs, htake⟩
  · omega
  have hnews : ∀ j u, (cellsU xs)[j]? = some u → w.cell? ((⟨b, off, none⟩ : Addr).add j) = some u := fun j u hu => by
    have hj : j < xs.length := by
      have := (List.getElem?_eq_some_iff.1 hu).1
      rwa [cellsU_length] at this
    rw [Go.WideShapes.add_plain, hc j hj]
    rw [cellsU_get xs j hj] at hu
    exact hu
  by_cases hroom : ys.length + xs.length ≤ vc
  · refine wpList_append_fits w hgd s x 33 ho B 5 i 1 Try.underlying33 hi hz1 g ys.length vc (cellsU ys) hs hown.row ⟨b, off, none⟩ xs.length cap (cellsU xs) hx (by rw [cellsU_length]; omega) hnews (cellsU_one _) hroom fun w' h2 h3 => h _ w' ?_ h3 (.inl rfl)
    unfold Own
    rw [cellsU_append] at h2
    rw [List.length_append]
    exact h2
  · refine wpList_append_grows w hgd s x 33 ho 5 i (.int .u8 0) 1 1 Try.underlying33 hi hz0 hz1 hz2 rfl (by decide) (some ⟨g, 0, none⟩) ys.length vc (cellsU ys) hs (fun h => by cases h) (by rw [cellsU_length]; omega) (fun b' e => by cases e; exact hown.row.cells (g := g) rfl) ⟨b, off, none⟩ xs.length cap (cellsU xs) hx (by rw [cellsU_length]; omega) hnews (cellsU_one _) (by omega) (by unfold maxLen; omega) (by omega) fun v' w' h2 h3 => ?_
    have hO : Own w' w.heap.size v' (ys ++ xs) := by
      unfold Own
      rw [cellsU_append] at h2
      rw [List.length_append]
      exact h2
    exact h v' w' (hO.mono hbase) ⟨h3.os, h3.tape, h3.output, h3.size, fun k hk _ => h3.block k hk (by simp)⟩ (.inr fun k hk => (hO.lt k hk).1)
theorem grown_any {w w' : World} (hb : Below w.heap.size w w') (row : Option Nat) : w.grownBy w' row := ⟨hb.os, hb.tape, hb.output, hb.size, fun k hk _ => hb.block k hk⟩
theorem rows_next (ls : List (List UInt8)) (k n : Nat) (hk : k < ls.length) (hn : n = ls.length) : (ls.take k ++ List.replicate (n - k) []).set k (ls[k]) = ls.take (k + 1) ++ List.replicate (n - (k + 1)) [] := by
  subst hn
  have hl : (ls.take k).length = k := by rw [List.length_take]; omega
  rw [List.set_append_right _ _ (by omega), hl, Nat.sub_self, List.take_add_one, List.append_assoc]
  congr 1
  obtain ⟨m, hm⟩ : ∃ m, ls.length - k = m + 1 := ⟨ls.length - k - 1, by omega⟩
  rw [hm, show ls.length - (k + 1) = m by omega, List.replicate_succ, List.set_cons_zero]
  simp [hk]

set_option maxRecDepth 100000 in
set_option maxHeartbeats 1000000 in
theorem sclone_any (ad : Option Addr) (cap : Nat) (xs : List UInt8) (w : World) (hl : Lie w ad xs) (ha : ad = none → cap = 0) (hs : xs.length ≤ 10000000) :
    Calls Try.prog 64 #[.slice ad xs.length cap] w (GivesU w xs) := by
  have hq := fun (w : World) (a : Option Addr) (n c : Nat) => Lib.run_eql_slice_nil (P := Try.prog) w 33 5 a n c 0 0 Try.underlying33
  have HL := Lib.hid hl
  have HA := Lib.hid ha
  cases ad with
  | none =>
    obtain rfl := ha rfl
    have hx : xs = [] := by
      rcases hl.at_ with h0 | ⟨b, off, h0, _⟩
      · exact h0
      · cases h0
    subst hx
    clear hl ha HL HA
    go_enter Try.func64, Try.ntmps64
    go_wp2
    go_ret
    exact ⟨_, rfl, Own.ofNil _ _, Below.refl _ _⟩
  | some a =>
    clear hl ha
    have HL1 := Lib.hid (HL.out.below ((Below.refl w.heap.size w).alloc (Nat.le_refl _) (.cells #[] 5)) rfl)
    have HB1 := Lib.hid ((Below.refl w.heap.size w).alloc (Nat.le_refl _) (.cells #[] 5))
    have HS := Lib.hid HB1.out.size
    go_enter Try.func64, Try.ntmps64
    go_wp2_with (at_builtin; refine wpList_append_u rfl (.tmp 5) (.tmp 6) rfl w.heap.size _ [] rfl (Own.made w) _ _ cap xs HA.out HL1.out rfl rfl (by simpa using hs) HS.out ?_; intro v1 w1 ho1 hg1)
    go_ret
    exact ⟨v1, rfl, by simpa using ho1, HB1.out.grown hg1 HS.out (fun k hk => ((Own.made w).lt k hk).1)⟩

/-- a new list with the same rows, each in a block of its own -/
def GivesX (w : World) (n : Nat) (ls : List (List UInt8)) (e : Ending) (w' : World) : Prop := ∃ g, e = .returned (.slice (some ⟨g, 0, none⟩) n n) ∧ Mx w' w.heap.size g n ls ∧ Below w.heap.size w w'
set_option maxRecDepth 100000 in
set_option maxHeartbeats 1000000 in
theorem copied_any (ad : Option Addr) (n cap : Nat) (ls : List (List UInt8)) (w : World) (hl : Lr w ad ls) (hn : n = ls.length) (hm : n ≤ 1000) (hrow : ∀ r ∈ ls, r.length ≤ 1000) :
    Calls Try.prog 53 #[.slice ad n cap] w (GivesX w n ls) := by
  have HL := Lib.hid hl
  have HN := Lib.hid hn
  have HR := Lib.hid hrow
  clear hl hn hrow
  go_enter Try.func53, Try.ntmps53
  go_wp2_with (at_make; refine wpList_make_mx rfl (.tmp 7) (.tmp 7) rfl _ _ n rfl rfl rfl rfl (by omega) ?_; intro g w1 hx1 hb1)
  have HX1 := Lib.hid hx1
  have HB1 := Lib.hid hb1
  clear hx1 hb1
  go_loopw [11] (fun vk wr => ∃ k : Nat, vk = .int .i64 k ∧ k ≤ n ∧ Hid (Mx wr w.heap.size g n (ls.take k ++ List.replicate (n - k) [])) ∧ Hid (Below w.heap.size w wr)) (fun vk _ => n - (intOf vk).toNat)
  case atStart => exact ⟨0, rfl, by omega, by rw [List.take_zero, List.nil_append]; exact HX1, HB1⟩
  case round =>
    obtain ⟨k, rfl, hk, hx, hb⟩ := hrel
    by_cases hlt : k < n
    · have hkl : k < ls.length := by have := HN.out; omega
      obtain ⟨b, off, rfl, hbl, a1, c1, f1, l1, g1, m1, e1⟩ := HL.out.row k hkl
      have f2 : wr.cell? ⟨b, off + k, none⟩ = some (.slice a1 (ls[k]).length c1) := (hb.out.cell (p := ⟨b, off + k, none⟩) hbl).trans f1
      have HL2 := Lib.hid (l1.below hb.out rfl)
      have HLR := Lib.hid (HR.out _ (List.getElem_mem hkl))
      have HKL := Lib.hid hkl
      have HNX := Lib.hid (rows_next ls k n hkl HN.out)
      have HE := Lib.hid e1
      have hlen : (ls.take k ++ List.replicate (n - k) ([] : List UInt8)).length = n := by simp; have := HN.out; omega
      have HLN := Lib.hid hlen
      clear f1 l1 e1 hlen
      generalize ls[k] = row at f2 HL2 HLR HNX g1
      clear hkl
      go_wp2_with fail
      refine (sclone_any a1 c1 row wr HL2.out HE.out (by have := HLR.out; omega)).mono ?_
      rintro e w2 ⟨v, rfl, ho, hb2⟩
      obtain ⟨u, hu0, -, hput⟩ := hx.out.get k (by rw [HLN.out]; omega)
      have hu : w2.cell? ⟨g, k, none⟩ = some u := (hb2.cell (p := ⟨g, k, none⟩) hx.out.lt).trans hu0
      have HM : Hid (Mx (w2.setCell ⟨g, k, none⟩ v) w.heap.size g n (ls.take (k + 1) ++ List.replicate (n - (k + 1)) [])) := Lib.hid (by
        rw [← HNX.out]
        exact hput v row w2 (grown_any hb2 _) (ho.mono hx.out.lt) (.inr fun k hk => (ho.lt k hk).1))
      have hfz := (hx.out.below hb2).frozen k
      have HB : Hid (Below w.heap.size w (w2.setCell ⟨g, k, none⟩ v)) := Lib.hid ((hb.out.trans (hb2.mono hb.out.size)).setCell (p := ⟨g, k, none⟩) hx.out.base v)
      obtain ⟨ad', cap', rfl, -⟩ := ho.slice
      clear ho hb2 hput hu0
      go_wp2
      go_roundw
      case rel => exact ⟨k + 1, by go_num, by omega, HM, HB⟩
      case measure => simp [intOf]; omega
    · go_wp2
      go_ret
      obtain rfl : k = n := by omega
      have e : ls.take k ++ List.replicate (k - k) [] = ls := by rw [Nat.sub_self, List.replicate_zero, List.append_nil, List.take_of_length_le (by have := HN.out; omega)]
      rw [e] at hx
      exact ⟨g, rfl, hx.out, hb.out⟩
end Go.Proofs.Ytinfjidclkgfnaa
