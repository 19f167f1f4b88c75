/-
  append of blocks upon a slice without room: the blocks lie in a new row, their bytes where they lay.
  The program's copied: blocks of their own, whose bytes are replaced one after another.
  The program's copied of drives: blocks of their own.
-/
import Derived.Test.YtepmmlnopdjjdaaQBox
namespace Go.Proofs.Ytepmmlnopdjjdaa
open Go.RowKit
set_option linter.unusedVariables false
theorem wpList_append_full {w : World} {ops : Array Oper} {rest : List Oper} {o : Oper} {a : Act} {Q : Exit → Act → World → Prop} (hgd : o.guard = none) (s x : Operand)
    (ho : o.op = .call { callee := .builtin .append, args := #[s, x], argTypes := #[28, 28] })
    (ad : Option Addr) (n : Nat) (l : List Blk) (hs : a.eval s = .slice ad n n) (hl : Ki w ad l) (hn : n = l.length) (hnil : ad = none → n = 0)
    (zd : Option Addr) (m c : Nat) (z : List Blk) (hx : a.eval x = .slice zd m c) (hz : Ki w zd z) (hm : m = z.length) (hm0 : 0 < m) (hznil : zd = none → c = 0) (hlen : n + m ≤ 100000)
    (h : ∀ v' w', Kq w' w.heap.size 0 v' (l ++ z) → Below w.heap.size w w' → wpList Try.prog ops Q rest (a.put o.dst v') w') : wpList Try.prog ops Q (o :: rest) a w := by
  cases ad with
  | none =>
    obtain rfl := hnil rfl
    obtain rfl : l = [] := List.eq_nil_of_length_eq_zero hn.symm
    refine wpList_append_k hgd s x ho w.heap.size 0 0 0 (.slice none 0 0) [] hs (Kq.nil _ _ _) zd m c z hznil (hz.kx (Below.refl _ _) (fun g hg => by cases hg)) hm hx (by simpa using hlen) (Nat.le_refl _) (Nat.le_refl _) (Nat.le_refl _) (fun v' w' h1 h2 h3 => h v' w' h1 ?_)
    exact (Below.refl w.heap.size w).grown h2 (Nat.le_refl _) (fun k hk => by cases hk)
  | some a0 =>
    obtain ⟨i, hi, hz0, hz1, hz2⟩ := info_b
    obtain ⟨E, rfl, h1, h2⟩ := hl
    obtain ⟨F, rfl, h3, h4⟩ := hz
    rw [List.length_map] at hn hm
    subst hn hm
    have hold : ∀ j u, (cellsB E)[j]? = some u → w.cell? (a0.add j) = some u := by
      rcases h1 with h0 | ⟨b, off, e, _, hc⟩
      · rw [h0]; intro j u hu; simp at hu
      · cases e
        intro j u hu
        rw [Go.WideShapes.add_plain]
        exact hc j u hu
    rcases h3 with h0 | ⟨b, off, e, hblt, hc⟩
    · have := cellsB_length F
      rw [h0] at this
      simp at this
      omega
    subst e
    have hnews : ∀ j u, (cellsB F)[j]? = some u → w.cell? ((⟨b, off, none⟩ : Addr).add j) = some u := fun j u hu => by
      rw [Go.WideShapes.add_plain]
      exact hc j u hu
    have hi3 : i.size = 3 := hz1
    refine wpList_plain hgd fun K hK => ?_
    have hr := run_append_grow (P := Try.prog) w 28 o.type 61 i (.agg #[.bool false, .bool false, .slice none 0 0]) Try.underlying28 hi hz0 a0 E.length E.length (cellsB E) (by rw [hi3]; exact cellsB_length E) hold ⟨b, off, none⟩ F.length c (cellsB F) (by rw [hi3]; exact cellsB_length F) hnews (by omega) (by omega)
      (growslice_fits (by omega) (by rw [hz2]; omega))
    have hge := grownCap_ge w (E.length + F.length) E.length 61
    have hcm : grownCap w (E.length + F.length) E.length 61 ≤ maxLen := grownCap_le_maxLen w (E.length + F.length) E.length 61 (by unfold maxLen; omega)
    generalize grownCap w (E.length + F.length) E.length 61 = gc at hr hge hcm
    have hb : Below w.heap.size w (w.drew.alloc (.cells ((cellsB E).toArray ++ (cellsB F).toArray ++ Builtin.zeroCells (Value.agg #[.bool false, .bool false, .slice none 0 0]).cells (gc - (E.length + F.length))) 61)) :=
      (Below.refl w.heap.size w).drew.alloc (by simp) _
    unfold Oper.wp execOp
    simp only [ho, resolve, invoke, builtin, Sem.run_bind, Sem.run_pure, Result.andThen_ok, List.map_toArray, List.map_cons, List.map_nil, hs, hx, hr]
    refine hK _ _ (h _ _ ⟨E ++ F, by rw [List.map_append], ?_, fun k hk => ?_⟩ hb)
    · rw [List.length_append, List.length_map, List.length_map, cellsB_append]
      refine ⟨by rw [List.length_append, cellsB_length, cellsB_length]; omega, .inr ⟨w.heap.size, gc, _, rfl, Nat.le_refl _, heap_alloc_new w.drew _, hge, hcm, ?_, ?_⟩⟩
      · have hzs : (Value.agg #[.bool false, .bool false, .slice none 0 0]).cells.size = 3 := rfl
        simp only [Array.size_append, List.size_toArray, size_zeroCells, hzs, cellsB_length]
        omega
      · have hll : (cellsB E ++ cellsB F).length = (E.length + F.length) * 3 := by rw [List.length_append, cellsB_length, cellsB_length]; omega
        simp only [Array.toList_append]
        rw [← hll]
        exact List.take_left
    · have hy : ∀ g, (Value.slice (some ⟨w.heap.size, 0, none⟩) (E.length + F.length) gc).ownBlock = some g → w.heap.size ≤ g := fun g hg => by
        have : w.heap.size = g := Option.some.inj hg
        omega
      rcases List.mem_append.1 hk with hk | hk
      · exact ⟨LieX.of_low (h2 k hk).lie hb hy, (h2 k hk).le, (h2 k hk).mx, (h2 k hk).nn⟩
      · exact ⟨LieX.of_low (h4 k hk).lie hb hy, (h4 k hk).le, (h4 k hk).mx, (h4 k hk).nn⟩
end Go.Proofs.Ytepmmlnopdjjdaa
namespace Go.Proofs.Ytepmmlnopdjjdaa
open Go.RowKit
set_option linter.unusedVariables false
/-- a list of the call's own; the bytes of its first k blocks are of the call's own, too -/
def Kh (w : World) (B k : Nat) (v : Value) (l : List Blk) : Prop := ∃ E : List Bk, E.map Bk.x = l ∧ w.ownsRow B 61 3 v l.length (cellsB E) ∧ ∀ i (h : i < E.length), E[i].Ok w (if i < k then B else 0) v.ownBlock
section
variable {w w' : World} {B k : Nat} {v : Value} {l : List Blk}
theorem Kh.of (h : Kq w B 0 v l) : Kh w B 0 v l := by
  obtain ⟨E, e, h1, h2⟩ := h
  exact ⟨E, e, h1, fun i hi => by rw [if_neg (by omega)]; exact h2 _ (List.getElem_mem hi)⟩
theorem Kh.done (h : Kh w B k v l) (hk : l.length ≤ k) : Kq w B B v l := by
  obtain ⟨E, e, h1, h2⟩ := h
  refine ⟨E, e, h1, fun x hx => ?_⟩
  obtain ⟨i, hi, rfl⟩ := List.getElem_of_mem hx
  have := h2 i hi
  rwa [if_pos (by rw [← e, List.length_map] at hk; omega)] at this
theorem Kh.lt (h : Kh w B k v l) : ∀ g, v.ownBlock = some g → B ≤ g ∧ g < w.heap.size := by obtain ⟨E, _, h1, _⟩ := h; exact h1.lt
theorem Kh.below (h : Kh w B k v l) (hb : Below w.heap.size w w') : Kh w' B k v l := by
  obtain ⟨E, e, h1, h2⟩ := h
  refine ⟨E, e, ⟨h1.1, ?_⟩, fun i hi => (h2 i hi).below hb⟩
  rcases h1.2 with h0 | ⟨g, cap, cur, hv, hB, hg, h4⟩
  · exact .inl h0
  · exact .inr ⟨g, cap, cur, hv, hB, (hb.block g (Array.getElem?_eq_some_iff.1 hg).1).trans hg, h4⟩
/-- the value of such a list -/
theorem Kh.val (h : Kh w B k v l) : ∃ ad cap, v = .slice ad l.length cap := by
  obtain ⟨E, e, h1, h2⟩ := h
  rcases h1.2 with ⟨rfl, h0⟩ | ⟨g, cap, cur, rfl, _⟩
  · exact ⟨none, 0, by rw [h0]⟩
  · exact ⟨_, _, rfl⟩
/-- the block i is looked at -/
theorem Kh.get (h : Kh w B k v l) {i : Nat} (hi : i < l.length) : ∃ g cap ad' cap', v = .slice (some ⟨g, 0, none⟩) l.length cap ∧ B ≤ g ∧ g < w.heap.size ∧ w.cell? ⟨g, i * 3, none⟩ = some (.bool l[i].m) ∧ w.cell? ⟨g, i * 3 + 1, none⟩ = some (.bool l[i].bad) ∧ w.cell? ⟨g, i * 3 + 2, none⟩ = some (.slice ad' l[i].d.length cap') ∧
    (∀ j, w.frozen? ⟨g, j, none⟩ = false) ∧ LieX w 0 (some g) ad' l[i].d ∧ (ad' = none → cap' = 0) := by
  obtain ⟨E, rfl, h1, h2⟩ := h
  rw [List.length_map] at hi
  rcases h1.2 with ⟨rfl, h0⟩ | ⟨g, cap, cur, rfl, hB, hg, hle, hm, hsz, htake⟩
  · rw [List.length_map] at h0; omega
  · have hc := cellsB_get E i hi
    rw [List.length_map] at htake
    have hcell : ∀ j, j < E.length * 3 → w.cell? ⟨g, j, none⟩ = (cellsB E)[j]? := fun j hj => by
      rw [cell_of_row w g j cur 61 (0, 0) hg, ← htake, List.getElem?_take_of_lt hj]
      simp
    have ho := h2 i hi
    simp only [List.getElem_map]
    refine ⟨g, cap, E[i].ad, E[i].cap, by rw [List.length_map], hB, (Array.getElem?_eq_some_iff.1 hg).1, (hcell _ (by omega)).trans hc.1, (hcell _ (by omega)).trans hc.2.1, (hcell _ (by omega)).trans hc.2.2, fun j => by simp [World.frozen?, hg], ?_, ho.nn⟩
    have := ho.lie.mono (Nat.zero_le _)
    exact this
/-- the bytes of block k are replaced by others of the call's own -/
theorem Kh.put (h : Kh w B k v l) (hk : k < l.length) {ad' : Option Addr} {cap' : Nat} (hl : LieX w B v.ownBlock ad' l[k].d) (h1 : l[k].d.length ≤ cap') (h2 : cap' ≤ maxLen) (h3 : ad' = none → cap' = 0) {g cap : Nat} (hv : v = .slice (some ⟨g, 0, none⟩) l.length cap) :
    Kh (w.setCell ⟨g, k * 3 + 2, none⟩ (.slice ad' l[k].d.length cap')) B (k + 1) v l := by
  obtain ⟨E, rfl, e1, e2⟩ := h
  rw [List.length_map] at hk
  rcases e1.2 with ⟨rfl, h0⟩ | ⟨g', cap'', cur, rfl, hB, hg, hle, hm, hsz, htake⟩
  · cases hv
  cases hv
  simp only [List.getElem_map] at hl h1 ⊢
  have hset : ∀ (E : List Bk) (i : Nat) (hi : i < E.length), (cellsB E).set (i * 3 + 2) (.slice ad' E[i].x.d.length cap') = cellsB (E.set i ⟨E[i].x, ad', cap'⟩) := by
    intro E
    induction E with
    | nil => intro i hi; simp at hi
    | cons k E ih =>
      intro i hi
      have h3 : k.cells.length = 3 := rfl
      cases i with
      | zero => rw [List.set_cons_zero, cellsB_cons, cellsB_cons]; rfl
      | succ i =>
        have := ih i (by simpa using hi)
        rw [List.set_cons_succ, cellsB_cons, cellsB_cons, List.set_append_right _ _ (by omega), h3, show (i + 1) * 3 + 2 - 3 = i * 3 + 2 by omega]
        simp only [List.getElem_cons_succ]
        rw [this]
  have hfar : ∀ (C : Nat) (ad : Option Addr) (d : List UInt8), LieX w C (some g) ad d → LieX (w.setCell ⟨g, k * 3 + 2, none⟩ (.slice ad' E[k].x.d.length cap')) C (some g) ad d := fun C ad d hx => by
    rcases hx with h0 | ⟨b, off, e, h3, h4, h5, h6⟩
    · exact .inl h0
    · exact .inr ⟨b, off, e, h3, by simpa using h4, h5, fun j hj => by rw [World.cell?_setCell_far _ _ _ _ (fun e => h5 (congrArg some e.symm))]; exact h6 j hj⟩
  refine ⟨E.set k ⟨E[k].x, ad', cap'⟩, ?_, ?_, fun i hi => ?_⟩
  · rw [List.map_set]
    show (E.map Bk.x).set k E[k].x = E.map Bk.x
    have : E[k].x = (E.map Bk.x)[k]'(by rw [List.length_map]; exact hk) := by rw [List.getElem_map]
    rw [this, List.set_getElem_self]
  · rw [← hset E k hk]
    refine ⟨by rw [List.length_set]; exact e1.1, .inr ⟨g, cap, cur.setIfInBounds (k * 3 + 2) (.slice ad' E[k].x.d.length cap'), rfl, hB, heap_set_b w g (k * 3 + 2) _ cur _ _ hg, hle, hm, by simpa using hsz, ?_⟩⟩
    rw [Array.toList_setIfInBounds, List.take_set, htake]
  · rw [List.length_set] at hi
    by_cases hik : k = i
    · subst hik
      rw [if_pos (by omega)]
      simp only [List.getElem_set_self]
      exact ⟨hfar _ _ _ hl, h1, h2, h3⟩
    · have ho := e2 i hi
      rw [List.getElem_set_ne hik]
      rw [show (if i < k + 1 then B else 0) = (if i < k then B else 0) by
        by_cases h : i < k
        · rw [if_pos (by omega), if_pos h]
        · rw [if_neg (by omega), if_neg h]]
      exact ⟨hfar _ _ _ ho.lie, ho.le, ho.mx, ho.nn⟩
end
theorem own_nil_u (w : World) (B : Nat) : Own w B (.slice none 0 0) [] := ⟨rfl, .inl ⟨rfl, rfl⟩⟩
/-- behind the copy of block k's bytes: its new bytes are stored -/
theorem copyP_step {w wr w1 : World} {v1 : Value} {l : List Blk} {k : Nat} {g cap : Nat} (hB : Below w.heap.size w wr) (hK : Kh wr w.heap.size k (.slice (some ⟨g, 0, none⟩) l.length cap) l) (hk : k < l.length)
    (o : Obj) (hg : (wr.alloc o).grownBy w1 none) (ho : Own w1 (wr.heap.size + 1) v1 l[k].d) :
    ∃ ad1 cap1, v1 = .slice ad1 l[k].d.length cap1 ∧ w1.cell? ⟨g, k * 3 + 2, none⟩ = wr.cell? ⟨g, k * 3 + 2, none⟩ ∧ (∀ j, w1.frozen? ⟨g, j, none⟩ = wr.frozen? ⟨g, j, none⟩) ∧
      Hid (Kh (w1.setCell ⟨g, k * 3 + 2, none⟩ (.slice ad1 l[k].d.length cap1)) w.heap.size (k + 1) (.slice (some ⟨g, 0, none⟩) l.length cap) l) ∧ Hid (Below w.heap.size w (w1.setCell ⟨g, k * 3 + 2, none⟩ (.slice ad1 l[k].d.length cap1))) := by
  have hlt := hK.lt g rfl
  obtain ⟨ad1, cap1, rfl, hx, h1, h2, h3⟩ := LieX.of_own (x := some g) ho (fun g' hg' => by cases hg'; omega)
  have hb1 : Below wr.heap.size wr w1 := (below_boxC wr o).grown hg (by simp) (fun k hk => by cases hk)
  have hb2 : Below w.heap.size w w1 := hB.trans (hb1.mono hB.size)
  refine ⟨ad1, cap1, rfl, hb1.cell (p := ⟨g, _, none⟩) hlt.2, fun j => ?_, Lib.hid ?_, Lib.hid (hb2.setCell (by show w.heap.size ≤ g; exact hlt.1) _)⟩
  · unfold World.frozen?
    rw [hb1.block g hlt.2]
  · exact (hK.below hb1).put hk (hx.mono (by have := hB.size; omega)) h1 h2 h3 rfl
set_option maxRecDepth 100000 in
set_option maxHeartbeats 4000000 in
theorem copied_any (ad : Option Addr) (n cap : Nat) (l : List Blk) (w : World) (hl : Ki w ad l) (hn : n = l.length) (hs : n ≤ 4096) (hd : ∀ b ∈ l, b.d.length ≤ 10000) (hnil : ad = none → cap = 0) :
    Calls Try.prog 79 #[.slice ad n cap] w fun e w' => GivesK w l e w' := by
  have HN := Lib.hid hn
  have HL := Lib.hid (hl.kx (Below.refl w.heap.size w) (y := none) (fun g hg => by cases hg))
  have HD := Lib.hid hd
  have HNI := Lib.hid hnil
  have HKN := Lib.hid (Kq.nil w w.heap.size 0)
  clear hn hl hd hnil
  go_enter Try.func79, Try.ntmps79
  go_wp2_with (at_builtin; refine wpList_append_k rfl (.const (.slice none 0 0)) (.tmp 6) rfl w.heap.size 0 0 0 _ [] rfl HKN.out ad n cap l HNI.out HL.out HN.out rfl (by simp; omega) (Nat.le_refl _) (Nat.le_refl _) (Nat.le_refl _) ?_; intro v1 w1 ho1 hg1 _; obtain ⟨ad1, cap1, e1⟩ := (Kh.of ho1).val; rw [List.nil_append, ← HN.out] at e1; subst e1; have HO1 := Lib.hid (show Kh w1 w.heap.size 0 (.slice ad1 n cap1) l from Kh.of ho1); have HB1 := Lib.hid ((Below.refl w.heap.size w).grown hg1 (Nat.le_refl _) (fun k hk => by cases hk)); clear ho1 hg1)
  go_loopg [10] n (fun gk vk wx => ∃ k : Nat, vk = .int .i64 k ∧ k + gk = n ∧ Hid (Kh wx w.heap.size k (.slice ad1 n cap1) l) ∧ Hid (Below w.heap.size w wx))
  case atStart => exact ⟨0, rfl, by omega, HO1, HB1⟩
  case round =>
    obtain ⟨k, rfl, hk, hK, hB⟩ := hrel
    cases gk with
    | zero =>
      obtain rfl : k = n := by omega
      go_wp2
      go_ret
      exact ⟨_, rfl, hK.out.done (by rw [← HN.out]; exact Nat.le_refl _), hB.out⟩
    | succ gk0 =>
      have hkn : k < n := by omega
      have hkl : k < l.length := by rw [← HN.out]; exact hkn
      obtain ⟨g, cap2, ad', cap', hv, hgB, hglt, q0, q1, q2, hfz, hlx, hnn⟩ := hK.out.get hkl
      have hdl : l[k].d.length ≤ 10000 := HD.out _ (List.getElem_mem hkl)
      have hv2 := hv
      rw [← HN.out] at hv2
      cases hv2
      clear hv
      have HK := hK
      have HXL := Lib.hid hlx.lie
      have HXN := Lib.hid hnn
      have HCS := Lib.hid (fun (o : Obj) (v1 : Value) (w1 : World) (hg : (wr.alloc o).grownBy w1 none) (ho : Own w1 (wr.heap.size + 1) v1 l[k].d) => copyP_step (cap := cap1) hB.out (by have := hK.out; rw [HN.out] at this; exact this) hkl o hg ho)
      rw [← HN.out] at HCS
      generalize l[k].m = xm at *
      generalize l[k].bad = xb at *
      generalize l[k].d = xd at *
      have HXL2 := Lib.hid (HXL.out.below (below_boxC wr (.cells #[.bool xm, .bool xb, .slice ad' xd.length cap'] 61)) rfl)
      have hlen1 : ([] : List UInt8).length + xd.length ≤ 10000000 := by simp; omega
      have HSZ : Hid (wr.heap.size + 1 ≤ (wr.alloc (.cells #[.bool xm, .bool xb, .slice ad' xd.length cap'] 61)).heap.size) := Lib.hid (by simp)
      clear hkl hnn hlx hdl
      go_wp2_with (at_builtin; refine wpList_append_u rfl (.const (.slice none 0 0)) (.tmp 18) rfl (wr.heap.size + 1) _ [] rfl (own_nil_u _ _) _ _ _ xd HXN.out HXL2.out rfl rfl hlen1 HSZ.out ?_; intro v1 w1 ho1 hg1; rw [List.nil_append] at ho1; obtain ⟨ad3, cap3, rfl, c2, cf, HK4, HB4⟩ := HCS.out _ v1 w1 hg1 ho1; rw [q2] at c2; have cf2 := cf (k * 3 + 2); rw [hfz] at cf2; clear ho1 hg1 cf)
      go_roundg gk0
      case rel => exact ⟨k + 1, by go_num, by omega, HK4, HB4⟩
      case measure => omega
end Go.Proofs.Ytepmmlnopdjjdaa
namespace Go.Proofs.Ytepmmlnopdjjdaa
open Go.RowKit
set_option linter.unusedVariables false
set_option maxRecDepth 100000 in
set_option maxHeartbeats 4000000 in
theorem dcopied_any (ad : Option Addr) (n cap : Nat) (l : List Blk) (w : World) (hl : Ki w ad l) (hn : n = l.length) (hs : n ≤ 4096) (hd : ∀ b ∈ l, b.d.length ≤ 10000) (hnil : ad = none → cap = 0) :
    Calls Try.prog 71 #[.slice ad n cap] w fun e w' => GivesK w l e w' := by
  have HN := Lib.hid hn
  have HL := Lib.hid (hl.kx (Below.refl w.heap.size w) (y := none) (fun g hg => by cases hg))
  have HD := Lib.hid hd
  have HNI := Lib.hid hnil
  have HKN := Lib.hid (Kq.nil w w.heap.size 0)
  clear hn hl hd hnil
  go_enter Try.func71, Try.ntmps71
  go_wp2_with (at_builtin; refine wpList_append_k rfl (.const (.slice none 0 0)) (.tmp 6) rfl w.heap.size 0 0 0 _ [] rfl HKN.out ad n cap l HNI.out HL.out HN.out rfl (by simp; omega) (Nat.le_refl _) (Nat.le_refl _) (Nat.le_refl _) ?_; intro v1 w1 ho1 hg1 _; obtain ⟨ad1, cap1, e1⟩ := (Kh.of ho1).val; rw [List.nil_append, ← HN.out] at e1; subst e1; have HO1 := Lib.hid (show Kh w1 w.heap.size 0 (.slice ad1 n cap1) l from Kh.of ho1); have HB1 := Lib.hid ((Below.refl w.heap.size w).grown hg1 (Nat.le_refl _) (fun k hk => by cases hk)); clear ho1 hg1)
  go_loopg [10] n (fun gk vk wx => ∃ k : Nat, vk = .int .i64 k ∧ k + gk = n ∧ Hid (Kh wx w.heap.size k (.slice ad1 n cap1) l) ∧ Hid (Below w.heap.size w wx))
  case atStart => exact ⟨0, rfl, by omega, HO1, HB1⟩
  case round =>
    obtain ⟨k, rfl, hk, hK, hB⟩ := hrel
    cases gk with
    | zero =>
      obtain rfl : k = n := by omega
      go_wp2
      go_ret
      exact ⟨_, rfl, hK.out.done (by rw [← HN.out]; exact Nat.le_refl _), hB.out⟩
    | succ gk0 =>
      have hkn : k < n := by omega
      have hkl : k < l.length := by rw [← HN.out]; exact hkn
      obtain ⟨g, cap2, ad', cap', hv, hgB, hglt, q0, q1, q2, hfz, hlx, hnn⟩ := hK.out.get hkl
      have hdl : l[k].d.length ≤ 10000 := HD.out _ (List.getElem_mem hkl)
      have hv2 := hv
      rw [← HN.out] at hv2
      cases hv2
      clear hv
      have HK := hK
      have HXL := Lib.hid hlx.lie
      have HXN := Lib.hid hnn
      have HCS := Lib.hid (fun (o : Obj) (v1 : Value) (w1 : World) (hg : (wr.alloc o).grownBy w1 none) (ho : Own w1 (wr.heap.size + 1) v1 l[k].d) => copyP_step (cap := cap1) hB.out (by have := hK.out; rw [HN.out] at this; exact this) hkl o hg ho)
      rw [← HN.out] at HCS
      generalize l[k].m = xm at *
      generalize l[k].bad = xb at *
      generalize l[k].d = xd at *
      have HXL2 := Lib.hid (HXL.out.below (below_boxC wr (.cells #[.bool xm, .bool xb, .slice ad' xd.length cap'] 61)) rfl)
      have hlen1 : ([] : List UInt8).length + xd.length ≤ 10000000 := by simp; omega
      have HSZ : Hid (wr.heap.size + 1 ≤ (wr.alloc (.cells #[.bool xm, .bool xb, .slice ad' xd.length cap'] 61)).heap.size) := Lib.hid (by simp)
      clear hkl hnn hlx hdl
      go_wp2_with (at_builtin; refine wpList_append_u rfl (.const (.slice none 0 0)) (.tmp 18) rfl (wr.heap.size + 1) _ [] rfl (own_nil_u _ _) _ _ _ xd HXN.out HXL2.out rfl rfl hlen1 HSZ.out ?_; intro v1 w1 ho1 hg1; rw [List.nil_append] at ho1; obtain ⟨ad3, cap3, rfl, c2, cf, HK4, HB4⟩ := HCS.out _ v1 w1 hg1 ho1; rw [q2] at c2; have cf2 := cf (k * 3 + 2); rw [hfz] at cf2; clear ho1 hg1 cf)
      go_roundg gk0
      case rel => exact ⟨k + 1, by go_num, by omega, HK4, HB4⟩
      case measure => omega
end Go.Proofs.Ytepmmlnopdjjdaa
