/-
  Lists of places, and of ints, of the call's own.
-/
import Derived.Test.YtcoijhemnfnghaaSPlace
namespace Go.Proofs.Ytcoijhemnfnghaa
open Go.RowKit
set_option linter.unusedVariables false
theorem infoP : (Try.prog.info? 25).map (fun i => (i.zero, i.size, i.bytes)) = some (some (.agg #[.int .i64 0, .int .i64 0, .bool false]), 3, 24) := by kernel_rfl
theorem info_p : ∃ i : TypeInfo, Try.prog.info? 25 = some i ∧ i.zero = some (.agg #[.int .i64 0, .int .i64 0, .bool false]) ∧ i.size = 3 ∧ i.bytes = 24 := by
  have h := infoP
  rcases hi : Try.prog.info? 25 with _ | i
  · rw [hi] at h; simp at h
  · rw [hi] at h
    simp only [Option.map_some, Option.some.injEq, Prod.mk.injEq] at h
    exact ⟨i, rfl, h.1, h.2.1, h.2.2⟩
theorem infoI : (Try.prog.info? 3).map (fun i => (i.zero, i.size, i.bytes)) = some (some (.int .i64 0), 1, 8) := by kernel_rfl
theorem info_i : ∃ i : TypeInfo, Try.prog.info? 3 = some i ∧ i.zero = some (.int .i64 0) ∧ i.size = 1 ∧ i.bytes = 8 := by
  have h := infoI
  rcases hi : Try.prog.info? 3 with _ | i
  · rw [hi] at h; simp at h
  · rw [hi] at h
    simp only [Option.map_some, Option.some.injEq, Prod.mk.injEq] at h
    exact ⟨i, rfl, h.1, h.2.1, h.2.2⟩
/-- the cells of the places of some blocks -/
def cellsP (W L : Int) (bs : List Int) : List Value := bs.flatMap fun b => [.int .i64 (wr W L b), .int .i64 (po W L b), .bool (bk W L b)]
theorem cellsP_cons (W L b : Int) (bs : List Int) : cellsP W L (b :: bs) = [.int .i64 (wr W L b), .int .i64 (po W L b), .bool (bk W L b)] ++ cellsP W L bs := by simp [cellsP]
theorem cellsP_append (W L : Int) (a b : List Int) : cellsP W L a ++ cellsP W L b = cellsP W L (a ++ b) := by simp [cellsP]
theorem cellsP_length (W L : Int) (bs : List Int) : (cellsP W L bs).length = bs.length * 3 := by
  induction bs with
  | nil => rfl
  | cons b bs ih => rw [cellsP_cons, List.length_append, ih]; simp; omega
theorem cellsP_one (W L : Int) (bs : List Int) : ∀ u ∈ cellsP W L bs, u.oneCell' = true := by
  intro u hu
  obtain ⟨b, _, hb⟩ := List.mem_flatMap.1 hu
  simp at hb
  rcases hb with rfl | rfl | rfl <;> rfl
theorem cellsP_get (W L : Int) : ∀ (bs : List Int) (i : Nat) (h : i < bs.length), (cellsP W L bs)[i * 3]? = some (.int .i64 (wr W L bs[i])) ∧ (cellsP W L bs)[i * 3 + 1]? = some (.int .i64 (po W L bs[i])) ∧ (cellsP W L bs)[i * 3 + 2]? = some (.bool (bk W L bs[i]))
  | b :: bs, 0, _ => by rw [cellsP_cons]; exact ⟨rfl, rfl, rfl⟩
  | b :: bs, i + 1, h => by
    have ih := cellsP_get W L bs i (by simpa using h)
    rw [cellsP_cons, show (i + 1) * 3 = i * 3 + 3 by omega]
    refine ⟨?_, ?_, ?_⟩
    · rw [List.getElem?_append_right (by simp)]; simpa using ih.1
    · rw [List.getElem?_append_right (by simp), show i * 3 + 3 + 1 - [Value.int IntKind.i64 (wr W L b), Value.int IntKind.i64 (po W L b), Value.bool (bk W L b)].length = i * 3 + 1 by simp]; simpa using ih.2.1
    · rw [List.getElem?_append_right (by simp), show i * 3 + 3 + 2 - [Value.int IntKind.i64 (wr W L b), Value.int IntKind.i64 (po W L b), Value.bool (bk W L b)].length = i * 3 + 2 by simp]; simpa using ih.2.2
/-- the value v owns the places of the blocks l, behind block B -/
def Opl (w : World) (B : Nat) (W L : Int) (v : Value) (l : List Int) : Prop := w.ownsRow B 25 3 v l.length (cellsP W L l)
theorem Opl.row {w : World} {B : Nat} {W L : Int} {v : Value} {l : List Int} (h : Opl w B W L v l) : w.ownsRow B 25 3 v l.length (cellsP W L l) := h
theorem Opl.lt {w : World} {B : Nat} {W L : Int} {v : Value} {l : List Int} (h : Opl w B W L v l) : ∀ k, v.ownBlock = some k → B ≤ k ∧ k < w.heap.size := fun k hk => h.row.lt k hk
theorem Opl.ofNil (w : World) (B : Nat) (W L : Int) : Opl w B W L (.slice none 0 0) [] := ⟨rfl, .inl ⟨rfl, rfl⟩⟩
theorem Opl.below {w w' : World} {B : Nat} {W L : Int} {v : Value} {l : List Int} (h : Opl w B W L v l) (hb : Below w.heap.size w w') : Opl w' B W L v l := by
  refine ⟨h.row.1, ?_⟩
  rcases h.row.2 with h0 | ⟨g, cap, cur, hv, hB, hg, h1, h2, h3, h4⟩
  · exact .inl h0
  · exact .inr ⟨g, cap, cur, hv, hB, (hb.block g (Array.getElem?_eq_some_iff.1 hg).1).trans hg, h1, h2, h3, h4⟩
theorem Opl.mono {w : World} {B B' : Nat} {W L : Int} {v : Value} {l : List Int} (h : Opl w B W L v l) (hB : B' ≤ B) : Opl w B' W L v l := by
  refine ⟨h.row.1, ?_⟩
  rcases h.row.2 with h0 | ⟨g, cap, cur, hv, hg0, hg⟩
  · exact .inl h0
  · exact .inr ⟨g, cap, cur, hv, Nat.le_trans hB hg0, hg⟩
theorem Opl.alloc {w : World} {B : Nat} {W L : Int} {v : Value} {l : List Int} (h : Opl w B W L v l) (o : Obj) : Opl (w.alloc o) B W L v l := h.below (below_box1 w o)
/-- places that lie -/
structure Lpl (w : World) (g : Nat) (W L : Int) (l : List Int) : Prop where
  lt : g < w.heap.size
  at_ : ∀ i (h : i < l.length), w.cell? ⟨g, i * 3, none⟩ = some (.int .i64 (wr W L l[i])) ∧ w.cell? ⟨g, i * 3 + 1, none⟩ = some (.int .i64 (po W L l[i])) ∧ w.cell? ⟨g, i * 3 + 2, none⟩ = some (.bool (bk W L l[i]))
theorem Lpl.below {W' w : World} {B g : Nat} {W L : Int} {l : List Int} (h : Lpl W' g W L l) (hb : Below B W' w) (hB : g < B) : Lpl w g W L l :=
  ⟨Nat.lt_of_lt_of_le h.lt hb.size, fun i hi => ⟨(hb.cell hB).trans (h.at_ i hi).1, (hb.cell hB).trans (h.at_ i hi).2.1, (hb.cell hB).trans (h.at_ i hi).2.2⟩⟩
theorem Opl.slice {w : World} {B : Nat} {W L : Int} {v : Value} {l : List Int} (h : Opl w B W L v l) (h0 : l ≠ []) :
    ∃ g cap, v = .slice (some ⟨g, 0, none⟩) l.length cap ∧ Lpl w g W L l ∧ l.length ≤ cap ∧ cap ≤ maxLen ∧ B ≤ g := by
  rcases h.row.2 with ⟨rfl, h1⟩ | ⟨g, cap, cur, rfl, hb, hg, hle, hm, hsz, htake⟩
  · exact absurd (List.eq_nil_of_length_eq_zero h1) h0
  · refine ⟨g, cap, rfl, ⟨(Array.getElem?_eq_some_iff.1 hg).1, fun i hi => ?_⟩, hle, hm, hb⟩
    have hx := cellsP_get W L l i hi
    have key : ∀ j u, (cellsP W L l)[j]? = some u → w.cell? ⟨g, j, none⟩ = some u := by
      intro j u hu
      rw [cell_of_row w g j cur 25 (0, 0) hg]
      rw [← htake, List.getElem?_take] at hu
      split at hu
      · simpa using hu
      · cases hu
    exact ⟨key _ _ hx.1, key _ _ hx.2.1, key _ _ hx.2.2⟩
theorem wp_append_p {w : World} {o : Oper} {a : Act} {K : Act → World → Prop} {Q : Exit → Act → World → Prop} (s x : Operand)
    (ho : o.op = .call { callee := .builtin .append, args := #[s, x], argTypes := #[49, 49] })
    (B : Nat) (W L : Int) (v : Value) (ys : List Int) (hs : a.eval s = v) (hown : Opl w B W L v ys) (zs : List Int) (ad : Addr) (m c : Nat) (hm : m = zs.length) (hx : a.eval x = .slice (some ad) m c)
    (hnews : ∀ j u, (cellsP W L zs)[j]? = some u → w.cell? (ad.add j) = some u) (hlen : ys.length + m ≤ 10000) (hbase : B ≤ w.heap.size)
    (h : ∀ v' w', Opl w' B W L v' (ys ++ zs) → w.grownBy w' v.ownBlock → K (a.put o.dst v') w') : o.wp Try.prog a w K Q := by
  obtain ⟨i, hi, hz0, hz1, hz2⟩ := info_p
  refine wp_append_own w s x 49 ho B 25 i (.agg #[.int .i64 0, .int .i64 0, .bool false]) 3 24 Try.underlying49 hi hz0 hz1 hz2 rfl (by decide) v ys.length (cellsP W L ys) hs hown.row ad m c (cellsP W L zs) hx (by rw [cellsP_length, hm]) hnews (cellsP_one W L zs) (by unfold maxLen; omega) (by omega) hbase (fun v' w' h2 h3 _ => h v' w' ?_ h3)
  unfold Opl
  rw [List.length_append, ← hm, ← cellsP_append]
  exact h2
theorem wpList_append_p {w : World} {ops : Array Oper} {rest : List Oper} {o : Oper} {a : Act} {Q : Exit → Act → World → Prop} (hgd : o.guard = none) (s x : Operand)
    (ho : o.op = .call { callee := .builtin .append, args := #[s, x], argTypes := #[49, 49] })
    (B : Nat) (W L : Int) (v : Value) (ys : List Int) (hs : a.eval s = v) (hown : Opl w B W L v ys) (zs : List Int) (ad : Addr) (m c : Nat) (hm : m = zs.length) (hx : a.eval x = .slice (some ad) m c)
    (hnews : ∀ j u, (cellsP W L zs)[j]? = some u → w.cell? (ad.add j) = some u) (hlen : ys.length + m ≤ 10000) (hbase : B ≤ w.heap.size)
    (h : ∀ v' w', Opl w' B W L v' (ys ++ zs) → w.grownBy w' v.ownBlock → wpList Try.prog ops Q rest (a.put o.dst v') w') : wpList Try.prog ops Q (o :: rest) a w :=
  wpList_plain hgd fun K hK => wp_append_p s x ho B W L v ys hs hown zs ad m c hm hx hnews hlen hbase (fun v' w' h1 h2 => hK _ _ (h v' w' h1 h2))
theorem cells_new (W : World) (cs : Array Value) (t : TypeId) (g : Nat) (hg : g = W.heap.size) (j : Nat) (u : Value) (h : cs.toList[j]? = some u) : (W.alloc (.cells cs t)).cell? ((⟨g, 0, none⟩ : Addr).add j) = some u := by
  subst hg
  rw [Go.WideShapes.add_plain, Nat.zero_add, World.cell?_alloc_mark]
  simpa using h
/-- ints of the call's own -/
def cellsI (l : List Int) : List Value := l.map fun x => .int .i64 x
def Oni (w : World) (B : Nat) (v : Value) (l : List Int) : Prop := w.ownsRow B 3 1 v l.length (cellsI l)
theorem Oni.row {w : World} {B : Nat} {v : Value} {l : List Int} (h : Oni w B v l) : w.ownsRow B 3 1 v l.length (cellsI l) := h
theorem Oni.lt {w : World} {B : Nat} {v : Value} {l : List Int} (h : Oni w B v l) : ∀ k, v.ownBlock = some k → B ≤ k ∧ k < w.heap.size := fun k hk => h.row.lt k hk
theorem Oni.below {w w' : World} {B : Nat} {v : Value} {l : List Int} (h : Oni w B v l) (hb : Below w.heap.size w w') : Oni w' B v l := by
  refine ⟨h.row.1, ?_⟩
  rcases h.row.2 with h0 | ⟨g, cap, cur, hv, hB, hg, h1, h2, h3, h4⟩
  · exact .inl h0
  · exact .inr ⟨g, cap, cur, hv, hB, (hb.block g (Array.getElem?_eq_some_iff.1 hg).1).trans hg, h1, h2, h3, h4⟩
theorem Oni.alloc {w : World} {B : Nat} {v : Value} {l : List Int} (h : Oni w B v l) (o : Obj) : Oni (w.alloc o) B v l := h.below (below_box1 w o)
theorem Oni.one (w : World) (B : Nat) (hB : B ≤ w.heap.size) (x : Int) : Oni (w.alloc (.cells #[.int .i64 x] 3)) B (.slice (some ⟨w.heap.size, 0, none⟩) 1 1) [x] := by
  refine ⟨rfl, .inr ⟨w.heap.size, 1, #[.int .i64 x], rfl, hB, heap_alloc_new w _, Nat.le_refl _, by unfold maxLen; omega, rfl, rfl⟩⟩
theorem Oni.slice {w : World} {B : Nat} {v : Value} {l : List Int} (h : Oni w B v l) (h0 : l ≠ []) :
    ∃ g cap, v = .slice (some ⟨g, 0, none⟩) l.length cap ∧ Lii w g 0 l ∧ l.length ≤ cap ∧ cap ≤ maxLen ∧ B ≤ g := by
  rcases h.row.2 with ⟨rfl, h1⟩ | ⟨g, cap, cur, rfl, hb, hg, hle, hm, hsz, htake⟩
  · exact absurd (List.eq_nil_of_length_eq_zero h1) h0
  · refine ⟨g, cap, rfl, ⟨(Array.getElem?_eq_some_iff.1 hg).1, fun i hi => ?_⟩, hle, hm, hb⟩
    rw [cell_of_row w g (0 + i) cur 3 (0, 0) hg]
    have h1 : (cur.toList.take (l.length * 1))[0 + i]? = some (.int .i64 (l[i]'hi)) := by rw [htake, Nat.zero_add]; simp [cellsI, hi]
    rw [List.getElem?_take] at h1
    split at h1
    · simpa using h1
    · cases h1
theorem wpList_append_i {w : World} {ops : Array Oper} {rest : List Oper} {o : Oper} {a : Act} {Q : Exit → Act → World → Prop} (hgd : o.guard = none) (s x : Operand)
    (ho : o.op = .call { callee := .builtin .append, args := #[s, x], argTypes := #[51, 51] })
    (B : Nat) (v : Value) (ys : List Int) (hs : a.eval s = v) (hown : Oni w B v ys) (zs : List Int) (ad : Addr) (m c : Nat) (hm : m = zs.length) (hx : a.eval x = .slice (some ad) m c)
    (hnews : ∀ j u, (cellsI zs)[j]? = some u → w.cell? (ad.add j) = some u) (hlen : ys.length + m ≤ 10000) (hbase : B ≤ w.heap.size)
    (h : ∀ v' w', Oni w' B v' (ys ++ zs) → w.grownBy w' v.ownBlock → wpList Try.prog ops Q rest (a.put o.dst v') w') : wpList Try.prog ops Q (o :: rest) a w := by
  obtain ⟨i, hi, hz0, hz1, hz2⟩ := info_i
  refine wpList_append_own w hgd s x 51 ho B 3 i (.int .i64 0) 1 8 Try.underlying51 hi hz0 hz1 hz2 rfl (by decide) v ys.length (cellsI ys) hs hown.row ad m c (cellsI zs) hx (by simp [cellsI, hm]) hnews (by intro u hu; obtain ⟨y, _, rfl⟩ := List.mem_map.1 hu; rfl) (by unfold maxLen; omega) (by omega) hbase (fun v' w' h2 h3 _ => h v' w' ?_ h3)
  unfold Oni
  rw [List.length_append, ← hm, show cellsI (ys ++ zs) = cellsI ys ++ cellsI zs by simp [cellsI]]
  exact h2
end Go.Proofs.Ytcoijhemnfnghaa
