/-
  The map of earlier positions in memory: a look-up, an append, a store; what keeps it.
-/
import Derived.Test.YtihiccccpjakgaaZHist
import Derived.Test.YtihiccccpjakgaaZVisit
import Derived.Maps.OwnRows
namespace Go.Proofs.Ytihiccccpjakgaa
open Go.RowKit Go.Maps Go.ChangeShapes
open Go.WideElems (Fit rd rg pl rd_val elemAt)
set_option linter.unusedVariables false
set_option linter.unusedSimpArgs false
theorem klaw : Keyed Try.prog 40 := int_keyed Try.underlying40
theorem zeroG (w : World) : (zeroValue 85).run Try.prog w = .ok (.slice none 0 0) w := by kernel_rfl
theorem keyG (q : Nat) (h : q < 4294967296) : keyOf Try.prog 40 (.int .u32 (q : Nat)) = some (.int .u32 (q : Nat)) := by
  refine keyOf_int_mk Try.underlying40 ?_
  simp [Lit.wf, IntKind.min, IntKind.max, IntKind.signed, IntKind.bits]
  omega
theorem infoI : (Try.prog.info? 3).map (fun i => (i.zero, i.size, i.bytes)) = some (some (.int .i64 0), 1, 8) := by kernel_rfl
/-- block bm is the map of the positions before k -/
def Grp (w : World) (bm : Nat) (xs : List UInt8) (k : Nat) : Prop := w.ownsGroups Try.prog 40 (bm + 1) 3 .i64 bm k (gD xs k)
theorem Grp.made (w : World) (xs : List UInt8) : Grp (w.alloc (.map #[] 0)) w.heap.size xs 0 := World.ownsGroups_made _ _ _ _ _
theorem ints_keep {w w' : World} {base : Nat} {e : TypeId} {v : Value} {zs : List Int} (h : w.ownsInts base e .i64 v zs) (hk : ∀ (g : Nat) (cs : Array Value) (fr : Nat × Nat), base ≤ g → w.heap[g]? = some (Obj.cells cs e fr) → w'.heap[g]? = some (Obj.cells cs e fr)) : w'.ownsInts base e .i64 v zs := by
  refine ⟨⟨h.1.1, ?_⟩, h.2⟩
  rcases h.1.2 with h0 | ⟨g, cap, cur, hv, hB, hg, hr⟩
  · exact .inl h0
  · exact .inr ⟨g, cap, cur, hv, hB, hk _ _ _ hB hg, hr⟩
theorem Grp.keep {w w' : World} {bm : Nat} {xs : List UInt8} {k : Nat} (h : Grp w bm xs k) (hm : w'.heap[bm]? = w.heap[bm]?) (hk : ∀ (g : Nat) (cs : Array Value) (fr : Nat × Nat), bm + 1 ≤ g → w.heap[g]? = some (Obj.cells cs 3 fr) → w'.heap[g]? = some (Obj.cells cs 3 fr)) : Grp w' bm xs k := by
  obtain ⟨es, clock, hb, F, hs, hD, hbb, hlen, hap⟩ := h
  have hst : ∀ x ∈ es.toList, ∀ z, rowElem (H := Unit) w (bm + 1) 3 .i64 x.val = some z → rowElem w' (bm + 1) 3 .i64 x.val = some z := fun x hx z hz => by
    obtain ⟨zs, ho, rfl⟩ := rowElem_inv hz
    exact rowElem_mk (ints_keep ho hk)
  obtain ⟨F1, hmap, _⟩ := F.stay hst
  refine ⟨es, clock, hm.trans hb, F1, hs, by rw [hmap]; exact hD, hbb, fun x hx zs ho => ?_, hap⟩
  obtain ⟨y, hy⟩ := F.reads x hx
  obtain ⟨z, hz, _⟩ := rd_val hy
  obtain ⟨zs0, ho0, _⟩ := rowElem_inv hz
  rw [ho.unique (ints_keep ho0 hk)]
  exact hlen x hx zs0 ho0
theorem Grp.lt {w : World} {bm : Nat} {xs : List UInt8} {k : Nat} (h : Grp w bm xs k) : bm < w.heap.size := by
  obtain ⟨es, clock, hb, _⟩ := h
  exact (Array.getElem?_eq_some_iff.1 hb).1
theorem Grp.below {w w' : World} {bm : Nat} {xs : List UInt8} {k : Nat} (h : Grp w bm xs k) (hb : Below w.heap.size w w') : Grp w' bm xs k :=
  h.keep (hb.block _ h.lt) fun g cs fr _ hg => (hb.block _ (Array.getElem?_eq_some_iff.1 hg).1).trans hg
theorem Grp.v {w w' : World} {C bx bm : Nat} {xs : List UInt8} {k : Nat} (h : Grp w bm xs k) (hv : KeepV C bx w w') (hne : bm ≠ bx) (hx : ∀ (cs : Array Value) (fr : Nat × Nat), w.heap[bx]? ≠ some (Obj.cells cs 3 fr)) : Grp w' bm xs k := by
  have h0 := h
  obtain ⟨es, clock, hb, _⟩ := h0
  refine h.keep ((hv.rest bm _ hne hb (fun cs fr e => by cases e)).trans hb.symm) fun g cs fr _ hg => hv.rest g _ (fun e => ?_) hg (fun cs' fr' e => by cases e)
  subst e
  exact hx _ _ hg
theorem wp_lookup_g {w : World} {o : Oper} {a : Act} {K : Act → World → Prop} {Q : Exit → Act → World → Prop} (m x : Operand) (hop : o.op = Op.lookup 61 m x false)
    (bm k q : Nat) (xs : List UInt8) (hm : a.eval m = .map (some bm)) (hown : Grp w bm xs k) (hk : k ≤ 1000000) (hx : a.eval x = .int .u32 (q : Nat)) (hq : q < 4294967296)
    (h : ∀ v, w.ownsInts (bm + 1) 3 .i64 v ((hist xs k q).map fun p : Nat => (p : Int)) → w.groupBack Try.prog 61 40 (bm + 1) 3 .i64 bm k (gD xs k) (.int .u32 (q : Nat)) (.int .u32 (q : Nat)) v → K (a.put o.dst v) w) : o.wp Try.prog a w K Q := by
  obtain ⟨v, zs, hrun, hat, hoi, hzl, hback⟩ := World.ownsGroups.at hown klaw Try.underlying61 (zeroG _) (by unfold maxLen; omega) (keyG q hq)
  have e := hist_of hat hoi
  subst e
  unfold Oper.wp
  simp [execOp, hop, hm, hx, hrun, Result.andThen]
  exact h v hoi hback
theorem wp_append_i {w : World} {o : Oper} {a : Act} {K : Act → World → Prop} {Q : Exit → Act → World → Prop} (s x : Operand)
    (ho : o.op = .call { callee := .builtin .append, args := #[s, x], argTypes := #[85, 85] })
    (base : Nat) (v : Value) (zs : List Int) (hs : a.eval s = v) (hown : w.ownsInts base 3 .i64 v zs) (y : Nat) (g : Nat) (hx : a.eval x = .slice (some ⟨g, 0, none⟩) 1 1) (hcell : w.cell? ⟨g, 0, none⟩ = some (.int .i64 (y : Nat))) (hlen : zs.length ≤ 1000000) (hy : y ≤ 1000000) (hbase : base ≤ w.heap.size)
    (h : ∀ v' w', w'.ownsInts base 3 .i64 v' (zs ++ [(y : Int)]) → w.grownBy w' v.ownBlock → (v'.ownBlock = v.ownBlock ∨ v'.ownBlock = some w.heap.size) → K (a.put o.dst v') w') : o.wp Try.prog a w K Q := by
  obtain ⟨i, hi, hz0, hz1, hz2⟩ := info_parts infoI
  obtain ⟨v', w', hr, h5, h6, _, hat⟩ := run_append_own_at (P := Try.prog) w base 85 o.type 3 i (.int .i64 0) 1 8 Try.underlying85 hi hz0 hz1 hz2 rfl (by decide) v zs.length (zs.map (Value.int .i64)) hown.1 ⟨g, 0, none⟩ 1 1 [.int .i64 (y : Nat)] rfl
    (fun j u hj => by
      match j, hj with
      | 0, hj => simp at hj; subst hj; simpa [Addr.add] using hcell)
    (fun u hu => by rw [List.mem_singleton.1 hu]; rfl) (by unfold maxLen; omega) (by omega) hbase
  unfold Oper.wp execOp
  simp only [ho, resolve, invoke, builtin, Sem.run_bind, Sem.run_pure, Result.andThen_ok, List.map_toArray, List.map_cons, List.map_nil, hs, hx, hr]
  exact h v' w' (hown.appended h5 (WalkArith.wf_i64 (by omega))) h6 hat
/-- beside rows of numbers and the map all is as it was; so is what lies below the map -/
structure KeepG (bm : Nat) (w w' : World) : Prop where
  below : Below bm w w'
  rest : ∀ (k : Nat) (o : Obj), k ≠ bm → w.heap[k]? = some o → (∀ cs fr, o ≠ Obj.cells cs 3 fr) → w'.heap[k]? = some o
theorem KeepG.trans {bm : Nat} {a b c : World} (h : KeepG bm a b) (k : KeepG bm b c) : KeepG bm a c := ⟨h.below.trans k.below, fun i o h0 h1 h2 => k.rest i o h0 (h.rest i o h0 h1 h2) h2⟩
theorem KeepG.new {bm : Nat} {w w' : World} (h : Below w.heap.size w w') (hB : bm ≤ w.heap.size) : KeepG bm w w' := ⟨h.mono hB, fun k o _ h1 _ => (h.block k (Array.getElem?_eq_some_iff.1 h1).1).trans h1⟩
theorem KeepG.grown {bm : Nat} {w w' : World} {v : Value} {zs : List Int} (ho : w.ownsInts (bm + 1) 3 .i64 v zs) (h : w.grownBy w' v.ownBlock) (hB : bm ≤ w.heap.size) : KeepG bm w w' := by
  refine ⟨(Below.refl _ _).grown h hB (fun k hk => Nat.le_of_succ_le (ho.1.lt k hk).1), fun k o _ h1 h2 => ?_⟩
  refine (h.block k (Array.getElem?_eq_some_iff.1 h1).1 fun e => ?_).trans h1
  rcases ho.1.2 with ⟨rfl, _⟩ | ⟨g, cap, cur, rfl, _, hg, _⟩
  · cases e
  · cases e
    rw [hg] at h1
    exact h2 _ _ (Option.some.inj h1).symm
theorem KeepG.map {bm : Nat} {w w' : World} (h : w.grownBy w' (some bm)) (hB : bm ≤ w.heap.size) : KeepG bm w w' :=
  ⟨(Below.refl _ _).grown h hB (fun k hk => by cases hk; exact Nat.le_refl _), fun k o h0 h1 _ => (h.block k (Array.getElem?_eq_some_iff.1 h1).1 (fun e => h0 (Option.some.inj e))).trans h1⟩
theorem wp_store_g {w w0 : World} {o : Oper} {a : Act} {K : Act → World → Prop} {Q : Exit → Act → World → Prop} (m x y : Operand) (hop : o.op = Op.mapUpdate 61 m x y)
    (bm k c : Nat) (xs : List UInt8) (hc : c = kyA xs k) (u v' : Value) (hback : w0.groupBack Try.prog 61 40 (bm + 1) 3 .i64 bm k (gD xs k) (.int .u32 (c : Nat)) (.int .u32 (c : Nat)) u)
    (hm : a.eval m = .map (some bm)) (hx : a.eval x = .int .u32 (c : Nat)) (hv : a.eval y = v') (hg : w0.grownBy w u.ownBlock) (hown : w.ownsInts (bm + 1) 3 .i64 v' ((hist xs k c).map (fun p : Nat => (p : Int)) ++ [(k : Int)]))
    (hloc : v'.ownBlock = u.ownBlock ∨ ∃ g, v'.ownBlock = some g ∧ w0.heap.size ≤ g)
    (h : ∀ w', Grp w' bm xs (k + 1) → w.grownBy w' (some bm) → K (a.put o.dst undef) w') : o.wp Try.prog a w K Q := by
  obtain ⟨w2, hrun, r1, r2⟩ := hback w v' _ hg hown (by have := hist_len xs k c; simp; omega) hloc
  unfold Oper.wp
  simp [execOp, hop, hm, hx, hv, hrun, Result.andThen]
  refine h w2 ?_ r2
  rw [hown.datum_pos (by simp)] at r1
  unfold Grp
  subst hc
  rw [gD, List.map_append]
  exact r1
end Go.Proofs.Ytihiccccpjakgaa
