/-
  The program's distinct: a set of the barcodes that came, over the iterator.
-/
import Derived.Test.YtmhaeipklifhcaaRbCont
import Derived.Maps.OwnIn
import Derived.Maps.AppendAt
namespace Go.Proofs.Ytmhaeipklifhcaa
open Go.RowKit Go.Shelf Go.Maps
set_option linter.unusedVariables false
set_option linter.unusedSimpArgs false
attribute [local go_sem] Oper.semAt_some
theorem isE (s : ByteArray) : s.toList.isEmpty = decide (s = emp) := by
  rw [ByteArray.toList_eq]
  obtain ⟨⟨l⟩⟩ := s
  cases l with
  | nil => simp [emp]
  | cons a l => simp [emp]
/-- the barcodes that came -/
abbrev sOf (pre : List Ct) : List ByteArray := pre.map fun x => x.s
theorem sOf_eq (pre : List Ct) : sOf pre = (pre.map Ct.t).map (fun x => x.2.2) := by rw [List.map_map]; rfl
/-- the map says which barcodes came -/
def SeenR (D : DataW Unit) (l : List ByteArray) : Prop := ∀ s : ByteArray, s.size ≤ maxLen → D.atKey (.string s.data.toList) (.lit (.bool false)) = .lit (.bool (decide (s ≠ emp ∧ s ∈ l)))
theorem keyedT : Keyed Try.prog 9 := string_keyed Try.underlying9
theorem keyT {s : ByteArray} (h : s.size ≤ maxLen) : keyOf Try.prog 9 (.string s) = some (.string s.data.toList) := WideMaps.keyOf_string_mk Try.underlying9 h
theorem SeenR.nil : SeenR (.map []) [] := fun s _ => by simp [DataW.atKey]
theorem litT_ne {s t : ByteArray} (h : s ≠ t) : (Lit.string s.data.toList) ≠ .string t.data.toList := fun e => h (by
  obtain ⟨⟨s⟩⟩ := s
  obtain ⟨⟨t⟩⟩ := t
  injection e with e
  congr 2)
theorem SeenR.put {D : DataW Unit} {l : List ByteArray} (h : SeenR D l) (hD : IsMap D) {s : ByteArray} (hs : s.size ≤ maxLen) (hno : ¬ (s ≠ emp ∧ s ∈ l)) : SeenR (D.put (.string s.data.toList) (.lit (.bool (decide (s ≠ emp))))) (l ++ [s]) := fun t ht => by
  by_cases e : t = s
  · subst e
    rw [atKey_put_same hD (keyedT.key (keyT hs))]
    congr 2
    by_cases he : t = emp <;> simp [he]
  · rw [atKey_put_other (litT_ne e), h t ht]
    congr 2
    simp [e]
theorem zeroBo (w : World) : (zeroValue 4).run Try.prog w = .ok (.bool false) w := by kernel_rfl
theorem look_t {W : World} {b n : Nat} {D : DataW Unit} (h : W.ownsMap Try.prog 9 (plainElem Try.prog 4) b n D) {s : ByteArray} (hs : s.size ≤ maxLen) {y : Bool} (hat : D.atKey (.string s.data.toList) (.lit (.bool false)) = .lit (.bool y)) :
    (Instr.lookup 69 (.map (some b)) (.string s) false).run Try.prog W = .ok (.bool y) W := by
  obtain ⟨v, ps, hrun, hv⟩ := h.lookup keyedT Try.underlying69 (zeroBo W) (plainElem_bool Try.underlying4 false) (keyT hs)
  rw [hat] at hv
  have e : v = .bool y := by
    cases v with
    | bool z =>
      rw [plainElem_bool Try.underlying4 z] at hv
      simp at hv
      rw [hv.1]
    | _ => simp [plainElem, Try.underlying4] at hv
  rw [hrun, e]
theorem makeMapN (n : Int) (w : World) : (Instr.makeMap 69 (some (.int .i64 n))).run Try.prog w = .ok (.map (some w.heap.size)) (w.alloc (.map #[] 0)) := by
  simp [Instr.makeMap, run_underlying Try.underlying69, asInt, asIntOf]
/-- what the loop keeps -/
structure DsI (w : World) (pre : List Ct) (W : World) : Prop where
  c : Boxed W (w.heap.size + 3) 69 (.map (some (w.heap.size + 2)))
  m : ∃ D, W.ownsMap Try.prog 9 (plainElem Try.prog 4) (w.heap.size + 2) pre.length D ∧ SeenR D (sOf pre)
  d : dst (sOf pre) = true
  r : Boxed W (w.heap.size + 1) 4 (.bool false)
  b : Below w.heap.size w W
/-- .. and where it is left -/
structure DsX (w : World) (c : Code) (pre : List Ct) (W : World) : Prop where
  c : c = .ret
  d : dst (sOf pre) = false
  r : Boxed W (w.heap.size + 1) 4 (.bool false)
  b : Below w.heap.size w W
theorem boxed_ne {X : World} {b : Nat} {t : TypeId} {v : Value} {row : Option Nat} (h : Boxed X b t v) (hr : ∀ r, row = some r → ∃ o : Obj, X.heap[r]? = some o ∧ o.isCells = false) : some b ≠ row := fun e => by
  obtain ⟨o, ho, hc⟩ := hr b e.symm
  rw [show X.heap[b]? = _ from h] at ho
  cases ho
  cases hc
theorem dsI_own (w : World) {B : Nat} (hB : w.heap.size + 4 ≤ B) : OwnFrom B (DsI w) := by
  rintro pre X Y row ⟨h1, ⟨D, h2, h3⟩, h4, h5, h6⟩ hg hr
  have hr2 := fun r e => (hr r e).2
  exact ⟨h1.kept hg (boxed_ne h1 hr2), ⟨D, h2.kept hg (fun e => by have := (hr _ e.symm).1; omega), h3⟩, h4, h5.kept hg (boxed_ne h5 hr2), h6.grown hg h6.size (fun k e => by have := (hr k e).1; omega)⟩
theorem dsX_own (w : World) {B : Nat} (hB : w.heap.size + 4 ≤ B) (c : Code) : OwnFrom B (DsX w c) := by
  rintro pre X Y row ⟨h1, h4, h5, h6⟩ hg hr
  have hr2 := fun r e => (hr r e).2
  exact ⟨h1, h4, h5.kept hg (boxed_ne h5 hr2), h6.grown hg h6.size (fun k e => by have := (hr k e).1; omega)⟩
theorem load_bo {W : World} {b : Nat} {v : Value} (h : Boxed W b 4 v) : (loadVar 4 ⟨b, 0, none⟩).run Try.prog W = .ok v W := by
  have hc := h.cell
  have e : (isAgg 4).run Try.prog W = .ok false W := by unfold isAgg; simp [run_underlying Try.underlying4]
  simp [loadVar, Sem.run_bind, e, hc]
theorem res_bo {fn : Func} {p : Tmp} (h : fn.results = #[.cell p 4]) (tmps : Array Value) {W : World} {b : Nat} {v : Value} (hp : tmps.getD p undef = .pointer (some ⟨b, 0, none⟩)) (hb : Boxed W b 4 v) :
    (results fn tmps).run Try.prog W = .ok v W := by
  simp only [results, h]
  simp only [Array.getD_eq_getD_getElem?] at hp
  simp [Sem.run_bind, hp, asAddr, load_bo hb]
theorem ds_start (w : World) (r : Rbt) (ad : Option Addr) (n cap : Nat) :
    Below w.heap.size w ((((w.alloc (boxR r ad n cap)).alloc (.cells #[.bool false] 4)).alloc (.map #[] 0)).alloc (.cells #[.map (some (w.heap.size + 1 + 1))] 69)) ∧
    ((((w.alloc (boxR r ad n cap)).alloc (.cells #[.bool false] 4)).alloc (.map #[] 0)).alloc (.cells #[.map (some (w.heap.size + 1 + 1))] 69)).heap.size = w.heap.size + 4 ∧
    Boxed ((((w.alloc (boxR r ad n cap)).alloc (.cells #[.bool false] 4)).alloc (.map #[] 0)).alloc (.cells #[.map (some (w.heap.size + 1 + 1))] 69)) (w.heap.size + 3) 69 (.map (some (w.heap.size + 2))) ∧
    ((((w.alloc (boxR r ad n cap)).alloc (.cells #[.bool false] 4)).alloc (.map #[] 0)).alloc (.cells #[.map (some (w.heap.size + 1 + 1))] 69)).ownsMap Try.prog 9 (plainElem (H := Unit) Try.prog 4) (w.heap.size + 2) 0 (.map []) ∧
    Boxed ((((w.alloc (boxR r ad n cap)).alloc (.cells #[.bool false] 4)).alloc (.map #[] 0)).alloc (.cells #[.map (some (w.heap.size + 1 + 1))] 69)) (w.heap.size + 1) 4 (.bool false) := by
  have e1 : (w.alloc (boxR r ad n cap)).heap.size = w.heap.size + 1 := World.size_alloc ..
  have e2 : ((w.alloc (boxR r ad n cap)).alloc (.cells #[.bool false] 4)).heap.size = w.heap.size + 2 := by rw [World.size_alloc, e1]
  have e3 : (((w.alloc (boxR r ad n cap)).alloc (.cells #[.bool false] 4)).alloc (.map #[] 0)).heap.size = w.heap.size + 3 := by rw [World.size_alloc, e2]
  have h1 := Boxed.new (w.alloc (boxR r ad n cap)) 4 (.bool false)
  have h2 := World.ownsMap_made ((w.alloc (boxR r ad n cap)).alloc (.cells #[.bool false] 4)) Try.prog 9 (plainElem (H := Unit) Try.prog 4)
  have h3 := Boxed.new (((w.alloc (boxR r ad n cap)).alloc (.cells #[.bool false] 4)).alloc (.map #[] 0)) 69 (.map (some (w.heap.size + 1 + 1)))
  rw [e1] at h1
  rw [e2] at h2
  rw [e3] at h3
  exact ⟨(below_box3 _ _ _ _).alloc (by rw [e3]; omega) _, by rw [World.size_alloc, e3], h3, h2.alloc _, (h1.alloc _).alloc _⟩
set_option maxRecDepth 100000 in
set_option maxHeartbeats 2000000 in
theorem distinct_any (r : Rbt) (ad : Option Addr) (n cap : Nat) (w : World) (hl : Sx w ad r.l) (hn : n = r.l.length) (hn2 : n ≤ 1000) (hsz : ∀ s ∈ allR r, s.size ≤ maxLen) :
    Calls Try.prog 37 #[roV r ad n cap] w fun e w' => e = .returned (.bool (dst (allR r))) ∧ Below w.heap.size w w' := by
  refine (callsIn_wide (n := 5)).1 ?_
  have HL := Lib.hid hl
  have HN := Lib.hid hn
  have HZ := Lib.hid hsz
  clear hl hn hsz
  have hmm := makeMapN ((n : Int) + 2)
  refine callsIn_of_wp_marks Try.func37 rfl trivial ?_ rfl
  simp only [Try.ntmps37, List.size_toArray, List.length_cons, List.length_nil, Nat.reduceAdd, Nat.reduceSub, Array.replicate_succ, Array.replicate_zero, List.push_toArray, List.append_toArray, List.nil_append, List.cons_append]
  gi_wp2_with fail
  refine ⟨trivial, ?_⟩
  obtain ⟨hb, hs, h1, h2, h3⟩ := ds_start w r ad n cap
  generalize World.alloc _ _ = X at *
  refine (contents_in _ r ad n cap _).mono ?_
  rintro e w' ⟨rfl, rfl⟩
  have hbx := heap_new X (boxR r ad n cap)
  rw [hs] at hbx ⊢
  have hS : (X.alloc (boxR r ad n cap)).heap.size = w.heap.size + 5 := by rw [World.size_alloc, hs]
  have HB := Lib.hid (hb.trans ((below_box1 X (boxR r ad n cap)).mono hb.size))
  have HI := Lib.hid (show DsI w [] (X.alloc (boxR r ad n cap)) from ⟨h1.alloc _, ⟨_, h2.alloc _, SeenR.nil⟩, rfl, h3.alloc _, HB.out⟩)
  generalize World.alloc _ _ = W0 at *
  have HS := Lib.hid hS
  have HBX := Lib.hid hbx
  clear hb hs h1 h2 h3 hbx hS hmm
  gi_wp2
  refine wpIn_rangeFunc_ownG rfl (by decide) (gf := 47) (lb := #[.pointer (some ⟨w.heap.size + 4, 0, none⟩)]) rfl trivial (enters_of Try.func47 (by kernel_rfl) rfl)
    (contents_stops _ (w.heap.size + 4) r ad n cap w W0 HL.out HN.out hn2 HB.out HBX.out HZ.out) KpC.t (KpC.b HB.out.size) (Below.refl _ _) (fun _ => rfl)
    (DsI w) (DsX w) (dsI_own w (by have := HS.out; omega)) (dsX_own w (by have := HS.out; omega)) HI.out
    (fun x => { tmps := #[roV r ad n cap, .pointer (some ⟨w.heap.size, 0, none⟩), .pointer (some ⟨w.heap.size + 1, 0, none⟩), .pointer (some ⟨w.heap.size + 1 + 1 + 1, 0, none⟩), undef, .string x.s,
      .pointer (some ⟨w.heap.size, 2, none⟩), .slice ad n cap, .int .i64 n, .int .i64 ((n : Int) + 2), .map (some (w.heap.size + 1 + 1)), roV r ad n cap, .func (.func 47) #[] #[.pointer (some ⟨w.heap.size + 4, 0, none⟩)], .agg #[.int .i64 x.k, .int .i64 x.i], .string x.s,
      undef, undef, undef, undef, undef, undef, undef], defers := [] }) ?assign ?body ?done ?stop
  case assign =>
    intro l x W K hK
    gi_wp2
    exact hK
  case body =>
    rintro l pre x W hI hlt
    obtain ⟨s, hs⟩ : ∃ s, s = x.s := ⟨_, rfl⟩
    have hsm : s.size ≤ maxLen := by rw [hs]; exact x.hs
    have cC := hI.c.cell
    have cR := hI.r.cell
    have fR := hI.r.frozen
    obtain ⟨D, hown, hseen⟩ := hI.m
    have HI1 := Lib.hid hI
    rw [← hs]
    have HXS := Lib.hid hs
    have hat := hseen s hsm
    cases hy : decide (s ≠ emp ∧ s ∈ sOf pre)
    · rw [hy] at hat
      have hlk := look_t hown hsm hat
      have HNO := Lib.hid (of_decide_eq_false hy)
      have HOW := Lib.hid hown
      have HSE := Lib.hid hseen
      clear hI hs hat hy hown hseen
      gi_wp2_with (gi_at_mapUpdate; refine wpListIn_mapUpdate_own _ rfl _ _ _ 69 rfl 9 4 keyedT Try.underlying69 (plainElem (H := Unit) Try.prog 4) (w.heap.size + 2) pre.length D rfl HOW.out (by unfold maxLen; omega) _ _ _ rfl rfl (keyT hsm) _ [] (plainElem_bool Try.underlying4 (!s.toList.isEmpty)) ?_; intro w1 hown1 hgrow1)
      have hval : (!s.toList.isEmpty) = decide (s ≠ emp) := by rw [isE]; by_cases h : s = emp <;> simp [h]
      rw [hval] at hown1
      obtain ⟨es, ck, hh, _⟩ := HOW.out
      have hk := fun (r : Nat) (e : some (w.heap.size + 2) = some r) => (⟨_, by cases e; exact hh, rfl⟩ : ∃ o : Obj, W.heap[r]? = some o ∧ o.isCells = false)
      have hsn : sOf (pre ++ [x]) = sOf pre ++ [s] := by rw [sOf, List.map_append, HXS.out]; rfl
      have hb := HI1.out.b.grown hgrow1 HI1.out.b.size (fun k e => by cases e; exact Nat.le_add_right _ _)
      exact ⟨KeepsFrom.of_grownBy hgrow1 (fun j e => by cases e; have := HS.out; omega), ⟨(Below.refl _ W).grown hgrow1 HI1.out.b.size (fun k e => by cases e; exact Nat.le_add_right _ _), fun cs t fr e => (hgrow1.block _ (Array.getElem?_eq_some_iff.1 e).1 (fun e => by injection e with e; omega)).trans e⟩,
        ⟨HI1.out.c.kept hgrow1 (boxed_ne HI1.out.c hk), ⟨_, by rw [List.length_append]; exact hown1, by rw [hsn]; exact HSE.out.put HOW.out.isMap hsm HNO.out⟩, by rw [hsn]; exact dst_snoc_yes HI1.out.d HNO.out, HI1.out.r.kept hgrow1 (boxed_ne HI1.out.r hk), hb⟩⟩
    · rw [hy] at hat
      have hlk := look_t hown hsm hat
      have HNO := Lib.hid (of_decide_eq_true hy)
      clear hI hs hat hy hown hseen
      gi_wp2
      have hsn : sOf (pre ++ [x]) = sOf pre ++ [s] := by rw [sOf, List.map_append, HXS.out]; rfl
      exact ⟨(KeepsOthers.setCell _ _ _).from _, rfl, by rw [hsn]; exact dst_snoc_no HNO.out, HI1.out.r.set _, HI1.out.b.setCell (p := ⟨w.heap.size + 1, 0, none⟩) (Nat.le_add_right _ _) _⟩
  case done =>
    rintro D xs W hD hS hI hK
    have HI1 := Lib.hid hI
    have cR := hI.r.cell
    have fR := hI.r.frozen
    have HSX := Lib.hid hS
    have HK := Lib.hid hK
    clear hI hS hK
    gi_wp2
    have hK1 := (KeepsOthers.setCell W ⟨w.heap.size + 1, 0, none⟩ (.bool true)).same D _ HK.out rfl
    refine ⟨by simp, .inl ⟨_, _, rfl, run_takeDeferred hK1, ?_⟩⟩
    have hbx : Boxed ((W.setCell ⟨w.heap.size + 1, 0, none⟩ (.bool true)).putObj D (.deferred none)) (w.heap.size + 1) 4 (.bool true) := (HI1.out.r.set _).kept (grownBy_putObj' _ D _) (fun e => by cases e; have := HS.out; omega)
    have hds : dst (allR r) = true := by rw [← contC_snd, ← HSX.out, ← sOf_eq]; exact HI1.out.d
    have hb : Below w.heap.size w (W.setCell ⟨w.heap.size + 1, 0, none⟩ (.bool true)) := HI1.out.b.setCell (p := ⟨w.heap.size + 1, 0, none⟩) (Nat.le_add_right _ _) _
    exact ⟨_, res_bo rfl _ rfl hbx, by rw [hds], hb.trans (belowK_b (w := w) (Nat.le_refl _) _ D _ _ (by have := HS.out; omega) hK1 rfl rfl)⟩
  case stop =>
    rintro D c pre W hD hS ⟨rfl, hd, hr, hb⟩ hK
    have HSX := Lib.hid hS
    have HK := Lib.hid hK
    have HD := Lib.hid hd
    have HR := Lib.hid hr
    have HB3 := Lib.hid hb
    clear hS hK hd hr hb
    gi_wp2
    refine ⟨by simp, .inl ⟨_, _, rfl, run_takeDeferred HK.out, ?_⟩⟩
    have hbx : Boxed (W.putObj D (.deferred none)) (w.heap.size + 1) 4 (.bool false) := HR.out.kept (grownBy_putObj' _ D _) (fun e => by cases e; have := HS.out; omega)
    have hds : dst (allR r) = false := by
      refine dst_pre ?_ HD.out
      rw [sOf_eq, ← contC_snd]
      exact HSX.out.map _
    exact ⟨_, res_bo rfl _ rfl hbx, by rw [hds], HB3.out.trans (belowK_b (w := w) (Nat.le_refl _) W D _ _ (by have := HS.out; omega) HK.out rfl rfl)⟩
end Go.Proofs.Ytmhaeipklifhcaa
