/-
  Nothing but one block changes.
  Loads of a region that draws, taken first although a later operation of the region writes what they read: the condition on the world is asked until that operation (number st) comes up, which waits for them.
  The program's reader of a body: text, number.
-/
import Derived.Test.YtjmlidejbddoeaaDoorLA
import Derived.Test.YtjmlidejbddoeaaDoorLN
import Derived.Test.YtjmlidejbddoeaaDoorLC
import Derived.Test.YtjmlidejbddoeaaDoorLI
import Derived.BigQuiet
namespace Go.Proofs.YtjmlidejbddoeaaDoor
open Go.RowKit
set_option linter.unusedVariables false
/-- nothing but block g has changed -/
structure RdKeep (g : Nat) (w w' : World) : Prop where
  below : Below g w w'
  keep : ∀ k, k ≠ g → k < w.heap.size → w'.heap[k]? = w.heap[k]?
  size : w.heap.size ≤ w'.heap.size
theorem RdKeep.set {g : Nat} {w W : World} (h : RdKeep g W w) (j : Nat) (v : Value) : RdKeep g W (w.setCell ⟨g, j, none⟩ v) :=
  ⟨h.below.setCell (p := ⟨g, j, none⟩) (Nat.le_refl _) v, fun k hk hl => (Below.heap_setCell _ _ _ _ (by show k ≠ g; exact hk)).trans (h.keep k hk hl), by simpa using h.size⟩
theorem RdKeep.trans {g : Nat} {w w1 w2 : World} (h : RdKeep g w w1) (h2 : RdKeep g w1 w2) : RdKeep g w w2 :=
  ⟨h.below.trans h2.below, fun k hk hl => (h2.keep k hk (Nat.lt_of_lt_of_le hl h.size)).trans (h.keep k hk hl), Nat.le_trans h.size h2.size⟩
theorem RdKeep.of_below {g : Nat} {w w' : World} (h : Below w.heap.size w w') (hg : g < w.heap.size) : RdKeep g w w' := ⟨h.mono (Nat.le_of_lt hg), fun k _ hl => h.block k hl, h.size⟩
end Go.Proofs.YtjmlidejbddoeaaDoor
namespace Go.Proofs.YtjmlidejbddoeaaDoor
open Go.RowKit
set_option linter.unusedVariables false
section
variable {P : Program} {md : Region.Mode} {ops : Array Oper} {Q : Exit → Act → World → Prop} {st : Nat} {S : World → Prop}
/-- whatever comes up, S holds behind it as long as number st has not come up -/
def untl (P : Program) (md : Region.Mode) (ops : Array Oper) (Q : Exit → Act → World → Prop) (st : Nat) (S : World → Prop) : Nat → Array Bool → Act → World → Prop
  | 0, l, a, w => Region.ready md ops l = [] ∧ Q .normal a w
  | n + 1, l, a, w => (Region.ready md ops l = [] → Q .normal a w) ∧ ∀ i ∈ Region.ready md ops l, wpOp P ops Q i (fun a' w' => ((l.setIfInBounds i true).getD st true = false → S w') ∧ untl P md ops Q st S n (l.setIfInBounds i true) a' w') a w
theorem untl_any : ∀ (n : Nat) (l : Array Bool) (a : Act) (w : World), untl P md ops Q st S n l a w → wpAny P md ops Q n l a w
  | 0, _, _, _, h => h
  | n + 1, _, _, _, h => ⟨h.1, fun i hi => wpOp_mono (fun a' w' h' => untl_any n _ a' w' h'.2) (h.2 i hi)⟩
theorem getD_set_self {l : Array Bool} {i j : Nat} (h : l.getD j true = true) : (l.setIfInBounds i true).getD j true = true := by
  by_cases hij : i = j
  · subst hij
    rcases Nat.lt_or_ge i l.size with h' | h'
    · simp [h']
    · simp [Array.getElem?_eq_none (show (l.setIfInBounds i true).size ≤ i by simpa using h')]
  · rw [getD_set_ne true hij]; exact h
/-- behind number st nothing is asked any more -/
theorem untl_past : ∀ (n : Nat) (l : Array Bool) (a : Act) (w : World), l.getD st true = true → wpAnyH P md ops Q (fun _ => True) n l a w → untl P md ops Q st S n l a w
  | 0, _, _, _, _, h => h
  | n + 1, l, _, _, hl, h => ⟨h.1, fun i hi => wpOp_mono (fun a' w' h' => ⟨fun hf => (by rw [getD_set_self hl] at hf; cases hf), untl_past n _ a' w' (getD_set_self hl) h'.2⟩) (h.2 i hi)⟩
/-- number k waits for number i -/
def waits (md : Region.Mode) (ops : Array Oper) (k i : Nat) : Bool := match ops[k]? with | some o => o.after.any fun e => Region.binds md e && e.on == i | none => false
theorem waits_not {k i : Nat} (h : waits md ops k i = true) {l : Array Bool} (hl : l.getD i true = false) : k ∉ Region.ready md ops l := by
  intro hk
  obtain ⟨_, o, ho, hall⟩ := mem_ready.1 hk
  unfold waits at h
  rw [ho] at h
  obtain ⟨e, he, hb⟩ := Array.any_eq_true'.1 h
  rw [Bool.and_eq_true, beq_iff_eq] at hb
  have h1 := hall e he hb.1
  rw [hb.2] at h1
  rcases Nat.lt_or_ge i l.size with h' | h'
  · simp [h'] at hl h1; rw [hl] at h1; cases h1
  · simp [Array.getElem?_eq_none h'] at hl
/-- number i is taken first: number st waits for j, and j for i (or i is j) -/
theorem untl_first {i j : Nat} {oi : Oper} {v : Value} (hi : ops[i]? = some oi) (hsel : ∀ (k : Nat) (o : Oper) cs b, ops[k]? = some o → o.op ≠ .select cs b)
    (hQ : ∀ c a w, Q (.panic c) (a.put oi.dst v) w → Q (.panic c) a w) (hj : waits md ops st j = true) (hji : j = i ∨ waits md ops j i = true) (his : i ≠ st) :
    ∀ (n : Nat) (l : Array Bool) (a : Act) (w : World),
      (∀ k ok, ops[k]? = some ok → k ≠ i → l.getD k true = false → (∀ e ∈ ok.after, Region.binds md e = true → e.on ≠ i) → oi.apart ops ok = true) →
      i ∈ Region.ready md ops l → YieldsIf P ops S oi v a → S w → l.getD st true = false → l.getD j true = false →
      untl P md ops Q st S n (l.setIfInBounds i true) (a.put oi.dst v) w → untl P md ops Q st S (n + 1) l a w := by
  intro n
  induction n with
  | zero =>
    intro l a w hfree hr hy hS hst hlj H
    refine ⟨fun h => (by rw [h] at hr; cases hr), fun k hk => ?_⟩
    by_cases hki : k = i
    · subst hki; exact hy.wpOp hi hS ⟨fun _ => hS, H⟩
    · have := ready_mono hk hki
      rw [H.1] at this
      cases this
  | succ n ih =>
    intro l a w hfree hr hy hS hst hlj H
    have hli : l.getD i true = false := (mem_ready.1 hr).1
    refine ⟨fun h => (by rw [h] at hr; cases hr), fun k hk => ?_⟩
    by_cases hki : k = i
    · subst hki; exact hy.wpOp hi hS ⟨fun _ => hS, H⟩
    · have hks : st ≠ k := fun e => waits_not hj hlj (e ▸ hk)
      have hkj : k ≠ j := fun e => by
        rcases hji with h | h
        · exact hki (e.trans h)
        · exact waits_not h hli (e ▸ hk)
      obtain ⟨hkun, ok, hok, hall⟩ := mem_ready.1 hk
      have hnot : ∀ e ∈ ok.after, Region.binds md e = true → e.on ≠ i := fun e he hb heq => by
        have h1 := hall e he hb
        rw [heq] at h1
        rcases Nat.lt_or_ge i l.size with h' | h'
        · simp [h'] at hli h1; rw [hli] at h1; cases h1
        · simp [Array.getElem?_eq_none h'] at h1
      have h2 := wpOp_putIf hok (hfree k ok hok hki hkun hnot) (fun cs b => hsel i oi cs b hi) (fun cs b => hsel k ok cs b hok) hQ hy (H.2 k (ready_mono hk hki))
      refine wpOp_mono (fun a' w' h3 => ?_) h2
      have hS' : S w' := h3.2.1 (by rw [getD_set_ne true (Ne.symm hks), getD_set_ne true his]; exact hst)
      refine ⟨fun _ => hS', ih (l.setIfInBounds k true) a' w' (fun q oq hq hqi hun hno => hfree q oq hq hqi ?_ hno) (ready_mono hr (Ne.symm hki)) h3.1 hS' ?_ ?_ ?_⟩
      · by_cases hkq : k = q
        · subst hkq; exact hkun
        · rw [getD_set_ne true hkq] at hun; exact hun
      · rw [getD_set_ne true (Ne.symm hks)]; exact hst
      · rw [getD_set_ne true hkj]; exact hlj
      · rw [Array.setIfInBounds_comm _ _ hki]; exact h3.2.2
theorem untl_take {l : List Oper} {i : Nat} (j : Nat) {oi : Oper} {v : Value} {n : Nat} {listed : Array Bool} {a : Act} {w : World} (hi : l[i]? = some oi)
    (hs : Region.noSelect l.toArray = true) (hf : Region.free md l.toArray listed i = true) (hr : (Region.ready md l.toArray listed).contains i = true)
    (hj : waits md l.toArray st j = true) (hji : (j == i || waits md l.toArray j i) = true) (his : (i == st) = false) (hst : listed.getD st true = false) (hlj : listed.getD j true = false)
    (hQ : ∀ c a w, Q (.panic c) (a.put oi.dst v) w → Q (.panic c) a w) (hw : Region.wanted oi (yielded l.toArray a.tmps) = true)
    (hy : ∀ w, S w → (execOp a.eval oi).run P w = .ok (.value v) w) (hS : S w)
    (h : untl P md l.toArray Q st S n (listed.setIfInBounds i true) (a.put oi.dst v) w) : untl P md l.toArray Q st S (n + 1) listed a w :=
  untl_first (i := i) (j := j) (oi := oi) (v := v) (by rw [List.getElem?_toArray]; exact hi) (Region.noSelect_spec hs) hQ hj (by simpa using hji) (by simpa using his) n listed a w (Region.free_spec (by rw [List.getElem?_toArray]; exact hi) hf) (by simpa using hr) (.inl ⟨hw, hy⟩) hS hst hlj h
/-- what depends on no world is taken first, whatever else comes up -/
theorem untl_pure_first {i : Nat} {oi : Oper} {v : Value} (hi : ops[i]? = some oi) (hsel : ∀ (k : Nat) (o : Oper) cs b, ops[k]? = some o → o.op ≠ .select cs b)
    (hQ : ∀ c a w, Q (.panic c) (a.put oi.dst v) w → Q (.panic c) a w) (his : i ≠ st) :
    ∀ (n : Nat) (l : Array Bool) (a : Act) (w : World),
      (∀ k ok, ops[k]? = some ok → k ≠ i → l.getD k true = false → (∀ e ∈ ok.after, Region.binds md e = true → e.on ≠ i) → oi.apart ops ok = true) →
      i ∈ Region.ready md ops l → YieldsIf P ops (fun _ => True) oi v a → (l.getD st true = false → S w) →
      untl P md ops Q st S n (l.setIfInBounds i true) (a.put oi.dst v) w → untl P md ops Q st S (n + 1) l a w := by
  intro n
  induction n with
  | zero =>
    intro l a w hfree hr hy hS H
    refine ⟨fun h => (by rw [h] at hr; cases hr), fun k hk => ?_⟩
    by_cases hki : k = i
    · subst hki; exact hy.wpOp hi trivial ⟨fun h => hS (by rwa [getD_set_ne true his] at h), H⟩
    · have := ready_mono hk hki
      rw [H.1] at this
      cases this
  | succ n ih =>
    intro l a w hfree hr hy hS H
    have hli : l.getD i true = false := (mem_ready.1 hr).1
    refine ⟨fun h => (by rw [h] at hr; cases hr), fun k hk => ?_⟩
    by_cases hki : k = i
    · subst hki; exact hy.wpOp hi trivial ⟨fun h => hS (by rwa [getD_set_ne true his] at h), H⟩
    · obtain ⟨hkun, ok, hok, hall⟩ := mem_ready.1 hk
      have hnot : ∀ e ∈ ok.after, Region.binds md e = true → e.on ≠ i := fun e he hb heq => by
        have h1 := hall e he hb
        rw [heq] at h1
        rcases Nat.lt_or_ge i l.size with h' | h'
        · simp [h'] at hli h1; rw [hli] at h1; cases h1
        · simp [Array.getElem?_eq_none h'] at h1
      have h2 := wpOp_putIf hok (hfree k ok hok hki hkun hnot) (fun cs b => hsel i oi cs b hi) (fun cs b => hsel k ok cs b hok) hQ hy (H.2 k (ready_mono hk hki))
      refine wpOp_mono (fun a' w' h3 => ?_) h2
      have hS' : (l.setIfInBounds k true).getD st true = false → S w' := fun h => h3.2.1 (by rw [Array.setIfInBounds_comm _ _ (Ne.symm hki), getD_set_ne true his]; exact h)
      refine ⟨hS', ih (l.setIfInBounds k true) a' w' (fun q oq hq hqi hun hno => hfree q oq hq hqi ?_ hno) (ready_mono hr (Ne.symm hki)) h3.1 hS' ?_⟩
      · by_cases hkq : k = q
        · subst hkq; exact hkun
        · rw [getD_set_ne true hkq] at hun; exact hun
      · rw [Array.setIfInBounds_comm _ _ hki]; exact h3.2.2
theorem untl_pure {l : List Oper} {i : Nat} {oi : Oper} {v : Value} {n : Nat} {listed : Array Bool} {a : Act} {w : World} (hi : l[i]? = some oi)
    (hs : Region.noSelect l.toArray = true) (hf : Region.free md l.toArray listed i = true) (hr : (Region.ready md l.toArray listed).contains i = true)
    (his : (i == st) = false) (hQ : ∀ c a w, Q (.panic c) (a.put oi.dst v) w → Q (.panic c) a w) (hw : Region.wanted oi (yielded l.toArray a.tmps) = true)
    (hy : ∀ w, (execOp a.eval oi).run P w = .ok (.value v) w) (hS : S w)
    (h : untl P md l.toArray Q st S n (listed.setIfInBounds i true) (a.put oi.dst v) w) : untl P md l.toArray Q st S (n + 1) listed a w :=
  untl_pure_first (i := i) (oi := oi) (v := v) (by rw [List.getElem?_toArray]; exact hi) (Region.noSelect_spec hs) hQ (by simpa using his) n listed a w (Region.free_spec (by rw [List.getElem?_toArray]; exact hi) hf) (by simpa using hr) (.inl ⟨hw, fun w _ => hy w⟩) (fun _ => hS) h
theorem untl_call {l : List Oper} {i : Nat} {oi : Oper} {n : Nat} {listed : Array Bool} {a : Act} {w : World} (hi : l[i]? = some oi)
    (hr : Region.ready md l.toArray listed = [i]) (hw : Region.wanted oi (yielded l.toArray a.tmps) = true)
    (h : ∀ K' : Act → World → Prop, Shut (∀ a w, ((listed.setIfInBounds i true).getD st true = false → S w) → untl P md l.toArray Q st S n (listed.setIfInBounds i true) a w → K' a w) → Oper.wp P oi a w K' Q) :
    untl P md l.toArray Q st S (n + 1) listed a w := by
  refine ⟨fun h0 => (by rw [hr] at h0; cases h0), fun k hk => ?_⟩
  rw [hr] at hk
  obtain rfl : k = i := by simpa using hk
  exact wpOp_step (by rw [List.getElem?_toArray]; exact hi) (fun K' hK => by
    rw [if_pos hw]
    exact h K' (fun a w hS hU => hK a w ⟨hS, hU⟩))
theorem untl_go {n : Nat} {listed : Array Bool} {K' : Act → World → Prop} {a : Act} {w : World}
    (hK : Shut (∀ a w, (listed.getD st true = false → S w) → untl P md ops Q st S n listed a w → K' a w)) (hS : listed.getD st true = false → S w) (h : untl P md ops Q st S n listed a w) : K' a w := hK.out a w hS h
theorem region_untl {id : Nat} {a : Act} {w : World} (hm : P.follows .mixedOrders = true) (st : Nat) (S : World → Prop) (hS : S w.drew)
    (h : S w.drew → untl P .any ops Q st S ops.size (Array.replicate ops.size false) a w.drew) : (Code.region id ops true).wp P Q a w :=
  wp_region_any hm (untl_any _ _ _ _ (h hS))
end
end Go.Proofs.YtjmlidejbddoeaaDoor
namespace Go.Proofs.YtjmlidejbddoeaaDoor
open Go.RowKit
set_option linter.unusedVariables false
set_option linter.unusedSimpArgs false
def emS : ByteArray := ⟨#[]⟩
/-- what a reader at A with the error E reads next: a text, the place behind it, the error -/
noncomputable def txU (xs : List UInt8) (A E : Int) : ByteArray × Int × Int := if E = 0 then tR xs A 24 else (emS, A, E)
noncomputable def nmU (xs : List UInt8) (A E : Int) : Int × Int × Int := if E = 0 then iR xs A else (0, A, E)
/-- a reader lies in block g -/
def LrRow (w : World) (g : Nat) (ad : Option Addr) (n cap : Nat) (A E : Int) : Prop := w.heap[g]? = some (.cells #[.slice ad n cap, .int .i64 A, .int .i64 E] 84 (0, 0))
theorem LrRow.lt {w : World} {g : Nat} {ad : Option Addr} {n cap : Nat} {A E : Int} (h : LrRow w g ad n cap A E) : g < w.heap.size := (Array.getElem?_eq_some_iff.1 h).1
theorem LrRow.below {W w : World} {g B : Nat} {ad : Option Addr} {n cap : Nat} {A E : Int} (h : LrRow W g ad n cap A E) (hb : Below B W w) (hB : g < B) : LrRow w g ad n cap A E := (hb.block g hB).trans h
theorem LrRow.at_ {w : World} {g : Nat} {ad : Option Addr} {n cap : Nat} {A E : Int} (h : LrRow w g ad n cap A E) :
    w.cell? ⟨g, 0, none⟩ = some (.slice ad n cap) ∧ w.cell? ⟨g, 1, none⟩ = some (.int .i64 A) ∧ w.cell? ⟨g, 2, none⟩ = some (.int .i64 E) :=
  ⟨cell_of_row w g 0 _ _ _ h, cell_of_row w g 1 _ _ _ h, cell_of_row w g 2 _ _ _ h⟩
theorem LrRow.frozen {w : World} {g : Nat} {ad : Option Addr} {n cap : Nat} {A E : Int} (h : LrRow w g ad n cap A E) (j : Nat) : w.frozen? ⟨g, j, none⟩ = false := by
  simp [World.frozen?, show w.heap[g]? = _ from h]
theorem LrRow.setA {w : World} {g : Nat} {ad : Option Addr} {n cap : Nat} {A E : Int} (h : LrRow w g ad n cap A E) (A2 : Int) : LrRow (w.setCell ⟨g, 1, none⟩ (.int .i64 A2)) g ad n cap A2 E := heap_set_b w g 1 _ _ _ _ h
theorem LrRow.setE {w : World} {g : Nat} {ad : Option Addr} {n cap : Nat} {A E : Int} (h : LrRow w g ad n cap A E) (E2 : Int) : LrRow (w.setCell ⟨g, 2, none⟩ (.int .i64 E2)) g ad n cap A E2 := heap_set_b w g 2 _ _ _ _ h
theorem drew_keep {g : Nat} (w : World) : RdKeep g w w.drew := ⟨(Below.refl _ _).drew, fun _ _ _ => rfl, Nat.le_refl _⟩
attribute [local irreducible] emS
set_option maxRecDepth 100000 in
set_option maxHeartbeats 4000000 in
theorem rtx_any (g : Nat) (ad : Option Addr) (n cap : Nat) (xs : List UInt8) (A E : Int) (w : World) (hr : LrRow w g ad n cap A E) (hl : Lie w ad xs) (hn : n = xs.length) (hc : n ≤ cap) (hs : n ≤ 1000000) (ha : ad = none → cap = 0) :
    Calls Tryd.prog 59 #[.pointer (some ⟨g, 0, none⟩)] w fun e w' =>
      e = .returned (.string (txU xs A E).1) ∧ LrRow w' g ad n cap (txU xs A E).2.1 (txU xs A E).2.2 ∧ RdKeep g w w' := by
  have HR := Lib.hid hr
  have HL := Lib.hid hl
  have HU := Lib.hid (show txU xs A E = if E = 0 then tR xs A 24 else (emS, A, E) from rfl)
  have HT := Lib.hid (fun W (h : Lie W ad xs) => show Calls Tryd.prog 76 #[.slice ad n cap, .int .i64 A, .int .i64 24] W fun e w' => e = .returned (.tuple #[.string (tR xs A 24).1, .int .i64 (tR xs A 24).2.1, .int .i64 (tR xs A 24).2.2]) ∧ W = w' by subst hn; exact text_any ad cap xs A 24 W h hc (by omega) ha (by decide))
  clear hr hl hn ha
  generalize txU xs A E = U at *
  generalize tR xs A 24 = R at *
  obtain ⟨rs, rp, re⟩ := R
  dsimp only at HT HU
  obtain ⟨c0, c1, c2⟩ := HR.out.at_
  by_cases hE : E = 0
  rotate_left
  · have hE2 : (E != 0) = true := by simpa using hE
    have HF := Lib.hid (HU.out.trans (if_neg hE))
    clear hE
    go_enter Tryd.func59, Tryd.ntmps59
    go_wp2
    go_ret
    exact ⟨by rw [HF.out]; unfold emS; rfl, by rw [HF.out]; exact HR.out, ⟨Below.refl _ _, fun _ _ _ => rfl, Nat.le_refl _⟩⟩
  subst hE
  have HF := Lib.hid (HU.out.trans (if_pos rfl))
  go_enter Tryd.func59, Tryd.ntmps59
  go_wp2_with fail
  clear c0 c1 c2
  refine wp_region_noPanic ?_
  refine region_untl (by kernel_rfl) 18 ((fun X => X = w.drew)) (rfl) (fun hS0 => ?_)
  have HR0 : Hid (LrRow w.drew g ad n cap A 0) := Lib.hid HR.out
  have HL0 : Hid (Lie w.drew ad xs) := Lib.hid (HL.out.below (Below.refl _ _).drew rfl)
  have HK0 : Hid (RdKeep g w w.drew) := Lib.hid (drew_keep w)
  generalize World.drew w = X0 at *
  refine untl_take (i := 0) 0 (v := ?_) rfl (by kernel_rfl) (by kernel_rfl) (by kernel_rfl) (by kernel_rfl) (by kernel_rfl) (by rfl) (by rfl) (by rfl) (fun _ _ _ h => h) (by rfl) ?_ (by assumption) ?_
  rotate_left
  · intro X hSX
    try dsimp only at hSX
    go_simp <;> with_reducible rfl
  simp only [Act.put, List.setIfInBounds_toArray, List.set_cons_zero, List.set_cons_succ]
  refine untl_pure (i := 1) (v := ?_) rfl (by kernel_rfl) (by kernel_rfl) (by kernel_rfl) (by rfl) (fun _ _ _ h => h) (by rfl) ?_ (by assumption) ?_
  rotate_left
  · intro X
    go_simp <;> with_reducible rfl
  simp only [Act.put, List.setIfInBounds_toArray, List.set_cons_zero, List.set_cons_succ]
  refine untl_take (i := 2) 2 (v := ?_) rfl (by kernel_rfl) (by kernel_rfl) (by kernel_rfl) (by kernel_rfl) (by kernel_rfl) (by rfl) (by rfl) (by rfl) (fun _ _ _ h => h) (by rfl) ?_ (by assumption) ?_
  rotate_left
  · intro X hSX
    try dsimp only at hSX
    go_simp <;> with_reducible rfl
  simp only [Act.put, List.setIfInBounds_toArray, List.set_cons_zero, List.set_cons_succ]
  refine untl_take (i := 3) 3 (v := ?_) rfl (by kernel_rfl) (by kernel_rfl) (by kernel_rfl) (by kernel_rfl) (by kernel_rfl) (by rfl) (by rfl) (by rfl) (fun _ _ _ h => h) (by rfl) ?_ (by assumption) ?_
  rotate_left
  · intro X hSX
    try dsimp only at hSX
    go_simp <;> with_reducible rfl
  simp only [Act.put, List.setIfInBounds_toArray, List.set_cons_zero, List.set_cons_succ]
  refine untl_take (i := 4) 4 (v := ?_) rfl (by kernel_rfl) (by kernel_rfl) (by kernel_rfl) (by kernel_rfl) (by kernel_rfl) (by rfl) (by rfl) (by rfl) (fun _ _ _ h => h) (by rfl) ?_ (by assumption) ?_
  rotate_left
  · intro X hSX
    try dsimp only at hSX
    go_simp <;> with_reducible rfl
  simp only [Act.put, List.setIfInBounds_toArray, List.set_cons_zero, List.set_cons_succ]
  refine untl_take (i := 5) 5 (v := ?_) rfl (by kernel_rfl) (by kernel_rfl) (by kernel_rfl) (by kernel_rfl) (by kernel_rfl) (by rfl) (by rfl) (by rfl) (fun _ _ _ h => h) (by rfl) ?_ (by assumption) ?_
  rotate_left
  · intro X hSX
    try dsimp only at hSX
    subst hSX
    obtain ⟨c0, c1, c2⟩ := HR0.out.at_
    go_simp <;> with_reducible rfl
  simp only [Act.put, List.setIfInBounds_toArray, List.set_cons_zero, List.set_cons_succ]
  refine untl_take (i := 6) 6 (v := ?_) rfl (by kernel_rfl) (by kernel_rfl) (by kernel_rfl) (by kernel_rfl) (by kernel_rfl) (by rfl) (by rfl) (by rfl) (fun _ _ _ h => h) (by rfl) ?_ (by assumption) ?_
  rotate_left
  · intro X hSX
    try dsimp only at hSX
    go_simp <;> with_reducible rfl
  simp only [Act.put, List.setIfInBounds_toArray, List.set_cons_zero, List.set_cons_succ]
  refine untl_take (i := 7) 7 (v := ?_) rfl (by kernel_rfl) (by kernel_rfl) (by kernel_rfl) (by kernel_rfl) (by kernel_rfl) (by rfl) (by rfl) (by rfl) (fun _ _ _ h => h) (by rfl) ?_ (by assumption) ?_
  rotate_left
  · intro X hSX
    try dsimp only at hSX
    go_simp <;> with_reducible rfl
  simp only [Act.put, List.setIfInBounds_toArray, List.set_cons_zero, List.set_cons_succ]
  refine untl_take (i := 8) 8 (v := ?_) rfl (by kernel_rfl) (by kernel_rfl) (by kernel_rfl) (by kernel_rfl) (by kernel_rfl) (by rfl) (by rfl) (by rfl) (fun _ _ _ h => h) (by rfl) ?_ (by assumption) ?_
  rotate_left
  · intro X hSX
    try dsimp only at hSX
    go_simp <;> with_reducible rfl
  simp only [Act.put, List.setIfInBounds_toArray, List.set_cons_zero, List.set_cons_succ]
  refine untl_take (i := 9) 9 (v := ?_) rfl (by kernel_rfl) (by kernel_rfl) (by kernel_rfl) (by kernel_rfl) (by kernel_rfl) (by rfl) (by rfl) (by rfl) (fun _ _ _ h => h) (by rfl) ?_ (by assumption) ?_
  rotate_left
  · intro X hSX
    try dsimp only at hSX
    subst hSX
    obtain ⟨c0, c1, c2⟩ := HR0.out.at_
    go_simp <;> with_reducible rfl
  simp only [Act.put, List.setIfInBounds_toArray, List.set_cons_zero, List.set_cons_succ]
  refine untl_call (i := 10) rfl (by kernel_rfl) (by rfl) (fun K' hK' => ?_)
  go_simp
  refine (HT.out _ HL0.out).mono ?_
  rintro e w' ⟨rfl, rfl⟩
  refine untl_go hK' (fun _ => rfl) ?_
  try simp only [Act.put, List.setIfInBounds_toArray, List.set_cons_zero, List.set_cons_succ]
  refine untl_take (i := 11) 11 (v := ?_) rfl (by kernel_rfl) (by kernel_rfl) (by kernel_rfl) (by kernel_rfl) (by kernel_rfl) (by rfl) (by rfl) (by rfl) (fun _ _ _ h => h) (by rfl) ?_ (by assumption) ?_
  rotate_left
  · intro X hSX
    try dsimp only at hSX
    go_simp <;> with_reducible rfl
  simp only [Act.put, List.setIfInBounds_toArray, List.set_cons_zero, List.set_cons_succ]
  refine untl_take (i := 12) 12 (v := ?_) rfl (by kernel_rfl) (by kernel_rfl) (by kernel_rfl) (by kernel_rfl) (by kernel_rfl) (by rfl) (by rfl) (by rfl) (fun _ _ _ h => h) (by rfl) ?_ (by assumption) ?_
  rotate_left
  · intro X hSX
    try dsimp only at hSX
    go_simp <;> with_reducible rfl
  simp only [Act.put, List.setIfInBounds_toArray, List.set_cons_zero, List.set_cons_succ]
  refine untl_take (i := 13) 13 (v := ?_) rfl (by kernel_rfl) (by kernel_rfl) (by kernel_rfl) (by kernel_rfl) (by kernel_rfl) (by rfl) (by rfl) (by rfl) (fun _ _ _ h => h) (by rfl) ?_ (by assumption) ?_
  rotate_left
  · intro X hSX
    try dsimp only at hSX
    go_simp <;> with_reducible rfl
  simp only [Act.put, List.setIfInBounds_toArray, List.set_cons_zero, List.set_cons_succ]
  refine untl_pure (i := 14) (v := ?_) rfl (by kernel_rfl) (by kernel_rfl) (by kernel_rfl) (by rfl) (fun _ _ _ h => h) (by rfl) ?_ (by assumption) ?_
  rotate_left
  · intro X
    go_simp <;> with_reducible rfl
  simp only [Act.put, List.setIfInBounds_toArray, List.set_cons_zero, List.set_cons_succ]
  refine untl_take (i := 15) 15 (v := ?_) rfl (by kernel_rfl) (by kernel_rfl) (by kernel_rfl) (by kernel_rfl) (by kernel_rfl) (by rfl) (by rfl) (by rfl) (fun _ _ _ h => h) (by rfl) ?_ (by assumption) ?_
  rotate_left
  · intro X hSX
    try dsimp only at hSX
    go_simp <;> with_reducible rfl
  simp only [Act.put, List.setIfInBounds_toArray, List.set_cons_zero, List.set_cons_succ]
  refine untl_take (i := 16) 17 (v := ?_) rfl (by kernel_rfl) (by kernel_rfl) (by kernel_rfl) (by kernel_rfl) (by kernel_rfl) (by rfl) (by rfl) (by rfl) (fun _ _ _ h => h) (by rfl) ?_ (by assumption) ?_
  rotate_left
  · intro X hSX
    try dsimp only at hSX
    go_simp <;> with_reducible rfl
  simp only [Act.put, List.setIfInBounds_toArray, List.set_cons_zero, List.set_cons_succ]
  refine untl_take (i := 17) 17 (v := ?_) rfl (by kernel_rfl) (by kernel_rfl) (by kernel_rfl) (by kernel_rfl) (by kernel_rfl) (by rfl) (by rfl) (by rfl) (fun _ _ _ h => h) (by rfl) ?_ (by assumption) ?_
  rotate_left
  · intro X hSX
    try dsimp only at hSX
    go_simp <;> with_reducible rfl
  simp only [Act.put, List.setIfInBounds_toArray, List.set_cons_zero, List.set_cons_succ]
  obtain ⟨c0, c1, c2⟩ := HR0.out.at_
  have f1 := HR0.out.frozen 1
  have HR1 := Lib.hid (HR0.out.setA rp)
  have HK1 := Lib.hid (HK0.out.set 1 (.int .i64 rp))
  refine untl_call (i := 18) rfl (by kernel_rfl) (by rfl) (fun K' hK' => ?_)
  go_simp
  clear c0 c1 c2 f1
  refine untl_go hK' (fun h => by cases h) ?_
  try simp only [Act.put, List.setIfInBounds_toArray, List.set_cons_zero, List.set_cons_succ]
  refine untl_past _ _ _ _ (by rfl) ?_
  have hS0 : True := trivial
  refine held_take (i := 19) (v := ?_) rfl (by kernel_rfl) (by kernel_rfl) (by kernel_rfl) (fun _ _ _ h => h) (by rfl) ?_ (by assumption) ?_
  rotate_left
  · intro X hSX
    try dsimp only at hSX
    go_simp <;> with_reducible rfl
  simp only [Act.put, List.setIfInBounds_toArray, List.set_cons_zero, List.set_cons_succ]
  refine held_take (i := 20) (v := ?_) rfl (by kernel_rfl) (by kernel_rfl) (by kernel_rfl) (fun _ _ _ h => h) (by rfl) ?_ (by assumption) ?_
  rotate_left
  · intro X hSX
    try dsimp only at hSX
    go_simp <;> with_reducible rfl
  simp only [Act.put, List.setIfInBounds_toArray, List.set_cons_zero, List.set_cons_succ]
  obtain ⟨c0, c1, c2⟩ := HR1.out.at_
  have f2 := HR1.out.frozen 2
  have HR2 := Lib.hid (HR1.out.setE re)
  have HK2 := Lib.hid (HK1.out.set 2 (.int .i64 re))
  refine held_call (i := 21) rfl (by kernel_rfl) (by rfl) (fun K' hK' => ?_)
  go_simp
  clear c0 c1 c2 f2
  refine held_go hK' (trivial) ?_
  try simp only [Act.put, List.setIfInBounds_toArray, List.set_cons_zero, List.set_cons_succ]
  refine wpAnyH_done (by kernel_rfl) ?_ _
  refine NoPanic.normal ?_
  go_wp2_with fail
  go_ret
  exact ⟨by rw [HF.out]; rfl, by rw [HF.out]; exact HR2.out, HK2.out⟩
set_option maxRecDepth 100000 in
set_option maxHeartbeats 4000000 in
theorem rnm_any (g : Nat) (ad : Option Addr) (n cap : Nat) (xs : List UInt8) (A E : Int) (w : World) (hr : LrRow w g ad n cap A E) (hl : Lie w ad xs) (hn : n = xs.length) (hc : n ≤ cap) (hs : n ≤ 1000000) (ha : ad = none → cap = 0) :
    Calls Tryd.prog 60 #[.pointer (some ⟨g, 0, none⟩)] w fun e w' =>
      e = .returned (.int .i64 (nmU xs A E).1) ∧ LrRow w' g ad n cap (nmU xs A E).2.1 (nmU xs A E).2.2 ∧ RdKeep g w w' := by
  have HR := Lib.hid hr
  have HL := Lib.hid hl
  have HU := Lib.hid (show nmU xs A E = if E = 0 then iR xs A else (0, A, E) from rfl)
  have HT := Lib.hid (fun W (h : Lie W ad xs) => show Calls Tryd.prog 77 #[.slice ad n cap, .int .i64 A] W fun e w' => e = .returned (.tuple #[.int .i64 (iR xs A).1, .int .i64 (iR xs A).2.1, .int .i64 (iR xs A).2.2]) ∧ W = w' by subst hn; exact int_any ad cap xs A W h hc (by omega) ha)
  clear hr hl hn ha
  generalize nmU xs A E = U at *
  generalize iR xs A = R at *
  obtain ⟨rs, rp, re⟩ := R
  dsimp only at HT HU
  obtain ⟨c0, c1, c2⟩ := HR.out.at_
  by_cases hE : E = 0
  rotate_left
  · have hE2 : (E != 0) = true := by simpa using hE
    have HF := Lib.hid (HU.out.trans (if_neg hE))
    clear hE
    go_enter Tryd.func60, Tryd.ntmps60
    go_wp2
    go_ret
    exact ⟨by rw [HF.out]; rfl, by rw [HF.out]; exact HR.out, ⟨Below.refl _ _, fun _ _ _ => rfl, Nat.le_refl _⟩⟩
  subst hE
  have HF := Lib.hid (HU.out.trans (if_pos rfl))
  go_enter Tryd.func60, Tryd.ntmps60
  go_wp2_with fail
  clear c0 c1 c2
  refine wp_region_noPanic ?_
  refine region_untl (by kernel_rfl) 18 ((fun X => X = w.drew)) (rfl) (fun hS0 => ?_)
  have HR0 : Hid (LrRow w.drew g ad n cap A 0) := Lib.hid HR.out
  have HL0 : Hid (Lie w.drew ad xs) := Lib.hid (HL.out.below (Below.refl _ _).drew rfl)
  have HK0 : Hid (RdKeep g w w.drew) := Lib.hid (drew_keep w)
  generalize World.drew w = X0 at *
  refine untl_take (i := 0) 0 (v := ?_) rfl (by kernel_rfl) (by kernel_rfl) (by kernel_rfl) (by kernel_rfl) (by kernel_rfl) (by rfl) (by rfl) (by rfl) (fun _ _ _ h => h) (by rfl) ?_ (by assumption) ?_
  rotate_left
  · intro X hSX
    try dsimp only at hSX
    go_simp <;> with_reducible rfl
  simp only [Act.put, List.setIfInBounds_toArray, List.set_cons_zero, List.set_cons_succ]
  refine untl_pure (i := 1) (v := ?_) rfl (by kernel_rfl) (by kernel_rfl) (by kernel_rfl) (by rfl) (fun _ _ _ h => h) (by rfl) ?_ (by assumption) ?_
  rotate_left
  · intro X
    go_simp <;> with_reducible rfl
  simp only [Act.put, List.setIfInBounds_toArray, List.set_cons_zero, List.set_cons_succ]
  refine untl_take (i := 2) 2 (v := ?_) rfl (by kernel_rfl) (by kernel_rfl) (by kernel_rfl) (by kernel_rfl) (by kernel_rfl) (by rfl) (by rfl) (by rfl) (fun _ _ _ h => h) (by rfl) ?_ (by assumption) ?_
  rotate_left
  · intro X hSX
    try dsimp only at hSX
    go_simp <;> with_reducible rfl
  simp only [Act.put, List.setIfInBounds_toArray, List.set_cons_zero, List.set_cons_succ]
  refine untl_take (i := 3) 3 (v := ?_) rfl (by kernel_rfl) (by kernel_rfl) (by kernel_rfl) (by kernel_rfl) (by kernel_rfl) (by rfl) (by rfl) (by rfl) (fun _ _ _ h => h) (by rfl) ?_ (by assumption) ?_
  rotate_left
  · intro X hSX
    try dsimp only at hSX
    go_simp <;> with_reducible rfl
  simp only [Act.put, List.setIfInBounds_toArray, List.set_cons_zero, List.set_cons_succ]
  refine untl_take (i := 4) 4 (v := ?_) rfl (by kernel_rfl) (by kernel_rfl) (by kernel_rfl) (by kernel_rfl) (by kernel_rfl) (by rfl) (by rfl) (by rfl) (fun _ _ _ h => h) (by rfl) ?_ (by assumption) ?_
  rotate_left
  · intro X hSX
    try dsimp only at hSX
    go_simp <;> with_reducible rfl
  simp only [Act.put, List.setIfInBounds_toArray, List.set_cons_zero, List.set_cons_succ]
  refine untl_take (i := 5) 5 (v := ?_) rfl (by kernel_rfl) (by kernel_rfl) (by kernel_rfl) (by kernel_rfl) (by kernel_rfl) (by rfl) (by rfl) (by rfl) (fun _ _ _ h => h) (by rfl) ?_ (by assumption) ?_
  rotate_left
  · intro X hSX
    try dsimp only at hSX
    subst hSX
    obtain ⟨c0, c1, c2⟩ := HR0.out.at_
    go_simp <;> with_reducible rfl
  simp only [Act.put, List.setIfInBounds_toArray, List.set_cons_zero, List.set_cons_succ]
  refine untl_take (i := 6) 6 (v := ?_) rfl (by kernel_rfl) (by kernel_rfl) (by kernel_rfl) (by kernel_rfl) (by kernel_rfl) (by rfl) (by rfl) (by rfl) (fun _ _ _ h => h) (by rfl) ?_ (by assumption) ?_
  rotate_left
  · intro X hSX
    try dsimp only at hSX
    go_simp <;> with_reducible rfl
  simp only [Act.put, List.setIfInBounds_toArray, List.set_cons_zero, List.set_cons_succ]
  refine untl_take (i := 7) 7 (v := ?_) rfl (by kernel_rfl) (by kernel_rfl) (by kernel_rfl) (by kernel_rfl) (by kernel_rfl) (by rfl) (by rfl) (by rfl) (fun _ _ _ h => h) (by rfl) ?_ (by assumption) ?_
  rotate_left
  · intro X hSX
    try dsimp only at hSX
    go_simp <;> with_reducible rfl
  simp only [Act.put, List.setIfInBounds_toArray, List.set_cons_zero, List.set_cons_succ]
  refine untl_take (i := 8) 8 (v := ?_) rfl (by kernel_rfl) (by kernel_rfl) (by kernel_rfl) (by kernel_rfl) (by kernel_rfl) (by rfl) (by rfl) (by rfl) (fun _ _ _ h => h) (by rfl) ?_ (by assumption) ?_
  rotate_left
  · intro X hSX
    try dsimp only at hSX
    go_simp <;> with_reducible rfl
  simp only [Act.put, List.setIfInBounds_toArray, List.set_cons_zero, List.set_cons_succ]
  refine untl_take (i := 9) 9 (v := ?_) rfl (by kernel_rfl) (by kernel_rfl) (by kernel_rfl) (by kernel_rfl) (by kernel_rfl) (by rfl) (by rfl) (by rfl) (fun _ _ _ h => h) (by rfl) ?_ (by assumption) ?_
  rotate_left
  · intro X hSX
    try dsimp only at hSX
    subst hSX
    obtain ⟨c0, c1, c2⟩ := HR0.out.at_
    go_simp <;> with_reducible rfl
  simp only [Act.put, List.setIfInBounds_toArray, List.set_cons_zero, List.set_cons_succ]
  refine untl_call (i := 10) rfl (by kernel_rfl) (by rfl) (fun K' hK' => ?_)
  go_simp
  refine (HT.out _ HL0.out).mono ?_
  rintro e w' ⟨rfl, rfl⟩
  refine untl_go hK' (fun _ => rfl) ?_
  try simp only [Act.put, List.setIfInBounds_toArray, List.set_cons_zero, List.set_cons_succ]
  refine untl_take (i := 11) 11 (v := ?_) rfl (by kernel_rfl) (by kernel_rfl) (by kernel_rfl) (by kernel_rfl) (by kernel_rfl) (by rfl) (by rfl) (by rfl) (fun _ _ _ h => h) (by rfl) ?_ (by assumption) ?_
  rotate_left
  · intro X hSX
    try dsimp only at hSX
    go_simp <;> with_reducible rfl
  simp only [Act.put, List.setIfInBounds_toArray, List.set_cons_zero, List.set_cons_succ]
  refine untl_take (i := 12) 12 (v := ?_) rfl (by kernel_rfl) (by kernel_rfl) (by kernel_rfl) (by kernel_rfl) (by kernel_rfl) (by rfl) (by rfl) (by rfl) (fun _ _ _ h => h) (by rfl) ?_ (by assumption) ?_
  rotate_left
  · intro X hSX
    try dsimp only at hSX
    go_simp <;> with_reducible rfl
  simp only [Act.put, List.setIfInBounds_toArray, List.set_cons_zero, List.set_cons_succ]
  refine untl_take (i := 13) 13 (v := ?_) rfl (by kernel_rfl) (by kernel_rfl) (by kernel_rfl) (by kernel_rfl) (by kernel_rfl) (by rfl) (by rfl) (by rfl) (fun _ _ _ h => h) (by rfl) ?_ (by assumption) ?_
  rotate_left
  · intro X hSX
    try dsimp only at hSX
    go_simp <;> with_reducible rfl
  simp only [Act.put, List.setIfInBounds_toArray, List.set_cons_zero, List.set_cons_succ]
  refine untl_pure (i := 14) (v := ?_) rfl (by kernel_rfl) (by kernel_rfl) (by kernel_rfl) (by rfl) (fun _ _ _ h => h) (by rfl) ?_ (by assumption) ?_
  rotate_left
  · intro X
    go_simp <;> with_reducible rfl
  simp only [Act.put, List.setIfInBounds_toArray, List.set_cons_zero, List.set_cons_succ]
  refine untl_take (i := 15) 15 (v := ?_) rfl (by kernel_rfl) (by kernel_rfl) (by kernel_rfl) (by kernel_rfl) (by kernel_rfl) (by rfl) (by rfl) (by rfl) (fun _ _ _ h => h) (by rfl) ?_ (by assumption) ?_
  rotate_left
  · intro X hSX
    try dsimp only at hSX
    go_simp <;> with_reducible rfl
  simp only [Act.put, List.setIfInBounds_toArray, List.set_cons_zero, List.set_cons_succ]
  refine untl_take (i := 16) 17 (v := ?_) rfl (by kernel_rfl) (by kernel_rfl) (by kernel_rfl) (by kernel_rfl) (by kernel_rfl) (by rfl) (by rfl) (by rfl) (fun _ _ _ h => h) (by rfl) ?_ (by assumption) ?_
  rotate_left
  · intro X hSX
    try dsimp only at hSX
    go_simp <;> with_reducible rfl
  simp only [Act.put, List.setIfInBounds_toArray, List.set_cons_zero, List.set_cons_succ]
  refine untl_take (i := 17) 17 (v := ?_) rfl (by kernel_rfl) (by kernel_rfl) (by kernel_rfl) (by kernel_rfl) (by kernel_rfl) (by rfl) (by rfl) (by rfl) (fun _ _ _ h => h) (by rfl) ?_ (by assumption) ?_
  rotate_left
  · intro X hSX
    try dsimp only at hSX
    go_simp <;> with_reducible rfl
  simp only [Act.put, List.setIfInBounds_toArray, List.set_cons_zero, List.set_cons_succ]
  obtain ⟨c0, c1, c2⟩ := HR0.out.at_
  have f1 := HR0.out.frozen 1
  have HR1 := Lib.hid (HR0.out.setA rp)
  have HK1 := Lib.hid (HK0.out.set 1 (.int .i64 rp))
  refine untl_call (i := 18) rfl (by kernel_rfl) (by rfl) (fun K' hK' => ?_)
  go_simp
  clear c0 c1 c2 f1
  refine untl_go hK' (fun h => by cases h) ?_
  try simp only [Act.put, List.setIfInBounds_toArray, List.set_cons_zero, List.set_cons_succ]
  refine untl_past _ _ _ _ (by rfl) ?_
  have hS0 : True := trivial
  refine held_take (i := 19) (v := ?_) rfl (by kernel_rfl) (by kernel_rfl) (by kernel_rfl) (fun _ _ _ h => h) (by rfl) ?_ (by assumption) ?_
  rotate_left
  · intro X hSX
    try dsimp only at hSX
    go_simp <;> with_reducible rfl
  simp only [Act.put, List.setIfInBounds_toArray, List.set_cons_zero, List.set_cons_succ]
  refine held_take (i := 20) (v := ?_) rfl (by kernel_rfl) (by kernel_rfl) (by kernel_rfl) (fun _ _ _ h => h) (by rfl) ?_ (by assumption) ?_
  rotate_left
  · intro X hSX
    try dsimp only at hSX
    go_simp <;> with_reducible rfl
  simp only [Act.put, List.setIfInBounds_toArray, List.set_cons_zero, List.set_cons_succ]
  obtain ⟨c0, c1, c2⟩ := HR1.out.at_
  have f2 := HR1.out.frozen 2
  have HR2 := Lib.hid (HR1.out.setE re)
  have HK2 := Lib.hid (HK1.out.set 2 (.int .i64 re))
  refine held_call (i := 21) rfl (by kernel_rfl) (by rfl) (fun K' hK' => ?_)
  go_simp
  clear c0 c1 c2 f2
  refine held_go hK' (trivial) ?_
  try simp only [Act.put, List.setIfInBounds_toArray, List.set_cons_zero, List.set_cons_succ]
  refine wpAnyH_done (by kernel_rfl) ?_ _
  refine NoPanic.normal ?_
  go_wp2_with fail
  go_ret
  exact ⟨by rw [HF.out]; rfl, by rw [HF.out]; exact HR2.out, HK2.out⟩
end Go.Proofs.YtjmlidejbddoeaaDoor
