/-
  Loads of a region that draws, taken first although a later operation of the region writes what they read: the condition on the world is asked until that operation (number st) comes up, which waits for them.
-/
import Derived.Test.YtpjegenobadckaaNHeld
namespace Go.Proofs.Ytpjegenobadckaa
open Go.RowKit
set_option linter.unusedVariables false
section
variable {P : Program} {md : Region.Mode} {ops : Array Oper} {Q : Exit → Act → World → Prop} {st : Nat} {S : World → Prop}
/-- whatever comes up, S holds behind it as long as number st has not come up -/
def untl (P : Program) (md : Region.Mode) (ops : Array Oper) (Q : Exit → Act → World → Prop) (st : Nat) (S : World → Prop) : Nat → Array Bool → Act → World → Prop
  | 0, l, a, w => Region.ready md ops l = [] ∧ Q .normal a w
  | n + 1, l, a, w => (Region.ready md ops l = [] → Q .normal a w) ∧ ∀ i ∈ Region.ready md ops l, wpOp P ops Q i (fun a' w' => ((l.setIfInBounds i true).getD st true = false → S w') ∧ untl P md ops Q st S n (l.setIfInBounds i true) a' w') a w
theorem untl_any : ∀ (n : Nat) (l : Array Bool) (a : Act) (w : World), untl P md ops Q st S n l a w → wpAny P md ops Q n l a w
  | 0, _, _, _, h => h
  | n + 1, _, _, _, h => ⟨h.1, fun i hi => wpOp_mono (fun a' w' h' => untl_any n _ a' w' h'.2) (h.2 i hi)⟩
theorem getD_set_self {l : Array Bool} {i j : Nat} (h : l.getD j true = true) : (l.setIfInBounds i true).getD j true = true := by
  by_cases hij : i = j
  · subst hij
    rcases Nat.lt_or_ge i l.size with h' | h'
    · simp [h']
    · simp [Array.getElem?_eq_none (show (l.setIfInBounds i true).size ≤ i by simpa using h')]
  · rw [getD_set_ne true hij]; exact h
/-- behind number st nothing is asked any more -/
theorem untl_past : ∀ (n : Nat) (l : Array Bool) (a : Act) (w : World), l.getD st true = true → wpAnyH P md ops Q (fun _ => True) n l a w → untl P md ops Q st S n l a w
  | 0, _, _, _, _, h => h
  | n + 1, l, _, _, hl, h => ⟨h.1, fun i hi => wpOp_mono (fun a' w' h' => ⟨fun hf => (by rw [getD_set_self hl] at hf; cases hf), untl_past n _ a' w' (getD_set_self hl) h'.2⟩) (h.2 i hi)⟩
/-- number k waits for number i -/
def waits (md : Region.Mode) (ops : Array Oper) (k i : Nat) : Bool := match ops[k]? with | some o => o.after.any fun e => Region.binds md e && e.on == i | none => false
theorem waits_not {k i : Nat} (h : waits md ops k i = true) {l : Array Bool} (hl : l.getD i true = false) : k ∉ Region.ready md ops l := by
  intro hk
  obtain ⟨_, o, ho, hall⟩ := mem_ready.1 hk
  unfold waits at h
  rw [ho] at h
  obtain ⟨e, he, hb⟩ := Array.any_eq_true'.1 h
  rw [Bool.and_eq_true, beq_iff_eq] at hb
  have h1 := hall e he hb.1
  rw [hb.2] at h1
  rcases Nat.lt_or_ge i l.size with h' | h'
  · simp [h'] at hl h1; rw [hl] at h1; cases h1
  · simp [Array.getElem?_eq_none h'] at hl
/-- number i is taken first: number st waits for j, and j for i (or i is j) -/
theorem untl_first {i j : Nat} {oi : Oper} {v : Value} (hi : ops[i]? = some oi) (hsel : ∀ (k : Nat) (o : Oper) cs b, ops[k]? = some o → o.op ≠ .select cs b)
    (hQ : ∀ c a w, Q (.panic c) (a.put oi.dst v) w → Q (.panic c) a w) (hj : waits md ops st j = true) (hji : j = i ∨ waits md ops j i = true) (his : i ≠ st) :
    ∀ (n : Nat) (l : Array Bool) (a : Act) (w : World),
      (∀ k ok, ops[k]? = some ok → k ≠ i → l.getD k true = false → (∀ e ∈ ok.after, Region.binds md e = true → e.on ≠ i) → oi.apart ops ok = true) →
      i ∈ Region.ready md ops l → YieldsIf P ops S oi v a → S w → l.getD st true = false → l.getD j true = false →
      untl P md ops Q st S n (l.setIfInBounds i true) (a.put oi.dst v) w → untl P md ops Q st S (n + 1) l a w := by
  intro n
  induction n with
  | zero =>
    intro l a w hfree hr hy hS hst hlj H
    refine ⟨fun h => (by rw [h] at hr; cases hr), fun k hk => ?_⟩
    by_cases hki : k = i
    · subst hki; exact hy.wpOp hi hS ⟨fun _ => hS, H⟩
    · have := ready_mono hk hki
      rw [H.1] at this
      cases this
  | succ n ih =>
    intro l a w hfree hr hy hS hst hlj H
    have hli : l.getD i true = false := (mem_ready.1 hr).1
    refine ⟨fun h => (by rw [h] at hr; cases hr), fun k hk => ?_⟩
    by_cases hki : k = i
    · subst hki; exact hy.wpOp hi hS ⟨fun _ => hS, H⟩
    · have hks : st ≠ k := fun e => waits_not hj hlj (e ▸ hk)
      have hkj : k ≠ j := fun e => by
        rcases hji with h | h
        · exact hki (e.trans h)
        · exact waits_not h hli (e ▸ hk)
      obtain ⟨hkun, ok, hok, hall⟩ := mem_ready.1 hk
      have hnot : ∀ e ∈ ok.after, Region.binds md e = true → e.on ≠ i := fun e he hb heq => by
        have h1 := hall e he hb
        rw [heq] at h1
        rcases Nat.lt_or_ge i l.size with h' | h'
        · simp [h'] at hli h1; rw [hli] at h1; cases h1
        · simp [Array.getElem?_eq_none h'] at h1
      have h2 := wpOp_putIf hok (hfree k ok hok hki hkun hnot) (fun cs b => hsel i oi cs b hi) (fun cs b => hsel k ok cs b hok) hQ hy (H.2 k (ready_mono hk hki))
      refine wpOp_mono (fun a' w' h3 => ?_) h2
      have hS' : S w' := h3.2.1 (by rw [getD_set_ne true (Ne.symm hks), getD_set_ne true his]; exact hst)
      refine ⟨fun _ => hS', ih (l.setIfInBounds k true) a' w' (fun q oq hq hqi hun hno => hfree q oq hq hqi ?_ hno) (ready_mono hr (Ne.symm hki)) h3.1 hS' ?_ ?_ ?_⟩
      · by_cases hkq : k = q
        · subst hkq; exact hkun
        · rw [getD_set_ne true hkq] at hun; exact hun
      · rw [getD_set_ne true (Ne.symm hks)]; exact hst
      · rw [getD_set_ne true hkj]; exact hlj
      · rw [Array.setIfInBounds_comm _ _ hki]; exact h3.2.2
theorem untl_take {l : List Oper} {i : Nat} (j : Nat) {oi : Oper} {v : Value} {n : Nat} {listed : Array Bool} {a : Act} {w : World} (hi : l[i]? = some oi)
    (hs : Region.noSelect l.toArray = true) (hf : Region.free md l.toArray listed i = true) (hr : (Region.ready md l.toArray listed).contains i = true)
    (hj : waits md l.toArray st j = true) (hji : (j == i || waits md l.toArray j i) = true) (his : (i == st) = false) (hst : listed.getD st true = false) (hlj : listed.getD j true = false)
    (hQ : ∀ c a w, Q (.panic c) (a.put oi.dst v) w → Q (.panic c) a w) (hw : Region.wanted oi (yielded l.toArray a.tmps) = true)
    (hy : ∀ w, S w → (execOp a.eval oi).run P w = .ok (.value v) w) (hS : S w)
    (h : untl P md l.toArray Q st S n (listed.setIfInBounds i true) (a.put oi.dst v) w) : untl P md l.toArray Q st S (n + 1) listed a w :=
  untl_first (i := i) (j := j) (oi := oi) (v := v) (by rw [List.getElem?_toArray]; exact hi) (Region.noSelect_spec hs) hQ hj (by simpa using hji) (by simpa using his) n listed a w (Region.free_spec (by rw [List.getElem?_toArray]; exact hi) hf) (by simpa using hr) (.inl ⟨hw, hy⟩) hS hst hlj h
/-- what depends on no world is taken first, whatever else comes up -/
theorem untl_pure_first {i : Nat} {oi : Oper} {v : Value} (hi : ops[i]? = some oi) (hsel : ∀ (k : Nat) (o : Oper) cs b, ops[k]? = some o → o.op ≠ .select cs b)
    (hQ : ∀ c a w, Q (.panic c) (a.put oi.dst v) w → Q (.panic c) a w) (his : i ≠ st) :
    ∀ (n : Nat) (l : Array Bool) (a : Act) (w : World),
      (∀ k ok, ops[k]? = some ok → k ≠ i → l.getD k true = false → (∀ e ∈ ok.after, Region.binds md e = true → e.on ≠ i) → oi.apart ops ok = true) →
      i ∈ Region.ready md ops l → YieldsIf P ops (fun _ => True) oi v a → (l.getD st true = false → S w) →
      untl P md ops Q st S n (l.setIfInBounds i true) (a.put oi.dst v) w → untl P md ops Q st S (n + 1) l a w := by
  intro n
  induction n with
  | zero =>
    intro l a w hfree hr hy hS H
    refine ⟨fun h => (by rw [h] at hr; cases hr), fun k hk => ?_⟩
    by_cases hki : k = i
    · subst hki; exact hy.wpOp hi trivial ⟨fun h => hS (by rwa [getD_set_ne true his] at h), H⟩
    · have := ready_mono hk hki
      rw [H.1] at this
      cases this
  | succ n ih =>
    intro l a w hfree hr hy hS H
    have hli : l.getD i true = false := (mem_ready.1 hr).1
    refine ⟨fun h => (by rw [h] at hr; cases hr), fun k hk => ?_⟩
    by_cases hki : k = i
    · subst hki; exact hy.wpOp hi trivial ⟨fun h => hS (by rwa [getD_set_ne true his] at h), H⟩
    · obtain ⟨hkun, ok, hok, hall⟩ := mem_ready.1 hk
      have hnot : ∀ e ∈ ok.after, Region.binds md e = true → e.on ≠ i := fun e he hb heq => by
        have h1 := hall e he hb
        rw [heq] at h1
        rcases Nat.lt_or_ge i l.size with h' | h'
        · simp [h'] at hli h1; rw [hli] at h1; cases h1
        · simp [Array.getElem?_eq_none h'] at h1
      have h2 := wpOp_putIf hok (hfree k ok hok hki hkun hnot) (fun cs b => hsel i oi cs b hi) (fun cs b => hsel k ok cs b hok) hQ hy (H.2 k (ready_mono hk hki))
      refine wpOp_mono (fun a' w' h3 => ?_) h2
      have hS' : (l.setIfInBounds k true).getD st true = false → S w' := fun h => h3.2.1 (by rw [Array.setIfInBounds_comm _ _ (Ne.symm hki), getD_set_ne true his]; exact h)
      refine ⟨hS', ih (l.setIfInBounds k true) a' w' (fun q oq hq hqi hun hno => hfree q oq hq hqi ?_ hno) (ready_mono hr (Ne.symm hki)) h3.1 hS' ?_⟩
      · by_cases hkq : k = q
        · subst hkq; exact hkun
        · rw [getD_set_ne true hkq] at hun; exact hun
      · rw [Array.setIfInBounds_comm _ _ hki]; exact h3.2.2
theorem untl_pure {l : List Oper} {i : Nat} {oi : Oper} {v : Value} {n : Nat} {listed : Array Bool} {a : Act} {w : World} (hi : l[i]? = some oi)
    (hs : Region.noSelect l.toArray = true) (hf : Region.free md l.toArray listed i = true) (hr : (Region.ready md l.toArray listed).contains i = true)
    (his : (i == st) = false) (hQ : ∀ c a w, Q (.panic c) (a.put oi.dst v) w → Q (.panic c) a w) (hw : Region.wanted oi (yielded l.toArray a.tmps) = true)
    (hy : ∀ w, (execOp a.eval oi).run P w = .ok (.value v) w) (hS : S w)
    (h : untl P md l.toArray Q st S n (listed.setIfInBounds i true) (a.put oi.dst v) w) : untl P md l.toArray Q st S (n + 1) listed a w :=
  untl_pure_first (i := i) (oi := oi) (v := v) (by rw [List.getElem?_toArray]; exact hi) (Region.noSelect_spec hs) hQ (by simpa using his) n listed a w (Region.free_spec (by rw [List.getElem?_toArray]; exact hi) hf) (by simpa using hr) (.inl ⟨hw, fun w _ => hy w⟩) (fun _ => hS) h
theorem untl_call {l : List Oper} {i : Nat} {oi : Oper} {n : Nat} {listed : Array Bool} {a : Act} {w : World} (hi : l[i]? = some oi)
    (hr : Region.ready md l.toArray listed = [i]) (hw : Region.wanted oi (yielded l.toArray a.tmps) = true)
    (h : ∀ K' : Act → World → Prop, Shut (∀ a w, ((listed.setIfInBounds i true).getD st true = false → S w) → untl P md l.toArray Q st S n (listed.setIfInBounds i true) a w → K' a w) → Oper.wp P oi a w K' Q) :
    untl P md l.toArray Q st S (n + 1) listed a w := by
  refine ⟨fun h0 => (by rw [hr] at h0; cases h0), fun k hk => ?_⟩
  rw [hr] at hk
  obtain rfl : k = i := by simpa using hk
  exact wpOp_step (by rw [List.getElem?_toArray]; exact hi) (fun K' hK => by
    rw [if_pos hw]
    exact h K' (fun a w hS hU => hK a w ⟨hS, hU⟩))
theorem untl_go {n : Nat} {listed : Array Bool} {K' : Act → World → Prop} {a : Act} {w : World}
    (hK : Shut (∀ a w, (listed.getD st true = false → S w) → untl P md ops Q st S n listed a w → K' a w)) (hS : listed.getD st true = false → S w) (h : untl P md ops Q st S n listed a w) : K' a w := hK.out a w hS h
theorem region_untl {id : Nat} {a : Act} {w : World} (hm : P.follows .mixedOrders = true) (st : Nat) (S : World → Prop) (hS : S w.drew)
    (h : S w.drew → untl P .any ops Q st S ops.size (Array.replicate ops.size false) a w.drew) : (Code.region id ops true).wp P Q a w :=
  wp_region_any hm (untl_any _ _ _ _ (h hS))
end
end Go.Proofs.Ytpjegenobadckaa
