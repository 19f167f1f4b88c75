/-
  Pack, as plain mathematics: its tokens; what they stand for, how many bytes they have.
-/
import Derived.Test.YtihiccccpjakgaaZHist
import Derived.Test.YtihiccccpjakgaaKLz
namespace Go.Proofs.Ytihiccccpjakgaa
open Go.RowKit
set_option linter.unusedVariables false
set_option linter.unusedSimpArgs false
attribute [local irreducible] kyA
/-- one more earlier position -/
def lngS (xs : List UInt8) (at_ : Nat) (sd : Nat × Nat) (p : Nat) : Nat × Nat := if sd.1 ≤ lcp (xs.drop p) (xs.drop at_) then (lcp (xs.drop p) (xs.drop at_), at_ - p) else sd
/-- the earlier positions that are tried -/
def tried (xs : List UInt8) (at_ : Nat) : List Nat := (hist xs at_ (kyA xs at_)).drop ((hist xs at_ (kyA xs at_)).length - 32)
def lng (xs : List UInt8) (at_ : Nat) : Nat × Nat := (tried xs at_).foldl (lngS xs at_) (0, 0)
theorem mem_tried {xs : List UInt8} {at_ p : Nat} (h : p ∈ tried xs at_) : p < at_ := (mem_hist.1 (List.mem_of_mem_drop h)).1
theorem lngS_snoc (xs : List UInt8) (at_ : Nat) (l : List Nat) (p : Nat) : (l ++ [p]).foldl (lngS xs at_) (0, 0) = lngS xs at_ (l.foldl (lngS xs at_) (0, 0)) p := by rw [List.foldl_append]; rfl
/-- what was found is a copy of what came before -/
theorem lng_copy (xs : List UInt8) (at_ : Nat) (l : List Nat) (hl : ∀ p ∈ l, p < at_) :
    (l.foldl (lngS xs at_) (0, 0)).1 = 0 ∨ ∃ p, p < at_ ∧ (l.foldl (lngS xs at_) (0, 0)).2 = at_ - p ∧ (l.foldl (lngS xs at_) (0, 0)).1 = lcp (xs.drop p) (xs.drop at_) := by
  have aux : ∀ (l : List Nat) (sd : Nat × Nat), (∀ p ∈ l, p < at_) → (sd.1 = 0 ∨ ∃ p, p < at_ ∧ sd.2 = at_ - p ∧ sd.1 = lcp (xs.drop p) (xs.drop at_)) →
      ((l.foldl (lngS xs at_) sd).1 = 0 ∨ ∃ p, p < at_ ∧ (l.foldl (lngS xs at_) sd).2 = at_ - p ∧ (l.foldl (lngS xs at_) sd).1 = lcp (xs.drop p) (xs.drop at_)) := by
    intro l
    induction l with
    | nil => intro sd _ h; exact h
    | cons q l ih =>
      intro sd hm h
      rw [List.foldl_cons]
      refine ih _ (fun p hp => hm p (List.mem_cons_of_mem _ hp)) ?_
      unfold lngS
      split
      · exact .inr ⟨q, hm q (List.mem_cons_self ..), rfl, rfl⟩
      · exact h
  exact aux l (0, 0) hl (.inl rfl)
theorem lng_le (xs : List UInt8) (at_ : Nat) : (lng xs at_).1 ≤ xs.length - at_ ∧ (lng xs at_).2 ≤ at_ := by
  have h2 : (lng xs at_).2 ≤ at_ := by
    have aux : ∀ (l : List Nat) (sd : Nat × Nat), sd.2 ≤ at_ → (l.foldl (lngS xs at_) sd).2 ≤ at_ := by
      intro l
      induction l with
      | nil => intro sd h; exact h
      | cons q l ih =>
        intro sd h
        rw [List.foldl_cons]
        refine ih _ ?_
        unfold lngS
        split
        · exact Nat.sub_le _ _
        · exact h
    exact aux _ _ (Nat.zero_le _)
  refine ⟨?_, h2⟩
  rcases lng_copy xs at_ (tried xs at_) (fun p h => mem_tried h) with h | ⟨p, _, _, h⟩
  · unfold lng; omega
  · have := lcp_le (xs.drop p) (xs.drop at_)
    rw [List.length_drop] at this
    unfold lng
    omega
/-- of equally long copies the nearest one; none is longer -/
theorem lng_best (xs : List UInt8) (at_ : Nat) (l : List Nat) (hs : l.Pairwise (· < ·)) :
    ∀ p ∈ l, lcp (xs.drop p) (xs.drop at_) < (l.foldl (lngS xs at_) (0, 0)).1 ∨ (lcp (xs.drop p) (xs.drop at_) = (l.foldl (lngS xs at_) (0, 0)).1 ∧ (l.foldl (lngS xs at_) (0, 0)).2 ≤ at_ - p) := by
  have aux : ∀ (n : Nat) (l : List Nat), l.length = n → l.Pairwise (· < ·) → ∀ p ∈ l, lcp (xs.drop p) (xs.drop at_) < (l.foldl (lngS xs at_) (0, 0)).1 ∨ (lcp (xs.drop p) (xs.drop at_) = (l.foldl (lngS xs at_) (0, 0)).1 ∧ (l.foldl (lngS xs at_) (0, 0)).2 ≤ at_ - p) := by
    intro n
    induction n with
    | zero => intro l hl _ p hp; rw [List.eq_nil_of_length_eq_zero hl] at hp; cases hp
    | succ n ih =>
      intro l hl hs p hp
      rcases List.eq_nil_or_concat l with rfl | ⟨m, q, rfl⟩
      · cases hp
      rw [List.concat_eq_append] at hl hs hp ⊢
      rw [List.length_append, List.length_singleton] at hl
      rw [List.pairwise_append] at hs
      rw [lngS_snoc]
      have ihm := ih m (by omega) hs.1
      rw [List.mem_append, List.mem_singleton] at hp
      generalize m.foldl (lngS xs at_) (0, 0) = s at ihm ⊢
      unfold lngS
      split
      · rename_i hle
        rcases hp with hp | rfl
        · have h1 := ihm p hp
          have h2 := hs.2.2 p hp q (List.mem_singleton.2 rfl)
          rcases h1 with h1 | ⟨h1, h3⟩
          · left; dsimp only; omega
          · by_cases h4 : lcp (xs.drop p) (xs.drop at_) < lcp (xs.drop q) (xs.drop at_)
            · exact .inl h4
            · right; dsimp only; omega
        · exact .inr ⟨rfl, Nat.le_refl _⟩
      · rename_i hle
        rcases hp with hp | rfl
        · exact ihm p hp
        · left; omega
  exact aux l.length l rfl hs
/-- a position not far back is tried -/
theorem last_tried (l : List Nat) (at_ p : Nat) (hs : l.Pairwise (· < ·)) (hl : ∀ q ∈ l, q < at_) (hp : p ∈ l) (h : at_ - p ≤ 32) : p ∈ l.drop (l.length - 32) := by
  obtain ⟨a, b, rfl⟩ := List.append_of_mem hp
  rw [List.pairwise_append, List.pairwise_cons] at hs
  have hb : b.length + p + 1 ≤ at_ := by
    have aux : ∀ (b : List Nat) (p : Nat), (∀ q ∈ b, p < q) → b.Pairwise (· < ·) → (∀ q ∈ b, q < at_) → p < at_ → b.length + p + 1 ≤ at_ := by
      intro b
      induction b with
      | nil => intro p _ _ _ h; simp; omega
      | cons x b ih =>
        intro p h1 h2 h3 h4
        rw [List.pairwise_cons] at h2
        have := ih x h2.1 h2.2 (fun q hq => h3 q (List.mem_cons_of_mem _ hq)) (h3 x (List.mem_cons_self ..))
        have := h1 x (List.mem_cons_self ..)
        rw [List.length_cons]
        omega
    exact aux b p hs.2.1.1 hs.2.1.2 (fun q hq => hl q (by simp [hq])) (hl p (by simp))
  have e : (a ++ p :: b).length - 32 ≤ a.length := by rw [List.length_append, List.length_cons]; omega
  rw [List.drop_append_of_le_length e]
  simp
/-- whether a copy saves bytes -/
def sav (s d l : Nat) : Bool := decide ((enc (2 * s + 1)).length + (enc d).length + (enc (2 * l)).length < s)
theorem sav_pos {s d l : Nat} (h : sav s d l = true) : (enc (2 * s + 1)).length + (enc d).length + (enc (2 * l)).length < s := by unfold sav at h; exact of_decide_eq_true h
/-- literals that were not emitted yet -/
def litT (xs : List UInt8) (from_ at_ : Nat) : List Tk := if from_ < at_ then [.lit ((xs.drop from_).take (at_ - from_))] else []
def pkl (xs : List UInt8) (at_ from_ : Nat) (ts : List Tk) : List Tk :=
  if h : at_ < xs.length then
    if hs : sav (lng xs at_).1 (lng xs at_).2 (at_ - from_) = true then pkl xs (at_ + (lng xs at_).1) (at_ + (lng xs at_).1) (ts ++ litT xs from_ at_ ++ [.cp (lng xs at_).1 (lng xs at_).2])
    else pkl xs (at_ + 1) from_ ts
  else ts ++ litT xs from_ at_
termination_by xs.length - at_
decreasing_by
  · have := sav_pos hs; omega
  · omega
/-- what holds of the tokens so far -/
structure PkI (xs : List UInt8) (at_ from_ : Nat) (ts : List Tk) : Prop where
  ft : from_ ≤ at_
  le : at_ ≤ xs.length
  ok : oks [] ts
  ex : exs [] ts = xs.take from_
  len : (forms ts).length ≤ from_
theorem litT_step {xs : List UInt8} {at_ from_ : Nat} {ts : List Tk} (h : PkI xs at_ from_ ts) (hx : xs.length < 9223372036854775808) :
    oks [] (ts ++ litT xs from_ at_) ∧ exs [] (ts ++ litT xs from_ at_) = xs.take at_ ∧ (forms (ts ++ litT xs from_ at_)).length ≤ (forms ts).length + (enc (2 * (at_ - from_))).length + (at_ - from_) := by
  have h1 := h.ft
  have h2 := h.le
  unfold litT
  by_cases hf : from_ < at_
  · rw [if_pos hf]
    have hl : ((xs.drop from_).take (at_ - from_)).length = at_ - from_ := by rw [List.length_take, List.length_drop]; omega
    refine ⟨oks_snoc _ _ _ h.ok ⟨by omega, by omega⟩, ?_, ?_⟩
    · rw [exs_snoc, h.ex]
      show xs.take from_ ++ (xs.drop from_).take (at_ - from_) = xs.take at_
      rw [← List.take_append_drop from_ (xs.take at_), List.take_take, Nat.min_eq_left h1, List.drop_take]
    · rw [forms_snoc, List.length_append]
      show _ + (enc (2 * _) ++ _).length ≤ _
      rw [List.length_append, hl]
      omega
  · rw [if_neg hf, List.append_nil]
    have e : at_ = from_ := by omega
    exact ⟨h.ok, by rw [e]; exact h.ex, by omega⟩
theorem cp_ok {xs : List UInt8} {at_ : Nat} (hx : xs.length < 1000000000) (hp : 0 < (lng xs at_).1) (hat : at_ ≤ xs.length) :
    (Tk.cp (lng xs at_).1 (lng xs at_).2).ok (xs.take at_) ∧ (Tk.cp (lng xs at_).1 (lng xs at_).2).ex (xs.take at_) = xs.take (at_ + (lng xs at_).1) ∧ at_ + (lng xs at_).1 ≤ xs.length := by
  have hle := lng_le xs at_
  rcases lng_copy xs at_ (tried xs at_) (fun p h => mem_tried h) with h | ⟨p, hpa, h2, h1⟩
  · unfold lng at hp; omega
  change (lng xs at_).2 = _ at h2
  change (lng xs at_).1 = _ at h1
  have hd : 0 < (lng xs at_).2 := by omega
  refine ⟨⟨hp, by omega, hd, by rw [List.length_take]; omega, by omega⟩, ?_, by omega⟩
  show cpy _ _ _ = _
  refine cpy_again xs at_ _ hd (by omega) _ (by omega) fun j hj1 hj2 hj3 => ?_
  have := lcp_get (xs.drop p) (xs.drop at_) (j - at_) (by omega)
  rw [List.getElem?_drop, List.getElem?_drop, List.getElem?_eq_getElem (by omega), List.getElem?_eq_getElem (by omega), Option.some.injEq] at this
  have e1 : p + (j - at_) = j - (lng xs at_).2 := by omega
  have e2 : at_ + (j - at_) = j := by omega
  simp only [e1, e2] at this
  exact this.symm
theorem PkI.copy {xs : List UInt8} {at_ from_ : Nat} {ts : List Tk} (h : PkI xs at_ from_ ts) (hx : xs.length < 1000000000) (hs : sav (lng xs at_).1 (lng xs at_).2 (at_ - from_) = true) :
    PkI xs (at_ + (lng xs at_).1) (at_ + (lng xs at_).1) (ts ++ litT xs from_ at_ ++ [.cp (lng xs at_).1 (lng xs at_).2]) ∧
      (forms (ts ++ litT xs from_ at_ ++ [.cp (lng xs at_).1 (lng xs at_).2])).length ≤ (forms ts).length + (at_ - from_) + ((enc (2 * (lng xs at_).1 + 1)).length + (enc (lng xs at_).2).length + (enc (2 * (at_ - from_))).length) := by
  have hsp := sav_pos hs
  obtain ⟨l1, l2, l3⟩ := litT_step h (by omega)
  obtain ⟨c1, c2, c3⟩ := cp_ok hx (by omega) h.le
  have hl := h.len
  have hft := h.ft
  have hf : (forms (ts ++ litT xs from_ at_ ++ [.cp (lng xs at_).1 (lng xs at_).2])).length = (forms (ts ++ litT xs from_ at_)).length + ((enc (2 * (lng xs at_).1 + 1)).length + (enc (lng xs at_).2).length) := by
    rw [forms_snoc, List.length_append]
    show _ + (enc _ ++ enc _).length = _
    rw [List.length_append]
  refine ⟨⟨Nat.le_refl _, c3, oks_snoc _ _ _ l1 (by rw [l2]; exact c1), by rw [exs_snoc, l2, c2], by omega⟩, by omega⟩
theorem PkI.one {xs : List UInt8} {at_ from_ : Nat} {ts : List Tk} (h : PkI xs at_ from_ ts) (ha : at_ < xs.length) : PkI xs (at_ + 1) from_ ts := ⟨Nat.le_trans h.ft (Nat.le_succ _), ha, h.ok, h.ex, h.len⟩
theorem PkI.start (xs : List UInt8) : PkI xs 0 0 [] := ⟨Nat.le_refl _, Nat.zero_le _, trivial, rfl, Nat.le_refl _⟩
/-- THE ROUND TRIP and the bound -/
theorem pkl_all {xs : List UInt8} (hx : xs.length < 1000000000) (N : Nat) : ∀ at_ from_ ts, xs.length - at_ ≤ N → PkI xs at_ from_ ts →
    oks [] (pkl xs at_ from_ ts) ∧ exs [] (pkl xs at_ from_ ts) = xs ∧ (forms (pkl xs at_ from_ ts)).length ≤ xs.length + 10 := by
  induction N with
  | zero =>
    intro at_ from_ ts hN h
    have hle := h.le
    have hl := h.len
    have hft := h.ft
    rw [pkl, dif_neg (by omega)]
    obtain ⟨l1, l2, l3⟩ := litT_step h (by omega)
    have he := enc_len (2 * (at_ - from_)) (by omega)
    exact ⟨l1, by rw [l2, List.take_of_length_le (by omega)], by omega⟩
  | succ N ih =>
    intro at_ from_ ts hN h
    have hle := h.le
    have hl := h.len
    have hft := h.ft
    rw [pkl]
    by_cases ha : at_ < xs.length
    · rw [dif_pos ha]
      by_cases hs : sav (lng xs at_).1 (lng xs at_).2 (at_ - from_) = true
      · rw [dif_pos hs]
        have := sav_pos hs
        exact ih _ _ _ (by omega) (h.copy hx hs).1
      · rw [dif_neg hs]
        exact ih _ _ _ (by omega) (h.one ha)
    · rw [dif_neg ha]
      obtain ⟨l1, l2, l3⟩ := litT_step h (by omega)
      have he := enc_len (2 * (at_ - from_)) (by omega)
      exact ⟨l1, by rw [l2, List.take_of_length_le (by omega)], by omega⟩
/-- what Pack returns -/
def packU (xs : List UInt8) : List UInt8 := forms (pkl xs 0 0 [])
theorem pack_unq {xs : List UInt8} (hx : xs.length < 1000000000) (room : Nat) : unq room (packU xs) [] = if room < xs.length then ([], 6) else (xs, 0) := by
  obtain ⟨h1, h2, _⟩ := pkl_all hx xs.length 0 0 [] (by omega) (.start xs)
  have := unq_forms room (pkl xs 0 0 []) [] h1 (Nat.zero_le _)
  rw [h2] at this
  exact this
theorem pack_len {xs : List UInt8} (hx : xs.length < 1000000000) : (packU xs).length ≤ xs.length + 10 := (pkl_all hx xs.length 0 0 [] (by omega) (.start xs)).2.2
theorem pack_nil : packU [] = [] := by unfold packU; rw [pkl]; rfl
end Go.Proofs.Ytihiccccpjakgaa
