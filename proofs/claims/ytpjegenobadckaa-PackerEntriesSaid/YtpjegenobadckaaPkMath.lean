/-
  Packing files into containers: plain mathematics.
-/
import Derived.RowKit
namespace Go.Proofs.Ytpjegenobadckaa
set_option linter.unusedVariables false
/-- a piece: a file, an offset, a length -/
structure Pc where
  f : Int
  o : Int
  n : Int
  deriving DecidableEq
/-- the sum of the lengths -/
def usedP : List Pc → Int
  | [] => 0
  | x :: l => x.n + usedP l
theorem usedP_append (a b : List Pc) : usedP (a ++ b) = usedP a + usedP b := by
  induction a with
  | nil => simp [usedP]
  | cons x a ih => rw [List.cons_append, usedP, usedP, ih]; omega
theorem usedP_take_le {l : List Pc} (h : ∀ p ∈ l, 0 ≤ p.n) (i : Nat) : 0 ≤ usedP (l.take i) ∧ usedP (l.take i) ≤ usedP l := by
  induction l generalizing i with
  | nil => simp [usedP]
  | cons x l ih =>
    have h0 := h x (by simp)
    cases i with
    | zero =>
      have := (ih (fun p hp => h p (by simp [hp])) l.length)
      rw [List.take_length] at this
      simp only [List.take_zero, usedP]
      omega
    | succ i =>
      have := ih (fun p hp => h p (by simp [hp])) i
      simp only [List.take_succ_cons, usedP]
      omega
theorem usedP_snoc (a : List Pc) (x : Pc) : usedP (a ++ [x]) = usedP a + x.n := by rw [usedP_append]; simp [usedP]
/-- the error of sizes and a capacity -/
def OkV (l : List Int) (c : Int) : Prop := (1 ≤ c ∧ c ≤ 1125899906842624) ∧ ∀ s ∈ l, 0 ≤ s ∧ s ≤ 4096
open Classical in
noncomputable def valU (l : List Int) (c : Int) : Int := if 512 < l.length then 6 else if OkV l c then 0 else 7
theorem valU_ok {l : List Int} {c : Int} (h : valU l c = 0) : l.length ≤ 512 ∧ OkV l c := by
  unfold valU at h
  split at h
  · omega
  · split at h
    · exact ⟨by omega, by assumption⟩
    · omega
theorem valU_yes {l : List Int} {c : Int} (h1 : l.length ≤ 512) (h2 : OkV l c) : valU l c = 0 := by
  unfold valU
  rw [if_neg (by omega), if_pos h2]
/-- the last container -/
def lastP {α : Type} (ll : List (List α)) : List α := ll.getLastD []
/-- a new container begins -/
def newP (c : Int) (ll : List (List Pc)) (left : Int) : Prop := ll = [] ∨ (lastP ll).length = 64 ∨ (0 < left ∧ c ≤ usedP (lastP ll))
open Classical in
noncomputable def openP (c : Int) (ll : List (List Pc)) (left : Int) : List (List Pc) := if newP c ll left then ll ++ [[]] else ll
noncomputable def lenP (c : Int) (ll : List (List Pc)) (left : Int) : Int := min left (c - usedP (lastP (openP c ll left)))
def pushP {α : Type} (ll : List (List α)) (x : α) : List (List α) := ll.set (ll.length - 1) (lastP ll ++ [x])
noncomputable def addP (c : Int) (ll : List (List Pc)) (f o left : Int) : List (List Pc) := pushP (openP c ll left) ⟨f, o, lenP c ll left⟩
noncomputable def restP (c size f : Int) (ll : List (List Pc)) (at_ : Int) : List (List Pc) :=
  if h : at_ < size ∧ 0 < lenP c ll (size - at_) then restP c size f (addP c ll f at_ (size - at_)) (at_ + lenP c ll (size - at_)) else ll
termination_by (size - at_).toNat
decreasing_by omega
noncomputable def fileP (c : Int) (ll : List (List Pc)) (f size : Int) : List (List Pc) := restP c size f (addP c ll f 0 size) (lenP c ll size)
noncomputable def fillP (c : Int) : List Int → Int → List (List Pc) → List (List Pc)
  | [], _, ll => ll
  | s :: r, f, ll => fillP c r (f + 1) (fileP c ll f s)
open Classical in
noncomputable def fillU (l : List Int) (c : Int) : List (List Pc) × Int := if valU l c = 0 then (fillP c l 0 [], 0) else ([], valU l c)
theorem lastP_snoc {α : Type} (ll : List (List α)) (l : List α) : lastP (ll ++ [l]) = l := by simp [lastP]
theorem lastP_get {α : Type} {ll : List (List α)} (h : 0 < ll.length) : lastP ll = ll[ll.length - 1]'(by omega) := by
  unfold lastP
  rw [List.getLastD_eq_getLast?, List.getLast?_eq_getElem?, List.getElem?_eq_getElem (by omega)]
  rfl
theorem snoc_of {α : Type} {ll : List (List α)} (h : ll ≠ []) : ∃ z l, ll = z ++ [l] := ⟨ll.dropLast, ll.getLast h, (List.dropLast_concat_getLast h).symm⟩
theorem pushP_snoc {α : Type} (z : List (List α)) (l : List α) (x : α) : pushP (z ++ [l]) x = z ++ [l ++ [x]] := by
  unfold pushP
  rw [lastP_snoc, List.set_append_right _ _ (by simp)]
  simp
/-- what the filling keeps -/
structure GoodP (c : Int) (ll : List (List Pc)) : Prop where
  len : ∀ l ∈ ll, l.length ≤ 64 ∧ 0 < l.length
  use : ∀ l ∈ ll, usedP l ≤ c
  pos : ∀ l ∈ ll, ∀ p ∈ l, 0 ≤ p.n
  full : ∀ i (h : i < ll.length), i + 1 < ll.length → usedP ll[i] = c ∨ (ll[i]).length = 64
theorem GoodP.nil (c : Int) : GoodP c [] := ⟨by simp, by simp, by simp, fun i h => by simp at h⟩
theorem GoodP.last {c : Int} {ll : List (List Pc)} (h : GoodP c ll) (hc : 0 ≤ c) : (lastP ll).length ≤ 64 ∧ usedP (lastP ll) ≤ c := by
  by_cases h0 : ll = []
  · subst h0
    exact ⟨by simp [lastP], by simpa [lastP, usedP] using hc⟩
  · obtain ⟨z, l, rfl⟩ := snoc_of h0
    rw [lastP_snoc]
    exact ⟨(h.len l (by simp)).1, h.use l (by simp)⟩
/-- the list that takes the piece: z is what is before it, l what it holds -/
theorem open_form {c : Int} {ll : List (List Pc)} {left : Int} (h : GoodP c ll) (hc : 1 ≤ c) (hl : 0 ≤ left) :
    ∃ z l, openP c ll left = z ++ [l] ∧ l.length < 64 ∧ usedP l ≤ c ∧ (0 < left → usedP l < c) ∧ ll.length ≤ z.length + 1 ∧ z.length ≤ ll.length ∧ ((ll = z ∧ l = []) ∨ (ll = z ++ [l] ∧ l ≠ [])) ∧
      (∀ x : Pc, 0 ≤ x.n → usedP l + x.n ≤ c → GoodP c (z ++ [l ++ [x]])) ∧ (∀ p ∈ l, 0 ≤ p.n) := by
  unfold openP
  by_cases hn : newP c ll left
  · rw [if_pos hn]
    refine ⟨ll, [], rfl, by simp, by simpa [usedP] using (show (0:Int) ≤ c by omega), fun _ => by simpa [usedP] using (show (0:Int) < c by omega), by omega, Nat.le_refl _, .inl ⟨rfl, rfl⟩, fun x hx0 hx => ?_, by simp⟩
    refine ⟨fun l hl => ?_, fun l hl => ?_, fun l hl => ?_, fun i hi h2 => ?_⟩
    · rcases List.mem_append.1 hl with h' | h'
      · exact h.len l h'
      · rw [List.mem_singleton.1 h']; simp
    · rcases List.mem_append.1 hl with h' | h'
      · exact h.use l h'
      · rw [List.mem_singleton.1 h']; simpa [usedP] using hx
    · rcases List.mem_append.1 hl with h' | h'
      · exact h.pos l h'
      · rw [List.mem_singleton.1 h']; simpa using hx0
    · rw [List.length_append, List.length_singleton] at h2
      rw [List.getElem_append_left (by omega)]
      by_cases h3 : i + 1 < ll.length
      · exact h.full i (by omega) h3
      · have h0 : ll ≠ [] := by rintro rfl; simp at h2; 
        rcases hn with rfl | hn
        · exact absurd rfl h0
        · have e := lastP_get (ll := ll) (by omega)
          have hu := h.use ll[i] (List.getElem_mem _)
          have e2 : ll.length - 1 = i := by omega
          simp only [e2] at e
          rw [← e] at hu ⊢
          rcases hn with hn | hn
          · exact .inr hn
          · exact .inl (by omega)
  · rw [if_neg hn]
    have h0 : ll ≠ [] := fun e => hn (.inl e)
    obtain ⟨z, l, rfl⟩ := snoc_of h0
    have h1 := h.len l (by simp)
    have h2 := h.use l (by simp)
    have h3 : l.length ≠ 64 := fun e => hn (.inr (.inl (by rw [lastP_snoc]; exact e)))
    refine ⟨z, l, rfl, by omega, h2, fun hp => ?_, by simp, by simp, .inr ⟨rfl, fun e => by rw [e] at h1; simp at h1⟩, fun x hx0 hx => ?_, h.pos l (by simp)⟩
    · by_cases h4 : usedP l < c
      · exact h4
      · exact absurd (.inr (.inr ⟨hp, by rw [lastP_snoc]; omega⟩)) hn
    · refine ⟨fun k hk => ?_, fun k hk => ?_, fun k hk => ?_, fun i hi h2 => ?_⟩
      · rcases List.mem_append.1 hk with h' | h'
        · exact h.len k (by simp [h'])
        · rw [List.mem_singleton.1 h']; simp; omega
      · rcases List.mem_append.1 hk with h' | h'
        · exact h.use k (by simp [h'])
        · rw [List.mem_singleton.1 h', usedP_snoc]; exact hx
      · rcases List.mem_append.1 hk with h' | h'
        · exact h.pos k (by simp [h'])
        · rw [List.mem_singleton.1 h']
          intro p hp
          rcases List.mem_append.1 hp with hp | hp
          · exact h.pos l (by simp) p hp
          · rw [List.mem_singleton.1 hp]; exact hx0
      · rw [List.length_append, List.length_singleton] at h2
        have := h.full i (by simp; omega) (by simp; omega)
        rw [List.getElem_append_left (by omega)] at this ⊢
        exact this
/-- a piece is added -/
theorem add_form {c : Int} {ll : List (List Pc)} {f o left : Int} (h : GoodP c ll) (hc : 1 ≤ c) (hl : 0 ≤ left) :
    ∃ z l, openP c ll left = z ++ [l] ∧ lenP c ll left = min left (c - usedP l) ∧ addP c ll f o left = z ++ [l ++ [⟨f, o, lenP c ll left⟩]] ∧ GoodP c (addP c ll f o left) ∧ 0 ≤ lenP c ll left ∧ lenP c ll left ≤ left ∧ (0 < left → 0 < lenP c ll left) ∧
      (addP c ll f o left).length ≤ ll.length + 1 ∧ (addP c ll f o left).flatten = ll.flatten ++ [⟨f, o, lenP c ll left⟩] ∧ l.length < 64 ∧ usedP l ≤ c ∧ ll.length ≤ z.length + 1 ∧ z.length ≤ ll.length := by
  obtain ⟨z, l, e, h1, h2, h3, h4, h5, h6, h7, h8⟩ := open_form (left := left) h hc hl
  have e1 : lenP c ll left = min left (c - usedP l) := by unfold lenP; rw [e, lastP_snoc]
  have e2 : addP c ll f o left = z ++ [l ++ [⟨f, o, lenP c ll left⟩]] := by unfold addP; rw [e, pushP_snoc]
  refine ⟨z, l, e, e1, e2, by rw [e2]; exact h7 _ (by rw [e1]; show 0 ≤ min left (c - usedP l); omega) (by rw [e1]; show usedP l + min left (c - usedP l) ≤ c; omega), by omega, by omega, fun hp => ?_, by rw [e2]; simp; omega, ?_, h1, h2, h4, h5⟩
  · have := h3 hp; omega
  · rw [e2]
    rcases h6 with ⟨rfl, rfl⟩ | ⟨rfl, _⟩ <;> simp
theorem restP_end {c size f at_ : Int} {ll : List (List Pc)} (h : ¬ at_ < size) : restP c size f ll at_ = ll := by
  rw [restP, dif_neg (fun h' => h h'.1)]
theorem restP_step {c size f at_ : Int} {ll : List (List Pc)} (h : at_ < size) (hg : GoodP c ll) (hc : 1 ≤ c) : restP c size f ll at_ = restP c size f (addP c ll f at_ (size - at_)) (at_ + lenP c ll (size - at_)) := by
  obtain ⟨z, l, -, -, -, -, -, -, hp, -⟩ := add_form (f := f) (o := at_) (left := size - at_) hg hc (by omega)
  conv => lhs; rw [restP, dif_pos ⟨h, hp (by omega)⟩]
/-- a way to say what a file's pieces keep -/
theorem rest_ind {c size f : Int} (hc : 1 ≤ c) (Q : Int → List (List Pc) → Prop) (hQ : ∀ at_ ll, GoodP c ll → 0 ≤ at_ → at_ < size → Q at_ ll → Q (at_ + lenP c ll (size - at_)) (addP c ll f at_ (size - at_))) :
    ∀ (n : Nat) (at_ : Int) (ll : List (List Pc)), (size - at_).toNat ≤ n → 0 ≤ at_ → at_ ≤ size → GoodP c ll → Q at_ ll → GoodP c (restP c size f ll at_) ∧ Q size (restP c size f ll at_)
  | n, at_, ll, hn, h0, h1, hg, hq => by
    by_cases h : at_ < size
    · rw [restP_step h hg hc]
      obtain ⟨z, l, -, -, -, hg2, hl0, hl1, hp, -⟩ := add_form (f := f) (o := at_) (left := size - at_) hg hc (by omega)
      have := hp (by omega)
      match n, hn with
      | 0, hn => omega
      | n + 1, hn => exact rest_ind hc Q hQ n _ _ (by omega) (by omega) (by omega) hg2 (hQ at_ ll hg h0 h hq)
    · rw [restP_end h]
      obtain rfl : at_ = size := by omega
      exact ⟨hg, hq⟩
end Go.Proofs.Ytpjegenobadckaa
