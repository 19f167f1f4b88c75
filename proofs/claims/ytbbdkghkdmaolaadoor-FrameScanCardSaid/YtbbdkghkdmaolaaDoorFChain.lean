/-
  Plain mathematics: frames that follow one another; the first frame at or behind an offset; all that is salvaged.
-/
import Derived.Test.YtbbdkghkdmaolaaDoorFMath2
namespace Go.Proofs.YtbbdkghkdmaolaaDoor
set_option linter.unusedVariables false

/-- From the offset a on the frames ps follow one another, up to the offset e: each with its body and the offset behind it. -/
def Part (xs : List UInt8) : Nat → List (List UInt8 × Nat) → Nat → Prop
  | a, [], e => e = a
  | a, p :: ps, e => (chk xs a).2 = 0 ∧ p.1 = bodyAt xs a ∧ (p.2 : Int) = (chk xs a).1 ∧ Part xs p.2 ps e
theorem Part.snoc {xs : List UInt8} : ∀ {ps : List (List UInt8 × Nat)} {a e n : Nat}, Part xs a ps e → (chk xs e).2 = 0 → (n : Int) = (chk xs e).1 → Part xs a (ps ++ [(bodyAt xs e, n)]) n
  | [], a, e, n, h, h1, h2 => by
    have he : e = a := h
    subst he
    exact ⟨h1, rfl, h2, rfl⟩
  | p :: ps, a, e, n, h, h1, h2 => ⟨h.1, h.2.1, h.2.2.1, Part.snoc h.2.2.2 h1 h2⟩
theorem chk_step {xs : List UInt8} {a n : Nat} (h : (chk xs a).2 = 0) (hn : (n : Int) = (chk xs a).1) : a + 10 ≤ n ∧ n ≤ xs.length ∧ (bodyAt xs a).length ≤ xs.length := by
  obtain ⟨m, hm, h1, _, h2, _, h4⟩ := chk_ok h
  obtain rfl : m = a := by omega
  rw [h2] at hn
  dsimp only at hn
  omega
theorem Part.le {xs : List UInt8} : ∀ {ps : List (List UInt8 × Nat)} {a e : Nat}, Part xs a ps e → a + 10 * ps.length ≤ e ∧ (ps ≠ [] → e ≤ xs.length)
  | [], a, e, h => by
    have he : e = a := h
    subst he
    exact ⟨by simp, fun h => absurd rfl h⟩
  | p :: ps, a, e, h => by
    have h1 := chk_step h.1 h.2.2.1
    have h2 := Part.le h.2.2.2
    refine ⟨by have := h2.1; simp only [List.length_cons]; omega, fun _ => ?_⟩
    cases ps with
    | nil => have : e = p.2 := h.2.2.2; omega
    | cons q ps => exact h2.2 (by simp)
theorem Part.unique {xs : List UInt8} : ∀ {ps qs : List (List UInt8 × Nat)} {a e f : Nat}, Part xs a ps e → (chk xs e).2 ≠ 0 → Part xs a qs f → (chk xs f).2 ≠ 0 → ps = qs ∧ e = f
  | [], [], a, e, f, h, _, k, _ => ⟨rfl, by have h1 : e = a := h; have h2 : f = a := k; omega⟩
  | [], q :: qs, a, e, f, h, h1, k, _ => by
    have he : e = a := h
    subst he
    exact absurd k.1 h1
  | p :: ps, [], a, e, f, h, _, k, k1 => by
    have he : f = a := k
    subst he
    exact absurd h.1 k1
  | p :: ps, q :: qs, a, e, f, h, h1, k, k1 => by
    obtain ⟨p1, p2⟩ := p
    obtain ⟨q1, q2⟩ := q
    have e2 : p2 = q2 := by have := h.2.2.1; have := k.2.2.1; omega
    have e1 : p1 = q1 := h.2.1.trans k.2.1.symm
    subst e1 e2
    obtain ⟨h2, h3⟩ := Part.unique h.2.2.2 h1 k.2.2.2 k1
    exact ⟨by rw [h2], h3⟩
/-- The longest sequence: a part, whatever part of it. -/
theorem Part.prefix {xs : List UInt8} : ∀ {ps qs : List (List UInt8 × Nat)} {a e f : Nat}, Part xs a ps e → Part xs a qs f → (chk xs f).2 ≠ 0 → ∃ rs, qs = ps ++ rs ∧ Part xs e rs f
  | [], qs, a, e, f, h, k, _ => by
    have he : e = a := h
    subst he
    exact ⟨qs, rfl, k⟩
  | p :: ps, [], a, e, f, h, k, k1 => by
    have he : f = a := k
    subst he
    exact absurd h.1 k1
  | p :: ps, q :: qs, a, e, f, h, k, k1 => by
    obtain ⟨p1, p2⟩ := p
    obtain ⟨q1, q2⟩ := q
    have e2 : p2 = q2 := by have := h.2.2.1; have := k.2.2.1; omega
    have e1 : p1 = q1 := h.2.1.trans k.2.1.symm
    subst e1 e2
    obtain ⟨rs, h2, h3⟩ := Part.prefix h.2.2.2 k.2.2.2 k1
    exact ⟨rs, by rw [h2]; rfl, h3⟩

/-- Between a and k no frame begins. -/
def NoFrame (xs : List UInt8) (a k : Nat) : Prop := ∀ i, a ≤ i → i < k → (chk xs i).2 ≠ 0
/-- The least offset from a on where a frame begins. -/
def rs (xs : List UInt8) (a : Nat) : Option Nat := (List.range xs.length).find? fun i => decide (a ≤ i ∧ (chk xs i).2 = 0)
theorem rs_some {xs : List UInt8} {a i : Nat} (h1 : a ≤ i) (h2 : i < xs.length) (h3 : (chk xs i).2 = 0) (h4 : NoFrame xs a i) : rs xs a = some i := by
  unfold rs
  rw [List.find?_range_eq_some]
  refine ⟨by simp [h1, h3], by simpa using h2, fun j hj => ?_⟩
  simp only [Bool.not_eq_true', decide_eq_false_iff_not, not_and]
  exact fun h5 => h4 j h5 hj
theorem rs_none {xs : List UInt8} {a : Nat} (h : NoFrame xs a xs.length) : rs xs a = none := by
  unfold rs
  rw [List.find?_range_eq_none]
  intro i hi
  simp only [Bool.not_eq_true', decide_eq_false_iff_not, not_and]
  exact fun h5 => h i h5 hi
theorem rs_cases (xs : List UInt8) (a : Nat) : (∃ i, rs xs a = some i ∧ a ≤ i ∧ i < xs.length ∧ (chk xs i).2 = 0 ∧ NoFrame xs a i) ∨ (rs xs a = none ∧ NoFrame xs a xs.length) := by
  rcases h : rs xs a with _ | i
  · refine .inr ⟨rfl, ?_⟩
    unfold rs at h
    rw [List.find?_range_eq_none] at h
    intro i h1 h2 h3
    have := h i h2
    simp [h1, h3] at this
  · refine .inl ⟨i, rfl, ?_⟩
    unfold rs at h
    rw [List.find?_range_eq_some] at h
    obtain ⟨h1, h2, h3⟩ := h
    have h1' : a ≤ i ∧ (chk xs i).2 = 0 := by simpa using h1
    refine ⟨h1'.1, by simpa using h2, h1'.2, fun j h4 h5 h6 => ?_⟩
    have := h3 j h5
    simp [h4, h6] at this

/-- From the offset a on the bodies ls are salvaged, up to the offset e. -/
def Salv (xs : List UInt8) : Nat → List (List UInt8) → Nat → Prop
  | a, [], e => e = a
  | a, l :: ls, e => ∃ i n : Nat, rs xs a = some i ∧ l = bodyAt xs i ∧ (n : Int) = (chk xs i).1 ∧ Salv xs n ls e
theorem Salv.snoc {xs : List UInt8} : ∀ {ls : List (List UInt8)} {a e i n : Nat}, Salv xs a ls e → rs xs e = some i → (n : Int) = (chk xs i).1 → Salv xs a (ls ++ [bodyAt xs i]) n
  | [], a, e, i, n, h, h1, h2 => by
    have he : e = a := h
    subst he
    exact ⟨i, n, h1, rfl, h2, rfl⟩
  | l :: ls, a, e, i, n, h, h1, h2 => by
    obtain ⟨j, m, h3, h4, h5, h6⟩ := h
    exact ⟨j, m, h3, h4, h5, Salv.snoc h6 h1 h2⟩
theorem rs_here {xs : List UInt8} {a : Nat} (h : (chk xs a).2 = 0) : rs xs a = some a := by
  obtain ⟨n, hn, h1, _⟩ := chk_ok h
  exact rs_some (Nat.le_refl _) (by omega) h (fun i h2 h3 => by omega)
theorem Salv.part {xs : List UInt8} : ∀ {ps : List (List UInt8 × Nat)} {ls : List (List UInt8)} {a e f : Nat}, Salv xs a ls e → Part xs e ps f → Salv xs a (ls ++ ps.map (·.1)) f
  | [], ls, a, e, f, h, k => by
    have he : f = e := k
    subst he
    simpa using h
  | p :: ps, ls, a, e, f, h, k => by
    obtain ⟨p1, p2⟩ := p
    have h1 := Salv.snoc h (rs_here k.1) k.2.2.1
    have h2 := Salv.part h1 k.2.2.2
    have e1 : p1 = bodyAt xs e := k.2.1
    subst e1
    simpa using h2
theorem Salv.unique {xs : List UInt8} : ∀ {ls ms : List (List UInt8)} {a e f : Nat}, Salv xs a ls e → rs xs e = none → Salv xs a ms f → rs xs f = none → ls = ms
  | [], [], a, e, f, _, _, _, _ => rfl
  | [], m :: ms, a, e, f, h, h1, k, _ => by
    have he : e = a := h
    subst he
    obtain ⟨j, m', h3, _⟩ := k
    rw [h1] at h3; cases h3
  | l :: ls, [], a, e, f, h, _, k, k1 => by
    have he : f = a := k
    subst he
    obtain ⟨j, m', h3, _⟩ := h
    rw [k1] at h3; cases h3
  | l :: ls, m :: ms, a, e, f, h, h1, k, k1 => by
    obtain ⟨i, n, h3, h4, h5, h6⟩ := h
    obtain ⟨j, m', k3, k4, k5, k6⟩ := k
    rw [h3] at k3
    cases k3
    obtain rfl : n = m' := by omega
    rw [h4, k4, Salv.unique h6 h1 k6 k1]
theorem Salv.le {xs : List UInt8} : ∀ {ls : List (List UInt8)} {a e : Nat}, Salv xs a ls e → a + 10 * ls.length ≤ e ∧ (ls ≠ [] → e ≤ xs.length)
  | [], a, e, h => by
    have he : e = a := h
    subst he
    exact ⟨by simp, fun h => absurd rfl h⟩
  | l :: ls, a, e, h => by
    obtain ⟨i, n, h3, h4, h5, h6⟩ := h
    rcases rs_cases xs a with ⟨i', h7, h8, _, h9, _⟩ | ⟨h7, _⟩
    · rw [h3] at h7
      cases h7
      have h1 := chk_step h9 h5
      have h2 := Salv.le h6
      refine ⟨by have := h2.1; simp only [List.length_cons]; omega, fun _ => ?_⟩
      cases ls with
      | nil => have : e = n := h6; omega
      | cons q ls => exact h2.2 (by simp)
    · rw [h3] at h7; cases h7
/-- The bodies of a scan are the first ones of what is salvaged. -/
theorem Salv.scan {xs : List UInt8} : ∀ {ps : List (List UInt8 × Nat)} {ls : List (List UInt8)} {a e f : Nat}, Part xs a ps e → Salv xs a ls f → rs xs f = none → ∃ ms, ls = ps.map (·.1) ++ ms
  | [], ls, a, e, f, _, _, _ => ⟨ls, rfl⟩
  | p :: ps, [], a, e, f, h, k, k1 => by
    have he : f = a := k
    subst he
    rw [rs_here h.1] at k1; cases k1
  | p :: ps, l :: ls, a, e, f, h, k, k1 => by
    obtain ⟨p1, p2⟩ := p
    obtain ⟨i, n, h3, h4, h5, h6⟩ := k
    rw [rs_here h.1] at h3
    cases h3
    have e2 : p2 = n := by have := h.2.2.1; omega
    subst e2
    obtain ⟨ms, hm⟩ := Salv.scan h.2.2.2 h6 k1
    exact ⟨ms, by rw [hm, h4, ← h.2.1]; rfl⟩
end Go.Proofs.YtbbdkghkdmaolaaDoor
