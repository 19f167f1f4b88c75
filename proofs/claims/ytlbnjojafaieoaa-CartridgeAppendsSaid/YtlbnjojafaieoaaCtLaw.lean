/-
  What the laws want of cartridges: no program.
-/
import Derived.Test.YtlbnjojafaieoaaCtWrite
import Derived.Test.YtlbnjojafaieoaaCtRead
import Derived.Test.YtlbnjojafaieoaaCtMarks
namespace Go.Proofs.Ytlbnjojafaieoaa
open Go.RowKit
set_option linter.unusedVariables false
theorem rdk_all {l : List Blk} (h : l.all okW = true) : rdk l l.length = (l, 0) := by
  induction l with
  | nil => rfl
  | cons b l ih =>
    rw [List.all_cons, Bool.and_eq_true] at h
    have hb : b.bad = false := by
      have := h.1
      unfold okW at this
      rw [Bool.and_eq_true] at this
      cases hx : b.bad with
      | false => rfl
      | true => rw [hx] at this; simp at this
    rw [List.length_cons, rdk, if_neg (by rw [hb]; simp), ih h.2]
theorem read_end {l z : List Blk} (h : z.all okW = true) : readC true (l ++ z) (l.length : Int) (z.length : Int) = (z, 0) := by
  rw [read_in, List.drop_left, rdk_all h]
theorem allB_append {l z : List Blk} (h : allB l = true) (hz : z.all okW = true) : allB (l ++ z) = true := by
  unfold allB at h ⊢
  rw [List.all_append, h, Bool.true_and, List.all_eq_true]
  intro b hb
  rw [List.all_eq_true] at hz
  have := hz b hb
  unfold okW at this
  rw [Bool.and_eq_true] at this
  exact this.1
theorem all_take {p : Blk → Bool} {l : List Blk} (h : l.all p = true) (n : Nat) : (l.take n).all p = true := by
  rw [List.all_eq_true] at h ⊢
  exact fun b hb => h b (List.mem_of_mem_take hb)
/-- a cartridge with other blocks is valid -/
theorem vldC_with {c : Crt} {l : List Blk} (h : vldC c = true) (h1 : allB l = true) (h2 : (l.length : Int) ≤ capU c.W c.L c.S c.T c.J c.R) : vldC {c with l := l} = true := by
  unfold vldC at h ⊢
  simp only [Bool.and_eq_true, decide_eq_true_eq] at h ⊢
  obtain ⟨k1, k2, k3, k4, k5⟩ := h
  exact ⟨k1, k2, h2, h1, k5⟩
theorem vldC_cap {c : Crt} (h : vldC c = true) : allB c.l = true ∧ (c.l.length : Int) ≤ capU c.W c.L c.S c.T c.J c.R := by
  unfold vldC at h
  simp only [Bool.and_eq_true, decide_eq_true_eq] at h
  exact ⟨h.2.2.2.1, h.2.2.1⟩
/-- a write at the end that succeeds -/
theorem wri_end {c : Crt} {z : List Blk} (h : (wriC (vldC c) c (c.l.length : Int) z).2 = 0) :
    (wriC (vldC c) c (c.l.length : Int) z) = ({c with l := c.l ++ z}, 0) ∧ vldC c = true ∧ z.all okW = true ∧ c.lk = false ∧ vldC {c with l := c.l ++ z} = true := by
  cases hv : vldC c with
  | false => rw [hv] at h; exact absurd h (by unfold wriC; simp)
  | true =>
    rw [hv] at h
    unfold wriC at h ⊢
    rw [if_pos rfl] at h ⊢
    by_cases hz : z.all okW = true
    · rw [if_pos hz] at h ⊢
      by_cases hl : c.lk = true
      · rw [if_pos hl] at h; exact absurd h (by simp)
      · rw [if_neg hl, if_neg (by omega), if_neg (by omega)] at h ⊢
        by_cases hc : capU c.W c.L c.S c.T c.J c.R - (c.l.length : Int) < (z.length : Int)
        · rw [if_pos hc] at h; exact absurd h (by simp)
        · rw [if_neg hc]
          have e : (if z = [] then c.l else c.l.take (c.l.length : Int).toNat ++ z) = c.l ++ z := by
            by_cases hz0 : z = []
            · rw [if_pos hz0, hz0, List.append_nil]
            · rw [if_neg hz0, show (c.l.length : Int).toNat = c.l.length by omega, List.take_length]
          rw [e]
          exact ⟨rfl, rfl, hz, by simpa using hl, vldC_with hv (allB_append (vldC_cap hv).1 hz) (by rw [List.length_append]; omega)⟩
    · rw [if_neg hz] at h; exact absurd h (by simp)
theorem wri_end_err {c : Crt} {z : List Blk} (hv : vldC c = true) : (wriC (vldC c) c (c.l.length : Int) z).2 ≠ 7 := by
  rw [hv]
  unfold wriC
  rw [if_pos rfl]
  split
  · split
    · simp
    · rw [if_neg (by omega), if_neg (by omega)]
      split <;> simp
  · simp
/-- whatever is written to a write-once cartridge, its blocks stay -/
theorem wri_keeps {c : Crt} {a : Int} {z : List Blk} (hv : vldC c = true) (hw : c.wo = true) (h : (wriC (vldC c) c a z).2 = 0) :
    (wriC (vldC c) c a z) = ({c with l := c.l ++ z}, 0) ∧ vldC {c with l := c.l ++ z} = true := by
  have ha : a = (c.l.length : Int) := by
    rw [hv] at h
    unfold wriC at h
    rw [if_pos rfl] at h
    by_cases hz : z.all okW = true
    · rw [if_pos hz] at h
      by_cases hl : c.lk = true
      · rw [if_pos hl] at h; exact absurd h (by simp)
      · rw [if_neg hl] at h
        by_cases hr : a < 0 ∨ (c.l.length : Int) < a
        · rw [if_pos hr] at h; exact absurd h (by simp)
        · rw [if_neg hr] at h
          by_cases hq : a < (c.l.length : Int)
          · rw [if_pos ⟨hw, hq⟩] at h; exact absurd h (by simp)
          · omega
    · rw [if_neg hz] at h; exact absurd h (by simp)
  subst ha
  obtain ⟨h1, _, _, _, h5⟩ := wri_end h
  exact ⟨h1, h5⟩
theorem era_keeps {c : Crt} (hv : vldC c = true) (hw : c.wo = true) : eraC c = (crZ, 17) := by
  unfold eraC
  rw [if_pos hv, if_pos (by rw [hw, Bool.or_true])]
/-- one mark, and then the others -/
theorem mrk_more (L : List Blk) (n : Nat) : ∀ (k a : Nat), a + k = L.length → mrk (L.drop a) a (n + 1) = (mrk (L.drop a) a 1).bind fun b => mrk (L.drop b) b n := by
  intro k
  induction k with
  | zero =>
    intro a ha
    rw [List.drop_of_length_le (by omega), mrk_nil, show (1 : Nat) = 0 + 1 from rfl, mrk_nil]
    rfl
  | succ k ih =>
    intro a ha
    have hal : a < L.length := by omega
    rw [mrk_step L a n hal, show (1 : Nat) = 0 + 1 from rfl, mrk_step L a 0 hal]
    by_cases hb : (L[a].m && !L[a].bad) = true
    · rw [if_pos hb, if_pos hb, mrk_zero]
      rfl
    · rw [if_neg hb, if_neg hb]
      exact ih (a + 1) (by omega)
theorem mrk_one (L : List Blk) : ∀ (k a : Nat), a + k = L.length → ∀ b, mrk (L.drop a) a 1 = some b → a < b ∧ b ≤ L.length ∧ ∃ h : b - 1 < L.length, L[b - 1].m = true := by
  intro k
  induction k with
  | zero =>
    intro a ha b hb
    rw [List.drop_of_length_le (by omega), show (1 : Nat) = 0 + 1 from rfl, mrk_nil] at hb
    cases hb
  | succ k ih =>
    intro a ha b hb
    have hal : a < L.length := by omega
    rw [show (1 : Nat) = 0 + 1 from rfl, mrk_step L a 0 hal] at hb
    by_cases hm : (L[a].m && !L[a].bad) = true
    · rw [if_pos hm, mrk_zero] at hb
      cases hb
      rw [Bool.and_eq_true] at hm
      exact ⟨by omega, by omega, by simpa using hal, by simpa using hm.1⟩
    · rw [if_neg hm] at hb
      obtain ⟨h1, h2, h3⟩ := ih (a + 1) (by omega) b hb
      exact ⟨by omega, h2, h3⟩
/-- marks one after another -/
theorem marks_t (l : List Blk) (a n : Int) : marksC true l a n = if a < 0 ∨ (l.length : Int) < a ∨ n < 0 then ((0 : Int), (7 : Int)) else (match mrk (l.drop a.toNat) a.toNat n.toNat with | some k => ((k : Int), (0 : Int)) | none => ((0 : Int), (11 : Int))) := by
  unfold marksC
  rw [if_pos rfl]
  rfl
theorem marks_f (l : List Blk) (a n : Int) : marksC false l a n = (0, 8) := rfl
theorem marks_none {v : Bool} {l : List Blk} {a : Int} {n : Nat} (h : (marksC v l a 1).2 ≠ 0) : marksC v l a ((n + 1 : Nat) : Int) = (0, (marksC v l a 1).2) := by
  cases v with
  | false => rfl
  | true =>
    rw [marks_t] at h
    rw [marks_t, marks_t]
    by_cases hr : a < 0 ∨ (l.length : Int) < a
    · rw [if_pos (by omega), if_pos (by omega)]
    · rw [if_neg (by omega)] at h
      rw [if_neg (by omega), if_neg (by omega)]
      rw [show (1 : Int).toNat = 1 from rfl] at h ⊢
      rw [show ((n + 1 : Nat) : Int).toNat = n + 1 by omega, mrk_more l n (l.length - a.toNat) a.toNat (by omega)]
      cases hk : mrk (l.drop a.toNat) a.toNat 1 with
      | none => rfl
      | some b => rw [hk] at h; exact absurd rfl h
theorem marks_some {v : Bool} {l : List Blk} {a : Int} {n : Nat} (h : (marksC v l a 1).2 = 0) : ∃ b : Nat, marksC v l a 1 = ((b : Int), 0) ∧ 0 ≤ a ∧ a < (b : Int) ∧ b ≤ l.length ∧ (∃ h : b - 1 < l.length, l[b - 1].m = true) ∧ marksC v l a ((n + 1 : Nat) : Int) = marksC v l (b : Int) (n : Int) := by
  cases v with
  | false => rw [marks_f] at h; exact absurd h (by simp)
  | true =>
    rw [marks_t] at h
    by_cases hr : a < 0 ∨ (l.length : Int) < a
    · rw [if_pos (by omega)] at h; exact absurd h (by simp)
    · rw [if_neg (by omega)] at h
      rw [show (1 : Int).toNat = 1 from rfl] at h
      cases hk : mrk (l.drop a.toNat) a.toNat 1 with
      | none => rw [hk] at h; exact absurd h (by simp)
      | some b =>
        obtain ⟨h1, h2, h3⟩ := mrk_one l (l.length - a.toNat) a.toNat (by omega) b hk
        refine ⟨b, ?_, by omega, by omega, h2, h3, ?_⟩
        · rw [marks_t, if_neg (by omega), show (1 : Int).toNat = 1 from rfl, hk]
        · rw [marks_t, marks_t, if_neg (by omega), if_neg (by omega), show ((n + 1 : Nat) : Int).toNat = n + 1 by omega, show ((b : Int)).toNat = b by omega, show ((n : Int)).toNat = n by omega, mrk_more l n (l.length - a.toNat) a.toNat (by omega), hk]
          rfl
theorem marks_0 {v : Bool} {l : List Blk} {a : Int} (h : (marksC v l a 0).2 = 0) : marksC v l a 0 = (a, 0) := by
  cases v with
  | false => rw [marks_f] at h; exact absurd h (by simp)
  | true =>
    rw [marks_t] at h ⊢
    by_cases hr : a < 0 ∨ (l.length : Int) < a
    · rw [if_pos (by omega)] at h; exact absurd h (by simp)
    · rw [if_neg (by omega), show (0 : Int).toNat = 0 from rfl, mrk_zero]
      show ((a.toNat : Int), (0 : Int)) = (a, 0)
      rw [show (a.toNat : Int) = a by omega]
end Go.Proofs.Ytlbnjojafaieoaa
