/-
  What an operation costs, and what it adds to the passes (for DriveCosts): no program.
-/
import Derived.Test.YtepmmlnopdjjdaaDrCost
import Derived.Test.YtepmmlnopdjjdaaDpRun2
import Derived.Test.YtepmmlnopdjjdaaDrRead
namespace Go.Proofs.Ytepmmlnopdjjdaa
open Go.RowKit
set_option linter.unusedVariables false
set_option linter.unusedSimpArgs false
theorem fst_no15 (m : Mdl) (d : Drv) (c : Crt) : fstU m d c ≠ 15 := by
  unfold fstU
  repeat' split
  all_goals decide
theorem wri_no15 (v : Bool) (c : Crt) (a : Int) (z : List Blk) : (wriC v c a z).2 ≠ 15 := by
  unfold wriC
  repeat' split
  all_goals (dsimp only; decide)
theorem rdk_is : ∀ (l : List Blk) (n : Nat), n ≤ l.length → (rdk l n).2 = 0 ∨ (rdk l n).2 = 15
  | _, 0, _ => .inl (by rw [rdk_zero])
  | b :: l, n + 1, h => by
    show (if b.bad = true then (([] : List Blk), (15 : Int)) else (b :: (rdk l n).1, (rdk l n).2)).2 = 0 ∨ _
    by_cases hb : b.bad = true
    · right
      show (if b.bad = true then (([] : List Blk), (15 : Int)) else (b :: (rdk l n).1, (rdk l n).2)).2 = 15
      rw [if_pos hb]
    · have ih := rdk_is l n (by simpa using h)
      show (if b.bad = true then (([] : List Blk), (15 : Int)) else (b :: (rdk l n).1, (rdk l n).2)).2 = 0 ∨ (if b.bad = true then (([] : List Blk), (15 : Int)) else (b :: (rdk l n).1, (rdk l n).2)).2 = 15
      rw [if_neg hb]
      exact ih
theorem inc_small {n k : Int} (h : n ≤ 1000000000000000) (hk : k ≤ 5000000) : inc n k = n + k := by
  unfold inc
  rw [if_neg (by omega)]
/-- what is said of an operation's cost, over its result's parts -/
def CoS (m : Mdl) (d : Drv) (c : Crt) (k : Int) (rd : Drv) (rc : Crt) (t e : Int) : Prop :=
  ((e ≠ 0 ∧ e ≠ 15) ∧ rd = drZ ∧ t = 0) ∨ ((e = 0 ∨ e = 15) ∧ t = cosU m c.W c.L c.S c.T c.J c.R d.hd rd.hd k ∧ (k ≠ 4 → rc.l = c.l) ∧ rd.pa - d.pa = rc.pa - c.pa ∧ 0 ≤ rd.pa - d.pa ∧ rd.pa - d.pa ≤ 5000000)
theorem mv_cos {m : Mdl} {d : Drv} {c c2 : Crt} {k a t e : Int} (hD : d.pa ≤ 1000000000000000) (hC : c.pa ≤ 1000000000000000) (hp : c2.pa = c.pa) (he : e = 0 ∨ e = 15) (ht : t = cosU m c.W c.L c.S c.T c.J c.R d.hd a k) (hl : k ≠ 4 → c2.l = c.l) : CoS m d c k (mvD d c2 a) (mvC d c2 a) t e := by
  have hb := pas_bd c2.W c2.L c2.S c2.T c2.J c2.R d.hd a
  refine .inr ⟨he, ht, hl, ?_⟩
  show inc d.pa (pas c2.W c2.L c2.S c2.T c2.J c2.R d.hd a) - d.pa = inc c2.pa (pas c2.W c2.L c2.S c2.T c2.J c2.R d.hd a) - c.pa ∧ 0 ≤ inc d.pa (pas c2.W c2.L c2.S c2.T c2.J c2.R d.hd a) - d.pa ∧ inc d.pa (pas c2.W c2.L c2.S c2.T c2.J c2.R d.hd a) - d.pa ≤ 5000000
  rw [hp, inc_small hD hb.2, inc_small hC hb.2]
  omega
theorem no_cos {m : Mdl} {d : Drv} {c : Crt} {k e : Int} {rc : Crt} (h0 : e ≠ 0) (h15 : e ≠ 15) : CoS m d c k drZ rc 0 e := .inl ⟨⟨h0, h15⟩, rfl, rfl⟩
theorem st_cost (m : Mdl) (d : Drv) (c : Crt) (k n : Int) (z : List Blk) (hD : d.pa ≤ 1000000000000000) (hC : c.pa ≤ 1000000000000000) : CoS m d c k (stU m d c k n z).d (stU m d c k n z).c (stU m d c k n z).t (stU m d c k n z).e := by
  unfold stU
  by_cases h0 : k = 0
  · rw [if_pos h0]
    subst h0
    unfold ldU
    repeat' split
    all_goals first
      | (refine no_cos ?_ ?_ <;> (dsimp only; decide))
      | exact .inr ⟨.inl rfl, (by unfold cosU; first | done | rw [if_pos rfl]), fun _ => rfl, by dsimp only; omega⟩
  rw [if_neg h0]
  by_cases h1 : k = 1
  · rw [if_pos h1]
    subst h1
    unfold ulU
    by_cases hf : fstU m d c = 0
    · rw [if_pos hf]
      have h : CoS m d c 1 (mvD d c 0) (mvC d c 0) (loc c.W c.L c.S c.T c.J c.R d.hd 0 + m.ul) 0 := by
        refine mv_cos (c2 := c) (a := 0) hD hC rfl (.inl rfl) ?_ (fun _ => rfl)
        unfold cosU
        rw [if_neg (show ¬ (1 : Int) = 0 by decide), if_pos rfl]
        exact Int.add_comm _ _
      rcases h with h | h
      · exact absurd rfl h.1.1
      · exact .inr h
    · rw [if_neg hf]; exact no_cos hf (fst_no15 m d c)
  rw [if_neg h1]
  by_cases h2 : k = 2
  · rw [if_pos h2]
    subst h2
    unfold skU
    by_cases hf : fstU m d c = 0
    · rw [if_pos hf]
      by_cases hn : 0 ≤ n ∧ n ≤ (c.l.length : Int)
      · rw [if_pos hn]
        exact mv_cos (c2 := c) (a := n) hD hC rfl (.inl rfl) (by unfold cosU; rw [if_neg (show ¬ (2 : Int) = 0 by decide), if_neg (show ¬ (2 : Int) = 1 by decide), if_pos rfl]) (fun _ => rfl)
      · rw [if_neg hn]; exact no_cos (by decide) (by decide)
    · rw [if_neg hf]; exact no_cos hf (fst_no15 m d c)
  rw [if_neg h2]
  by_cases h3 : k = 3
  · rw [if_pos h3]
    subst h3
    unfold rdU
    by_cases hf : fstU m d c = 0
    · rw [if_pos hf]
      by_cases hn : n < 1 ∨ (c.l.length : Int) - d.hd < n
      · rw [if_pos hn]; exact no_cos (by decide) (by decide)
      · rw [if_neg hn]
        have hh := (drvU_cnt (fst_ok hf).2.1).2.2.2
        exact mv_cos (c2 := c) (a := d.hd + ((rdR d c n).1.length : Int)) hD hC rfl (rdk_is _ _ (by rw [List.length_drop]; omega)) (by dsimp only; unfold cosU; rw [if_neg (show ¬ (3 : Int) = 0 by decide), if_neg (show ¬ (3 : Int) = 1 by decide), if_neg (show ¬ (3 : Int) = 2 by decide), if_pos (.inl rfl)]; congr 1; omega) (fun _ => rfl)
    · rw [if_neg hf]; exact no_cos hf (fst_no15 m d c)
  rw [if_neg h3]
  by_cases h4 : k = 4
  · rw [if_pos h4]
    subst h4
    unfold wrU
    by_cases hf : fstU m d c = 0
    · rw [if_pos hf]
      by_cases hw : worn m c = true
      · rw [if_pos hw]; exact no_cos (by decide) (by decide)
      rw [if_neg hw]
      by_cases hz0 : z = []
      · rw [if_pos hz0]; exact no_cos (by decide) (by decide)
      rw [if_neg hz0]
      by_cases hr : (wriC (vldC c) c d.hd z).2 = 0
      · rw [if_pos hr]
        have hwc := (wri_is hr).2.2.2.2.2
        exact mv_cos (c2 := (wriC (vldC c) c d.hd z).1) (a := d.hd + (z.length : Int)) hD hC (by rw [hwc]) (.inl rfl) (by dsimp only; unfold cosU; rw [if_neg (show ¬ (4 : Int) = 0 by decide), if_neg (show ¬ (4 : Int) = 1 by decide), if_neg (show ¬ (4 : Int) = 2 by decide), if_pos (.inr rfl)]; congr 1; omega) (fun h => absurd rfl h)
      · rw [if_neg hr]; exact no_cos hr (wri_no15 _ _ _ _)
    · rw [if_neg hf]; exact no_cos hf (fst_no15 m d c)
  rw [if_neg h4]
  unfold clU
  repeat' split
  all_goals first
    | (refine no_cos ?_ ?_ <;> (dsimp only; decide))
    | exact .inr ⟨.inl rfl, (by unfold cosU; rw [if_neg h0, if_neg h1, if_neg h2, if_neg (show ¬ (k = 3 ∨ k = 4) by omega)]), fun _ => rfl, by dsimp only; omega⟩
end Go.Proofs.Ytepmmlnopdjjdaa
