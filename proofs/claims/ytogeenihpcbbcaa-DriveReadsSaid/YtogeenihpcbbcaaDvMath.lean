/-
  What operations on drives keep: no program.
-/
import Derived.Test.YtogeenihpcbbcaaDpRun2
import Derived.Test.YtogeenihpcbbcaaDrRead
namespace Go.Proofs.Ytogeenihpcbbcaa
open Go.RowKit
set_option linter.unusedVariables false
set_option linter.unusedSimpArgs false
theorem fst_mk {m : Mdl} {d : Drv} {c : Crt} (h1 : mdlU m = true) (h2 : drvU d = true) (h3 : vldC c = true) (h4 : d.st = 1) (h5 : d.bc.toList = c.bc.toList) (h6 : d.hd ≤ (c.l.length : Int)) : fstU m d c = 0 := by
  unfold fstU
  rw [h1, h2, h3, if_pos (show (true && (true && true)) = true from rfl), if_neg (by omega), if_neg (by omega), if_pos h5, if_neg (by omega)]
theorem fst_ok1 {m : Mdl} {d : Drv} {c : Crt} (h : fstU m d c = 0) : mdlU m = true ∧ drvU d = true ∧ vldC c = true ∧ d.st = 1 ∧ d.bc.toList = c.bc.toList ∧ d.hd ≤ (c.l.length : Int) := by
  obtain ⟨h1, h2, h3, h4, h5, h6, h7⟩ := fst_ok h
  refine ⟨h1, h2, h3, ?_, h6, h7⟩
  unfold drvU at h2
  simp only [Bool.and_eq_true, decide_eq_true_eq] at h2
  omega
theorem drvU_mv {d : Drv} {c : Crt} {t : Int} (h : drvU d = true) (h1 : d.st = 1) (t0 : 0 ≤ t) (t1 : t ≤ 4096) : drvU (mvD d c t) = true := by
  obtain ⟨k1, k2, k3, k4⟩ := drvU_cnt h
  obtain ⟨n0, n1⟩ := pas_bd c.W c.L c.S c.T c.J c.R d.hd t
  unfold drvU mvD
  rw [h1, cnt_iff.2 k1, cnt_iff.2 (inc_bd k2.1 n0), cnt_iff.2 (inc_bd k3.1 n0), decide_eq_true t0, decide_eq_true t1]
  rfl
theorem vldC_pa {c : Crt} {n : Int} (h : vldC c = true) (hn : 0 ≤ n ∧ n ≤ 1125899906842624) : vldC ⟨c.bc, c.W, c.L, c.S, c.T, c.J, c.R, c.wo, c.lk, c.l, c.ep, c.lo, n⟩ = true := by
  unfold vldC at h ⊢
  simp only [Bool.and_eq_true] at h ⊢
  exact ⟨h.1, h.2.1, h.2.2.1, h.2.2.2.1, h.2.2.2.2.1, h.2.2.2.2.2.1, cnt_iff.2 hn⟩
theorem vldC_mv {d : Drv} {c : Crt} {t : Int} (h : vldC c = true) : vldC (mvC d c t) = true := by
  obtain ⟨n0, n1⟩ := pas_bd c.W c.L c.S c.T c.J c.R d.hd t
  exact vldC_pa h (inc_bd (vldC_cnt h).2.1 n0)
/-- behind a motion the first checks succeed again -/
theorem mv_fst {m : Mdl} {d : Drv} {c : Crt} {t : Int} (h : fstU m d c = 0) (t0 : 0 ≤ t) (t1 : t ≤ (c.l.length : Int)) : fstU m (mvD d c t) (mvC d c t) = 0 := by
  obtain ⟨h1, h2, h3, h4, h5, h6⟩ := fst_ok1 h
  have hp := vldC_parts h3
  have hc := hp.1.c1
  exact fst_mk h1 (drvU_mv h2 h4 t0 (by have := hp.2.1; omega)) (vldC_mv h3) h4 h5 (show t ≤ ((mvC d c t).l.length : Int) from t1)
theorem vldC_l {c : Crt} {l : List Blk} (h : vldC c = true) (h1 : allB l = true) (h2 : (l.length : Int) ≤ capU c.W c.L c.S c.T c.J c.R) : vldC ⟨c.bc, c.W, c.L, c.S, c.T, c.J, c.R, c.wo, c.lk, l, c.ep, c.lo, c.pa⟩ = true := by
  unfold vldC at h ⊢
  simp only [Bool.and_eq_true] at h ⊢
  exact ⟨h.1, h.2.1, decide_eq_true h2, h1, h.2.2.2.2.1, h.2.2.2.2.2.1, h.2.2.2.2.2.2⟩
/-- what was written -/
theorem wr_is {c : Crt} {a : Int} {z : List Blk} (hz : z ≠ []) (h : (wriC (vldC c) c a z).2 = 0) : vldC c = true ∧ z.all okW = true ∧ (0 ≤ a ∧ a ≤ (c.l.length : Int)) ∧ (wriC (vldC c) c a z).1 = {c with l := c.l.take a.toNat ++ z} ∧ vldC {c with l := c.l.take a.toNat ++ z} = true := by
  obtain ⟨h1, h2, h3, h4, _, h6⟩ := wri_is h
  rw [if_neg hz] at h6
  refine ⟨h1, h2, h3, h6, vldC_l h1 ?_ ?_⟩
  · have hb := (vldC_parts h1).2.2.1
    unfold allB at hb ⊢
    rw [List.all_eq_true] at hb h2 ⊢
    intro b hm
    rcases List.mem_append.1 hm with hq | hq
    · exact hb b (List.mem_of_mem_take hq)
    · have := h2 b hq
      unfold okW at this
      rw [Bool.and_eq_true] at this
      exact this.1
  · rw [List.length_append, List.length_take]
    omega
theorem rdk_allw {l : List Blk} (h : l.all okW = true) : rdk l l.length = (l, 0) := by
  induction l with
  | nil => rfl
  | cons b l ih =>
    rw [List.all_cons, Bool.and_eq_true] at h
    have hb : b.bad = false := by
      have := h.1
      unfold okW at this
      rw [Bool.and_eq_true] at this
      simpa using this.2
    show (if b.bad = true then (([] : List Blk), (15 : Int)) else (b :: (rdk l l.length).1, (rdk l l.length).2)) = _
    rw [ih h.2, hb]
    rfl
/-- the first n of some blocks -/
theorem Ki.pre {w : World} {ad : Option Addr} {l : List Blk} (h : Ki w ad l) (n : Nat) : Ki w ad (l.take n) := by
  obtain ⟨E, rfl, h1, h2⟩ := h
  refine ⟨E.take n, by rw [List.map_take], ?_, fun k hk => h2 k (List.mem_of_mem_take hk)⟩
  rcases h1 with h0 | ⟨b, off, e, hlt, hc⟩
  · left
    have hE : E = [] := List.eq_nil_of_length_eq_zero (by have := cellsB_length E; rw [h0] at this; simp at this; omega)
    rw [hE, List.take_nil]
    rfl
  · refine .inr ⟨b, off, e, hlt, fun j u hu => hc j u ?_⟩
    rw [← cellsB_take] at hu
    have hj : j < n * 3 := by
      rcases Nat.lt_or_ge j (n * 3) with h | h
      · exact h
      · rw [List.getElem?_eq_none (by rw [List.length_take]; omega)] at hu; cases hu
    rwa [List.getElem?_take_of_lt hj] at hu
/-- a seek that succeeds; one that must -/
theorem sk_ok {m : Mdl} {d : Drv} {c : Crt} {t : Int} (h : (skU m d c t).2.2.2 = 0) : ∃ d2 c2 t2, skU m d c t = (d2, c2, t2, 0) ∧ (0 ≤ t ∧ t ≤ (c.l.length : Int)) ∧ d2.hd = t ∧ c2.l = c.l ∧ fstU m d2 c2 = 0 := by
  have hf : fstU m d c = 0 := by
    unfold skU at h
    by_cases h0 : fstU m d c = 0
    · exact h0
    · rw [if_neg h0] at h; exact absurd h h0
  have ht : 0 ≤ t ∧ t ≤ (c.l.length : Int) := by
    unfold skU at h
    rw [if_pos hf] at h
    by_cases h0 : 0 ≤ t ∧ t ≤ (c.l.length : Int)
    · exact h0
    · rw [if_neg h0] at h; exact absurd h (show ¬ ((7 : Int) = 0) by decide)
  refine ⟨mvD d c t, mvC d c t, _, by unfold skU; rw [if_pos hf, if_pos ht], ht, rfl, rfl, mv_fst hf ht.1 ht.2⟩
theorem sk_do {m : Mdl} {d : Drv} {c : Crt} {t : Int} (hf : fstU m d c = 0) (ht : 0 ≤ t ∧ t ≤ (c.l.length : Int)) : (skU m d c t).2.2.2 = 0 := by
  unfold skU
  rw [if_pos hf, if_pos ht]
/-- a write that succeeds -/
theorem wr_ok {m : Mdl} {d : Drv} {c : Crt} {z : List Blk} (hf : fstU m d c = 0) (h : (wrU m d c z).2.2.2 = 0) : ∃ d2 c2 t2, wrU m d c z = (d2, c2, t2, 0) ∧ 1 ≤ z.length ∧ d2.hd = d.hd + (z.length : Int) ∧ c2.l = c.l.take d.hd.toNat ++ z ∧ z.all okW = true ∧ fstU m d2 c2 = 0 := by
  have hw := h
  unfold wrU at hw
  rw [if_pos hf] at hw
  by_cases hwo : worn m c = true
  · rw [if_pos hwo] at hw; exact absurd hw (show ¬ ((17 : Int) = 0) by decide)
  rw [if_neg hwo] at hw
  by_cases hz : z = []
  · rw [if_pos hz] at hw; exact absurd hw (show ¬ ((8 : Int) = 0) by decide)
  rw [if_neg hz] at hw
  have hr : (wriC (vldC c) c d.hd z).2 = 0 := by
    by_cases h0 : (wriC (vldC c) c d.hd z).2 = 0
    · exact h0
    · rw [if_neg h0] at hw; exact absurd hw h0
  obtain ⟨hv2, hzw, hh, hwc, hv3⟩ := wr_is hz hr
  obtain ⟨q1, q2, q3, q4, q5, q6⟩ := fst_ok1 hf
  obtain ⟨cw, hcw⟩ : ∃ cw : Crt, cw = {c with l := c.l.take d.hd.toNat ++ z} := ⟨_, rfl⟩
  rw [← hcw] at hwc hv3
  have hcl : cw.l = c.l.take d.hd.toNat ++ z := by rw [hcw]
  have hcb : cw.bc = c.bc := by rw [hcw]
  have hlen : cw.l.length = d.hd.toNat + z.length := by rw [hcl, List.length_append, List.length_take]; omega
  have e3 : wrU m d c z = (mvD d cw (d.hd + (z.length : Int)), mvC d cw (d.hd + (z.length : Int)), rd c.W c.L c.S c.T c.J c.R d.hd (z.length : Int), 0) := by
    unfold wrU
    rw [if_pos hf, if_neg hwo, if_neg hz, if_pos hr, hwc]
  have hcap := (vldC_parts hv3).2.1
  have hc1 := (vldC_parts hv3).1.c1
  have hz1 : 1 ≤ z.length := by
    cases z with
    | nil => exact absurd rfl hz
    | cons => simp
  exact ⟨_, _, _, e3, hz1, rfl, hcl, hzw, fst_mk q1 (drvU_mv q2 q4 (by omega) (by omega)) (vldC_mv hv3) q4 (by show d.bc.toList = cw.bc.toList; rw [hcb]; exact q5) (by show d.hd + (z.length : Int) ≤ (cw.l.length : Int); omega)⟩
/-- a read of all that follows -/
theorem rd_do {m : Mdl} {d : Drv} {c : Crt} {z : List Blk} (hf : fstU m d c = 0) (h1 : c.l.drop d.hd.toNat = z) (h2 : 1 ≤ z.length) (h3 : (c.l.length : Int) = d.hd + (z.length : Int)) (hw : z.all okW = true) :
    ∃ d2 c2 t2, rdU m d c (z.length : Int) = (d2, c2, z, t2, 0) ∧ d2.hd = d.hd + (z.length : Int) := by
  have hR : rdR d c (z.length : Int) = (z, 0) := by
    unfold rdR
    rw [h1]
    exact rdk_allw hw
  refine ⟨mvD d c (d.hd + (z.length : Int)), mvC d c (d.hd + (z.length : Int)), rd c.W c.L c.S c.T c.J c.R d.hd (z.length : Int), ?_, rfl⟩
  unfold rdU
  rw [if_pos hf, if_neg (show ¬ ((z.length : Int) < 1 ∨ (c.l.length : Int) - d.hd < (z.length : Int)) by omega), hR]
/-- a load that succeeds keeps the blocks -/
theorem ldU_l {m : Mdl} {d : Drv} {c : Crt} (h : (ldU m d c).2.2.2 = 0) : (ldU m d c).2.1.l = c.l := by
  unfold ldU at h ⊢
  by_cases h1 : (mdlU m && (drvU d && vldC c)) = true
  · rw [if_pos h1] at h ⊢
    by_cases h2 : d.st = 2
    · rw [if_pos h2] at h; exact absurd h (show ¬ ((16 : Int) = 0) by decide)
    rw [if_neg h2] at h ⊢
    by_cases h3 : d.st = 1
    · rw [if_pos h3] at h; exact absurd h (show ¬ ((14 : Int) = 0) by decide)
    rw [if_neg h3] at h ⊢
    by_cases h4 : due m d = true
    · rw [if_pos h4] at h; exact absurd h (show ¬ ((13 : Int) = 0) by decide)
    rw [if_neg h4]
  · rw [if_neg h1] at h; exact absurd h (show ¬ ((8 : Int) = 0) by decide)
end Go.Proofs.Ytogeenihpcbbcaa
