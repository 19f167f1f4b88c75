/-
  What a Pick and a Put keep: the cartridges, the validity, the time (no program).
-/
import Derived.Test.YtmhaeipklifhcaaRbPick
import Derived.Test.YtmhaeipklifhcaaRbRef2
namespace Go.Proofs.Ytmhaeipklifhcaa
set_option linter.unusedVariables false
/-- how often a barcode is in a robot -/
abbrev cnR (r : Rbt) (s : ByteArray) : Nat := (allR r).count s
theorem cn_eq (r : Rbt) (s : ByteArray) : cnR r s = r.l.count s + ((if r.po = s then 1 else 0) + (if r.ha = s then 1 else 0)) := by
  show (r.l ++ [r.po, r.ha]).count s = _
  rw [List.count_append, List.count_cons, List.count_cons, List.count_nil]
  simp only [beq_iff_eq, Nat.zero_add]
  omega
theorem count_set_ {l : List ByteArray} {j : Nat} (hj : j < l.length) (x s : ByteArray) : (l.set j x).count s + (if l[j] = s then 1 else 0) = l.count s + (if x = s then 1 else 0) := by
  induction l generalizing j with
  | nil => simp at hj
  | cons a l ih =>
    cases j with
    | zero =>
      rw [List.set_cons_zero, List.count_cons, List.count_cons]
      simp only [beq_iff_eq, List.getElem_cons_zero]
      omega
    | succ j =>
      rw [List.set_cons_succ, List.count_cons, List.count_cons]
      have := ih (by simpa using hj)
      simp only [beq_iff_eq, List.getElem_cons_succ]
      omega
theorem fin_absent {r : Rbt} {b : ByteArray} (hb : b ≠ emp) (h : (finR r b).2.2 = false) : cnR r b = 0 := by
  rw [List.count_eq_zero]
  intro hm
  unfold finR at h
  rw [if_neg hb] at h
  have hn : (contC r).find? (fun x => decide (x.2.2 = b)) = none := by
    cases hf : (contC r).find? (fun x => decide (x.2.2 = b)) with
    | none => rfl
    | some x => rw [hf] at h; cases h
  rw [List.find?_eq_none] at hn
  rw [← contC_snd] at hm
  obtain ⟨y, hy, e⟩ := List.mem_map.1 hm
  have := hn y hy
  simp [e] at this
/-- a Pick that succeeds -/
structure PicOk (m : Rmd) (r : Rbt) (k i : Int) (b c : ByteArray) : Prop where
  rea : Rea m r k i
  ha : r.ha = emp
  ne : c ≠ emp
  eq : picR m r k i b = ({ withR r k i emp with p := (locR m r k i).1, ha := c }, trvR m r.p (locR m r k i).1 + m.pk, 0)
  d : k = 1 → c = b ∧ (finR r b).2.2 = false
  s : k ≠ 1 → c = atR r k i
theorem pic_ok {m : Rmd} {r : Rbt} {k i : Int} {b : ByteArray} (h : (picR m r k i b).2.2 = 0) : ∃ c, PicOk m r k i b c := by
  by_cases hz : (reaR m r k i).2 = 0
  rotate_left
  · have e : picR m r k i b = (rz, 0, (reaR m r k i).2) := by unfold picR; rw [if_pos hz]
    rw [e] at h
    exact absurd h hz
  have hr := rea_ok hz
  have he := hr.eq
  by_cases hh : r.ha = emp
  rotate_left
  · have e : picR m r k i b = (rz, 0, 14) := by unfold picR; rw [he, if_neg (by simp), if_pos hh]
    rw [e] at h; cases h
  by_cases hk : k = 1
  · by_cases hb : b = emp ∨ (finR r b).2.2 = true
    · have e : picR m r k i b = (rz, 0, 8) := by unfold picR; rw [he, if_neg (by simp), if_neg (by simpa using hh), if_pos hk, if_pos hb]
      rw [e] at h; cases h
    · have hb1 : b ≠ emp := fun e => hb (.inl e)
      have hb2 : (finR r b).2.2 = false := by
        rcases hx : (finR r b).2.2 with _ | _
        · rfl
        · exact absurd (.inr hx) hb
      refine ⟨b, hr, hh, hb1, ?_, fun _ => ⟨rfl, hb2⟩, fun h => absurd hk h⟩
      unfold picR; rw [he, if_neg (by simp), if_neg (by simpa using hh), if_pos hk, if_neg hb]
      subst hk
      unfold withR; rfl
  · by_cases hc : atR r k i = emp
    · have e : picR m r k i b = (rz, 0, 11) := by
        unfold picR; rw [he, if_neg (by simp), if_neg (by simpa using hh), if_neg hk]
        unfold atR at hc
        by_cases h0 : k = 0
        · rw [if_pos h0] at hc ⊢; rw [if_pos hc]
        · rw [if_neg h0] at hc ⊢; rw [if_pos hc]
      rw [e] at h; cases h
    · refine ⟨atR r k i, hr, hh, hc, ?_, fun h => absurd h hk, fun _ => rfl⟩
      unfold picR; rw [he, if_neg (by simp), if_neg (by simpa using hh), if_neg hk]
      unfold atR withR at *
      rcases hr.kind with h0 | h0 | h0
      · subst h0; rw [if_pos rfl] at hc ⊢; rw [if_neg hc]; rfl
      · exact absurd h0 hk
      · subst h0; rw [if_neg (by decide)] at hc ⊢; rw [if_neg hc]; rfl
/-- a Put that succeeds -/
structure PutOk (m : Rmd) (r : Rbt) (k i : Int) : Prop where
  rea : Rea m r k i
  ha : r.ha ≠ emp
  at_ : k ≠ 1 → atR r k i = emp
  eq : putR m r k i = ({ withR r k i r.ha with p := (locR m r k i).1, ha := emp }, trvR m r.p (locR m r k i).1 + m.pt, 0)
theorem put_yes {m : Rmd} {r : Rbt} {k i : Int} (hr : Rea m r k i) (hh : r.ha ≠ emp) (hat : k ≠ 1 → atR r k i = emp) : PutOk m r k i := by
  refine ⟨hr, hh, hat, ?_⟩
  by_cases hk : k = 1
  · subst hk
    unfold putR; rw [hr.eq, if_neg (by simp), if_neg hh, if_pos rfl]
    unfold withR; rfl
  · have hc := hat hk
    unfold putR; rw [hr.eq, if_neg (by simp), if_neg hh, if_neg hk]
    unfold atR withR at *
    rcases hr.kind with h0 | h0 | h0
    · subst h0; rw [if_pos rfl] at hc ⊢; rw [if_neg (by simpa using hc)]; rfl
    · exact absurd h0 hk
    · subst h0; rw [if_neg (by decide)] at hc ⊢; rw [if_neg (by simpa using hc)]; rfl
theorem put_ok {m : Rmd} {r : Rbt} {k i : Int} (h : (putR m r k i).2.2 = 0) : PutOk m r k i := by
  by_cases hz : (reaR m r k i).2 = 0
  rotate_left
  · have e : putR m r k i = (rz, 0, (reaR m r k i).2) := by unfold putR; rw [if_pos hz]
    rw [e] at h
    exact absurd h hz
  have hr := rea_ok hz
  have he := hr.eq
  by_cases hh : r.ha = emp
  · have e : putR m r k i = (rz, 0, 11) := by unfold putR; rw [he, if_neg (by simp), if_pos hh]
    rw [e] at h; cases h
  refine put_yes hr hh fun hk => Classical.byContradiction fun hc => ?_
  have e : putR m r k i = (rz, 0, 12) := by
    unfold putR; rw [he, if_neg (by simp), if_neg hh, if_neg hk]
    unfold atR at hc
    by_cases h0 : k = 0
    · rw [if_pos h0] at hc ⊢; rw [if_pos hc]
    · rw [if_neg h0] at hc ⊢; rw [if_pos hc]
  rw [e] at h; cases h
theorem pic_err {m : Rmd} {r : Rbt} {k i : Int} {b : ByteArray} (h : (picR m r k i b).2.2 ≠ 0) : (picR m r k i b).1 = rz ∧ (picR m r k i b).2.1 = 0 := by
  unfold picR at *
  split at h
  · rename_i h1; rw [if_pos h1]; exact ⟨rfl, rfl⟩
  rename_i h1; rw [if_neg h1]
  split at h
  · rename_i h2; rw [if_pos h2]; exact ⟨rfl, rfl⟩
  rename_i h2; rw [if_neg h2]
  split at h
  · rename_i h3; rw [if_pos h3]
    split at h
    · rename_i h4; rw [if_pos h4]; exact ⟨rfl, rfl⟩
    · exact absurd rfl h
  rename_i h3; rw [if_neg h3]
  split at h
  · rename_i h4; rw [if_pos h4]
    split at h
    · rename_i h5; rw [if_pos h5]; exact ⟨rfl, rfl⟩
    · exact absurd rfl h
  · rename_i h4; rw [if_neg h4]
    split at h
    · rename_i h5; rw [if_pos h5]; exact ⟨rfl, rfl⟩
    · exact absurd rfl h
theorem put_err {m : Rmd} {r : Rbt} {k i : Int} (h : (putR m r k i).2.2 ≠ 0) : (putR m r k i).1 = rz ∧ (putR m r k i).2.1 = 0 := by
  unfold putR at *
  split at h
  · rename_i h1; rw [if_pos h1]; exact ⟨rfl, rfl⟩
  rename_i h1; rw [if_neg h1]
  split at h
  · rename_i h2; rw [if_pos h2]; exact ⟨rfl, rfl⟩
  rename_i h2; rw [if_neg h2]
  split at h
  · exact absurd rfl h
  rename_i h3; rw [if_neg h3]
  split at h
  · rename_i h4; rw [if_pos h4]
    split at h
    · rename_i h5; rw [if_pos h5]; exact ⟨rfl, rfl⟩
    · exact absurd rfl h
  · rename_i h4; rw [if_neg h4]
    split at h
    · rename_i h5; rw [if_pos h5]; exact ⟨rfl, rfl⟩
    · exact absurd rfl h
/-- a slot that the hand can reach -/
theorem Rea.nat {m : Rmd} {r : Rbt} {i : Int} (h : Rea m r 0 i) : ∃ j : Nat, i = (j : Int) ∧ j < r.l.length := by
  obtain ⟨h1, h2, _⟩ := h.slot
  exact ⟨i.toNat, by omega, by omega⟩
theorem atR_slot {r : Rbt} {j : Nat} (hj : j < r.l.length) : atR r 0 (j : Int) = r.l[j] := by unfold atR; rw [if_pos rfl]; simp [hj]
/-- the cartridges behind a Pick -/
theorem PicOk.cn {m : Rmd} {r : Rbt} {k i : Int} {b c : ByteArray} (h : PicOk m r k i b c) {s : ByteArray} (hs : s ≠ emp) : cnR (picR m r k i b).1 s = cnR r s + (if k = 1 ∧ s = c then 1 else 0) := by
  rw [h.eq]
  show cnR { withR r k i emp with p := (locR m r k i).1, ha := c } s = _
  rw [cn_eq, cn_eq, h.ha]
  have he : ¬ (emp = s) := fun e => hs e.symm
  rw [if_neg he]
  rcases h.rea.kind with hk | hk | hk
  · subst hk
    obtain ⟨j, rfl, hj⟩ := h.rea.nat
    have hc := h.s (by decide)
    rw [atR_slot hj] at hc
    have h1 := count_set_ hj emp s
    rw [if_neg he, ← hc] at h1
    have hif : (if (0 : Int) = 1 ∧ s = c then (1 : Nat) else 0) = 0 := if_neg (by simp)
    rw [hif]
    show (withR r 0 (j : Int) emp).l.count s + ((if (withR r 0 (j : Int) emp).po = s then 1 else 0) + (if c = s then 1 else 0)) = _
    have e1 : (withR r 0 (j : Int) emp).l = r.l.set j emp := by unfold withR; simp
    have e2 : (withR r 0 (j : Int) emp).po = r.po := rfl
    rw [e1, e2]
    omega
  · subst hk
    show r.l.count s + ((if r.po = s then 1 else 0) + (if c = s then 1 else 0)) = _
    by_cases hcs : c = s
    · rw [if_pos hcs, if_pos (show (1 : Int) = 1 ∧ s = c from ⟨rfl, hcs.symm⟩)]; omega
    · rw [if_neg hcs, if_neg (show ¬ ((1 : Int) = 1 ∧ s = c) from fun h => hcs h.2.symm)]; omega
  · subst hk
    have hc := h.s (by decide)
    have hc2 : c = r.po := by rw [hc]; rfl
    have hif : (if (2 : Int) = 1 ∧ s = c then (1 : Nat) else 0) = 0 := if_neg (by simp)
    rw [hif]
    show r.l.count s + ((if emp = s then 1 else 0) + (if c = s then 1 else 0)) = _
    rw [if_neg he, hc2]
    omega
/-- the cartridges behind a Put -/
theorem PutOk.cn {m : Rmd} {r : Rbt} {k i : Int} (h : PutOk m r k i) {s : ByteArray} (hs : s ≠ emp) : cnR (putR m r k i).1 s + (if k = 1 ∧ s = r.ha then 1 else 0) = cnR r s := by
  rw [h.eq]
  show cnR { withR r k i r.ha with p := (locR m r k i).1, ha := emp } s + _ = _
  rw [cn_eq, cn_eq]
  have he : ¬ (emp = s) := fun e => hs e.symm
  rcases h.rea.kind with hk | hk | hk
  · subst hk
    obtain ⟨j, rfl, hj⟩ := h.rea.nat
    have hc := h.at_ (by decide)
    rw [atR_slot hj] at hc
    have h1 := count_set_ hj r.ha s
    rw [hc, if_neg he] at h1
    rw [if_neg (c := (0 : Int) = 1 ∧ s = r.ha) (by simp)]
    show (withR r 0 (j : Int) r.ha).l.count s + ((if (withR r 0 (j : Int) r.ha).po = s then 1 else 0) + (if emp = s then 1 else 0)) + 0 = _
    have e1 : (withR r 0 (j : Int) r.ha).l = r.l.set j r.ha := by unfold withR; simp
    have e2 : (withR r 0 (j : Int) r.ha).po = r.po := rfl
    rw [e1, e2, if_neg he]
    omega
  · subst hk
    show r.l.count s + ((if r.po = s then 1 else 0) + (if emp = s then 1 else 0)) + _ = _
    rw [if_neg he]
    by_cases hcs : r.ha = s
    · rw [if_pos hcs, if_pos (show (1 : Int) = 1 ∧ s = r.ha from ⟨rfl, hcs.symm⟩)]; omega
    · rw [if_neg hcs, if_neg (show ¬ ((1 : Int) = 1 ∧ s = r.ha) from fun h => hcs h.2.symm)]; omega
  · subst hk
    have hc : r.po = emp := h.at_ (by decide)
    rw [if_neg (c := (2 : Int) = 1 ∧ s = r.ha) (by simp)]
    show r.l.count s + ((if r.ha = s then 1 else 0) + (if emp = s then 1 else 0)) + 0 = _
    rw [if_neg he, hc, if_neg he]
    omega
theorem with_len (r : Rbt) (k i : Int) (b : ByteArray) : (withR r k i b).l.length = r.l.length := by
  unfold withR
  split <;> simp
theorem PicOk.vld {m : Rmd} {r : Rbt} {k i : Int} {b c : ByteArray} (h : PicOk m r k i b c) : vldR m (picR m r k i b).1 = true := by
  obtain ⟨hm, hl, hp, hc⟩ := vld_iff.1 h.rea.v
  rw [vld_iff]
  refine ⟨hm, ?_, ?_, fun s hs => ?_⟩
  · rw [h.eq]; show ((withR r k i emp).l.length : Int) = _; rw [with_len]; exact hl
  · rw [h.eq]; exact loc_rail h.rea
  · have h1 := h.cn hs
    have h2 : cnR r s ≤ 1 := hc s hs
    show cnR (picR m r k i b).1 s ≤ 1
    by_cases hk : k = 1 ∧ s = c
    · obtain ⟨e1, e2⟩ := h.d hk.1
      have := fin_absent (by rw [← e1]; exact h.ne) e2
      rw [if_pos hk, hk.2, e1, this] at h1
      rw [hk.2, e1]
      omega
    · rw [if_neg hk] at h1
      omega
theorem PutOk.vld {m : Rmd} {r : Rbt} {k i : Int} (h : PutOk m r k i) : vldR m (putR m r k i).1 = true := by
  obtain ⟨hm, hl, hp, hc⟩ := vld_iff.1 h.rea.v
  rw [vld_iff]
  refine ⟨hm, ?_, ?_, fun s hs => ?_⟩
  · rw [h.eq]; show ((withR r k i r.ha).l.length : Int) = _; rw [with_len]; exact hl
  · rw [h.eq]; exact loc_rail h.rea
  · have h1 := h.cn hs
    have h2 : cnR r s ≤ 1 := hc s hs
    show cnR (putR m r k i).1 s ≤ 1
    omega
/-- a Put behind a Pick into the same element -/
theorem back {m : Rmd} {r : Rbt} {k i : Int} {c : ByteArray} (h : PicOk m r k i emp c) :
    PutOk m (picR m r k i emp).1 k i ∧ posR m r k i = ((picR m r k i emp).1.p, true) ∧ { (putR m (picR m r k i emp).1 k i).1 with p := r.p } = r ∧ (putR m (picR m r k i emp).1 k i).2.1 = m.pt := by
  have hk1 : k ≠ 1 := fun e => h.ne (h.d e).1
  have hv := h.vld
  have he := h.eq
  generalize picR m r k i emp = x at *
  have hloc : locR m x.1 k i = locR m r k i := by
    rcases h.rea.kind with hk | hk | hk <;> subst hk
    · rw [loc_0, loc_0]
    · rw [loc_1, loc_1]
    · rw [loc_2, loc_2]
  have hf : x.1.f = false := by rw [he]; exact h.rea.f
  have hrea : Rea m x.1 k i := ⟨hv, hf, by rw [hloc]; exact h.rea.l, h.rea.k3⟩
  have hha : x.1.ha = c := by rw [he]
  have hp : x.1.p = (locR m r k i).1 := by rw [he]
  have hat : k ≠ 1 → atR x.1 k i = emp := fun _ => by
    rw [he]
    rcases h.rea.kind with hk | hk | hk
    · subst hk
      obtain ⟨j, rfl, hj⟩ := h.rea.nat
      show atR { withR r 0 (j : Int) emp with p := _, ha := c } 0 (j : Int) = emp
      unfold atR withR
      simp [hj]
    · exact absurd hk hk1
    · subst hk; rfl
  have hput := put_yes hrea (by rw [hha]; exact h.ne) hat
  refine ⟨hput, ?_, ?_, ?_⟩
  · unfold posR
    rw [if_pos h.rea.v, hp]
    exact Prod.ext rfl h.rea.l
  · rw [hput.eq]
    have hra := h.ha
    rcases h.rea.kind with hk | hk | hk
    · subst hk
      obtain ⟨j, rfl, hj⟩ := h.rea.nat
      have hc := h.s (by decide)
      rw [atR_slot hj] at hc
      rw [hha, he]
      obtain ⟨p, f, l, po, ha⟩ := r
      simp only at hra hc hj
      subst hra
      unfold withR
      simp [hc]
    · exact absurd hk hk1
    · subst hk
      have hc : c = r.po := h.s (by decide)
      rw [hha, he]
      obtain ⟨p, f, l, po, ha⟩ := r
      simp only at hra hc
      subst hra hc
      unfold withR
      simp
  · rw [hput.eq, hloc, hp]
    show trvR m (locR m r k i).1 (locR m r k i).1 + m.pt = m.pt
    have : trvR m (locR m r k i).1 (locR m r k i).1 = 0 := by
      unfold trvR
      split
      · rw [if_neg (by omega)]; simp
      · rfl
    omega
theorem trv_le {m : Rmd} (hm : MdlR m) (a b : Int) : 0 ≤ trvR m a b ∧ trvR m a b ≤ m.mv * rail m := by
  have hr := rail_le hm
  have h0 := Int.mul_nonneg hm.m0 hr.1
  unfold trvR
  split
  · rename_i h
    have h2 := inn_iff.1 h.2.1
    have h3 := inn_iff.1 h.2.2
    have := mul_le (A := m.mv) (B := rail m) hm.m0 (Int.le_refl _) (b := if b < a then a - b else b - a) (by split <;> omega) (by split <;> omega)
    omega
  · omega
/-- the time of both -/
theorem time_le {m : Rmd} (hm : MdlR m) (a b c d : Int) : trvR m a b + m.pk + (trvR m c d + m.pt) ≤ farR m ∧ m.pk + m.pt ≤ trvR m a b + m.pk + (trvR m c d + m.pt) ∧ m.pk ≤ trvR m a b + m.pk := by
  have h1 := trv_le hm a b
  have h2 := trv_le hm c d
  rw [far_yes (mdl_iff.2 hm), Int.mul_assoc]
  omega
/-- the cartridges behind both -/
theorem move_cn {m : Rmd} {r : Rbt} {k i k' i' : Int} {b c : ByteArray} (h : PicOk m r k i b c) (g : PutOk m (picR m r k i b).1 k' i') :
    (∀ s, s ≠ emp → s ≠ c → cnR (putR m (picR m r k i b).1 k' i').1 s = cnR r s) ∧ cnR (putR m (picR m r k i b).1 k' i').1 c = (if k' = 1 then 0 else 1) := by
  have hha : (picR m r k i b).1.ha = c := by rw [h.eq]
  refine ⟨fun s hs hsc => ?_, ?_⟩
  · have h1 := h.cn hs
    have h2 := g.cn hs
    rw [if_neg (fun e => hsc e.2)] at h1
    rw [hha, if_neg (fun e => hsc e.2)] at h2
    omega
  · have h2 := g.cn h.ne
    rw [hha] at h2
    have h3 : cnR (picR m r k i b).1 c ≤ 1 := (vld_iff.1 h.vld).2.2.2 c h.ne
    have h4 : 1 ≤ cnR (picR m r k i b).1 c := by
      rw [cn_eq, hha, if_pos rfl]
      omega
    by_cases hk : k' = 1
    · rw [if_pos ⟨hk, rfl⟩] at h2
      rw [if_pos hk]
      omega
    · rw [if_neg (fun e => hk e.1)] at h2
      rw [if_neg hk]
      omega
theorem cn_one {m : Rmd} {r : Rbt} (hv : vldR m r = true) {s : ByteArray} (hs : s ≠ emp) (hm : s ∈ allR r) : cnR r s = 1 := by
  have h1 := (vld_iff.1 hv).2.2.2 s hs
  have h2 := List.count_pos_iff.2 hm
  show (allR r).count s = 1
  omega
end Go.Proofs.Ytmhaeipklifhcaa
