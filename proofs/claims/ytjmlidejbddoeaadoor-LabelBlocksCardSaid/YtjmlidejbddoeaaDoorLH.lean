/-
  Labels: the mathematics of blocks, bodies and what Parse answers.
  The specification's Name and Barcode.
  The specification's Valid; a label in its box.
-/
import Derived.Test.YtjmlidejbddoeaaDoorLD
import Derived.Test.YtjmlidejbddoeaaDoorLF
import Derived.Test.YtjmlidejbddoeaaDoorLG
import Derived.Deep.LoopGhost
namespace Go.Proofs.YtjmlidejbddoeaaDoor
set_option linter.unusedVariables false
/-- a label -/
structure Lbl where
  bc : ByteArray
  pl : ByteArray
  ep : Int
  cr : Int
def Lbl.zero : Lbl := ⟨⟨#[]⟩, ⟨#[]⟩, 0, 0⟩
/-- a byte of a name -/
def chn (x : UInt8) : Bool := (decide (97 ≤ x.toNat) && decide (x.toNat ≤ 122)) || (decide (48 ≤ x.toNat) && decide (x.toNat ≤ 57)) || x.toNat == 45
/-- a text begins with a lower-case letter -/
def low : List UInt8 → Bool
  | [] => false
  | x :: _ => decide (97 ≤ x.toNat) && decide (x.toNat ≤ 122)
def nam (s : ByteArray) : Bool := (s.data.toList.all chn && low s.data.toList) && (decide (1 ≤ s.size) && decide (s.size ≤ 24))
def numE (n : Int) : Bool := decide (0 ≤ n) && decide (n ≤ 1125899906842624)
def numT (n : Int) : Bool := decide (0 ≤ n) && decide (n < 1099511627776)
def vldT (x : Lbl) : Bool := (bar x.bc && nam x.pl) && (numE x.ep && numT x.cr)
def volume : ByteArray := ⟨#[118, 111, 108, 117, 109, 101]⟩
def bodyT (x : Lbl) : List UInt8 := ((((encT volume ++ encT x.bc) ++ encT x.pl) ++ enc (cod x.ep)) ++ enc (cod x.cr))
/-- the bytes of a block that begins with these -/
def pad (xs : List UInt8) : List UInt8 := xs.take 64 ++ List.replicate (64 - xs.length) 0
/-- the block i of bytes -/
def blkAt (xs : List UInt8) (i : Nat) : Blk := ⟨false, false, pad (xs.drop (64 * i))⟩
def cntB (n : Nat) : Nat := (n + 63) / 64
def divB (xs : List UInt8) : List Blk := (List.range (cntB xs.length)).map (blkAt xs)
def markB : Blk := ⟨true, false, []⟩
def bytB : List Blk → List UInt8
  | [] => []
  | k :: l => if k.m || k.bad then [] else k.d ++ bytB l
/-- the first block that is a mark or bad is bad -/
def medB : List Blk → Bool
  | [] => false
  | k :: l => if k.bad then true else if k.m then false else medB l
def blkT (x : Lbl) : List Blk := divB (frm (bodyT x)) ++ [markB]
/-- what Blocks answers -/
def blkR (x : Lbl) : List Blk × Int := if vldT x then (blkT x, 0) else ([], 8)
/-- what a body says -/
def fldT (xs : List UInt8) : Lbl × Int :=
  let a := tR xs 0 24
  if a.2.2 ≠ 0 then (.zero, a.2.2) else
  if a.1 ≠ volume then (.zero, 1) else
  let b := tR xs a.2.1 24
  if b.2.2 ≠ 0 then (.zero, b.2.2) else
  let c := tR xs b.2.1 24
  if c.2.2 ≠ 0 then (.zero, c.2.2) else
  let d := iR xs c.2.1
  if d.2.2 ≠ 0 then (.zero, d.2.2) else
  let f := iR xs d.2.1
  if f.2.2 ≠ 0 then (.zero, f.2.2) else
  if f.2.1 < xs.length then (.zero, 3) else
  if vldT ⟨b.1, c.1, d.1, f.1⟩ = false then (.zero, 8) else (⟨b.1, c.1, d.1, f.1⟩, 0)
/-- what Parse answers -/
def parT (l : List Blk) : Lbl × Int × Int :=
  if medB l then (.zero, 0, 15) else
  if (chk (bytB l) 0).2 ≠ 0 then (.zero, 0, (chk (bytB l) 0).2) else
  if (fldT (bodyAt (bytB l) 0)).2 ≠ 0 then (.zero, 0, (fldT (bodyAt (bytB l) 0)).2) else
  if l.take (blkT (fldT (bodyAt (bytB l) 0)).1).length = blkT (fldT (bodyAt (bytB l) 0)).1 then ((fldT (bodyAt (bytB l) 0)).1, ((blkT (fldT (bodyAt (bytB l) 0)).1).length : Int), 0) else (.zero, 0, 24)

theorem pad_length (xs : List UInt8) : (pad xs).length = 64 := by simp [pad]; omega
theorem divB_length (xs : List UInt8) : (divB xs).length = cntB xs.length := by simp [divB]
theorem divB_get (xs : List UInt8) (i : Nat) (h : i < (divB xs).length) : (divB xs)[i] = blkAt xs i := by simp [divB]
theorem divB_snoc (xs : List UInt8) (n : Nat) : (List.range (n + 1)).map (blkAt xs) = (List.range n).map (blkAt xs) ++ [blkAt xs n] := by simp [List.range_succ]
theorem blkT_length (x : Lbl) : (blkT x).length = cntB ((bodyT x).length + 10) + 1 := by simp [blkT, divB_length, frm_length]
theorem bytB_take (l : List Blk) (k : Nat) (h : k < l.length) (ha : ∀ j (h : j < l.length), j ≤ k → (l[j].m || l[j].bad) = false) : bytB (l.take (k + 1)) = bytB (l.take k) ++ l[k].d := by
  induction l generalizing k with
  | nil => simp at h
  | cons x l ih =>
    have h0 : (x.m || x.bad) = false := ha 0 (by simp) (Nat.zero_le _)
    cases k with
    | zero => simp [bytB, h0]
    | succ k =>
      simp only [List.take_succ_cons, bytB, h0]
      have := ih k (by simpa using h) (fun j hj hjk => by have := ha (j + 1) (by simpa using hj) (by omega); simpa using this)
      simp [this]
/-- up to the first block that ends the bytes -/
theorem bytB_stop (l : List Blk) (k : Nat) (h : k ≤ l.length) (ha : k = l.length ∨ ∃ h : k < l.length, (l[k].m || l[k].bad) = true) (hb : ∀ j (h : j < l.length), j < k → (l[j].m || l[j].bad) = false) : bytB l = bytB (l.take k) := by
  induction l generalizing k with
  | nil => simp [bytB]
  | cons x l ih =>
    cases k with
    | zero =>
      rcases ha with ha | ⟨_, ha⟩
      · simp at ha
      · simp only [List.getElem_cons_zero] at ha
        simp [bytB, ha]
    | succ k =>
      have h0 : (x.m || x.bad) = false := hb 0 (by simp) (by omega)
      have := ih k (by simpa using h) (by
        rcases ha with ha | ⟨h1, ha⟩
        · left; simpa using ha
        · right; exact ⟨by simpa using h1, by simpa using ha⟩) (fun j hj hjk => by have := hb (j + 1) (by simpa using hj) (by omega); simpa using this)
      simp [bytB, h0, this]
theorem bytB_le (l : List Blk) (n D : Nat) (hn : l.length ≤ n) (h : ∀ b ∈ l, b.d.length ≤ D) : (bytB l).length ≤ n * D := by
  induction l generalizing n with
  | nil => simp [bytB]
  | cons x l ih =>
    cases n with
    | zero => simp at hn
    | succ n =>
      have h1 := h x (by simp)
      have h2 := ih n (by simpa using hn) (fun b hb => h b (by simp [hb]))
      have h3 : (n + 1) * D = n * D + D := by rw [Nat.add_mul, Nat.one_mul]
      unfold bytB
      split
      · simp
      · rw [List.length_append]; omega
theorem medB_skip (l : List Blk) (k : Nat) (h : k < l.length) (hb : ∀ j (h : j < l.length), j < k → l[j].m = false ∧ l[j].bad = false) :
    medB l = if l[k].bad then true else if l[k].m then false else medB (l.drop (k + 1)) := by
  induction l generalizing k with
  | nil => simp at h
  | cons x l ih =>
    cases k with
    | zero => simp [medB]
    | succ k =>
      have h0 := hb 0 (by simp) (by omega)
      simp only [List.getElem_cons_zero] at h0
      have := ih k (by simpa using h) (fun j hj hjk => by have := hb (j + 1) (by simpa using hj) (by omega); simpa using this)
      simp only [medB, h0.1, h0.2, List.getElem_cons_succ, List.drop_succ_cons]
      simpa using this
theorem medB_none (l : List Blk) (hb : ∀ j (h : j < l.length), l[j].m = false ∧ l[j].bad = false) : medB l = false := by
  induction l with
  | nil => rfl
  | cons x l ih =>
    have h0 := hb 0 (by simp)
    simp only [List.getElem_cons_zero] at h0
    have := ih (fun j hj => by have := hb (j + 1) (by simpa using hj); simpa using this)
    simp [medB, h0.1, h0.2, this]
/-- blocks without marks, none bad, then a mark -/
theorem bytB_app (l : List Blk) (m : Blk) (rest : List Blk) (h : ∀ b ∈ l, b.m = false ∧ b.bad = false) (hm : (m.m || m.bad) = true) : bytB (l ++ m :: rest) = (l.map Blk.d).flatten := by
  induction l with
  | nil => simp [bytB, hm]
  | cons x l ih =>
    have h0 := h x (by simp)
    have := ih (fun b hb => h b (by simp [hb]))
    simp [bytB, h0.1, h0.2, this]
theorem medB_app (l : List Blk) (m : Blk) (rest : List Blk) (h : ∀ b ∈ l, b.m = false ∧ b.bad = false) (hm : m.m = true ∧ m.bad = false) : medB (l ++ m :: rest) = false := by
  induction l with
  | nil => simp [medB, hm.1, hm.2]
  | cons x l ih =>
    have h0 := h x (by simp)
    have := ih (fun b hb => h b (by simp [hb]))
    simp [medB, h0.1, h0.2, this]
theorem blkAt_succ (xs : List UInt8) (i : Nat) : blkAt xs (i + 1) = blkAt (xs.drop 64) i := by
  unfold blkAt
  rw [List.drop_drop, show 64 + 64 * i = 64 * (i + 1) by omega]
/-- the blocks' data are the bytes, then fewer than 64 zeros -/
theorem flat_div (n : Nat) : ∀ xs : List UInt8, cntB xs.length = n → ((((List.range n).map (blkAt xs)).map Blk.d).flatten) = xs ++ List.replicate (64 * n - xs.length) 0 := by
  induction n with
  | zero =>
    intro xs h
    have : xs.length = 0 := by unfold cntB at h; omega
    obtain rfl := List.eq_nil_of_length_eq_zero this
    simp
  | succ n ih =>
    intro xs h
    unfold cntB at h
    have e := ih (xs.drop 64) (by unfold cntB; rw [List.length_drop]; omega)
    have hr : (List.range (n + 1)).map (blkAt xs) = blkAt xs 0 :: (List.range n).map (blkAt (xs.drop 64)) := by
      rw [List.range_succ_eq_map, List.map_cons, List.map_map]
      congr 1
      exact List.map_congr_left (fun i _ => blkAt_succ xs i)
    rw [hr, List.map_cons, List.flatten_cons, e]
    have h0 : (blkAt xs 0).d = pad xs := by simp [blkAt]
    rw [h0, pad]
    by_cases h64 : 64 ≤ xs.length
    · rw [show 64 - xs.length = 0 by omega, List.length_drop, show 64 * n - (xs.length - 64) = 64 * (n + 1) - xs.length by omega, List.replicate_zero, List.append_nil, ← List.append_assoc, List.take_append_drop]
    · obtain rfl : n = 0 := by omega
      rw [List.take_of_length_le (by omega), List.drop_eq_nil_of_le (by omega)]
      simp
theorem divB_ok (xs : List UInt8) : ∀ b ∈ divB xs, b.m = false ∧ b.bad = false := by
  intro b hb
  obtain ⟨i, _, rfl⟩ := List.mem_map.1 hb
  exact ⟨rfl, rfl⟩
theorem bytB_div (xs : List UInt8) (rest : List Blk) : bytB (divB xs ++ markB :: rest) = xs ++ List.replicate (64 * cntB xs.length - xs.length) 0 := by
  rw [bytB_app _ _ _ (divB_ok xs) rfl]
  exact flat_div _ xs rfl
theorem size_le_encT (s : ByteArray) : (encT s).length ≤ 10 + s.size ∨ 18446744073709551616 ≤ s.size := by
  by_cases h : s.size < 18446744073709551616
  · left
    have := enc_len s.size h
    rw [encT, List.length_append, size_toList]
    omega
  · right; omega
theorem vldT_iff {x : Lbl} : vldT x = true ↔ bar x.bc = true ∧ nam x.pl = true ∧ (0 ≤ x.ep ∧ x.ep ≤ 1125899906842624) ∧ (0 ≤ x.cr ∧ x.cr < 1099511627776) := by
  unfold vldT numE numT
  simp only [Bool.and_eq_true, decide_eq_true_eq]
  constructor
  · rintro ⟨⟨h1, h2⟩, h3, h4⟩; exact ⟨h1, h2, h3, h4⟩
  · rintro ⟨h1, h2, h3, h4⟩; exact ⟨⟨h1, h2⟩, h3, h4⟩
theorem bar_size {s : ByteArray} (h : bar s = true) : 1 ≤ s.size ∧ s.size ≤ 24 := by
  unfold bar at h
  simp only [Bool.and_eq_true, decide_eq_true_eq] at h
  exact h.2
theorem nam_size {s : ByteArray} (h : nam s = true) : 1 ≤ s.size ∧ s.size ≤ 24 := by
  unfold nam at h
  simp only [Bool.and_eq_true, decide_eq_true_eq] at h
  exact h.2
theorem bodyT_len {x : Lbl} (h : vldT x = true) : (bodyT x).length ≤ 200 := by
  obtain ⟨h1, h2, h3, h4⟩ := vldT_iff.1 h
  have a1 := size_le_encT x.bc
  have a2 := size_le_encT x.pl
  have a3 := enc_len _ (cod_lt x.ep (by omega) (by omega))
  have a4 := enc_len _ (cod_lt x.cr (by omega) (by omega))
  have b1 := bar_size h1
  have b2 := nam_size h2
  have a0 : (encT volume).length = 7 := by decide +kernel
  simp only [bodyT, List.length_append]
  omega
theorem tR_backM (pre rest : List UInt8) (s : ByteArray) (most : Int) (hs : (s.size : Int) ≤ most) (hm : most ≤ 1000000) :
    tR (pre ++ (encT s ++ rest)) (pre.length : Nat) most = (s, ((pre.length + (encT s).length : Nat) : Int), 0) := by
  have h := tR_back pre rest s (by omega)
  have e : pre ++ (encT s ++ rest) = pre ++ (enc s.size ++ (s.data.toList ++ rest)) := by simp [encT]
  have hu := uR_back pre (s.data.toList ++ rest) s.size (by omega)
  unfold tR at h ⊢
  rw [e, hu] at h ⊢
  dsimp only at h ⊢
  rw [if_neg (by simp), if_neg (by omega)] at h ⊢
  exact h
theorem fldT_body {x : Lbl} (h : vldT x = true) : fldT (bodyT x) = (x, 0) := by
  obtain ⟨h1, h2, h3, h4⟩ := vldT_iff.1 h
  have b1 := bar_size h1
  have b2 := nam_size h2
  have hv : (volume.size : Int) = 6 := by decide +kernel
  have e1 : bodyT x = [] ++ (encT volume ++ (encT x.bc ++ (encT x.pl ++ (enc (cod x.ep) ++ enc (cod x.cr))))) := by simp [bodyT]
  have e2 : bodyT x = encT volume ++ (encT x.bc ++ (encT x.pl ++ (enc (cod x.ep) ++ enc (cod x.cr)))) := by simp [bodyT]
  have e3 : bodyT x = (encT volume ++ encT x.bc) ++ (encT x.pl ++ (enc (cod x.ep) ++ enc (cod x.cr))) := by simp [bodyT]
  have e4 : bodyT x = ((encT volume ++ encT x.bc) ++ encT x.pl) ++ (enc (cod x.ep) ++ enc (cod x.cr)) := by simp [bodyT]
  have e5 : bodyT x = (((encT volume ++ encT x.bc) ++ encT x.pl) ++ enc (cod x.ep)) ++ (enc (cod x.cr) ++ []) := by simp [bodyT]
  have t1 := tR_backM [] (encT x.bc ++ (encT x.pl ++ (enc (cod x.ep) ++ enc (cod x.cr)))) volume 24 (by omega) (by omega)
  have t2 := tR_backM (encT volume) (encT x.pl ++ (enc (cod x.ep) ++ enc (cod x.cr))) x.bc 24 (by omega) (by omega)
  have t3 := tR_backM (encT volume ++ encT x.bc) (enc (cod x.ep) ++ enc (cod x.cr)) x.pl 24 (by omega) (by omega)
  have t4 := iR_back ((encT volume ++ encT x.bc) ++ encT x.pl) (enc (cod x.cr)) x.ep (by omega) (by omega)
  have t5 := iR_back (((encT volume ++ encT x.bc) ++ encT x.pl) ++ enc (cod x.ep)) [] x.cr (by omega) (by omega)
  rw [← e1] at t1
  rw [← e2] at t2
  rw [← e3] at t3
  rw [← e4] at t4
  rw [← e5] at t5
  rw [List.length_nil, Nat.zero_add] at t1
  rw [← List.length_append] at t2 t3 t4 t5
  have hl : (((((encT volume ++ encT x.bc) ++ encT x.pl) ++ enc (cod x.ep)) ++ enc (cod x.cr)).length : Int) = (bodyT x).length := rfl
  rw [hl] at t5
  have hz : (((0 : Nat) : Int)) = 0 := rfl
  rw [hz] at t1
  unfold fldT
  simp only [t1, t2, t3, t4, t5]
  cases x
  simp only [h]
  simp
/-- ROUND TRIP -/
theorem parT_back {x : Lbl} (h : vldT x = true) (rest : List Blk) : parT (blkT x ++ rest) = (x, ((blkT x).length : Int), 0) := by
  have hb := bodyT_len h
  have e : blkT x ++ rest = divB (frm (bodyT x)) ++ markB :: rest := by simp [blkT]
  have hm : medB (blkT x ++ rest) = false := by rw [e]; exact medB_app _ _ _ (divB_ok _) ⟨rfl, rfl⟩
  obtain ⟨c1, c2⟩ := chk_frm [] (bodyT x) (List.replicate (64 * cntB (frm (bodyT x)).length - (frm (bodyT x)).length) 0) (by omega)
  rw [List.nil_append, ← bytB_div _ rest, ← e] at c1 c2
  have hz : (((([] : List UInt8).length : Nat) : Int)) = 0 := rfl
  rw [hz] at c1 c2
  unfold parT
  rw [hm, c1, c2, fldT_body h]
  simp
theorem parT_ok {l : List Blk} (h : (parT l).2.2 = 0) : vldT (parT l).1 = true ∧ (parT l).2.1 = ((blkT (parT l).1).length : Int) ∧ (blkT (parT l).1).length ≤ l.length ∧ l.take (blkT (parT l).1).length = blkT (parT l).1 := by
  have hf : ∀ xs, (fldT xs).2 = 0 → vldT (fldT xs).1 = true := by
    intro xs
    unfold fldT
    dsimp only
    repeat' split
    all_goals first | (intro h; simp_all; done) | (intro _; rename_i hv; simpa using hv)
  unfold parT at h ⊢
  split at h
  · simp at h
  split at h
  · rename_i h2; exact absurd h h2
  split at h
  · rename_i h2; exact absurd h h2
  split at h
  · rename_i h1 h2 h3 h4
    rw [if_neg h1, if_neg h2, if_neg h3, if_pos h4]
    refine ⟨hf _ (by simpa using h3), rfl, ?_, h4⟩
    dsimp only
    have := congrArg List.length h4
    rw [List.length_take] at this
    omega
  · simp at h
theorem parT_bad {l : List Blk} (h : (parT l).2.2 ≠ 0) : (parT l).1 = .zero ∧ (parT l).2.1 = 0 := by
  unfold parT at h ⊢
  repeat' split
  all_goals first | exact ⟨rfl, rfl⟩ | (rename_i h1 h2 h3 h4; rw [if_neg h1, if_neg h2, if_neg h3, if_pos h4] at h; exact absurd rfl h)
end Go.Proofs.YtjmlidejbddoeaaDoor
namespace Go.Proofs.YtjmlidejbddoeaaDoor
open Go.RowKit
set_option linter.unusedVariables false
theorem nam_no {s : ByteArray} {j : Nat} (h : j < s.data.toList.length) (hc : chn s.data.toList[j] = false) : nam s = false := by
  unfold nam
  rw [show s.data.toList.all chn = false by
    rw [List.all_eq_false]
    exact ⟨_, List.getElem_mem h, by rw [hc]; simp⟩]
  rfl
theorem nam_low {s : ByteArray} (h : low s.data.toList = false) : nam s = false := by unfold nam; rw [h]; simp
theorem nam_len {s : ByteArray} (h : ¬ (1 ≤ s.size ∧ s.size ≤ 24)) : nam s = false := by
  unfold nam
  rw [show (decide (1 ≤ s.size) && decide (s.size ≤ 24)) = false by rw [Bool.and_eq_false_iff, decide_eq_false_iff_not, decide_eq_false_iff_not]; omega]
  simp
theorem nam_yes {s : ByteArray} (ha : ∀ j (h : j < s.data.toList.length), chn s.data.toList[j] = true) (hl : low s.data.toList = true) (h : 1 ≤ s.size ∧ s.size ≤ 24) : nam s = true := by
  unfold nam
  rw [show s.data.toList.all chn = true by
    rw [List.all_eq_true]
    intro x hx
    obtain ⟨j, hj, rfl⟩ := List.getElem_of_mem hx
    exact ha j hj, hl, decide_eq_true h.1, decide_eq_true h.2]
  rfl
theorem low_at {l : List UInt8} (h : 0 < l.length) : low l = (decide (97 ≤ (l[0]).toNat) && decide ((l[0]).toNat ≤ 122)) := by
  cases l with
  | nil => simp at h
  | cons x l => rfl
theorem bar_no {s : ByteArray} {j : Nat} (h : j < s.data.toList.length) (hc : chr s.data.toList[j] = false) : bar s = false := by
  unfold bar
  rw [show s.data.toList.all chr = false by
    rw [List.all_eq_false]
    exact ⟨_, List.getElem_mem h, by rw [hc]; simp⟩]
  rfl
theorem bar_len {s : ByteArray} (h : ¬ (1 ≤ s.size ∧ s.size ≤ 24)) : bar s = false := by
  unfold bar
  rw [show (decide (1 ≤ s.size) && decide (s.size ≤ 24)) = false by rw [Bool.and_eq_false_iff, decide_eq_false_iff_not, decide_eq_false_iff_not]; omega]
  simp
theorem bar_yes {s : ByteArray} (ha : ∀ j (h : j < s.data.toList.length), chr s.data.toList[j] = true) (h : 1 ≤ s.size ∧ s.size ≤ 24) : bar s = true := by
  unfold bar
  rw [show s.data.toList.all chr = true by
    rw [List.all_eq_true]
    intro x hx
    obtain ⟨j, hj, rfl⟩ := List.getElem_of_mem hx
    exact ha j hj, decide_eq_true h.1, decide_eq_true h.2]
  rfl
theorem index_str (s : ByteArray) (k : Nat) (hk : k < s.data.toList.length) (w : World) : (Instr.index 9 (.string s) (.int .i64 (k : Int))).run Tryd.prog w = .ok (.int .u8 ((s.data.toList[k]).toNat : Int)) w := by
  have hk2 : k < s.size := by have : s.data.toList.length = s.size := by simp
                              omega
  rw [run_index_string w 9 s .i64 (k : Int) Tryd.underlying9, dif_pos ⟨by omega, by omega⟩]
  rfl
set_option maxRecDepth 100000 in
set_option maxHeartbeats 1000000 in
theorem rname_any (s : ByteArray) (w : World) (hs : s.size ≤ maxLen) :
    Calls Tryd.prog 15 #[.string s] w fun e w' => e = .returned (.bool (nam s)) ∧ w' = w := by
  obtain ⟨N, hN⟩ : ∃ N, N = s.size := ⟨_, rfl⟩
  have HN := Lib.hid hN
  have hm : N ≤ 9223372036854775807 := by rw [hN]; exact hs
  have e : s.data.toList.length = s.size := by simp
  have HE := Lib.hid e
  clear e
  by_cases h1 : N < 1
  · have HR := Lib.hid (nam_len (s := s) (by have := HN.out; omega))
    have hz : ((s.size : Nat) : Int) = (N : Int) := by have := HN.out; omega
    go_enter Tryd.func15, Tryd.ntmps15
    go_wp2
    go_ret
    exact ⟨by rw [HR.out]; rfl, rfl⟩
  by_cases h2 : 24 < N
  · have HR := Lib.hid (nam_len (s := s) (by have := HN.out; omega))
    have hz : ((s.size : Nat) : Int) = (N : Int) := by have := HN.out; omega
    go_enter Tryd.func15, Tryd.ntmps15
    go_wp2
    go_ret
    exact ⟨by rw [HR.out]; rfl, rfl⟩
  have hl0 : 0 < s.data.toList.length := by rw [HE.out, ← HN.out]; omega
  have hI0 := index_str s 0 hl0 w
  have HLW := Lib.hid (low_at hl0)
  have HLO := Lib.hid (fun h => @nam_low s h)
  rw [show (((0 : Nat) : Int)) = 0 from rfl] at hI0
  have hz : ((s.size : Nat) : Int) = (N : Int) := by have := HN.out; omega
  generalize (s.data.toList[0]).toNat = x0 at *
  by_cases h3 : x0 < 97
  · have HR := Lib.hid (HLO.out (by rw [HLW.out, decide_eq_false (show ¬ 97 ≤ x0 by omega)]; rfl))
    go_enter Tryd.func15, Tryd.ntmps15
    go_wp2
    go_ret
    exact ⟨by rw [HR.out]; rfl, rfl⟩
  by_cases h4 : 122 < x0
  · have HR := Lib.hid (HLO.out (by rw [HLW.out, decide_eq_false (show ¬ x0 ≤ 122 by omega)]; simp))
    go_enter Tryd.func15, Tryd.ntmps15
    go_wp2
    go_ret
    exact ⟨by rw [HR.out]; rfl, rfl⟩
  have HLY := Lib.hid (show low s.data.toList = true by rw [HLW.out, decide_eq_true (show 97 ≤ x0 by omega), decide_eq_true (show x0 ≤ 122 by omega)]; rfl)
  clear HLW HLO
  go_enter Tryd.func15, Tryd.ntmps15
  go_wp2
  clear hI0 hl0
  go_loopg [3] N (fun gk vk wx => ∃ k : Nat, vk = .int .i64 k ∧ k + gk = N ∧ wx = w ∧ Hid (∀ j (h : j < s.data.toList.length), j < k → chn s.data.toList[j] = true))
  case atStart => exact ⟨0, rfl, by omega, rfl, Lib.hid fun j _ hj => by omega⟩
  case round =>
    obtain ⟨k, rfl, hk, rfl, hall⟩ := hrel
    cases gk with
    | zero =>
      obtain rfl : k = N := by omega
      have HR := Lib.hid (nam_yes (fun j h => hall.out j h (by have := HN.out; have := HE.out; omega)) HLY.out (by have := HN.out; omega))
      go_wp2
      go_ret
      exact ⟨by rw [HR.out]; rfl, rfl⟩
    | succ gk0 =>
      have hkN : k < N := by omega
      have hks : k < s.data.toList.length := by have := HN.out; have := HE.out; omega
      have hI := index_str s k hks wr
      obtain ⟨x, hx⟩ : ∃ x, x = s.data.toList[k] := ⟨_, rfl⟩
      rw [← hx] at hI
      have HNX : chn x = true → Hid (∀ j (h : j < s.data.toList.length), j < k + 1 → chn s.data.toList[j] = true) := fun hc => Lib.hid fun j h hj => by
        rcases Nat.lt_or_ge j k with h3 | h3
        · exact hall.out j h h3
        · obtain rfl : j = k := by omega
          rw [← hx]
          exact hc
      have HBA : Hid (chn x = false → nam s = false) := Lib.hid fun hc => nam_no hks (by rw [← hx]; exact hc)
      have HC : chn x = ((decide (97 ≤ x.toNat) && decide (x.toNat ≤ 122)) || (decide (48 ≤ x.toNat) && decide (x.toNat ≤ 57)) || x.toNat == 45) := rfl
      have HCH := Lib.hid HC
      clear HC hx hks
      generalize x.toNat = n at *
      have part : n < 45 ∨ n = 45 ∨ (45 < n ∧ n < 48) ∨ (48 ≤ n ∧ n ≤ 57) ∨ (57 < n ∧ n < 97) ∨ (97 ≤ n ∧ n ≤ 122) ∨ 122 < n := by omega
      rcases part with g1 | g1 | ⟨g1, g2⟩ | ⟨g1, g2⟩ | ⟨g1, g2⟩ | ⟨g1, g2⟩ | g1
      · have HR := Lib.hid (HBA.out (by rw [HCH.out]; simp; omega))
        have d45 : ((n : Int) == 45) = false := by rw [beq_eq_false_iff_ne]; omega
        clear HNX
        go_wp2
        go_ret
        exact ⟨by rw [HR.out]; rfl, rfl⟩
      · subst g1
        have HNY := HNX (by rw [HCH.out]; rfl)
        clear HNX
        go_wp2
        go_roundg gk0
        case rel => exact ⟨k + 1, by go_num, by omega, rfl, HNY⟩
        case measure => omega
      · have HR := Lib.hid (HBA.out (by rw [HCH.out]; simp; omega))
        have d45 : ((n : Int) == 45) = false := by rw [beq_eq_false_iff_ne]; omega
        clear HNX
        go_wp2
        go_ret
        exact ⟨by rw [HR.out]; rfl, rfl⟩
      · have HNY := HNX (by rw [HCH.out]; simp; omega)
        have d57 : decide ((n : Int) ≤ 57) = true := decide_eq_true (by omega)
        clear HNX
        go_wp2
        go_roundg gk0
        case rel => exact ⟨k + 1, by go_num, by omega, rfl, HNY⟩
        case measure => omega
      · have HR := Lib.hid (HBA.out (by rw [HCH.out]; simp; omega))
        have d45 : ((n : Int) == 45) = false := by rw [beq_eq_false_iff_ne]; omega
        have d57 : decide ((n : Int) ≤ 57) = false := decide_eq_false (by omega)
        clear HNX
        go_wp2
        go_ret
        exact ⟨by rw [HR.out]; rfl, rfl⟩
      · have HNY := HNX (by rw [HCH.out]; simp; omega)
        have d122 : decide ((n : Int) ≤ 122) = true := decide_eq_true (by omega)
        clear HNX
        go_wp2
        go_roundg gk0
        case rel => exact ⟨k + 1, by go_num, by omega, rfl, HNY⟩
        case measure => omega
      · have HR := Lib.hid (HBA.out (by rw [HCH.out]; simp; omega))
        have d45 : ((n : Int) == 45) = false := by rw [beq_eq_false_iff_ne]; omega
        have d57 : decide ((n : Int) ≤ 57) = false := decide_eq_false (by omega)
        have d122 : decide ((n : Int) ≤ 122) = false := decide_eq_false (by omega)
        clear HNX
        go_wp2
        go_ret
        exact ⟨by rw [HR.out]; rfl, rfl⟩
set_option maxRecDepth 100000 in
set_option maxHeartbeats 1000000 in
theorem rbarc_any (s : ByteArray) (w : World) (hs : s.size ≤ maxLen) :
    Calls Tryd.prog 31 #[.string s] w fun e w' => e = .returned (.bool (bar s)) ∧ w' = w := by
  obtain ⟨N, hN⟩ : ∃ N, N = s.size := ⟨_, rfl⟩
  have HN := Lib.hid hN
  have hm : N ≤ 9223372036854775807 := by rw [hN]; exact hs
  have e : s.data.toList.length = s.size := by simp
  have HE := Lib.hid e
  clear e
  by_cases h1 : N < 1
  · have HR := Lib.hid (bar_len (s := s) (by have := HN.out; omega))
    have hz : ((s.size : Nat) : Int) = (N : Int) := by have := HN.out; omega
    go_enter Tryd.func31, Tryd.ntmps31
    go_wp2
    go_ret
    exact ⟨by rw [HR.out]; rfl, rfl⟩
  have hz : ((s.size : Nat) : Int) = (N : Int) := by have := HN.out; omega
  by_cases h2 : 24 < N
  · have HR := Lib.hid (bar_len (s := s) (by have := HN.out; omega))
    go_enter Tryd.func31, Tryd.ntmps31
    go_wp2
    go_ret
    exact ⟨by rw [HR.out]; rfl, rfl⟩
  go_enter Tryd.func31, Tryd.ntmps31
  go_wp2
  go_loopg [3] N (fun gk vk wx => ∃ k : Nat, vk = .int .i64 k ∧ k + gk = N ∧ wx = w ∧ Hid (∀ j (h : j < s.data.toList.length), j < k → chr s.data.toList[j] = true))
  case atStart => exact ⟨0, rfl, by omega, rfl, Lib.hid fun j _ hj => by omega⟩
  case round =>
    obtain ⟨k, rfl, hk, rfl, hall⟩ := hrel
    cases gk with
    | zero =>
      obtain rfl : k = N := by omega
      have HR := Lib.hid (bar_yes (fun j h => hall.out j h (by have := HN.out; have := HE.out; omega)) (by have := HN.out; omega))
      go_wp2
      go_ret
      exact ⟨by rw [HR.out]; rfl, rfl⟩
    | succ gk0 =>
      have hkN : k < N := by omega
      have hks : k < s.data.toList.length := by have := HN.out; have := HE.out; omega
      have hI := index_str s k hks wr
      obtain ⟨x, hx⟩ : ∃ x, x = s.data.toList[k] := ⟨_, rfl⟩
      rw [← hx] at hI
      have HNX : chr x = true → Hid (∀ j (h : j < s.data.toList.length), j < k + 1 → chr s.data.toList[j] = true) := fun hc => Lib.hid fun j h hj => by
        rcases Nat.lt_or_ge j k with h3 | h3
        · exact hall.out j h h3
        · obtain rfl : j = k := by omega
          rw [← hx]
          exact hc
      have HBA : Hid (chr x = false → bar s = false) := Lib.hid fun hc => bar_no hks (by rw [← hx]; exact hc)
      have HC : chr x = (decide (65 ≤ x.toNat) && decide (x.toNat ≤ 90) || decide (48 ≤ x.toNat) && decide (x.toNat ≤ 57)) := rfl
      have HCH := Lib.hid HC
      clear HC hx hks
      generalize x.toNat = n at *
      have part : n < 48 ∨ (48 ≤ n ∧ n ≤ 57) ∨ (57 < n ∧ n < 65) ∨ (65 ≤ n ∧ n ≤ 90) ∨ 90 < n := by omega
      rcases part with g1 | ⟨g1, g2⟩ | ⟨g1, g2⟩ | ⟨g1, g2⟩ | g1
      · have HR := Lib.hid (HBA.out (by rw [HCH.out]; simp; omega))
        clear HNX
        go_wp2
        go_ret
        exact ⟨by rw [HR.out]; rfl, rfl⟩
      · have HNY := HNX (by rw [HCH.out]; simp; omega)
        have d57 : decide ((n : Int) ≤ 57) = true := decide_eq_true (by omega)
        clear HNX
        go_wp2
        go_roundg gk0
        case rel => exact ⟨k + 1, by go_num, by omega, rfl, HNY⟩
        case measure => omega
      · have HR := Lib.hid (HBA.out (by rw [HCH.out]; simp; omega))
        have d57 : decide ((n : Int) ≤ 57) = false := decide_eq_false (by omega)
        clear HNX
        go_wp2
        go_ret
        exact ⟨by rw [HR.out]; rfl, rfl⟩
      · have HNY := HNX (by rw [HCH.out]; simp; omega)
        have d90 : decide ((n : Int) ≤ 90) = true := decide_eq_true (by omega)
        clear HNX
        go_wp2
        go_roundg gk0
        case rel => exact ⟨k + 1, by go_num, by omega, rfl, HNY⟩
        case measure => omega
      · have HR := Lib.hid (HBA.out (by rw [HCH.out]; simp; omega))
        have d57 : decide ((n : Int) ≤ 57) = false := decide_eq_false (by omega)
        have d90 : decide ((n : Int) ≤ 90) = false := decide_eq_false (by omega)
        clear HNX
        go_wp2
        go_ret
        exact ⟨by rw [HR.out]; rfl, rfl⟩
end Go.Proofs.YtjmlidejbddoeaaDoor
namespace Go.Proofs.YtjmlidejbddoeaaDoor
open Go.RowKit
set_option linter.unusedVariables false
abbrev lbV (x : Lbl) : Value := .agg #[.string x.bc, .string x.pl, .int .i64 x.ep, .int .i64 x.cr]
abbrev boxL (x : Lbl) : Obj := .cells #[.string x.bc, .string x.pl, .int .i64 x.ep, .int .i64 x.cr] 23
/-- a label lies in block g -/
structure LbAt (w : World) (g : Nat) (x : Lbl) : Prop where
  lt : g < w.heap.size
  c0 : w.cell? ⟨g, 0, none⟩ = some (.string x.bc)
  c1 : w.cell? ⟨g, 1, none⟩ = some (.string x.pl)
  c2 : w.cell? ⟨g, 2, none⟩ = some (.int .i64 x.ep)
  c3 : w.cell? ⟨g, 3, none⟩ = some (.int .i64 x.cr)
theorem LbAt.below {W w : World} {B g : Nat} {x : Lbl} (h : LbAt W g x) (hb : Below B W w) (hB : g < B) : LbAt w g x :=
  ⟨Nat.lt_of_lt_of_le h.lt hb.size, (hb.cell hB).trans h.c0, (hb.cell hB).trans h.c1, (hb.cell hB).trans h.c2, (hb.cell hB).trans h.c3⟩
theorem LbAt.new (w : World) (x : Lbl) (t : TypeId) : LbAt (w.alloc (.cells #[.string x.bc, .string x.pl, .int .i64 x.ep, .int .i64 x.cr] t)) w.heap.size x := by
  refine ⟨by simp, ?_, ?_, ?_, ?_⟩ <;> (rw [World.cell?_alloc_mark]; rfl)
/-- the sizes of a label's texts -/
structure Lbl.Fit (x : Lbl) : Prop where
  b : x.bc.size ≤ maxLen
  p : x.pl.size ≤ maxLen
theorem vldT_1 {x : Lbl} (h : bar x.bc = false) : vldT x = false := by unfold vldT; rw [h]; rfl
theorem vldT_2 {x : Lbl} (h : nam x.pl = false) : vldT x = false := by unfold vldT; rw [h]; simp
theorem vldT_3 {x : Lbl} (h : ¬ (0 ≤ x.ep ∧ x.ep ≤ 1125899906842624)) : vldT x = false := by
  cases hv : vldT x with
  | false => rfl
  | true => exact absurd (vldT_iff.1 hv).2.2.1 h
theorem vldT_4 {x : Lbl} (h : ¬ (0 ≤ x.cr ∧ x.cr < 1099511627776)) : vldT x = false := by
  cases hv : vldT x with
  | false => rfl
  | true => exact absurd (vldT_iff.1 hv).2.2.2 h
set_option maxRecDepth 100000 in
set_option maxHeartbeats 1000000 in
theorem rvldT_any (x : Lbl) (w : World) (hx : x.Fit) :
    Calls Tryd.prog 13 #[lbV x] w fun e w' => e = .returned (.bool (vldT x)) ∧ Below w.heap.size w w' := by
  have HB : Hid (∀ W, Calls Tryd.prog 31 #[.string x.bc] W fun e w' => e = .returned (.bool (bar x.bc)) ∧ w' = W) := Lib.hid fun W => rbarc_any x.bc W hx.b
  have HN : Hid (∀ W, Calls Tryd.prog 15 #[.string x.pl] W fun e w' => e = .returned (.bool (nam x.pl)) ∧ w' = W) := Lib.hid fun W => rname_any x.pl W hx.p
  have H1 := Lib.hid (@vldT_1 x)
  have H2 := Lib.hid (@vldT_2 x)
  have H3 := Lib.hid (@vldT_3 x)
  have H4 := Lib.hid (@vldT_4 x)
  have H5 := Lib.hid (@vldT_iff x)
  clear hx
  obtain ⟨bc, pl, ep, cr⟩ := x
  dsimp only at HB HN H1 H2 H3 H4 H5 ⊢
  generalize vldT ⟨bc, pl, ep, cr⟩ = V at *
  generalize bar bc = p at *
  generalize nam pl = q at *
  cases p
  · have HR := Lib.hid (H1.out rfl)
    go_enter Tryd.func13, Tryd.ntmps13
    go_wp2_with (go_at_call 31; refine (HB.out _).mono ?_; rintro e w' ⟨rfl, rfl⟩)
    go_ret
    exact ⟨by rw [HR.out]; rfl, (Below.refl _ _).alloc (Nat.le_refl _) _⟩
  cases q
  · have HR := Lib.hid (H2.out rfl)
    go_enter Tryd.func13, Tryd.ntmps13
    go_wp2_with (first
      | (go_at_call 31; refine (HB.out _).mono ?_; rintro e w' ⟨rfl, rfl⟩)
      | (go_at_call 15; refine (HN.out _).mono ?_; rintro e w' ⟨rfl, rfl⟩))
    go_ret
    exact ⟨by rw [HR.out]; rfl, (Below.refl _ _).alloc (Nat.le_refl _) _⟩
  have key : (∃ b, V = b ∧ ((b = true ∧ 0 ≤ ep ∧ ep ≤ 1125899906842624 ∧ 0 ≤ cr ∧ cr < 1099511627776) ∨ (b = false ∧ ep < 0) ∨ (b = false ∧ 0 ≤ ep ∧ 1125899906842624 < ep) ∨ (b = false ∧ 0 ≤ ep ∧ ep ≤ 1125899906842624 ∧ cr < 0) ∨ (b = false ∧ 0 ≤ ep ∧ ep ≤ 1125899906842624 ∧ 0 ≤ cr ∧ 1099511627776 ≤ cr))) := by
    refine ⟨V, rfl, ?_⟩
    by_cases e1 : 0 ≤ ep ∧ ep ≤ 1125899906842624
    · by_cases e2 : 0 ≤ cr ∧ cr < 1099511627776
      · exact .inl ⟨H5.out.2 ⟨rfl, rfl, e1, e2⟩, e1.1, e1.2, e2⟩
      · have := H4.out e2
        by_cases e3 : cr < 0
        · exact .inr (.inr (.inr (.inl ⟨this, e1.1, e1.2, e3⟩)))
        · exact .inr (.inr (.inr (.inr ⟨this, e1.1, e1.2, by omega, by omega⟩)))
    · have := H3.out e1
      by_cases e3 : ep < 0
      · exact .inr (.inl ⟨this, e3⟩)
      · exact .inr (.inr (.inl ⟨this, by omega, by omega⟩))
  clear H1 H2 H3 H4 H5
  obtain ⟨b, rfl, key⟩ := key
  rcases key with ⟨rfl, g1, g2, g3, g4⟩ | ⟨rfl, g1⟩ | ⟨rfl, g1, g2⟩ | ⟨rfl, g1, g2, g3⟩ | ⟨rfl, g1, g2, g3, g4⟩
  all_goals
    go_enter Tryd.func13, Tryd.ntmps13
    go_wp2_with (first
      | (go_at_call 31; refine (HB.out _).mono ?_; rintro e w' ⟨rfl, rfl⟩)
      | (go_at_call 15; refine (HN.out _).mono ?_; rintro e w' ⟨rfl, rfl⟩))
    go_ret
    exact ⟨by simp_all, (Below.refl _ _).alloc (Nat.le_refl _) _⟩
end Go.Proofs.YtjmlidejbddoeaaDoor
