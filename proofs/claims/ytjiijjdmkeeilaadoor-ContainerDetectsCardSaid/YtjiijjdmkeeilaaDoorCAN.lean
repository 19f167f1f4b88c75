/-
  Labels: the mathematics of blocks, bodies and what Parse answers.
  The specification's Divide and Bytes.
-/
import Derived.Test.YtjiijjdmkeeilaaDoorCAL
import Derived.Test.YtjiijjdmkeeilaaDoorCAM
import Derived.Test.YtjiijjdmkeeilaaDoorCAG
import Derived.Deep.LoopGhost
namespace Go.Proofs.YtjiijjdmkeeilaaDoor
set_option linter.unusedVariables false
/-- a label -/
structure Lbl where
  bc : ByteArray
  pl : ByteArray
  ep : Int
  cr : Int
def Lbl.zero : Lbl := ⟨⟨#[]⟩, ⟨#[]⟩, 0, 0⟩
/-- a byte of a name -/
def chn (x : UInt8) : Bool := (decide (97 ≤ x.toNat) && decide (x.toNat ≤ 122)) || (decide (48 ≤ x.toNat) && decide (x.toNat ≤ 57)) || x.toNat == 45
/-- a text begins with a lower-case letter -/
def low : List UInt8 → Bool
  | [] => false
  | x :: _ => decide (97 ≤ x.toNat) && decide (x.toNat ≤ 122)
def nam (s : ByteArray) : Bool := (s.data.toList.all chn && low s.data.toList) && (decide (1 ≤ s.size) && decide (s.size ≤ 24))
def numE (n : Int) : Bool := decide (0 ≤ n) && decide (n ≤ 1125899906842624)
def numT (n : Int) : Bool := decide (0 ≤ n) && decide (n < 1099511627776)
def vldT (x : Lbl) : Bool := (bar x.bc && nam x.pl) && (numE x.ep && numT x.cr)
def volume : ByteArray := ⟨#[118, 111, 108, 117, 109, 101]⟩
def bodyT (x : Lbl) : List UInt8 := ((((encT volume ++ encT x.bc) ++ encT x.pl) ++ enc (cod x.ep)) ++ enc (cod x.cr))
/-- the bytes of a block that begins with these -/
def pad (xs : List UInt8) : List UInt8 := xs.take 64 ++ List.replicate (64 - xs.length) 0
/-- the block i of bytes -/
def blkAt (xs : List UInt8) (i : Nat) : Blk := ⟨false, false, pad (xs.drop (64 * i))⟩
def cntB (n : Nat) : Nat := (n + 63) / 64
def divB (xs : List UInt8) : List Blk := (List.range (cntB xs.length)).map (blkAt xs)
def markB : Blk := ⟨true, false, []⟩
def bytB : List Blk → List UInt8
  | [] => []
  | k :: l => if k.m || k.bad then [] else k.d ++ bytB l
/-- the first block that is a mark or bad is bad -/
def medB : List Blk → Bool
  | [] => false
  | k :: l => if k.bad then true else if k.m then false else medB l
def blkT (x : Lbl) : List Blk := divB (frm (bodyT x)) ++ [markB]
/-- what Blocks answers -/
def blkR (x : Lbl) : List Blk × Int := if vldT x then (blkT x, 0) else ([], 8)
/-- what a body says -/
def fldT (xs : List UInt8) : Lbl × Int :=
  let a := tR xs 0 24
  if a.2.2 ≠ 0 then (.zero, a.2.2) else
  if a.1 ≠ volume then (.zero, 1) else
  let b := tR xs a.2.1 24
  if b.2.2 ≠ 0 then (.zero, b.2.2) else
  let c := tR xs b.2.1 24
  if c.2.2 ≠ 0 then (.zero, c.2.2) else
  let d := iR xs c.2.1
  if d.2.2 ≠ 0 then (.zero, d.2.2) else
  let f := iR xs d.2.1
  if f.2.2 ≠ 0 then (.zero, f.2.2) else
  if f.2.1 < xs.length then (.zero, 3) else
  if vldT ⟨b.1, c.1, d.1, f.1⟩ = false then (.zero, 8) else (⟨b.1, c.1, d.1, f.1⟩, 0)
/-- what Parse answers -/
def parT (l : List Blk) : Lbl × Int × Int :=
  if medB l then (.zero, 0, 15) else
  if (chk (bytB l) 0).2 ≠ 0 then (.zero, 0, (chk (bytB l) 0).2) else
  if (fldT (bodyAt (bytB l) 0)).2 ≠ 0 then (.zero, 0, (fldT (bodyAt (bytB l) 0)).2) else
  if l.take (blkT (fldT (bodyAt (bytB l) 0)).1).length = blkT (fldT (bodyAt (bytB l) 0)).1 then ((fldT (bodyAt (bytB l) 0)).1, ((blkT (fldT (bodyAt (bytB l) 0)).1).length : Int), 0) else (.zero, 0, 24)

theorem pad_length (xs : List UInt8) : (pad xs).length = 64 := by simp [pad]; omega
theorem divB_length (xs : List UInt8) : (divB xs).length = cntB xs.length := by simp [divB]
theorem divB_get (xs : List UInt8) (i : Nat) (h : i < (divB xs).length) : (divB xs)[i] = blkAt xs i := by simp [divB]
theorem divB_snoc (xs : List UInt8) (n : Nat) : (List.range (n + 1)).map (blkAt xs) = (List.range n).map (blkAt xs) ++ [blkAt xs n] := by simp [List.range_succ]
theorem blkT_length (x : Lbl) : (blkT x).length = cntB ((bodyT x).length + 10) + 1 := by simp [blkT, divB_length, frm_length]
theorem bytB_take (l : List Blk) (k : Nat) (h : k < l.length) (ha : ∀ j (h : j < l.length), j ≤ k → (l[j].m || l[j].bad) = false) : bytB (l.take (k + 1)) = bytB (l.take k) ++ l[k].d := by
  induction l generalizing k with
  | nil => simp at h
  | cons x l ih =>
    have h0 : (x.m || x.bad) = false := ha 0 (by simp) (Nat.zero_le _)
    cases k with
    | zero => simp [bytB, h0]
    | succ k =>
      simp only [List.take_succ_cons, bytB, h0]
      have := ih k (by simpa using h) (fun j hj hjk => by have := ha (j + 1) (by simpa using hj) (by omega); simpa using this)
      simp [this]
/-- up to the first block that ends the bytes -/
theorem bytB_stop (l : List Blk) (k : Nat) (h : k ≤ l.length) (ha : k = l.length ∨ ∃ h : k < l.length, (l[k].m || l[k].bad) = true) (hb : ∀ j (h : j < l.length), j < k → (l[j].m || l[j].bad) = false) : bytB l = bytB (l.take k) := by
  induction l generalizing k with
  | nil => simp [bytB]
  | cons x l ih =>
    cases k with
    | zero =>
      rcases ha with ha | ⟨_, ha⟩
      · simp at ha
      · simp only [List.getElem_cons_zero] at ha
        simp [bytB, ha]
    | succ k =>
      have h0 : (x.m || x.bad) = false := hb 0 (by simp) (by omega)
      have := ih k (by simpa using h) (by
        rcases ha with ha | ⟨h1, ha⟩
        · left; simpa using ha
        · right; exact ⟨by simpa using h1, by simpa using ha⟩) (fun j hj hjk => by have := hb (j + 1) (by simpa using hj) (by omega); simpa using this)
      simp [bytB, h0, this]
theorem bytB_le (l : List Blk) (n D : Nat) (hn : l.length ≤ n) (h : ∀ b ∈ l, b.d.length ≤ D) : (bytB l).length ≤ n * D := by
  induction l generalizing n with
  | nil => simp [bytB]
  | cons x l ih =>
    cases n with
    | zero => simp at hn
    | succ n =>
      have h1 := h x (by simp)
      have h2 := ih n (by simpa using hn) (fun b hb => h b (by simp [hb]))
      have h3 : (n + 1) * D = n * D + D := by rw [Nat.add_mul, Nat.one_mul]
      unfold bytB
      split
      · simp
      · rw [List.length_append]; omega
theorem medB_skip (l : List Blk) (k : Nat) (h : k < l.length) (hb : ∀ j (h : j < l.length), j < k → l[j].m = false ∧ l[j].bad = false) :
    medB l = if l[k].bad then true else if l[k].m then false else medB (l.drop (k + 1)) := by
  induction l generalizing k with
  | nil => simp at h
  | cons x l ih =>
    cases k with
    | zero => simp [medB]
    | succ k =>
      have h0 := hb 0 (by simp) (by omega)
      simp only [List.getElem_cons_zero] at h0
      have := ih k (by simpa using h) (fun j hj hjk => by have := hb (j + 1) (by simpa using hj) (by omega); simpa using this)
      simp only [medB, h0.1, h0.2, List.getElem_cons_succ, List.drop_succ_cons]
      simpa using this
theorem medB_none (l : List Blk) (hb : ∀ j (h : j < l.length), l[j].m = false ∧ l[j].bad = false) : medB l = false := by
  induction l with
  | nil => rfl
  | cons x l ih =>
    have h0 := hb 0 (by simp)
    simp only [List.getElem_cons_zero] at h0
    have := ih (fun j hj => by have := hb (j + 1) (by simpa using hj); simpa using this)
    simp [medB, h0.1, h0.2, this]
/-- blocks without marks, none bad, then a mark -/
theorem bytB_app (l : List Blk) (m : Blk) (rest : List Blk) (h : ∀ b ∈ l, b.m = false ∧ b.bad = false) (hm : (m.m || m.bad) = true) : bytB (l ++ m :: rest) = (l.map Blk.d).flatten := by
  induction l with
  | nil => simp [bytB, hm]
  | cons x l ih =>
    have h0 := h x (by simp)
    have := ih (fun b hb => h b (by simp [hb]))
    simp [bytB, h0.1, h0.2, this]
theorem medB_app (l : List Blk) (m : Blk) (rest : List Blk) (h : ∀ b ∈ l, b.m = false ∧ b.bad = false) (hm : m.m = true ∧ m.bad = false) : medB (l ++ m :: rest) = false := by
  induction l with
  | nil => simp [medB, hm.1, hm.2]
  | cons x l ih =>
    have h0 := h x (by simp)
    have := ih (fun b hb => h b (by simp [hb]))
    simp [medB, h0.1, h0.2, this]
theorem blkAt_succ (xs : List UInt8) (i : Nat) : blkAt xs (i + 1) = blkAt (xs.drop 64) i := by
  unfold blkAt
  rw [List.drop_drop, show 64 + 64 * i = 64 * (i + 1) by omega]
/-- the blocks' data are the bytes, then fewer than 64 zeros -/
theorem flat_div (n : Nat) : ∀ xs : List UInt8, cntB xs.length = n → ((((List.range n).map (blkAt xs)).map Blk.d).flatten) = xs ++ List.replicate (64 * n - xs.length) 0 := by
  induction n with
  | zero =>
    intro xs h
    have : xs.length = 0 := by unfold cntB at h; omega
    obtain rfl := List.eq_nil_of_length_eq_zero this
    simp
  | succ n ih =>
    intro xs h
    unfold cntB at h
    have e := ih (xs.drop 64) (by unfold cntB; rw [List.length_drop]; omega)
    have hr : (List.range (n + 1)).map (blkAt xs) = blkAt xs 0 :: (List.range n).map (blkAt (xs.drop 64)) := by
      rw [List.range_succ_eq_map, List.map_cons, List.map_map]
      congr 1
      exact List.map_congr_left (fun i _ => blkAt_succ xs i)
    rw [hr, List.map_cons, List.flatten_cons, e]
    have h0 : (blkAt xs 0).d = pad xs := by simp [blkAt]
    rw [h0, pad]
    by_cases h64 : 64 ≤ xs.length
    · rw [show 64 - xs.length = 0 by omega, List.length_drop, show 64 * n - (xs.length - 64) = 64 * (n + 1) - xs.length by omega, List.replicate_zero, List.append_nil, ← List.append_assoc, List.take_append_drop]
    · obtain rfl : n = 0 := by omega
      rw [List.take_of_length_le (by omega), List.drop_eq_nil_of_le (by omega)]
      simp
theorem divB_ok (xs : List UInt8) : ∀ b ∈ divB xs, b.m = false ∧ b.bad = false := by
  intro b hb
  obtain ⟨i, _, rfl⟩ := List.mem_map.1 hb
  exact ⟨rfl, rfl⟩
theorem bytB_div (xs : List UInt8) (rest : List Blk) : bytB (divB xs ++ markB :: rest) = xs ++ List.replicate (64 * cntB xs.length - xs.length) 0 := by
  rw [bytB_app _ _ _ (divB_ok xs) rfl]
  exact flat_div _ xs rfl
theorem size_le_encT (s : ByteArray) : (encT s).length ≤ 10 + s.size ∨ 18446744073709551616 ≤ s.size := by
  by_cases h : s.size < 18446744073709551616
  · left
    have := enc_len s.size h
    rw [encT, List.length_append, size_toList]
    omega
  · right; omega
theorem vldT_iff {x : Lbl} : vldT x = true ↔ bar x.bc = true ∧ nam x.pl = true ∧ (0 ≤ x.ep ∧ x.ep ≤ 1125899906842624) ∧ (0 ≤ x.cr ∧ x.cr < 1099511627776) := by
  unfold vldT numE numT
  simp only [Bool.and_eq_true, decide_eq_true_eq]
  constructor
  · rintro ⟨⟨h1, h2⟩, h3, h4⟩; exact ⟨h1, h2, h3, h4⟩
  · rintro ⟨h1, h2, h3, h4⟩; exact ⟨⟨h1, h2⟩, h3, h4⟩
theorem bar_size {s : ByteArray} (h : bar s = true) : 1 ≤ s.size ∧ s.size ≤ 24 := by
  unfold bar at h
  simp only [Bool.and_eq_true, decide_eq_true_eq] at h
  exact h.2
theorem nam_size {s : ByteArray} (h : nam s = true) : 1 ≤ s.size ∧ s.size ≤ 24 := by
  unfold nam at h
  simp only [Bool.and_eq_true, decide_eq_true_eq] at h
  exact h.2
theorem bodyT_len {x : Lbl} (h : vldT x = true) : (bodyT x).length ≤ 200 := by
  obtain ⟨h1, h2, h3, h4⟩ := vldT_iff.1 h
  have a1 := size_le_encT x.bc
  have a2 := size_le_encT x.pl
  have a3 := enc_len _ (cod_lt x.ep (by omega) (by omega))
  have a4 := enc_len _ (cod_lt x.cr (by omega) (by omega))
  have b1 := bar_size h1
  have b2 := nam_size h2
  have a0 : (encT volume).length = 7 := by decide +kernel
  simp only [bodyT, List.length_append]
  omega
theorem tR_backM (pre rest : List UInt8) (s : ByteArray) (most : Int) (hs : (s.size : Int) ≤ most) (hm : most ≤ 1000000) :
    tR (pre ++ (encT s ++ rest)) (pre.length : Nat) most = (s, ((pre.length + (encT s).length : Nat) : Int), 0) := by
  have h := tR_back pre rest s (by omega)
  have e : pre ++ (encT s ++ rest) = pre ++ (enc s.size ++ (s.data.toList ++ rest)) := by simp [encT]
  have hu := uR_back pre (s.data.toList ++ rest) s.size (by omega)
  unfold tR at h ⊢
  rw [e, hu] at h ⊢
  dsimp only at h ⊢
  rw [if_neg (by simp), if_neg (by omega)] at h ⊢
  exact h
theorem fldT_body {x : Lbl} (h : vldT x = true) : fldT (bodyT x) = (x, 0) := by
  obtain ⟨h1, h2, h3, h4⟩ := vldT_iff.1 h
  have b1 := bar_size h1
  have b2 := nam_size h2
  have hv : (volume.size : Int) = 6 := by decide +kernel
  have e1 : bodyT x = [] ++ (encT volume ++ (encT x.bc ++ (encT x.pl ++ (enc (cod x.ep) ++ enc (cod x.cr))))) := by simp [bodyT]
  have e2 : bodyT x = encT volume ++ (encT x.bc ++ (encT x.pl ++ (enc (cod x.ep) ++ enc (cod x.cr)))) := by simp [bodyT]
  have e3 : bodyT x = (encT volume ++ encT x.bc) ++ (encT x.pl ++ (enc (cod x.ep) ++ enc (cod x.cr))) := by simp [bodyT]
  have e4 : bodyT x = ((encT volume ++ encT x.bc) ++ encT x.pl) ++ (enc (cod x.ep) ++ enc (cod x.cr)) := by simp [bodyT]
  have e5 : bodyT x = (((encT volume ++ encT x.bc) ++ encT x.pl) ++ enc (cod x.ep)) ++ (enc (cod x.cr) ++ []) := by simp [bodyT]
  have t1 := tR_backM [] (encT x.bc ++ (encT x.pl ++ (enc (cod x.ep) ++ enc (cod x.cr)))) volume 24 (by omega) (by omega)
  have t2 := tR_backM (encT volume) (encT x.pl ++ (enc (cod x.ep) ++ enc (cod x.cr))) x.bc 24 (by omega) (by omega)
  have t3 := tR_backM (encT volume ++ encT x.bc) (enc (cod x.ep) ++ enc (cod x.cr)) x.pl 24 (by omega) (by omega)
  have t4 := iR_back ((encT volume ++ encT x.bc) ++ encT x.pl) (enc (cod x.cr)) x.ep (by omega) (by omega)
  have t5 := iR_back (((encT volume ++ encT x.bc) ++ encT x.pl) ++ enc (cod x.ep)) [] x.cr (by omega) (by omega)
  rw [← e1] at t1
  rw [← e2] at t2
  rw [← e3] at t3
  rw [← e4] at t4
  rw [← e5] at t5
  rw [List.length_nil, Nat.zero_add] at t1
  rw [← List.length_append] at t2 t3 t4 t5
  have hl : (((((encT volume ++ encT x.bc) ++ encT x.pl) ++ enc (cod x.ep)) ++ enc (cod x.cr)).length : Int) = (bodyT x).length := rfl
  rw [hl] at t5
  have hz : (((0 : Nat) : Int)) = 0 := rfl
  rw [hz] at t1
  unfold fldT
  simp only [t1, t2, t3, t4, t5]
  cases x
  simp only [h]
  simp
/-- ROUND TRIP -/
theorem parT_back {x : Lbl} (h : vldT x = true) (rest : List Blk) : parT (blkT x ++ rest) = (x, ((blkT x).length : Int), 0) := by
  have hb := bodyT_len h
  have e : blkT x ++ rest = divB (frm (bodyT x)) ++ markB :: rest := by simp [blkT]
  have hm : medB (blkT x ++ rest) = false := by rw [e]; exact medB_app _ _ _ (divB_ok _) ⟨rfl, rfl⟩
  obtain ⟨c1, c2⟩ := chk_frm [] (bodyT x) (List.replicate (64 * cntB (frm (bodyT x)).length - (frm (bodyT x)).length) 0) (by omega)
  rw [List.nil_append, ← bytB_div _ rest, ← e] at c1 c2
  have hz : (((([] : List UInt8).length : Nat) : Int)) = 0 := rfl
  rw [hz] at c1 c2
  unfold parT
  rw [hm, c1, c2, fldT_body h]
  simp
theorem parT_ok {l : List Blk} (h : (parT l).2.2 = 0) : vldT (parT l).1 = true ∧ (parT l).2.1 = ((blkT (parT l).1).length : Int) ∧ (blkT (parT l).1).length ≤ l.length ∧ l.take (blkT (parT l).1).length = blkT (parT l).1 := by
  have hf : ∀ xs, (fldT xs).2 = 0 → vldT (fldT xs).1 = true := by
    intro xs
    unfold fldT
    dsimp only
    repeat' split
    all_goals first | (intro h; simp_all; done) | (intro _; rename_i hv; simpa using hv)
  unfold parT at h ⊢
  split at h
  · simp at h
  split at h
  · rename_i h2; exact absurd h h2
  split at h
  · rename_i h2; exact absurd h h2
  split at h
  · rename_i h1 h2 h3 h4
    rw [if_neg h1, if_neg h2, if_neg h3, if_pos h4]
    refine ⟨hf _ (by simpa using h3), rfl, ?_, h4⟩
    dsimp only
    have := congrArg List.length h4
    rw [List.length_take] at this
    omega
  · simp at h
theorem parT_bad {l : List Blk} (h : (parT l).2.2 ≠ 0) : (parT l).1 = .zero ∧ (parT l).2.1 = 0 := by
  unfold parT at h ⊢
  repeat' split
  all_goals first | exact ⟨rfl, rfl⟩ | (rename_i h1 h2 h3 h4; rw [if_neg h1, if_neg h2, if_neg h3, if_pos h4] at h; exact absurd rfl h)
end Go.Proofs.YtjiijjdmkeeilaaDoor
namespace Go.Proofs.YtjiijjdmkeeilaaDoor
open Go.RowKit
set_option linter.unusedVariables false
/-- copy of bytes of which there may be more than there is room -/
theorem wpList_copy_cut {w : World} {ops : Array Oper} {rest : List Oper} {o : Oper} {a : Act} {Q : Exit → Act → World → Prop} (hgd : o.guard = none) (d s : Operand)
    (ho : o.op = .call { callee := .builtin .copy, args := #[d, s], argTypes := #[26, 26] })
    (g dLen dCap : Nat) (hd : a.eval d = .slice (some ⟨g, 0, none⟩) dLen dCap) (ad : Option Addr) (sLen sCap : Nat) (hs : a.eval s = .slice ad sLen sCap) (xs : List UInt8) (hsl : sLen = xs.length) (hl : Lie w ad xs)
    (R : List UInt8) (hR : Rowu w g R) (hdl : dLen = R.length) (w0 : World) (hb : Below w0.heap.size w0 w) (hBg : w0.heap.size ≤ g)
    (h : ∀ w', Rowu w' g (xs.take R.length ++ R.drop xs.length) → Below w0.heap.size w0 w' → wpList Tryd.prog ops Q rest (a.put o.dst (goInt ((min xs.length R.length : Nat) : Int))) w') : wpList Tryd.prog ops Q (o :: rest) a w := by
  subst hsl hdl
  obtain ⟨i, hi, hz0, hz1, hz2⟩ := info_u
  have h1 : (cellsU (xs.take R.length)).length = min xs.length R.length := by rw [cellsU_length, List.length_take, Nat.min_comm]
  refine wpList_copy_splice hgd d s 26 26 ho 5 Tryd.underlying26 (by rw [hi]; simp [hz1]) _ _ _ _ _ _ hd hs g 0 (cellsU R) 5 hR (cellsU (xs.take R.length))
    h1 (fun hp => ⟨rfl, ?_⟩) (by rw [h1, cellsU_length]; omega) (cellsU_one _) w0.heap.size w0 hb hBg (fun w' h2 h3 => ?_)
  · rcases hl.at_ with rfl | ⟨b, off, rfl, _, hc⟩
    · simp [cellsU] at hp
    · refine ⟨_, rfl, fun j v hj => ?_⟩
      have hjx : j < (xs.take R.length).length := by
        have := (List.getElem?_eq_some_iff.1 hj).1
        rwa [cellsU_length] at this
      rw [cellsU_get _ j hjx] at hj
      rw [Go.WideShapes.add_plain, hc j (by rw [List.length_take] at hjx; omega), ← hj, List.getElem_take]
  · rw [h1]
    refine h w' ?_ h3
    have := h2.out
    unfold Rowu Blkc
    rw [this]
    have e : (cellsU R).drop ((cellsU (xs.take R.length)).length) = cellsU (R.drop xs.length) := by
      rw [h1, cellsU, ← List.map_drop]
      by_cases hlt : xs.length ≤ R.length
      · rw [Nat.min_eq_left hlt]; rfl
      · rw [Nat.min_eq_right (by omega), List.drop_eq_nil_of_le (Nat.le_refl _), List.drop_eq_nil_of_le (by omega)]; rfl
    simp only [splice, List.take_zero, List.nil_append, Nat.zero_add]
    rw [e, cellsU_append]
/-- an empty list of the call's own, in the newest cells -/
theorem Kq.made0 (w : World) (B C g : Nat) (hg : g = w.heap.size) (hB : B ≤ g) : Kq (w.alloc (.cells #[] 57)) B C (.slice (some ⟨g, 0, none⟩) 0 0) [] := by
  subst hg
  exact ⟨[], rfl, ⟨rfl, .inr ⟨w.heap.size, 0, #[], rfl, hB, heap_alloc_new w _, Nat.le_refl _, by unfold maxLen; omega, rfl, rfl⟩⟩, fun k h => by simp at h⟩
theorem LieX.row {w : World} {g : Nat} {R : List UInt8} (h : Rowu w g R) {C : Nat} (hC : C ≤ g) {y : Option Nat} (hy : y ≠ some g) : LieX w C y (some ⟨g, 0, none⟩) R :=
  .inr ⟨g, 0, rfl, hC, h.blk.lt, fun e => hy e.symm, fun j hj => by rw [Nat.zero_add]; exact h.cell j hj⟩
theorem Lie.from_ {w : World} {b off : Nat} {xs : List UInt8} (h : Lie w (some ⟨b, off, none⟩) xs) (q : Nat) : Lie w (some ⟨b, off + q, none⟩) (xs.drop q) := by
  have := h.part q xs.length
  rwa [List.take_of_length_le (by simp)] at this
theorem blkAt_eq {xs : List UInt8} {I k : Nat} (h : I = 64 * k) : blkAt xs k = ⟨false, false, pad (xs.drop I)⟩ := by subst h; rfl
set_option maxRecDepth 100000 in
set_option maxHeartbeats 2000000 in
theorem rdivide_any (ad : Option Addr) (n cap : Nat) (xs : List UInt8) (w : World) (hl : Lie w ad xs) (hn : n = xs.length) (hc : n ≤ cap) (hcm : cap ≤ maxLen) (had : ad = none → cap = 0) (hs : n ≤ 1000000) :
    Calls Tryd.prog 78 #[.slice ad n cap] w (GivesK w (divB xs)) := by
  have HL := Lib.hid hl
  have HN := Lib.hid hn
  have HA := Lib.hid had
  have HCM := Lib.hid hcm
  unfold maxLen at hcm
  clear hl hn had
  go_enter Tryd.func78, Tryd.ntmps78
  go_wp2
  go_loopg [3, 4] (cntB n) (fun gk v3 vk wx => ∃ k I : Nat, vk = .int .i64 I ∧ Hid (I = 64 * k) ∧ I ≤ 1000064 ∧ k + gk = cntB n ∧ Hid (Kq wx w.heap.size w.heap.size v3 ((List.range k).map (blkAt xs))) ∧ Hid (Below w.heap.size w wx))
  case atStart => exact ⟨0, 0, rfl, Lib.hid rfl, by omega, by omega, Lib.hid (Kq.made0 _ _ _ _ rfl (Nat.le_refl _)), Lib.hid ((Below.refl _ _).alloc (Nat.le_refl _) _)⟩
  case round =>
    obtain ⟨k, I, rfl, hI, hIm, hk, hK, hB⟩ := hrel
    have HK := Lib.hid hk
    clear hk
    cases gk with
    | zero =>
      have hIn : ¬ I < n := by have := hI.out; have := HK.out; unfold cntB at this; omega
      have HT := Lib.hid (show divB xs = (List.range k).map (blkAt xs) by unfold divB; rw [← HN.out]; have := HK.out; rw [show k = cntB n by omega])
      go_wp2
      go_ret
      exact ⟨_, rfl, by rw [HT.out]; exact hK.out, hB.out⟩
    | succ gk0 =>
      have hIn : I < n := by have := hI.out; have := HK.out; unfold cntB at this; omega
      obtain ⟨b, off, rfl⟩ : ∃ b off, ad = some ⟨b, off, none⟩ := by
        rcases HL.out.at_ with h0 | ⟨b, off, e, _⟩
        · have := HN.out; rw [h0] at this; simp at this; omega
        · exact ⟨b, off, e⟩
      have HD := Lib.hid (HL.out.from_ I)
      have HBA := Lib.hid (show pad (xs.drop I) = (xs.drop I).take 64 ++ (List.replicate 64 0).drop (xs.drop I).length by unfold pad; rw [List.drop_replicate])
      have HNX := Lib.hid (divB_snoc xs k)
      have HSL := Lib.hid (show n - I = (xs.drop I).length by rw [List.length_drop]; have := HN.out; omega)
      have hcI : cap - I ≠ 0 := by omega
      have hkb : k ≤ 20000 := by have := hI.out; omega
      go_wp2_with (first
        | (at_make; refine wpList_make_row rfl (.const (.int .i64 64)) (.const (.int .i64 64)) rfl 64 64 64 rfl rfl rfl rfl (by omega) ?_; intro g w1 hrow1 hg1 hb1; have HR1 := Lib.hid hrow1; have HG1 := Lib.hid hg1; have HB1 := Lib.hid hb1; have HL1 := Lib.hid ((HD.out.below hB.out rfl).below hb1 rfl); clear hrow1 hg1 hb1)
        | ((with_reducible refine wpList_copy_cut rfl (.tmp 14) (.tmp 17) rfl g _ _ rfl _ _ _ rfl (xs.drop I) HSL.out HL1.out _ HR1.out (by rw [List.length_replicate]) wr HB1.out HG1.out ?_); intro w2 hrow2 hb2; rw [List.length_replicate, ← HBA.out] at hrow2; have HR2 := Lib.hid hrow2; have HB2 := Lib.hid hb2; clear hrow2 hb2; have HK2 := Lib.hid (hK.out.below HB2.out); have HX2 := Lib.hid (Kx.one (w := w2) false false (some ⟨g, 0, none⟩) (pad (xs.drop I)) 64 (LieX.row (C := w.heap.size) (y := u3.ownBlock) HR2.out (Nat.le_trans hB.out.size HG1.out) (fun e => by have := (hK.out.lt g e).2; have := HG1.out; omega)) (by rw [pad_length]; omega) (by unfold maxLen; omega) (fun h => by cases h) _ rfl); rw [pad_length] at HX2; have HB3 := Lib.hid ((Below.refl _ w2).alloc (Nat.le_refl _) (.cells #[.bool false, .bool false, .slice (some ⟨g, 0, none⟩) 64 64] 57)); have HK3 := Lib.hid (HK2.out.below HB3.out); have HB4 := Lib.hid ((hB.out.trans (HB2.out.mono hB.out.size)).trans (HB3.out.mono (hB.out.trans (HB2.out.mono hB.out.size)).size)))
        | (at_builtin; refine wpList_append_k rfl (.tmp 19) (.tmp 22) rfl w.heap.size w.heap.size w.heap.size w.heap.size _ _ rfl HK3.out _ 1 1 [⟨false, false, pad (xs.drop I)⟩] (fun h => by cases h) HX2.out rfl rfl (by simp; omega) HB4.out.size (Nat.le_refl _) (Nat.le_refl _) ?_; intro v5 w5 ho5 hg5 _; have HK5 := Lib.hid ho5; have HB5 := Lib.hid (HK3.out.grow HB4.out (Nat.le_refl _) hg5); clear ho5 hg5))
      go_roundg gk0
      case rel => exact ⟨k + 1, I + 64, by go_num, Lib.hid (by have := hI.out; omega), by omega, by have := HK.out; omega, Lib.hid (by rw [HNX.out, blkAt_eq hI.out]; exact HK5.out), HB5⟩
      case measure => omega
set_option maxRecDepth 100000 in
set_option maxHeartbeats 2000000 in
theorem rbytes_any (ad : Option Addr) (n cap : Nat) (l : List Blk) (w : World) (hl : Ki w ad l) (hn : n = l.length) (hs : n ≤ 5000) (hd : ∀ b ∈ l, b.d.length ≤ 1000) :
    Calls Tryd.prog 61 #[.slice ad n cap] w (Gives w (bytB l)) := by
  have HL := Lib.hid hl
  have HN := Lib.hid hn
  have HD := Lib.hid hd
  clear hl hn hd
  go_enter Tryd.func61, Tryd.ntmps61
  go_wp2
  go_loopg [3, 4] n (fun gk v3 vk wx => ∃ k : Nat, vk = .int .i64 k ∧ k + gk = n ∧ Hid (Own wx w.heap.size v3 (bytB (l.take k))) ∧ Hid (Below w.heap.size w wx) ∧ Hid (∀ j (h : j < l.length), j < k → (l[j].m || l[j].bad) = false))
  case atStart => exact ⟨0, rfl, by omega, Lib.hid (by rw [List.take_zero]; exact Own.made w), Lib.hid ((Below.refl _ _).alloc (Nat.le_refl _) _), Lib.hid fun j _ h => by omega⟩
  case round =>
    obtain ⟨k, rfl, hk, hO, hB, hall⟩ := hrel
    cases gk with
    | zero =>
      obtain rfl : k = n := by omega
      have HT := Lib.hid (bytB_stop l k (by have := HN.out; omega) (.inl HN.out) hall.out)
      go_wp2
      go_ret
      exact ⟨_, rfl, by rw [HT.out]; exact hO.out, hB.out⟩
    | succ gk0 =>
      have hkn : k < n := by omega
      have hkl : k < l.length := by have := HN.out; omega
      obtain ⟨b, off, ad', cap', rfl, hlt, q0, q1, q2, hq, hq2, hq3, hq4⟩ := (HL.out.below hB.out).get hkl
      have HST := Lib.hid (fun (h : (l[k].m || l[k].bad) = true) => bytB_stop l k (Nat.le_of_lt hkl) (.inr ⟨hkl, h⟩) hall.out)
      have HGO := Lib.hid (fun (h : (l[k].m || l[k].bad) = false) => bytB_take l k hkl (fun j hj hjk => by
        rcases Nat.lt_or_ge j k with h3 | h3
        · exact hall.out j hj h3
        · obtain rfl : j = k := by omega
          exact h))
      have HAL : Hid ((l[k].m || l[k].bad) = false → ∀ j (h : j < l.length), j < k + 1 → (l[j].m || l[j].bad) = false) := Lib.hid (fun h j hj hjk => by
        rcases Nat.lt_or_ge j k with h3 | h3
        · exact hall.out j hj h3
        · obtain rfl : j = k := by omega
          exact h)
      have hlen : (bytB (l.take k)).length ≤ k * 1000 := bytB_le _ _ _ (by rw [List.length_take]; omega) (fun b hb => HD.out b (List.mem_of_mem_take hb))
      have hdl : l[k].d.length ≤ 1000 := HD.out _ (List.getElem_mem hkl)
      have hsum : (bytB (l.take k)).length + l[k].d.length ≤ 10000000 := by omega
      have HLI := Lib.hid hq
      have HQ := Lib.hid hq4
      clear hq hq2 hq3 hq4 hlen hdl
      generalize l[k].m = xm at *
      generalize l[k].bad = xb at *
      generalize l[k].d = xd at *
      cases xm
      · cases xb
        · have hsz := hB.out.size
          go_wp2_with (at_builtin; refine wpList_append_u rfl (.tmp 28) (.tmp 33) rfl w.heap.size _ _ rfl hO.out _ _ _ xd HQ.out HLI.out rfl rfl hsum hsz ?_; intro v1 w1 ho1 hg1; have HO1 := Lib.hid ho1; have HB1 := Lib.hid (hB.out.grown hg1 hsz (fun k hk => (hO.out.lt k hk).1)); clear ho1 hg1)
          go_roundg gk0
          case rel => exact ⟨k + 1, by go_num, by omega, Lib.hid (by rw [HGO.out rfl]; exact HO1.out), HB1, Lib.hid (HAL.out rfl)⟩
          case measure => omega
        · have HT := Lib.hid (HST.out rfl)
          go_wp2
          go_ret
          exact ⟨_, rfl, by rw [HT.out]; exact hO.out, hB.out⟩
      · have HT := Lib.hid (HST.out rfl)
        go_wp2
        go_ret
        exact ⟨_, rfl, by rw [HT.out]; exact hO.out, hB.out⟩
end Go.Proofs.YtjiijjdmkeeilaaDoor
