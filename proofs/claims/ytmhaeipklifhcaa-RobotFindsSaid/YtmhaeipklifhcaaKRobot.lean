/-
  Robots: what they are, what the calls answer, and what the laws need of it (no program).
-/
import Derived.Test.YtmhaeipklifhcaaRows
namespace Go.Proofs.Ytmhaeipklifhcaa
set_option linter.unusedVariables false
/-- a model: slots, drives, where the drives and the port are, the times to move, pick and put -/
structure Rmd where
  s : Int
  d : Int
  da : Int
  pa : Int
  mv : Int
  pk : Int
  pt : Int
/-- a robot: its place, whether it is out of order, its slots, the port, the hand -/
structure Rbt where
  p : Int
  f : Bool
  l : List ByteArray
  po : ByteArray
  ha : ByteArray
  deriving DecidableEq
abbrev emp : ByteArray := ⟨#[]⟩
instance lawfulT : LawfulBEq ByteArray where
  eq_of_beq {a b} h := by
    obtain ⟨a⟩ := a
    obtain ⟨b⟩ := b
    have h2 : (a == b) = true := h
    rw [eq_of_beq h2]
  rfl {a} := by
    obtain ⟨a⟩ := a
    show (a == a) = true
    exact beq_self_eq_true a
abbrev rz : Rbt := ⟨0, false, [], emp, emp⟩
def inn (n lo hi : Int) : Bool := decide (lo ≤ n) && decide (n ≤ hi)
theorem inn_iff {n lo hi : Int} : inn n lo hi = true ↔ lo ≤ n ∧ n ≤ hi := by simp [inn]
theorem inn_no {n lo hi : Int} (h : ¬ (lo ≤ n ∧ n ≤ hi)) : inn n lo hi = false := by rw [Bool.eq_false_iff]; exact fun h2 => h (inn_iff.1 h2)
def mdlR (m : Rmd) : Bool := inn m.s 1 64 && (inn m.d 1 8 && (inn m.da 0 1000 && (inn m.pa 0 1000 && (inn m.mv 0 1000000 && (inn m.pk 0 1000000 && inn m.pt 0 1000000)))))
structure MdlR (m : Rmd) : Prop where
  s0 : 1 ≤ m.s
  s1 : m.s ≤ 64
  d0 : 1 ≤ m.d
  d1 : m.d ≤ 8
  a0 : 0 ≤ m.da
  a1 : m.da ≤ 1000
  p0 : 0 ≤ m.pa
  p1 : m.pa ≤ 1000
  m0 : 0 ≤ m.mv
  m1 : m.mv ≤ 1000000
  k0 : 0 ≤ m.pk
  k1 : m.pk ≤ 1000000
  t0 : 0 ≤ m.pt
  t1 : m.pt ≤ 1000000
theorem mdl_iff {m : Rmd} : mdlR m = true ↔ MdlR m := by
  unfold mdlR
  simp only [Bool.and_eq_true, inn_iff]
  constructor
  · rintro ⟨⟨h1, h2⟩, ⟨h3, h4⟩, ⟨h5, h6⟩, ⟨h7, h8⟩, ⟨h9, h10⟩, ⟨h11, h12⟩, h13, h14⟩
    exact ⟨h1, h2, h3, h4, h5, h6, h7, h8, h9, h10, h11, h12, h13, h14⟩
  · rintro ⟨h1, h2, h3, h4, h5, h6, h7, h8, h9, h10, h11, h12, h13, h14⟩
    exact ⟨⟨h1, h2⟩, ⟨h3, h4⟩, ⟨h5, h6⟩, ⟨h7, h8⟩, ⟨h9, h10⟩, ⟨h11, h12⟩, h13, h14⟩
def rail (m : Rmd) : Int := if m.pa ≤ m.s - 1 ∧ m.da + m.d - 1 ≤ m.s - 1 then m.s - 1 else if m.pa ≤ m.da + m.d - 1 then m.da + m.d - 1 else m.pa
theorem rail_ge (m : Rmd) : m.s - 1 ≤ rail m ∧ m.da + m.d - 1 ≤ rail m ∧ m.pa ≤ rail m := by unfold rail; split <;> (try split) <;> omega
theorem rail_le {m : Rmd} (h : MdlR m) : 0 ≤ rail m ∧ rail m ≤ 1007 := by
  obtain ⟨h1, h2, h3, h4, h5, h6, h7, h8, h9, h10, h11, h12, h13, h14⟩ := h
  unfold rail; split <;> (try split) <;> omega
/-- no barcode twice -/
def dst (l : List ByteArray) : Bool := l.all fun s => decide (s = emp) || decide (l.count s ≤ 1)
theorem dst_iff {l : List ByteArray} : dst l = true ↔ ∀ s, s ≠ emp → l.count s ≤ 1 := by
  unfold dst
  rw [List.all_eq_true]
  simp only [Bool.or_eq_true, decide_eq_true_eq]
  constructor
  · intro h s hs
    by_cases hm : s ∈ l
    · exact (h s hm).resolve_left hs
    · rw [List.count_eq_zero_of_not_mem hm]; omega
  · intro h s _
    by_cases hs : s = emp
    · exact .inl hs
    · exact .inr (h s hs)
theorem count_two {l : List ByteArray} {i k : Nat} (hi : i < l.length) (hk : k < i) (h : l[i] = l[k]'(by omega)) : 2 ≤ l.count l[i] := by
  obtain ⟨x, hx⟩ : ∃ x, x = l[i] := ⟨_, rfl⟩
  have e : l = l.take i ++ l.drop i := (List.take_append_drop i l).symm
  have h1 : x ∈ l.take i := by
    rw [hx, h]
    exact List.mem_take_iff_getElem.2 ⟨k, by omega, rfl⟩
  have h2 : x ∈ l.drop i := by
    rw [hx]
    exact List.mem_drop_iff_getElem.2 ⟨0, by simpa using hi, by simp⟩
  rw [← hx]
  conv => rhs; rw [e]
  rw [List.count_append]
  have := List.count_pos_iff.2 h1
  have := List.count_pos_iff.2 h2
  omega
/-- two that are equal -/
theorem dst_no {l : List ByteArray} {i k : Nat} (hi : i < l.length) (hk : k < i) (hne : l[i] ≠ emp) (h : l[i] = l[k]'(by omega)) : dst l = false := by
  rw [Bool.eq_false_iff]
  intro h2
  have := dst_iff.1 h2 _ hne
  have := count_two hi hk h
  omega
theorem count_le_one {s : ByteArray} : ∀ {l : List ByteArray}, (∀ i k (hi : i < l.length) (hk : k < i), l[i] = s → l[k]'(by omega) ≠ s) → l.count s ≤ 1
  | [], _ => by simp
  | x :: l, h => by
    rw [List.count_cons]
    have ih : l.count s ≤ 1 := count_le_one fun i k hi hk h1 => by simpa using h (i + 1) (k + 1) (by simpa using hi) (by omega) (by simpa using h1)
    by_cases hx : x = s
    · have h0 : s ∉ l := fun hm => by
        obtain ⟨i, hi, e⟩ := List.getElem_of_mem hm
        exact h (i + 1) 0 (by simpa using hi) (by omega) (by simpa using e) (by simpa using hx)
      rw [List.count_eq_zero_of_not_mem h0]
      split <;> omega
    · rw [if_neg (by simpa using hx)]
      exact ih
theorem dst_yes {l : List ByteArray} (h : ∀ i k (hi : i < l.length) (hk : k < i), l[i] ≠ emp → l[i] ≠ l[k]'(by omega)) : dst l = true := by
  rw [dst_iff]
  intro s hs
  refine count_le_one fun i k hi hk e e2 => ?_
  exact h i k hi hk (by rw [e]; exact hs) (by rw [e, e2])
/-- whatever a robot contains -/
abbrev allR (r : Rbt) : List ByteArray := r.l ++ [r.po, r.ha]
def vldR (m : Rmd) (r : Rbt) : Bool := mdlR m && (decide ((r.l.length : Int) = m.s) && (inn r.p 0 (rail m) && dst (allR r)))
theorem vld_iff {m : Rmd} {r : Rbt} : vldR m r = true ↔ MdlR m ∧ (r.l.length : Int) = m.s ∧ (0 ≤ r.p ∧ r.p ≤ rail m) ∧ ∀ s, s ≠ emp → (allR r).count s ≤ 1 := by
  unfold vldR
  rw [Bool.and_eq_true, Bool.and_eq_true, Bool.and_eq_true, mdl_iff, decide_eq_true_eq, inn_iff, dst_iff]
/-- the place of an element -/
def locR (m : Rmd) (r : Rbt) (k i : Int) : Int × Bool :=
  if k = 0 then (if inn i 0 (m.s - 1) = true then (i, true) else (0, false))
  else if k = 1 then (if inn i 0 (m.d - 1) = true then (m.da + i, true) else (0, false))
  else if k = 2 then (if i = 0 then (m.pa, true) else (0, false))
  else if k = 3 then (if i = 0 then (r.p, true) else (0, false))
  else (0, false)
def posR (m : Rmd) (r : Rbt) (k i : Int) : Int × Bool := if vldR m r = true then locR m r k i else (0, false)
/-- the time of a motion -/
def trvR (m : Rmd) (a b : Int) : Int := if mdlR m = true ∧ inn a 0 (rail m) = true ∧ inn b 0 (rail m) = true then m.mv * (if b < a then a - b else b - a) else 0
/-- what a robot contains, with its elements -/
def slotsC : Nat → List ByteArray → List (Int × Int × ByteArray)
  | _, [] => []
  | q, s :: l => (0, (q : Int), s) :: slotsC (q + 1) l
theorem slotsC_snoc (s : ByteArray) : ∀ (l : List ByteArray) (q : Nat), slotsC q (l ++ [s]) = slotsC q l ++ [(0, ((q + l.length : Nat) : Int), s)]
  | [], q => rfl
  | x :: l, q => by
    have ih := slotsC_snoc s l (q + 1)
    show (0, (q : Int), x) :: slotsC (q + 1) (l ++ [s]) = (0, (q : Int), x) :: (slotsC (q + 1) l ++ [_])
    rw [ih]
    congr 3
    simp only [List.length_cons]
    congr 2
    omega
theorem slotsC_length : ∀ (l : List ByteArray) (q : Nat), (slotsC q l).length = l.length
  | [], _ => rfl
  | _ :: l, q => by simp [slotsC, slotsC_length l]
theorem slotsC_app : ∀ (l m : List ByteArray) (q : Nat), slotsC q (l ++ m) = slotsC q l ++ slotsC (q + l.length) m
  | [], m, q => rfl
  | x :: l, m, q => by
    have ih := slotsC_app l m (q + 1)
    show (0, (q : Int), x) :: slotsC (q + 1) (l ++ m) = (0, (q : Int), x) :: (slotsC (q + 1) l ++ _)
    rw [ih]
    congr 3
    simp only [List.length_cons]
    omega
def contC (r : Rbt) : List (Int × Int × ByteArray) := slotsC 0 r.l ++ [(2, 0, r.po), (3, 0, r.ha)]
theorem slotsC_pre (r : Rbt) (k : Nat) : slotsC 0 (r.l.take k) <+: contC r := by
  have h : slotsC 0 r.l = slotsC 0 (r.l.take k) ++ slotsC (0 + (r.l.take k).length) (r.l.drop k) := by rw [← slotsC_app, List.take_append_drop]
  unfold contC
  rw [h, List.append_assoc]
  exact List.prefix_append _ _
theorem slotsC_snd : ∀ (l : List ByteArray) (q : Nat), (slotsC q l).map (fun x => x.2.2) = l
  | [], _ => rfl
  | x :: l, q => by simp [slotsC, slotsC_snd l]
theorem contC_snd (r : Rbt) : (contC r).map (fun x => x.2.2) = allR r := by
  unfold contC
  rw [List.map_append, slotsC_snd]
  rfl
/-- where a barcode is -/
def finR (r : Rbt) (b : ByteArray) : Int × Int × Bool :=
  if b = emp then (0, 0, false) else
  match (contC r).find? (fun x => decide (x.2.2 = b)) with
  | some x => (x.1, x.2.1, true)
  | none => (0, 0, false)
theorem fin_emp (r : Rbt) : finR r emp = (0, 0, false) := if_pos rfl
theorem fin_at {r : Rbt} {b : ByteArray} {pre : List (Int × Int × ByteArray)} {x : Int × Int × ByteArray} (hb : b ≠ emp) (hp : pre ++ [x] <+: contC r) (hn : ∀ y ∈ pre, y.2.2 ≠ b) (hx : x.2.2 = b) : finR r b = (x.1, x.2.1, true) := by
  obtain ⟨rest, hr⟩ := hp
  have h1 : pre.find? (fun x => decide (x.2.2 = b)) = none := List.find?_eq_none.2 fun y hy => by simpa using hn y hy
  have h2 : (contC r).find? (fun x => decide (x.2.2 = b)) = some x := by
    rw [← hr, List.append_assoc, List.find?_append, h1]
    simp [hx]
  unfold finR
  rw [if_neg hb, h2]
theorem fin_no {r : Rbt} {b : ByteArray} (hn : ∀ y ∈ contC r, y.2.2 ≠ b) : finR r b = (0, 0, false) := by
  have h1 : (contC r).find? (fun x => decide (x.2.2 = b)) = none := List.find?_eq_none.2 fun y hy => by simpa using hn y hy
  unfold finR
  rw [h1]
  split <;> rfl
theorem slotsC_mem {l : List ByteArray} {q : Nat} {y : Int × Int × ByteArray} (h : y ∈ slotsC q l) : y.2.2 ∈ l := by
  have := List.mem_map_of_mem (f := fun x : Int × Int × ByteArray => x.2.2) h
  rwa [slotsC_snd] at this
/-- found in a slot -/
theorem fin_slot {r : Rbt} {b : ByteArray} {i : Nat} (hb : b ≠ emp) (hi : i < r.l.length) (hn : ∀ j (h : j < r.l.length), j < i → r.l[j] ≠ b) (hx : r.l[i] = b) : finR r b = (0, (i : Int), true) := by
  have h := fin_at (r := r) (b := b) (pre := slotsC 0 (r.l.take i)) (x := (0, (i : Int), r.l[i])) hb ?_ ?_ hx
  · exact h
  · have e : slotsC 0 (r.l.take (i + 1)) = slotsC 0 (r.l.take i) ++ [(0, (i : Int), r.l[i])] := by
      rw [List.take_add_one, List.getElem?_eq_getElem hi]
      show slotsC 0 (r.l.take i ++ [r.l[i]]) = _
      rw [slotsC_snoc, List.length_take, Nat.min_eq_left (by omega), Nat.zero_add]
    rw [← e]
    exact slotsC_pre r (i + 1)
  · intro y hy
    obtain ⟨j, hj, e⟩ := List.getElem_of_mem (slotsC_mem hy)
    rw [List.length_take] at hj
    rw [← e, List.getElem_take]
    exact hn j (by omega) (by omega)
theorem fin_port {r : Rbt} {b : ByteArray} (hb : b ≠ emp) (hn : ∀ j (h : j < r.l.length), r.l[j] ≠ b) (hx : r.po = b) : finR r b = (2, 0, true) := by
  refine fin_at (r := r) (b := b) (pre := slotsC 0 r.l) (x := (2, 0, r.po)) hb ⟨[(3, 0, r.ha)], by simp [contC]⟩ ?_ hx
  intro y hy
  obtain ⟨j, hj, e⟩ := List.getElem_of_mem (slotsC_mem hy)
  rw [← e]
  exact hn j hj
theorem fin_hand {r : Rbt} {b : ByteArray} (hb : b ≠ emp) (hn : ∀ j (h : j < r.l.length), r.l[j] ≠ b) (hp : r.po ≠ b) (hx : r.ha = b) : finR r b = (3, 0, true) := by
  refine fin_at (r := r) (b := b) (pre := slotsC 0 r.l ++ [(2, 0, r.po)]) (x := (3, 0, r.ha)) hb ⟨[], by simp [contC]⟩ ?_ hx
  intro y hy
  rcases List.mem_append.1 hy with h | h
  · obtain ⟨j, hj, e⟩ := List.getElem_of_mem (slotsC_mem h)
    rw [← e]
    exact hn j hj
  · obtain rfl := List.mem_singleton.1 h
    exact hp
theorem fin_none {r : Rbt} {b : ByteArray} (hn : ∀ j (h : j < r.l.length), r.l[j] ≠ b) (hp : r.po ≠ b) (hx : r.ha ≠ b) : finR r b = (0, 0, false) := by
  refine fin_no fun y hy => ?_
  unfold contC at hy
  rcases List.mem_append.1 hy with h | h
  · obtain ⟨j, hj, e⟩ := List.getElem_of_mem (slotsC_mem h)
    rw [← e]
    exact hn j hj
  · simp at h
    rcases h with rfl | rfl
    · exact hp
    · exact hx
theorem dst_pre {a b : List ByteArray} (h : a <+: b) (ha : dst a = false) : dst b = false := by
  rw [Bool.eq_false_iff] at ha ⊢
  intro hb
  apply ha
  rw [dst_iff] at hb ⊢
  intro s hs
  exact Nat.le_trans (h.sublist.count_le s) (hb s hs)
theorem dst_snoc_yes {l : List ByteArray} {s : ByteArray} (h : dst l = true) (hs : ¬ (s ≠ emp ∧ s ∈ l)) : dst (l ++ [s]) = true := by
  rw [dst_iff] at h ⊢
  intro t ht
  rw [List.count_append, List.count_singleton]
  by_cases e : s = t
  · subst e
    have : s ∉ l := fun hm => hs ⟨ht, hm⟩
    rw [List.count_eq_zero_of_not_mem this]
    split <;> omega
  · rw [if_neg (by simpa using e)]
    exact h t ht
theorem dst_snoc_no {l : List ByteArray} {s : ByteArray} (hs : s ≠ emp ∧ s ∈ l) : dst (l ++ [s]) = false := by
  rw [Bool.eq_false_iff]
  intro h
  have h2 := dst_iff.1 h s hs.1
  rw [List.count_append, List.count_singleton, if_pos (by simp)] at h2
  have := List.count_pos_iff.2 hs.2
  omega
/-- the first empty slot -/
def empR (l : List ByteArray) : Int × Bool :=
  match l.findIdx? (fun x => decide (x = emp)) with
  | some i => ((i : Int), true)
  | none => (0, false)
def farR (m : Rmd) : Int := if mdlR m = true then 2 * m.mv * rail m + m.pk + m.pt else 0
/-- where the hand is moved, or the error -/
def reaR (m : Rmd) (r : Rbt) (k i : Int) : Int × Int :=
  if vldR m r = true then (if r.f = true then (0, 16) else if (locR m r k i).2 = true ∧ k ≠ 3 then ((locR m r k i).1, 0) else (0, 11)) else (0, 8)
/-- what Pick answers -/
def picR (m : Rmd) (r : Rbt) (k i : Int) (b : ByteArray) : Rbt × Int × Int :=
  if (reaR m r k i).2 ≠ 0 then (rz, 0, (reaR m r k i).2)
  else if r.ha ≠ emp then (rz, 0, 14)
  else if k = 1 then (if b = emp ∨ (finR r b).2.2 = true then (rz, 0, 8) else (⟨(reaR m r k i).1, r.f, r.l, r.po, b⟩, trvR m r.p (reaR m r k i).1 + m.pk, 0))
  else if k = 0 then (if r.l.getD i.toNat emp = emp then (rz, 0, 11) else (⟨(reaR m r k i).1, r.f, r.l.set i.toNat emp, r.po, r.l.getD i.toNat emp⟩, trvR m r.p (reaR m r k i).1 + m.pk, 0))
  else (if r.po = emp then (rz, 0, 11) else (⟨(reaR m r k i).1, r.f, r.l, emp, r.po⟩, trvR m r.p (reaR m r k i).1 + m.pk, 0))
/-- what Put answers -/
def putR (m : Rmd) (r : Rbt) (k i : Int) : Rbt × Int × Int :=
  if (reaR m r k i).2 ≠ 0 then (rz, 0, (reaR m r k i).2)
  else if r.ha = emp then (rz, 0, 11)
  else if k = 1 then (⟨(reaR m r k i).1, r.f, r.l, r.po, emp⟩, trvR m r.p (reaR m r k i).1 + m.pt, 0)
  else if k = 0 then (if r.l.getD i.toNat emp ≠ emp then (rz, 0, 12) else (⟨(reaR m r k i).1, r.f, r.l.set i.toNat r.ha, r.po, emp⟩, trvR m r.p (reaR m r k i).1 + m.pt, 0))
  else (if r.po ≠ emp then (rz, 0, 12) else (⟨(reaR m r k i).1, r.f, r.l, r.ha, emp⟩, trvR m r.p (reaR m r k i).1 + m.pt, 0))
end Go.Proofs.Ytmhaeipklifhcaa
