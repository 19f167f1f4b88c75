/-
  Plain mathematics: one byte of the checksum or of the body of a frame changed.
-/
import Derived.Test.YtjiijjdmkeeilaaDoorCAL
namespace Go.Proofs.YtjiijjdmkeeilaaDoor
set_option linter.unusedVariables false

theorem regB_lin (r : BitVec 32) (l : List (BitVec 32)) : regB r l = stepsB (8 * l.length) r ^^^ regB 0#32 l := by
  induction l generalizing r with
  | nil => show r = r ^^^ 0#32; simp
  | cons x l ih =>
    show regB (afterB r x) l = _ ^^^ regB (afterB 0#32 x) l
    rw [ih (afterB r x), ih (afterB 0#32 x)]
    unfold afterB
    rw [BitVec.zero_xor, stepsB_xor 8 r x, stepsB_xor (8 * l.length), ← stepsB_add, show 8 * (x :: l).length = 8 * l.length + 8 by simp; omega]
    ac_rfl
theorem stepB_zero_of (v : BitVec 32) (h : stepB v = 0#32) : v = 0#32 := by
  unfold stepB at h
  have htop : (v >>> 1).getLsbD 31 = false := by
    rw [BitVec.getLsbD_ushiftRight]
    exact BitVec.getLsbD_of_ge v (1 + 31) (by decide)
  by_cases hb : v.getLsbD 0 = true
  · rw [if_pos hb] at h
    have h31 : (v >>> 1 ^^^ 2197175160#32).getLsbD 31 = (0#32).getLsbD 31 := by rw [h]
    rw [BitVec.getLsbD_xor, htop] at h31
    exact absurd h31 (by decide)
  · rw [if_neg hb] at h
    apply BitVec.eq_of_getLsbD_eq
    intro i hi
    cases i with
    | zero => simpa using hb
    | succ i =>
      have : (v >>> 1).getLsbD i = (0#32).getLsbD i := by rw [h]
      rw [BitVec.getLsbD_ushiftRight, Nat.add_comm] at this
      rw [this]
      simp
theorem stepsB_zero_of (n : Nat) (v : BitVec 32) (h : stepsB n v = 0#32) : v = 0#32 := by
  induction n generalizing v with
  | zero => exact h
  | succ n ih => exact stepB_zero_of v (ih (stepB v) h)
theorem regB_put (l : List (BitVec 32)) (r d : BitVec 32) (j : Nat) (h : j < l.length) : regB r (l.set j (l.getD j 0#32 ^^^ d)) = regB r l ^^^ stepsB (8 * (l.length - j)) d := by
  induction l generalizing r j with
  | nil => simp at h
  | cons x l ih =>
    cases j with
    | zero =>
      show regB (afterB r (x ^^^ d)) l = regB (afterB r x) l ^^^ _
      have e : afterB r (x ^^^ d) = afterB r x ^^^ stepsB 8 d := by
        unfold afterB
        rw [← BitVec.xor_assoc, stepsB_xor]
      rw [e, regB_lin, regB_lin (afterB r x), stepsB_xor, ← stepsB_add, show 8 * l.length + 8 = 8 * ((x :: l).length - 0) by simp; omega]
      ac_rfl
    | succ j =>
      have h' : j < l.length := by simpa using h
      show regB (afterB r x) (l.set j (l.getD j 0#32 ^^^ d)) = regB (afterB r x) l ^^^ _
      rw [ih (afterB r x) j h']
      congr 3
      simp
theorem wd_set (l : List UInt8) (j : Nat) (h : j < l.length) (d : UInt8) : wd (l.set j (l[j] ^^^ d)) = (wd l).set j ((wd l).getD j 0#32 ^^^ BitVec.ofNat 32 d.toNat) := by
  have e : (wd l).getD j 0#32 = BitVec.ofNat 32 (l[j]).toNat := by simp [wd, h]
  rw [e]
  unfold wd
  rw [List.map_set]
  congr 1
  apply BitVec.eq_of_toNat_eq
  have h1 := (l[j]).toNat_lt
  have h2 := d.toNat_lt
  rw [BitVec.toNat_xor, BitVec.toNat_ofNat, BitVec.toNat_ofNat, BitVec.toNat_ofNat, UInt8.toNat_xor, Nat.mod_eq_of_lt (by omega : (l[j]).toNat < 2 ^ 32), Nat.mod_eq_of_lt (by omega : d.toNat < 2 ^ 32), Nat.mod_eq_of_lt]
  have := Nat.xor_lt_two_pow (n := 8) h1 h2
  omega
theorem crc_put (l : List UInt8) (j : Nat) (h : j < l.length) (d : UInt8) (hd : d ≠ 0) : crc (l.set j (l[j] ^^^ d)) ≠ crc l := by
  intro e
  unfold crc at e
  have e1 := BitVec.eq_of_toNat_eq e
  unfold updB at e1
  rw [wd_set l j h d, regB_put _ _ _ _ (by rw [wd_length]; exact h)] at e1
  have e2 : ∀ a b : BitVec 32, ~~~ (a ^^^ b) = ~~~ a → b = 0#32 := by
    intro a b hab
    have h1 : a ^^^ b = a := by
      have := congrArg (fun v => ~~~ v) hab
      simpa using this
    have h2 : a ^^^ (a ^^^ b) = a ^^^ a := by rw [h1]
    rw [← BitVec.xor_assoc, BitVec.xor_self, BitVec.zero_xor] at h2
    exact h2
  have e3 := stepsB_zero_of _ _ (e2 _ _ e1)
  have e4 := congrArg BitVec.toNat e3
  have := d.toNat_lt
  rw [BitVec.toNat_ofNat, Nat.mod_eq_of_lt (by omega)] at e4
  exact hd (UInt8.toNat_inj.1 e4)

/-- What begins at the bytes of a frame with whatever four bytes for its checksum. -/
theorem hd_gen (n : Nat) (s4 body : List UInt8) (hs : s4.length = 4) (hb : body.length = n) (h : n ≤ 65536) : hd ([167, 60] ++ (be4 n ++ (s4 ++ body))) = if num4 s4 ≠ crc (be4 n ++ body) then (0, 4) else (n, 0) := by
  have e2 : ([167, 60] ++ (be4 n ++ (s4 ++ body))).drop 2 = be4 n ++ (s4 ++ body) := rfl
  have e6 : ([167, 60] ++ (be4 n ++ (s4 ++ body))).drop 6 = s4 ++ body := by
    rw [show 6 = 2 + 4 from rfl, ← List.drop_drop, e2, drop4]
  have e10 : ([167, 60] ++ (be4 n ++ (s4 ++ body))).drop 10 = body := by
    rw [show 10 = 6 + 4 from rfl, ← List.drop_drop, e6, List.drop_left' hs]
  have et : ([167, 60] ++ (be4 n ++ (s4 ++ body))).take 2 = [167, 60] := rfl
  have hl : ([167, 60] ++ (be4 n ++ (s4 ++ body))).length = n + 10 := by simp only [List.length_append, be4_length, hs, hb, List.length_cons, List.length_nil]; omega
  have hn : num4 (([167, 60] ++ (be4 n ++ (s4 ++ body))).drop 2) = n := by rw [e2, num4_be4 _ (by omega)]
  have h4 : num4 (s4 ++ body) = num4 s4 := by rw [← num4_take (s4 ++ body), List.take_left' hs]
  unfold hd
  rw [if_neg (by omega), if_neg (fun h => h et), hn, if_neg (by omega), if_neg (by omega), e6, e10, e2, take4, List.take_of_length_le (by omega : body.length ≤ n), h4]
theorem frm_flat (body : List UInt8) : frm body = [167, 60] ++ (be4 body.length ++ (be4 (crc (be4 body.length ++ body)) ++ body)) := by simp [frm, List.append_assoc]
/-- One byte of the checksum or of the body changed: the checksum is wrong. -/
theorem hd_changed (body : List UInt8) (h : body.length ≤ 65536) (at_ : Nat) (h6 : 6 ≤ at_) (hat : at_ < (frm body).length) (d : UInt8) (hd0 : d ≠ 0) : hd ((frm body).set at_ ((frm body)[at_] ^^^ d)) = (0, 4) := by
  have hfl := frm_length body
  have hx : ∀ x : UInt8, x ^^^ d ≠ x := by
    intro x e
    have : x ^^^ (x ^^^ d) = x ^^^ x := by rw [e]
    rw [← UInt8.xor_assoc, UInt8.xor_self, UInt8.zero_xor] at this
    exact hd0 this
  by_cases h10 : at_ < 10
  · obtain ⟨i, rfl⟩ : ∃ i, at_ = 6 + i := ⟨at_ - 6, by omega⟩
    have hi : i < 4 := by omega
    generalize hC : be4 (crc (be4 body.length ++ body)) = C
    have hCl : C.length = 4 := by rw [← hC]; rfl
    have hget : (frm body)[6 + i] = C[i]'(by omega) := by
      simp only [frm_flat, hC]
      rw [List.getElem_append_right (by simp; omega)]
      rw [List.getElem_append_right (by simp [be4_length]; omega)]
      rw [List.getElem_append_left (by simp [be4_length, hCl]; omega)]
      congr 1
      simp only [List.length_cons, List.length_nil, be4_length]; omega
    have hset : (frm body).set (6 + i) (C[i]'(by omega) ^^^ d) = [167, 60] ++ (be4 body.length ++ (C.set i (C[i]'(by omega) ^^^ d) ++ body)) := by
      rw [frm_flat, hC, List.set_append_right _ _ (by simp; omega), List.set_append_right _ _ (by simp [be4_length]; omega), List.set_append_left _ _ (by simp [be4_length, hCl]; omega)]
      congr 4
      simp only [List.length_cons, List.length_nil, be4_length]; omega
    rw [hget, hset, hd_gen _ _ _ (by rw [List.length_set]; exact hCl) rfl h, if_pos]
    intro e
    have h1 := (be4_eq_iff (crc (be4 body.length ++ body)) (crc_lt _) (C.set i (C[i]'(by omega) ^^^ d)) (by rw [List.length_set]; omega)).2 e.symm
    rw [List.take_of_length_le (by rw [List.length_set]; omega), hC] at h1
    have h2 : C[i]'(by omega) = (C.set i (C[i]'(by omega) ^^^ d))[i]'(by rw [List.length_set]; omega) := by congr 1
    rw [List.getElem_set_self] at h2
    exact hx _ h2.symm
  · obtain ⟨i, rfl⟩ : ∃ i, at_ = 10 + i := ⟨at_ - 10, by omega⟩
    have hi : i < body.length := by omega
    generalize hC : be4 (crc (be4 body.length ++ body)) = C
    have hCl : C.length = 4 := by rw [← hC]; rfl
    have hget : (frm body)[10 + i] = body[i] := by
      simp only [frm_flat, hC]
      rw [List.getElem_append_right (by simp; omega)]
      rw [List.getElem_append_right (by simp [be4_length]; omega)]
      rw [List.getElem_append_right (by simp [be4_length, hCl]; omega)]
      congr 1
      simp only [List.length_cons, List.length_nil, be4_length, hCl]; omega
    have hset : (frm body).set (10 + i) (body[i] ^^^ d) = [167, 60] ++ (be4 body.length ++ (C ++ body.set i (body[i] ^^^ d))) := by
      rw [frm_flat, hC, List.set_append_right _ _ (by simp; omega), List.set_append_right _ _ (by simp [be4_length]; omega), List.set_append_right _ _ (by simp [be4_length, hCl]; omega)]
      congr 4
      simp only [List.length_cons, List.length_nil, be4_length, hCl]; omega
    rw [hget, hset, hd_gen _ _ _ hCl (by rw [List.length_set]) h, if_pos]
    intro e
    rw [← hC] at e
    have h3 := num4_be4 (crc (be4 body.length ++ body)) (crc_lt _) []
    rw [List.append_nil] at h3
    rw [h3] at e
    have h4 := crc_put (be4 body.length ++ body) (4 + i) (by rw [List.length_append, be4_length]; omega) d hd0
    have h5 : (be4 body.length ++ body)[4 + i]'(by rw [List.length_append, be4_length]; omega) = body[i] := by
      rw [List.getElem_append_right (by rw [be4_length]; omega)]
      congr 1
      rw [be4_length]; omega
    rw [h5, List.set_append_right _ _ (by rw [be4_length]; omega), be4_length, show 4 + i - 4 = i by omega] at h4
    exact h4 e.symm
end Go.Proofs.YtjiijjdmkeeilaaDoor
