/-
  What is read of what was written: the mathematics of the consequences P2.5, P2.6, P2.7.
-/
import Derived.Test.YtckbgefeamkjnaaCText
import Derived.Test.YtckbgefeamkjnaaCPut
namespace Go.Proofs.Ytckbgefeamkjnaa

theorem uR_back (pre rest : List UInt8) (n : Nat) (hn : n < 18446744073709551616) :
    uR (pre ++ (enc n ++ rest)) (pre.length : Nat) = (n, ((pre.length + (enc n).length : Nat) : Int), 0) := by
  have hd : dec 0 0 ((pre ++ (enc n ++ rest)).drop pre.length) = (n, (enc n).length, 0) := by
    rw [List.drop_left, dec_enc n 0 0 rest (by omega) (fun h => absurd h (by omega))]
    simp
  unfold uR
  rw [if_neg (by simp; omega), Int.toNat_natCast, hd]
  rfl
theorem iR_back (pre rest : List UInt8) (n : Int) (h0 : -9223372036854775808 ≤ n) (h1 : n ≤ 9223372036854775807) :
    iR (pre ++ (enc (cod n) ++ rest)) (pre.length : Nat) = (n, ((pre.length + (enc (cod n)).length : Nat) : Int), 0) := by
  unfold iR
  rw [uR_back pre rest _ (cod_lt n h0 h1)]
  simp only [if_true, dcd_cod]
theorem size_toList (s : ByteArray) : s.data.toList.length = s.size := by rw [Array.length_toList]; rfl
theorem tR_back (pre rest : List UInt8) (s : ByteArray) (hs : s.size < 18446744073709551616) :
    tR (pre ++ (encT s ++ rest)) (pre.length : Nat) (s.size : Nat) = (s, ((pre.length + (encT s).length : Nat) : Int), 0) := by
  have e : pre ++ (encT s ++ rest) = pre ++ (enc s.size ++ (s.data.toList ++ rest)) := by simp [encT]
  have hl : (encT s).length = (enc s.size).length + s.size := by rw [encT, List.length_append, size_toList]
  have hd : ((pre ++ (enc s.size ++ (s.data.toList ++ rest))).drop (pre.length + (enc s.size).length)).take s.size = s.data.toList := by
    rw [← List.append_assoc, ← List.length_append, List.drop_left, List.take_append_of_le_length (by rw [size_toList]; omega), List.take_of_length_le (by rw [size_toList]; omega)]
  unfold tR
  rw [e, uR_back pre _ _ hs]
  dsimp only
  rw [if_neg (by simp), if_neg (by omega), if_neg (by simp only [List.length_append, size_toList]; omega), Int.toNat_natCast, hd, hl]
  simp only [Prod.mk.injEq, and_true]
  refine ⟨by simp, by omega⟩
theorem bR_back (pre rest : List UInt8) (v : Bool) :
    bR (pre ++ (encB v ++ rest)) (pre.length : Nat) = (v, ((pre.length + (encB v).length : Nat) : Int), 0) := by
  unfold bR
  rw [if_neg (by simp; omega), Int.toNat_natCast, List.drop_left]
  cases v <;> simp [encB]

theorem uR_cut (n c : Nat) (hn : n < 18446744073709551616) (hc : c < (enc n).length) : uR ((enc n).take c) 0 = (0, 0, 2) := by
  unfold uR
  rw [if_neg (by simp), show (0 : Int).toNat = 0 from rfl, List.drop_zero, dec_cut n 0 0 c (by omega) (fun h => absurd h (by omega)) hc]
  rfl
theorem iR_cut (n : Int) (c : Nat) (h0 : -9223372036854775808 ≤ n) (h1 : n ≤ 9223372036854775807) (hc : c < (enc (cod n)).length) : iR ((enc (cod n)).take c) 0 = (0, 0, 2) := by
  unfold iR
  rw [uR_cut _ c (cod_lt n h0 h1) hc]
  simp
theorem tR_cut (s : ByteArray) (c : Nat) (hs : s.size < 18446744073709551616) (hc : c < (encT s).length) : (tR ((encT s).take c) 0 (s.size : Nat)).2.2 = 2 := by
  have hl : (encT s).length = (enc s.size).length + s.size := by rw [encT, List.length_append, size_toList]
  by_cases h : c < (enc s.size).length
  · have e : (encT s).take c = (enc s.size).take c := by rw [encT, List.take_append_of_le_length (by omega)]
    unfold tR
    rw [e, uR_cut _ c hs h]
    simp
  · have e : (encT s).take c = [] ++ (enc s.size ++ s.data.toList.take (c - (enc s.size).length)) := by
      rw [encT, List.take_append, List.take_of_length_le (by omega)]
      rfl
    have hu := uR_back [] (s.data.toList.take (c - (enc s.size).length)) s.size hs
    simp only [List.length_nil, Nat.zero_add] at hu
    unfold tR
    rw [e, show ((0 : Nat) : Int) = 0 from rfl] at *
    rw [hu]
    dsimp only
    rw [if_neg (by simp), if_neg (by omega), if_pos]
    simp only [List.nil_append, List.length_append, List.length_take, size_toList]
    omega
theorem bR_cut : bR [] 0 = (false, 0, 2) := by decide +kernel

theorem uR_form {xs : List UInt8} {at_ : Int} {n : Nat} {p : Int} (h : uR xs at_ = (n, p, 0)) :
    ∃ a q : Nat, at_ = a ∧ p = q ∧ a < q ∧ q ≤ xs.length ∧ n < 18446744073709551616 ∧ enc n = (xs.drop a).take (q - a) := by
  obtain ⟨hn, a, q, h1, h2, h3, h4, h5⟩ := uR_ok h
  obtain ⟨_, m, hm, hk, he, _⟩ := dec_ok _ _ _ _ _ h5
  refine ⟨a, q, h1, h2, h3, h4, hn, ?_⟩
  obtain rfl : n = m := by omega
  rw [he, Nat.sub_zero]
theorem iR_form {xs : List UInt8} {at_ n p : Int} (h : iR xs at_ = (n, p, 0)) :
    ∃ a q : Nat, at_ = a ∧ p = q ∧ a < q ∧ q ≤ xs.length ∧ (-9223372036854775808 ≤ n ∧ n ≤ 9223372036854775807) ∧ enc (cod n) = (xs.drop a).take (q - a) := by
  unfold iR at h
  rcases hu : uR xs at_ with ⟨m, q, e⟩
  rw [hu] at h
  dsimp only at h
  by_cases he : e = 0
  · subst he
    rw [if_pos rfl] at h
    simp only [Prod.mk.injEq, and_true] at h
    obtain ⟨rfl, rfl⟩ := h
    obtain ⟨a, q, h1, h2, h3, h4, h5, h6⟩ := uR_form hu
    exact ⟨a, q, h1, h2, h3, h4, dcd_bounds m h5, by rw [cod_dcd]; exact h6⟩
  · rw [if_neg he] at h
    simp only [Prod.mk.injEq] at h
    exact absurd h.2.2 he
theorem tR_form {xs : List UInt8} {at_ p : Int} {most : Int} {s : ByteArray} (h : tR xs at_ most = (s, p, 0)) :
    ∃ a q : Nat, at_ = a ∧ p = q ∧ a < q ∧ q ≤ xs.length ∧ s.size ≤ xs.length ∧ encT s = (xs.drop a).take (q - a) := by
  unfold tR at h
  rcases hu : uR xs at_ with ⟨m, q, e⟩
  rw [hu] at h
  dsimp only at h
  by_cases he : e = 0
  · subst he
    rw [if_neg (by simp)] at h
    by_cases h1 : most < 0 ∨ most < (m : Int)
    · rw [if_pos h1] at h; simp at h
    rw [if_neg h1] at h
    by_cases h2 : (xs.length : Int) - q < m
    · rw [if_pos h2] at h; simp at h
    rw [if_neg h2] at h
    simp only [Prod.mk.injEq, and_true] at h
    obtain ⟨rfl, rfl⟩ := h
    obtain ⟨a, q, rfl, rfl, h5, h6, _, h8⟩ := uR_form hu
    have hz : (ByteArray.mk ((xs.drop (q : Int).toNat).take m).toArray).size = m := by
      simp only [ByteArray.size, List.size_toArray, List.length_take, List.length_drop, Int.toNat_natCast]
      omega
    refine ⟨a, q + m, rfl, by simp, by omega, by omega, by rw [hz]; omega, ?_⟩
    unfold encT
    rw [hz, h8, show q + m - a = (q - a) + m by omega, List.take_add, List.drop_drop, show a + (q - a) = q by omega, Int.toNat_natCast]
  · rw [if_pos he] at h
    simp only [Prod.mk.injEq] at h
    exact absurd h.2.2 he
theorem bR_form {xs : List UInt8} {at_ p : Int} {v : Bool} (h : bR xs at_ = (v, p, 0)) :
    ∃ a : Nat, at_ = a ∧ p = ((a + 1 : Nat) : Int) ∧ a + 1 ≤ xs.length ∧ encB v = (xs.drop a).take 1 := by
  by_cases ho : at_ < 0 ∨ xs.length < at_
  · unfold bR at h
    rw [if_pos ho] at h; simp at h
  obtain ⟨a, rfl⟩ : ∃ a : Nat, at_ = a := ⟨at_.toNat, by omega⟩
  by_cases hl : a < xs.length
  · rw [bR_in xs a hl] at h
    by_cases h1 : 1 < (xs[a]).toNat
    · rw [if_pos h1] at h; simp at h
    rw [if_neg h1] at h
    simp only [Prod.mk.injEq, and_true] at h
    obtain ⟨rfl, rfl⟩ := h
    refine ⟨a, rfl, by simp, by omega, ?_⟩
    rw [List.drop_eq_getElem_cons hl, List.take_succ_cons, List.take_zero]
    have hv : (xs[a]).toNat = 0 ∨ (xs[a]).toNat = 1 := by omega
    unfold encB
    rcases hv with hv | hv
    · rw [hv]; congr 1; exact (UInt8.toNat_inj.1 hv).symm
    · rw [hv]; congr 1; exact (UInt8.toNat_inj.1 hv).symm
  · obtain rfl : a = xs.length := by omega
    unfold bR at h
    rw [if_neg ho, Int.toNat_natCast, List.drop_length] at h
    simp at h
end Go.Proofs.Ytckbgefeamkjnaa
