/-
  One token of a compressed form, as plain mathematics: what is read of it, or the error; how many bytes all tokens stand for.
-/
import Derived.Test.YtihiccccpjakgaaKLz
import Derived.Test.YtihiccccpjakgaaCRead
namespace Go.Proofs.Ytihiccccpjakgaa
/-- what is read of a token: the error, the size, the distance (0: literals), the bytes of its head -/
structure Nx where
  e : Nat
  n : Nat
  d : Nat
  h : Nat
def nxl (tl : List UInt8) (hd n room : Nat) : Nx := if room < n then ⟨6, 0, 0, 0⟩ else if tl.length - hd < n then ⟨2, 0, 0, 0⟩ else ⟨0, n, 0, hd⟩
def nxc (tl : List UInt8) (hd n before room : Nat) : Nx :=
  if (dec 0 0 (tl.drop hd)).2.2 ≠ 0 then ⟨(dec 0 0 (tl.drop hd)).2.2, 0, 0, 0⟩
  else if (dec 0 0 (tl.drop hd)).1 = 0 ∨ before < (dec 0 0 (tl.drop hd)).1 then ⟨7, 0, 0, 0⟩
  else if room < n then ⟨6, 0, 0, 0⟩
  else ⟨0, n, (dec 0 0 (tl.drop hd)).1, hd + (dec 0 0 (tl.drop hd)).2.1⟩
def nx (tl : List UInt8) (before room : Nat) : Nx :=
  if (dec 0 0 tl).2.2 ≠ 0 then ⟨(dec 0 0 tl).2.2, 0, 0, 0⟩
  else if (dec 0 0 tl).1 / 2 = 0 then ⟨1, 0, 0, 0⟩
  else if (dec 0 0 tl).1 % 2 = 0 then nxl tl (dec 0 0 tl).2.1 ((dec 0 0 tl).1 / 2) room
  else nxc tl (dec 0 0 tl).2.1 ((dec 0 0 tl).1 / 2) before room
/-- how many bytes of the form the token has -/
def Nx.len (x : Nx) : Nat := if x.d = 0 then x.h + x.n else x.h
/-- what it stands for, behind what was made -/
def Nx.ex (x : Nx) (tl out : List UInt8) : List UInt8 := if x.d = 0 then out ++ (tl.drop x.h).take x.n else cpy x.n x.d out
theorem dec_bounds (l : List UInt8) : (dec 0 0 l).2.2 = 0 → 0 < (dec 0 0 l).2.1 ∧ (dec 0 0 l).2.1 ≤ l.length ∧ (dec 0 0 l).1 < 18446744073709551616 := by
  intro h
  rcases hd : dec 0 0 l with ⟨n, k, e⟩
  rw [hd] at h
  dsimp only at h
  subst h
  obtain ⟨_, m, h1, _, _, _, _, h6⟩ := dec_ok l 0 0 n k hd
  exact ⟨dec_pos hd, dec_le hd, by simp at h1 h6; dsimp only; omega⟩
theorem dec_one (l : List UInt8) : (dec 0 0 l).2.2 < 10 := by
  have aux : ∀ (l : List UInt8) (i acc : Nat), (dec i acc l).2.2 < 10 := by
    intro l
    induction l with
    | nil => intro i acc; simp only [dec]; split <;> omega
    | cons x l ih =>
      intro i acc
      rw [dec]
      split
      · simp
      · split
        · split
          · simp
          · split <;> simp
        · exact ih _ _
  exact aux l 0 0
/-- a token without an error: its bytes -/
theorem nx_ok {tl : List UInt8} {before room : Nat} (h : (nx tl before room).e = 0) :
    0 < (nx tl before room).n ∧ 0 < (nx tl before room).len ∧ (nx tl before room).len ≤ tl.length ∧ (nx tl before room).n ≤ room ∧ (nx tl before room).d ≤ before ∧ (nx tl before room).h ≤ tl.length ∧
      ((nx tl before room).d = 0 → (nx tl before room).h + (nx tl before room).n ≤ tl.length) := by
  unfold nx at h ⊢
  have hb := dec_bounds tl
  have hb2 := dec_bounds (tl.drop (dec 0 0 tl).2.1)
  rw [List.length_drop] at hb2
  by_cases h0 : (dec 0 0 tl).2.2 ≠ 0
  · rw [if_pos h0] at h; exact absurd h h0
  rw [if_neg h0] at h ⊢
  have hb := hb (by omega)
  by_cases h1 : (dec 0 0 tl).1 / 2 = 0
  · rw [if_pos h1] at h; cases h
  rw [if_neg h1] at h ⊢
  by_cases h2 : (dec 0 0 tl).1 % 2 = 0
  · rw [if_pos h2] at h ⊢
    unfold nxl at h ⊢
    by_cases h3 : room < (dec 0 0 tl).1 / 2
    · rw [if_pos h3] at h; cases h
    rw [if_neg h3] at h ⊢
    by_cases h4 : tl.length - (dec 0 0 tl).2.1 < (dec 0 0 tl).1 / 2
    · rw [if_pos h4] at h; cases h
    rw [if_neg h4]
    unfold Nx.len
    dsimp only
    rw [if_pos rfl]
    exact ⟨by omega, by omega, by omega, by omega, by omega, by omega, fun _ => by omega⟩
  · rw [if_neg h2] at h ⊢
    unfold nxc at h ⊢
    by_cases h3 : (dec 0 0 (tl.drop (dec 0 0 tl).2.1)).2.2 ≠ 0
    · rw [if_pos h3] at h; exact absurd h h3
    rw [if_neg h3] at h ⊢
    have hb2 := hb2 (by omega)
    by_cases h4 : (dec 0 0 (tl.drop (dec 0 0 tl).2.1)).1 = 0 ∨ before < (dec 0 0 (tl.drop (dec 0 0 tl).2.1)).1
    · rw [if_pos h4] at h; cases h
    rw [if_neg h4] at h ⊢
    by_cases h5 : room < (dec 0 0 tl).1 / 2
    · rw [if_pos h5] at h; cases h
    rw [if_neg h5]
    unfold Nx.len
    dsimp only
    rw [if_neg (by omega)]
    exact ⟨by omega, by omega, by omega, by omega, by omega, by omega, fun h => by omega⟩
theorem Nx.ex_length {tl out : List UInt8} {before room : Nat} (h : (nx tl before room).e = 0) : ((nx tl before room).ex tl out).length = out.length + (nx tl before room).n := by
  obtain ⟨_, _, _, _, _, h6, h7⟩ := nx_ok h
  unfold Nx.ex
  by_cases hd : (nx tl before room).d = 0
  · rw [if_pos hd, List.length_append, List.length_take, List.length_drop]
    have := h7 hd
    omega
  · rw [if_neg hd, cpy_length]
/-- one token more -/
theorem unq_nx (room : Nat) (tl out : List UInt8) (hne : tl ≠ []) : unq room tl out = if (nx tl out.length (room - out.length)).e ≠ 0 then ([], (nx tl out.length (room - out.length)).e)
    else unq room (tl.drop (nx tl out.length (room - out.length)).len) ((nx tl out.length (room - out.length)).ex tl out) := by
  have hl : ¬ tl.length = 0 := fun h => hne (List.eq_nil_of_length_eq_zero h)
  have hb := dec_bounds tl
  rw [unq, dif_neg hl]
  unfold nx nxl nxc
  by_cases h0 : (dec 0 0 tl).2.2 ≠ 0
  · rw [dif_pos (.inl h0), if_pos h0, if_pos h0]
  have hb := hb (by omega)
  rw [dif_neg (by omega), if_neg h0]
  by_cases h1 : (dec 0 0 tl).1 / 2 = 0
  · rw [if_pos h1, if_pos h1, if_pos (show (1 : Nat) ≠ 0 by decide)]
  rw [if_neg h1, if_neg h1]
  by_cases h2 : (dec 0 0 tl).1 % 2 = 0
  · rw [if_pos h2, if_pos h2]
    by_cases h3 : room - out.length < (dec 0 0 tl).1 / 2
    · rw [if_pos h3, if_pos h3, if_pos (show (6 : Nat) ≠ 0 by decide)]
    rw [if_neg h3, if_neg h3]
    by_cases h4 : tl.length - (dec 0 0 tl).2.1 < (dec 0 0 tl).1 / 2
    · rw [if_pos h4, if_pos h4, if_pos (show (2 : Nat) ≠ 0 by decide)]
    rw [if_neg h4, if_neg h4, if_neg (by simp)]
    rfl
  · rw [if_neg h2, if_neg h2]
    by_cases h3 : (dec 0 0 (tl.drop (dec 0 0 tl).2.1)).2.2 ≠ 0
    · rw [if_pos h3, if_pos h3, if_pos h3]
    rw [if_neg h3, if_neg h3]
    by_cases h4 : (dec 0 0 (tl.drop (dec 0 0 tl).2.1)).1 = 0 ∨ out.length < (dec 0 0 (tl.drop (dec 0 0 tl).2.1)).1
    · rw [if_pos h4, if_pos h4, if_pos (show (7 : Nat) ≠ 0 by decide)]
    rw [if_neg h4, if_neg h4]
    by_cases h5 : room - out.length < (dec 0 0 tl).1 / 2
    · rw [if_pos h5, if_pos h5, if_pos (show (6 : Nat) ≠ 0 by decide)]
    rw [if_neg h5, if_neg h5, if_neg (by simp)]
    unfold Nx.len Nx.ex
    dsimp only
    rw [if_neg (by omega), if_neg (by omega)]
theorem nx_err (tl : List UInt8) (before room : Nat) : (nx tl before room).e < 10 := by
  unfold nx nxl nxc
  have := dec_one tl
  have := dec_one (tl.drop (dec 0 0 tl).2.1)
  repeat' split
  all_goals (dsimp only; omega)
end Go.Proofs.Ytihiccccpjakgaa
