/-
  Compressed forms, as plain mathematics: what bytes stand for, tokens, copies of earlier bytes.
-/
import Derived.Test.YtihiccccpjakgaaCMath
namespace Go.Proofs.Ytihiccccpjakgaa
/-- n bytes copied from the distance d back -/
def cpy : Nat → Nat → List UInt8 → List UInt8
  | 0, _, out => out
  | n + 1, d, out => cpy n d (out ++ [out.getD (out.length - d) 0])
theorem cpy_length (n d : Nat) : ∀ out : List UInt8, (cpy n d out).length = out.length + n := by
  induction n with
  | zero => intro out; rfl
  | succ n ih => intro out; rw [cpy, ih, List.length_append, List.length_singleton]; omega
/-- one byte more at the end -/
theorem cpy_snoc (n d : Nat) : ∀ out : List UInt8, cpy (n + 1) d out = cpy n d out ++ [(cpy n d out).getD ((cpy n d out).length - d) 0] := by
  induction n with
  | zero => intro out; rfl
  | succ n ih => intro out; rw [cpy, ih, cpy]
/-- what bytes stand for, behind what was made already: the bytes, or the error -/
def unq (room : Nat) (tl out : List UInt8) : List UInt8 × Nat :=
  if _h0 : tl.length = 0 then (out, 0)
  else if _h1 : (dec 0 0 tl).2.2 ≠ 0 ∨ (dec 0 0 tl).2.1 = 0 then ([], (dec 0 0 tl).2.2)
  else if (dec 0 0 tl).1 / 2 = 0 then ([], 1)
  else if (dec 0 0 tl).1 % 2 = 0 then
    if room - out.length < (dec 0 0 tl).1 / 2 then ([], 6)
    else if tl.length - (dec 0 0 tl).2.1 < (dec 0 0 tl).1 / 2 then ([], 2)
    else unq room (tl.drop ((dec 0 0 tl).2.1 + (dec 0 0 tl).1 / 2)) (out ++ (tl.drop (dec 0 0 tl).2.1).take ((dec 0 0 tl).1 / 2))
  else if (dec 0 0 (tl.drop (dec 0 0 tl).2.1)).2.2 ≠ 0 then ([], (dec 0 0 (tl.drop (dec 0 0 tl).2.1)).2.2)
  else if (dec 0 0 (tl.drop (dec 0 0 tl).2.1)).1 = 0 ∨ out.length < (dec 0 0 (tl.drop (dec 0 0 tl).2.1)).1 then ([], 7)
  else if room - out.length < (dec 0 0 tl).1 / 2 then ([], 6)
  else unq room (tl.drop ((dec 0 0 tl).2.1 + (dec 0 0 (tl.drop (dec 0 0 tl).2.1)).2.1)) (cpy ((dec 0 0 tl).1 / 2) (dec 0 0 (tl.drop (dec 0 0 tl).2.1)).1 out)
termination_by tl.length
decreasing_by
  all_goals (rw [List.length_drop]; omega)
theorem dec_pos {l : List UInt8} {n k : Nat} (h : dec 0 0 l = (n, k, 0)) : 0 < k := by
  obtain ⟨_, m, _, h2, _⟩ := dec_ok l 0 0 n k h
  have := enc_pos m
  omega
theorem dec_le {l : List UInt8} {n k : Nat} (h : dec 0 0 l = (n, k, 0)) : k ≤ l.length := by
  obtain ⟨_, m, _, _, _, h4, _⟩ := dec_ok l 0 0 n k h
  omega
theorem dec_here (m : Nat) (rest : List UInt8) (h : m < 18446744073709551616) : dec 0 0 (enc m ++ rest) = (m, (enc m).length, 0) := by
  have := dec_enc m 0 0 rest (by omega) (by omega)
  simpa using this
theorem unq_nil (room : Nat) (out : List UInt8) : unq room [] out = (out, 0) := by rw [unq, dif_pos (by simp)]
theorem drop_here {α : Type} (a b : List α) : (a ++ b).drop a.length = b := by simp
/-- a token of literals -/
theorem unq_lit (room : Nat) (lit rest out : List UInt8) (h1 : 0 < lit.length) (h2 : 2 * lit.length < 18446744073709551616) :
    unq room (enc (2 * lit.length) ++ (lit ++ rest)) out = if room - out.length < lit.length then ([], 6) else unq room rest (out ++ lit) := by
  have hd := dec_here (2 * lit.length) (lit ++ rest) h2
  have hp := enc_pos (2 * lit.length)
  rw [unq, dif_neg (by simp only [List.length_append]; omega), hd, dif_neg (by simp only; omega), if_neg (by simp only; omega), if_pos (by simp only; omega)]
  simp only
  rw [show 2 * lit.length / 2 = lit.length by omega]
  by_cases hr : room - out.length < lit.length
  · rw [if_pos hr, if_pos hr]
  · rw [if_neg hr, if_neg hr, if_neg (by simp only [List.length_append]; omega), drop_here, List.take_left, ← List.drop_drop, drop_here, drop_here]
/-- a token that copies -/
theorem unq_cpy (room n d : Nat) (rest out : List UInt8) (h1 : 0 < n) (h2 : 2 * n + 1 < 18446744073709551616) (h3 : 0 < d) (h4 : d ≤ out.length) (h5 : d < 18446744073709551616) :
    unq room (enc (2 * n + 1) ++ (enc d ++ rest)) out = if room - out.length < n then ([], 6) else unq room rest (cpy n d out) := by
  have hd := dec_here (2 * n + 1) (enc d ++ rest) h2
  have hd2 := dec_here d rest h5
  have hp := enc_pos (2 * n + 1)
  rw [unq, dif_neg (by simp only [List.length_append]; omega), hd, dif_neg (by simp only; omega), if_neg (by simp only; omega), if_neg (by simp only; omega)]
  simp only
  rw [drop_here, hd2]
  simp only
  rw [if_neg (by simp), if_neg (by omega), show (2 * n + 1) / 2 = n by omega]
  by_cases hr : room - out.length < n
  · rw [if_pos hr, if_pos hr]
  · rw [if_neg hr, if_neg hr, ← List.drop_drop, drop_here, drop_here]
/-- a token: literals, or a copy of n bytes from the distance d back -/
inductive Tk where
  | lit : List UInt8 → Tk
  | cp : Nat → Nat → Tk
def Tk.form : Tk → List UInt8
  | .lit l => enc (2 * l.length) ++ l
  | .cp n d => enc (2 * n + 1) ++ enc d
def Tk.ex (out : List UInt8) : Tk → List UInt8
  | .lit l => out ++ l
  | .cp n d => cpy n d out
def Tk.ok (out : List UInt8) : Tk → Prop
  | .lit l => 0 < l.length ∧ 2 * l.length < 18446744073709551616
  | .cp n d => 0 < n ∧ 2 * n + 1 < 18446744073709551616 ∧ 0 < d ∧ d ≤ out.length ∧ d < 18446744073709551616
/-- what tokens stand for, behind what was made already -/
def exs (out : List UInt8) (ts : List Tk) : List UInt8 := ts.foldl Tk.ex out
def forms (ts : List Tk) : List UInt8 := ts.flatMap Tk.form
def oks : List UInt8 → List Tk → Prop
  | _, [] => True
  | out, t :: ts => t.ok out ∧ oks (t.ex out) ts
theorem ex_length (out : List UInt8) (t : Tk) : out.length ≤ (t.ex out).length := by
  cases t with
  | lit l => simp [Tk.ex]
  | cp n d => simp only [Tk.ex, cpy_length]; omega
theorem exs_length (ts : List Tk) : ∀ out, out.length ≤ (exs out ts).length := by
  induction ts with
  | nil => intro out; exact Nat.le_refl _
  | cons t ts ih => intro out; exact Nat.le_trans (ex_length out t) (ih (t.ex out))
theorem unq_tk (room : Nat) (t : Tk) (rest out : List UInt8) (h : t.ok out) (hr : out.length ≤ room) : unq room (t.form ++ rest) out = if room < (t.ex out).length then ([], 6) else unq room rest (t.ex out) := by
  cases t with
  | lit l =>
    have hl : ((Tk.lit l).ex out).length = out.length + l.length := List.length_append
    have hu := unq_lit room l rest out h.1 h.2
    rw [show (Tk.lit l).form ++ rest = enc (2 * l.length) ++ (l ++ rest) by simp only [Tk.form, List.append_assoc], hu]
    by_cases hx : room - out.length < l.length
    · rw [if_pos hx, if_pos (by omega)]
    · rw [if_neg hx, if_neg (by omega)]; rfl
  | cp n d =>
    have hl : ((Tk.cp n d).ex out).length = out.length + n := cpy_length n d out
    have hu := unq_cpy room n d rest out h.1 h.2.1 h.2.2.1 h.2.2.2.1 h.2.2.2.2
    rw [show (Tk.cp n d).form ++ rest = enc (2 * n + 1) ++ (enc d ++ rest) by simp only [Tk.form, List.append_assoc], hu]
    by_cases hx : room - out.length < n
    · rw [if_pos hx, if_pos (by omega)]
    · rw [if_neg hx, if_neg (by omega)]; rfl
/-- THE ROUND TRIP OF TOKENS: their form is unpacked to what they stand for, if there is room; else it is too long -/
theorem unq_forms (room : Nat) (ts : List Tk) : ∀ out, oks out ts → out.length ≤ room → unq room (forms ts) out = if room < (exs out ts).length then ([], 6) else (exs out ts, 0) := by
  induction ts with
  | nil => intro out _ hr; show unq room [] out = _; rw [unq_nil, if_neg (by show ¬ room < out.length; omega)]; rfl
  | cons t ts ih =>
    intro out h hr
    show unq room (t.form ++ forms ts) out = if room < (exs (t.ex out) ts).length then _ else (exs (t.ex out) ts, 0)
    rw [unq_tk room t _ out h.1 hr]
    have hl := exs_length ts (t.ex out)
    by_cases hx : room < (t.ex out).length
    · rw [if_pos hx, if_pos (by omega)]
    · rw [if_neg hx, ih _ h.2 (by omega)]
/-- tokens one behind another -/
theorem oks_snoc (ts : List Tk) (t : Tk) : ∀ out, oks out ts → t.ok (exs out ts) → oks out (ts ++ [t]) := by
  induction ts with
  | nil => intro out _ h; exact ⟨h, trivial⟩
  | cons u ts ih => intro out h ht; exact ⟨h.1, ih _ h.2 ht⟩
theorem exs_snoc (ts : List Tk) (t : Tk) (out : List UInt8) : exs out (ts ++ [t]) = t.ex (exs out ts) := by unfold exs; rw [List.foldl_append]; rfl
theorem forms_snoc (ts : List Tk) (t : Tk) : forms (ts ++ [t]) = forms ts ++ t.form := by unfold forms; rw [List.flatMap_append]; simp
/-- A COPY OF WHAT CAME BEFORE: where the bytes come again, the copy gives them -/
theorem cpy_again (b : List UInt8) (i d : Nat) (hd : 0 < d) (hdi : d ≤ i) : ∀ n, i + n ≤ b.length → (∀ j (h1 : i ≤ j) (h2 : j < i + n) (h3 : i + n ≤ b.length), b[j]'(by omega) = b[j - d]'(by omega)) → cpy n d (b.take i) = b.take (i + n) := by
  intro n
  induction n with
  | zero => intro _ _; rfl
  | succ n ih =>
    intro hn h
    rw [cpy_snoc, ih (by omega) (fun j h1 h2 _ => h j h1 (by omega) hn)]
    have hl : (b.take (i + n)).length = i + n := by rw [List.length_take]; omega
    have hb := h (i + n) (by omega) (by omega) hn
    rw [hl, ← Nat.add_assoc, List.take_succ_eq_append_getElem (show i + n < b.length by omega)]
    congr 2
    rw [List.getD_eq_getElem?_getD, List.getElem?_eq_getElem (show i + n - d < (b.take (i + n)).length by omega), Option.getD_some, List.getElem_take]
    exact hb.symm
/-- how long the bytes of a number are -/
theorem enc_le (k : Nat) : ∀ m, m < 128 ^ (k + 1) → (enc m).length ≤ k + 1 := by
  induction k with
  | zero => intro m h; rw [enc_small m (by simpa using h)]; exact Nat.le_refl _
  | succ k ih =>
    intro m h
    by_cases hm : m < 128
    · rw [enc_small m hm]; simp
    · rw [enc_big m hm, List.length_cons]
      have := ih (m / 128) (by
        rw [Nat.pow_succ] at h
        exact Nat.div_lt_of_lt_mul (by rw [Nat.mul_comm]; exact h))
      omega
theorem enc_one (m : Nat) (h : m < 128) : (enc m).length = 1 := by rw [enc_small m h]; rfl
theorem enc_two (m : Nat) (h : m < 16384) : (enc m).length ≤ 2 := enc_le 1 m h
theorem enc_three (m : Nat) (h : m < 2097152) : (enc m).length ≤ 3 := enc_le 2 m h
theorem enc_four (m : Nat) (h : m < 268435456) : (enc m).length ≤ 4 := enc_le 3 m h
/-- what is made is never longer than there is room -/
theorem unq_room (room : Nat) (N : Nat) : ∀ tl out, tl.length ≤ N → out.length ≤ room → (unq room tl out).1.length ≤ room := by
  induction N with
  | zero => intro tl out h hr; rw [unq, dif_pos (by omega)]; exact hr
  | succ N ih =>
    intro tl out h hr
    rw [unq]
    split
    · exact hr
    · rename_i h0
      split
      · simp
      · rename_i h1
        split
        · simp
        · split
          · split
            · simp
            · rename_i h4
              split
              · simp
              · refine ih _ _ (by rw [List.length_drop]; omega) ?_
                rw [List.length_append, List.length_take, List.length_drop]; omega
          · split
            · simp
            · split
              · simp
              · split
                · simp
                · refine ih _ _ (by rw [List.length_drop]; omega) ?_
                  rw [cpy_length]; omega
end Go.Proofs.Ytihiccccpjakgaa
