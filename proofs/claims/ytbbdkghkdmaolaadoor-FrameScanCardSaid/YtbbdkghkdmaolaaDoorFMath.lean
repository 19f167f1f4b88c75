/-
  Plain mathematics of frames: four bytes of a number, a frame, what begins at an offset.
-/
import Derived.Test.YtbbdkghkdmaolaaDoorFSum
namespace Go.Proofs.YtbbdkghkdmaolaaDoor

/-- A number in four bytes, the greatest first. -/
def be4 (n : Nat) : List UInt8 := [UInt8.ofNat (n / 16777216), UInt8.ofNat (n / 65536 % 256), UInt8.ofNat (n / 256 % 256), UInt8.ofNat (n % 256)]
theorem be4_length (n : Nat) : (be4 n).length = 4 := rfl
/-- The number of the first four bytes. -/
def num4 : List UInt8 → Nat
  | a :: b :: c :: d :: _ => a.toNat * 16777216 + b.toNat * 65536 + c.toNat * 256 + d.toNat
  | _ => 0
theorem num4_lt (l : List UInt8) : num4 l < 4294967296 := by
  unfold num4
  split
  · rename_i a b c d _
    have := a.toNat_lt; have := b.toNat_lt; have := c.toNat_lt; have := d.toNat_lt
    omega
  · omega
theorem toNat8' (n : Nat) (h : n < 256) : (UInt8.ofNat n).toNat = n := toNat_ofNat8 n h
theorem num4_be4 (n : Nat) (h : n < 4294967296) (l : List UInt8) : num4 (be4 n ++ l) = n := by
  unfold be4
  simp only [List.cons_append, List.nil_append, num4]
  rw [toNat8' _ (by omega), toNat8' _ (by omega), toNat8' _ (by omega), toNat8' _ (by omega)]
  omega
theorem ofNat_toNat8 (x : UInt8) : UInt8.ofNat x.toNat = x := by simp
theorem be4_num4 (l : List UInt8) (h : 4 ≤ l.length) : be4 (num4 l) = l.take 4 := by
  match l, h with
  | a :: b :: c :: d :: r, _ =>
    have ha := a.toNat_lt; have hb := b.toNat_lt; have hc := c.toNat_lt; have hd := d.toNat_lt
    simp only [num4, be4, List.take_succ_cons, List.take_zero]
    have e1 : (a.toNat * 16777216 + b.toNat * 65536 + c.toNat * 256 + d.toNat) / 16777216 = a.toNat := by omega
    have e2 : (a.toNat * 16777216 + b.toNat * 65536 + c.toNat * 256 + d.toNat) / 65536 % 256 = b.toNat := by omega
    have e3 : (a.toNat * 16777216 + b.toNat * 65536 + c.toNat * 256 + d.toNat) / 256 % 256 = c.toNat := by omega
    have e4 : (a.toNat * 16777216 + b.toNat * 65536 + c.toNat * 256 + d.toNat) % 256 = d.toNat := by omega
    rw [e1, e2, e3, e4, ofNat_toNat8, ofNat_toNat8, ofNat_toNat8, ofNat_toNat8]
theorem num4_take (l : List UInt8) : num4 (l.take 4) = num4 l := by
  match l with
  | [] => rfl
  | [_] => rfl
  | [_, _] => rfl
  | [_, _, _] => rfl
  | a :: b :: c :: d :: r => rfl
theorem num4_take' (l : List UInt8) (k : Nat) (h : 4 ≤ k) : num4 (l.take k) = num4 l := by
  rw [← num4_take (l.take k), List.take_take, Nat.min_eq_left h, num4_take]
/-- Four bytes and a number: equal just if. -/
theorem be4_eq_iff (n : Nat) (h : n < 4294967296) (l : List UInt8) (hl : 4 ≤ l.length) : be4 n = l.take 4 ↔ n = num4 l := by
  constructor
  · intro e
    have := num4_be4 n h []
    rw [List.append_nil, e, num4_take] at this
    exact this.symm
  · rintro rfl
    exact be4_num4 l hl

/-- The frame with a body. -/
def frm (body : List UInt8) : List UInt8 := [167, 60] ++ be4 body.length ++ be4 (crc (be4 body.length ++ body)) ++ body
theorem frm_length (body : List UInt8) : (frm body).length = body.length + 10 := by
  simp only [frm, be4, List.length_append, List.length_cons, List.length_nil]; omega

/-- Len. -/
def lenF (n : Int) : Int := if n < 0 ∨ 65536 < n then 0 else n + 10

/-- What begins the bytes r: an error, or the number of bytes of the body. -/
def hd (r : List UInt8) : Nat × Nat :=
  if r.length < 10 then (0, 2)
  else if r.take 2 ≠ [167, 60] then (0, 1)
  else if 65536 < num4 (r.drop 2) then (0, 6)
  else if r.length < num4 (r.drop 2) + 10 then (0, 2)
  else if num4 (r.drop 6) ≠ crc ((r.drop 2).take 4 ++ (r.drop 10).take (num4 (r.drop 2))) then (0, 4)
  else (num4 (r.drop 2), 0)
/-- What begins at an offset: the number of bytes of the body, the offset behind, the error. -/
def chk (xs : List UInt8) (at_ : Int) : Int × Int :=
  if at_ < 0 ∨ xs.length < at_ then (0, 7)
  else if (hd (xs.drop at_.toNat)).2 = 0 then (at_ + (hd (xs.drop at_.toNat)).1 + 10, 0) else (0, (hd (xs.drop at_.toNat)).2)
/-- The body that begins at an offset. -/
def bodyAt (xs : List UInt8) (at_ : Int) : List UInt8 :=
  if (chk xs at_).2 = 0 then (xs.drop (at_.toNat + 10)).take (hd (xs.drop at_.toNat)).1 else []

theorem hd_len (r : List UInt8) (h : (hd r).2 = 0) : (hd r).1 + 10 ≤ r.length ∧ (hd r).1 ≤ 65536 ∧ (hd r).1 = num4 (r.drop 2) := by
  revert h
  unfold hd
  repeat' split
  all_goals simp
  all_goals omega
theorem hd_err (r : List UInt8) : (hd r).2 = 0 ∨ ((hd r).2 ≤ 7 ∧ 1 ≤ (hd r).2) := by
  unfold hd
  repeat' split
  all_goals simp
theorem chk_nat (xs : List UInt8) (a : Nat) (h : a ≤ xs.length) : chk xs a = if (hd (xs.drop a)).2 = 0 then ((a : Int) + (hd (xs.drop a)).1 + 10, 0) else (0, ((hd (xs.drop a)).2 : Int)) := by
  unfold chk
  rw [if_neg (by omega), Int.toNat_natCast]
theorem chk_out (xs : List UInt8) (a : Int) (h : a < 0 ∨ xs.length < a) : chk xs a = (0, 7) := by unfold chk; rw [if_pos h]
theorem chk_ok {xs : List UInt8} {a : Int} (h : (chk xs a).2 = 0) : ∃ n : Nat, a = n ∧ n + (hd (xs.drop n)).1 + 10 ≤ xs.length ∧ (hd (xs.drop n)).2 = 0 ∧ chk xs a = (((n + (hd (xs.drop n)).1 + 10 : Nat) : Int), 0)
    ∧ bodyAt xs a = (xs.drop (n + 10)).take (hd (xs.drop n)).1 ∧ (bodyAt xs a).length = (hd (xs.drop n)).1 := by
  by_cases ho : a < 0 ∨ xs.length < a
  · rw [chk_out xs a ho] at h; simp at h
  obtain ⟨n, rfl⟩ : ∃ n : Nat, a = n := ⟨a.toNat, by omega⟩
  have hc := chk_nat xs n (by omega)
  by_cases h0 : (hd (xs.drop n)).2 = 0
  · rw [if_pos h0] at hc
    have hl := (hd_len _ h0).1
    rw [List.length_drop] at hl
    have hb : bodyAt xs n = (xs.drop (n + 10)).take (hd (xs.drop n)).1 := by
      unfold bodyAt
      rw [if_pos h, Int.toNat_natCast]
    refine ⟨n, rfl, by omega, h0, by rw [hc]; exact Prod.ext (by dsimp only; omega) rfl, hb, ?_⟩
    rw [hb, List.length_take, List.length_drop]
    omega
  · rw [if_neg h0] at hc
    rw [hc] at h
    simp at h
    omega
theorem chk_bad {xs : List UInt8} {a : Int} (h : (chk xs a).2 ≠ 0) : (chk xs a).1 = 0 ∧ bodyAt xs a = [] := by
  refine ⟨?_, by unfold bodyAt; rw [if_neg h]⟩
  revert h
  unfold chk
  repeat' split
  all_goals simp
theorem chk_bounds (xs : List UInt8) (a : Int) : 0 ≤ (chk xs a).1 ∧ (chk xs a).1 ≤ xs.length ∧ 0 ≤ (chk xs a).2 ∧ (chk xs a).2 ≤ 7 := by
  by_cases h : (chk xs a).2 = 0
  · obtain ⟨n, rfl, h1, _, h2, _⟩ := chk_ok h
    rw [h2]
    dsimp only
    omega
  · rw [(chk_bad h).1]
    unfold chk
    split
    · simp
    · split
      · simp
      · rcases hd_err (xs.drop a.toNat) with h0 | h0
        · contradiction
        · dsimp only; omega
end Go.Proofs.YtbbdkghkdmaolaaDoor
