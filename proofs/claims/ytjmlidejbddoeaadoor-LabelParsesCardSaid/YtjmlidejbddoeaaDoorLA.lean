/-
  Bytes that lie in memory: a slice of bytes as a list of bytes.
  Numbers in base 128: their bytes, and what is read of bytes.
-/
import Derived.Test.YtjmlidejbddoeaaDoorRows
import Derived.WalkKit
import Derived.WalkSpells
import Derived.WalkLawsBesides
import Derived.Lib.Hide
import Derived.Below
import Derived.Deep.Draws
import Derived.Laws.AppendOwn
import Derived.OwnWalk
import Derived.OpenShut
namespace Go.Proofs.YtjmlidejbddoeaaDoor
open Go.RowKit Go.ChangeShapes

def cellsU (l : List UInt8) : List Value := l.map fun x => Value.int .u8 (x.toNat : Int)
theorem cellsU_length (l : List UInt8) : (cellsU l).length = l.length := by simp [cellsU]
theorem cellsU_append (l m : List UInt8) : cellsU l ++ cellsU m = cellsU (l ++ m) := by simp [cellsU]
theorem cellsU_get (l : List UInt8) (j : Nat) (h : j < l.length) : (cellsU l)[j]? = some (.int .u8 ((l[j]'h).toNat : Int)) := by simp [cellsU, h]
theorem cellsU_one (l : List UInt8) : ∀ u ∈ cellsU l, u.oneCell' = true := by
  intro u hu
  obtain ⟨y, _, rfl⟩ := List.mem_map.1 hu
  rfl
theorem toNat_ofNat8 (n : Nat) (h : n < 256) : (UInt8.ofNat n).toNat = n := by
  simp [UInt8.toNat_ofNat']; omega

/-- The bytes xs lie at ad. -/
structure Lie (w : World) (ad : Option Addr) (xs : List UInt8) : Prop where
  at_ : xs = [] ∨ ∃ b off, ad = some ⟨b, off, none⟩ ∧ b < w.heap.size ∧ ∀ j (h : j < xs.length), w.cell? ⟨b, off + j, none⟩ = some (.int .u8 ((xs[j]'h).toNat : Int))

theorem Lie.nil (w : World) (ad : Option Addr) : Lie w ad [] := ⟨.inl rfl⟩
theorem Lie.below {W w : World} {ad : Option Addr} {xs : List UInt8} {B : Nat} (h : Lie W ad xs) (hb : Below B W w) (hB : B = W.heap.size) : Lie w ad xs := by
  subst hB
  rcases h.at_ with h0 | ⟨b, off, rfl, hlt, hc⟩
  · exact ⟨.inl h0⟩
  · exact ⟨.inr ⟨b, off, rfl, Nat.lt_of_lt_of_le hlt hb.size, fun j hj => by rw [hb.cell (by exact hlt)]; exact hc j hj⟩⟩
theorem Lie.drew {w : World} {ad : Option Addr} {xs : List UInt8} (h : Lie w ad xs) : Lie w.drew ad xs := ⟨h.at_⟩
theorem Lie.drewN {w : World} {ad : Option Addr} {xs : List UInt8} (h : Lie w ad xs) (n : Nat) : Lie (w.drewN n) ad xs := ⟨h.at_⟩

theorem lie_of (w : World) (a : Option Addr) (len cap : Nat) (zs : List Int)
    (h : (a = none ∧ len = 0 ∧ cap = 0 ∧ zs = []) ∨ ∃ x, a = some x ∧ len ≤ cap ∧ cap ≤ maxLen ∧ zs.length = cap ∧ (∀ i, i < zs.length → w.cell? (x.add i) = some (.int .u8 (zs.getD i 0))) ∧ ∀ n ∈ zs, (Lit.int .u8 n).wf = true) :
    ∃ xs : List UInt8, xs.length = len ∧ Lie w a xs ∧ len ≤ cap ∧ cap ≤ maxLen ∧ (a = none → cap = 0) := by
  rcases h with ⟨rfl, rfl, rfl, rfl⟩ | ⟨x, rfl, hl, hm, hz, hc, hw⟩
  · exact ⟨[], rfl, .nil _ _, Nat.le_refl _, Nat.zero_le _, fun _ => rfl⟩
  · refine ⟨(zs.take len).map fun z => UInt8.ofNat z.toNat, by simp; omega, ⟨?_⟩, hl, hm, fun h => by cases h⟩
    by_cases h0 : len = 0
    · left; subst h0; simp
    · right
      have hp : 0 < zs.length := by omega
      obtain ⟨b, off, rfl, hcell⟩ := ints_at hc hp
      refine ⟨b, off, rfl, ?_, fun j hj => ?_⟩
      · have := hcell 0 hp
        rcases Nat.lt_or_ge b w.heap.size with h' | h'
        · exact h'
        · simp [World.cell?, Array.getElem?_eq_none h'] at this
      · have hj' : j < len := by simp at hj; omega
        have hjz : j < zs.length := by omega
        have hb : 0 ≤ zs[j] ∧ zs[j] ≤ 255 := by simpa [Lit.wf, IntKind.min, IntKind.max, IntKind.signed, IntKind.bits] using hw zs[j] (List.getElem_mem hjz)
        have e : zs.getD j 0 = zs[j] := by simp [hjz]
        rw [hcell j hjz, e]
        simp only [List.getElem_map, List.getElem_take]
        rw [toNat_ofNat8 _ (by omega)]
        congr 2
        omega

theorem lie_own {w : World} {base : Nat} {v : Value} {n : Nat} {zs : List UInt8} (hown : w.ownsRow base 5 1 v n (cellsU zs)) (hn : n = zs.length) :
    ∃ ad cap, v = .slice ad zs.length cap ∧ Lie w ad zs ∧ zs.length ≤ cap ∧ cap ≤ maxLen ∧ (ad = none → cap = 0) := by
  subst hn
  rcases hown.2 with ⟨rfl, h0⟩ | ⟨g, cap, cur, rfl, _, hg, hle, hm, hsz, htake⟩
  · have : zs = [] := List.eq_nil_of_length_eq_zero h0
    subst this
    exact ⟨none, 0, rfl, .nil _ _, Nat.le_refl _, Nat.zero_le _, fun _ => rfl⟩
  · refine ⟨some ⟨g, 0, none⟩, cap, rfl, ⟨.inr ⟨g, 0, rfl, (Array.getElem?_eq_some_iff.1 hg).1, fun j hj => ?_⟩⟩, hle, hm, fun h => by cases h⟩
    rw [Nat.zero_add, cell_of_row w g j cur 5 (0, 0) hg]
    have h1 : (cur.toList.take (zs.length * 1))[j]? = some (.int .u8 ((zs[j]'hj).toNat : Int)) := by rw [htake]; exact cellsU_get zs j hj
    rw [List.getElem?_take_of_lt (by omega)] at h1
    simpa using h1
end Go.Proofs.YtjmlidejbddoeaaDoor
namespace Go.Proofs.YtjmlidejbddoeaaDoor

/-- The bytes of a number. -/
def enc (n : Nat) : List UInt8 := if n < 128 then [UInt8.ofNat n] else UInt8.ofNat (n % 128 + 128) :: enc (n / 128)
termination_by n
decreasing_by omega

/-- What is read behind i bytes that make acc: the number, how many bytes, the error. -/
def dec : Nat → Nat → List UInt8 → Nat × Nat × Nat
  | i, _, [] => (0, 0, if 10 ≤ i then 6 else 2)
  | i, acc, x :: l =>
    if 10 ≤ i then (0, 0, 6)
    else if x.toNat < 128 then
      if i = 9 ∧ 1 < x.toNat then (0, 0, 6)
      else if 0 < i ∧ x.toNat = 0 then (0, 0, 1)
      else (acc + x.toNat * 128 ^ i, i + 1, 0)
    else dec (i + 1) (acc + (x.toNat - 128) * 128 ^ i) l

theorem enc_small (n : Nat) (h : n < 128) : enc n = [UInt8.ofNat n] := by rw [enc, if_pos h]
theorem enc_big (n : Nat) (h : ¬ n < 128) : enc n = UInt8.ofNat (n % 128 + 128) :: enc (n / 128) := by rw [enc, if_neg h]
theorem enc_pos (n : Nat) : 0 < (enc n).length := by
  by_cases h : n < 128
  · rw [enc_small n h]; simp
  · rw [enc_big n h]; simp
theorem toNat8 (n : Nat) (h : n < 256) : (UInt8.ofNat n).toNat = n := by
  simp [UInt8.toNat_ofNat']; omega
theorem pow_pos (i : Nat) : 0 < 128 ^ i := Nat.pow_pos (by omega)
theorem dec_full (acc : Nat) (l : List UInt8) : dec 10 acc l = (0, 0, 6) := by
  cases l <;> simp [dec]
theorem pow_le (i : Nat) (h : 9 ≤ i) : 9223372036854775808 ≤ 128 ^ i := by
  have : (128 : Nat) ^ 9 ≤ 128 ^ i := Nat.pow_le_pow_right (by omega) h
  omega
theorem pow_le10 (i : Nat) (h : 10 ≤ i) : 1180591620717411303424 ≤ 128 ^ i := by
  have : (128 : Nat) ^ 10 ≤ 128 ^ i := Nat.pow_le_pow_right (by omega) h
  omega
theorem le_mul_pow (m i : Nat) (h : 0 < m) : 128 ^ i ≤ m * 128 ^ i := Nat.le_mul_of_pos_left _ h

/-- What was written is read. -/
theorem dec_enc (m : Nat) : ∀ (i acc : Nat) (rest : List UInt8), m * 128 ^ i < 18446744073709551616 → (0 < i → 0 < m) → dec i acc (enc m ++ rest) = (acc + m * 128 ^ i, i + (enc m).length, 0) := by
  induction m using Nat.strongRecOn with
  | ind m ih =>
    intro i acc rest hm hi
    by_cases h10 : 10 ≤ i
    · have := le_mul_pow m i (hi (by omega))
      have := pow_le10 i h10
      omega
    by_cases h : m < 128
    · rw [enc_small m h]
      have hx : (UInt8.ofNat m).toNat = m := toNat8 m (by omega)
      simp only [List.cons_append, List.nil_append, dec, hx, if_neg h10, if_pos h, List.length_singleton]
      have h9 : ¬ (i = 9 ∧ 1 < m) := by
        rintro ⟨rfl, h1⟩
        omega
      rw [if_neg h9, if_neg (by omega)]
    · rw [enc_big m h]
      have hx : (UInt8.ofNat (m % 128 + 128)).toNat = m % 128 + 128 := toNat8 _ (by omega)
      have hp := pow_pos i
      have hd : m / 128 * 128 ^ (i + 1) ≤ m * 128 ^ i := by
        rw [Nat.pow_succ, Nat.mul_comm (128 ^ i), ← Nat.mul_assoc]
        exact Nat.mul_le_mul_right _ (Nat.div_mul_le_self _ _)
      simp only [List.cons_append, dec, hx, if_neg h10, if_neg (show ¬ m % 128 + 128 < 128 by omega), List.length_cons]
      rw [ih (m / 128) (by omega) (i + 1) _ rest (by omega) (fun _ => by omega)]
      have e : m / 128 * 128 ^ (i + 1) = (m / 128 * 128) * 128 ^ i := by
        rw [Nat.pow_succ, Nat.mul_comm (128 ^ i), ← Nat.mul_assoc]
      rw [e, show m % 128 + 128 - 128 = m % 128 by omega, Nat.add_assoc, ← Nat.add_mul, show m % 128 + m / 128 * 128 = m by omega]
      simp only [Prod.mk.injEq, and_true, true_and]
      omega

/-- What is cut off is too short. -/
theorem dec_cut (m : Nat) : ∀ (i acc c : Nat), m * 128 ^ i < 18446744073709551616 → (0 < i → 0 < m) → c < (enc m).length → dec i acc ((enc m).take c) = (0, 0, 2) := by
  induction m using Nat.strongRecOn with
  | ind m ih =>
    intro i acc c hm hi hc
    by_cases h10 : 10 ≤ i
    · have := le_mul_pow m i (hi (by omega))
      have := pow_le10 i h10
      omega
    by_cases h : m < 128
    · rw [enc_small m h] at hc ⊢
      have : c = 0 := by simpa using hc
      subst this
      simp only [List.take_zero, dec, if_neg h10]
    · rw [enc_big m h] at hc ⊢
      cases c with
      | zero => simp only [List.take_zero, dec, if_neg h10]
      | succ c =>
        have hx : (UInt8.ofNat (m % 128 + 128)).toNat = m % 128 + 128 := toNat8 _ (by omega)
        have hd : m / 128 * 128 ^ (i + 1) ≤ m * 128 ^ i := by
          rw [Nat.pow_succ, Nat.mul_comm (128 ^ i), ← Nat.mul_assoc]
          exact Nat.mul_le_mul_right _ (Nat.div_mul_le_self _ _)
        simp only [List.take_succ_cons, dec, hx, if_neg h10, if_neg (show ¬ m % 128 + 128 < 128 by omega)]
        exact ih (m / 128) (by omega) (i + 1) _ c (by omega) (fun _ => by omega) (by simpa using hc)

theorem mul_step (m p q b : Nat) (hq : b = q * p) (h : m * p < b) : (m + 1) * p ≤ b := by
  subst hq
  exact Nat.mul_le_mul_right _ (Nat.lt_of_mul_lt_mul_right h)
/-- What is read is what is written for it. -/
theorem dec_ok (l : List UInt8) : ∀ (i acc n k : Nat), dec i acc l = (n, k, 0) → i < 10 ∧
    ∃ m, n = acc + m * 128 ^ i ∧ k = i + (enc m).length ∧ enc m = l.take (k - i) ∧ k - i ≤ l.length ∧ (0 < i → 0 < m) ∧ m * 128 ^ i < 18446744073709551616 := by
  induction l with
  | nil =>
    intro i acc n k h
    simp only [dec] at h
    split at h <;> simp at h
  | cons x l ih =>
    intro i acc n k h
    simp only [dec] at h
    have hx := x.toNat_lt
    split at h
    · simp at h
    rename_i h10
    split at h
    · rename_i hlt
      split at h
      · simp at h
      rename_i h9
      split at h
      · simp at h
      rename_i h0
      simp only [Prod.mk.injEq, and_true] at h
      obtain ⟨rfl, rfl⟩ := h
      refine ⟨by omega, x.toNat, rfl, ?_, ?_, ?_, by omega, ?_⟩
      · rw [enc_small _ hlt]; rfl
      · rw [enc_small _ hlt, show i + 1 - i = 1 by omega]; simp
      · simp
      · by_cases h9' : i = 9
        · subst h9'; omega
        · have : (128 : Nat) ^ i ≤ 128 ^ 8 := Nat.pow_le_pow_right (by omega) (by omega)
          have := Nat.mul_le_mul (show x.toNat ≤ 127 by omega) this
          omega
    · rename_i hlt
      obtain ⟨hi, m, h1, h2, h3, h4, h5, h6⟩ := ih _ _ _ _ h
      have hm := h5 (by omega)
      have e : m * 128 ^ (i + 1) = (m * 128) * 128 ^ i := by rw [Nat.pow_succ, Nat.mul_comm (128 ^ i), ← Nat.mul_assoc]
      have hb : ¬ m * 128 + (x.toNat - 128) < 128 := by omega
      have hd : (m * 128 + (x.toNat - 128)) / 128 = m := by omega
      have hr : (m * 128 + (x.toNat - 128)) % 128 + 128 = x.toNat := by omega
      have hpos := enc_pos m
      have he : enc (m * 128 + (x.toNat - 128)) = x :: enc m := by
        rw [enc_big _ hb, hd, hr]
        congr 1
        exact UInt8.toNat_inj.1 (toNat8 _ hx)
      refine ⟨by omega, m * 128 + (x.toNat - 128), ?_, ?_, ?_, ?_, fun _ => by omega, ?_⟩
      · rw [h1, e, Nat.add_mul]; omega
      · rw [he, h2, List.length_cons]; omega
      · rw [he, h3, show k - i = (k - (i + 1)) + 1 by omega, List.take_succ_cons]
      · simp only [List.length_cons]; omega
      · by_cases h9' : i = 9
        · subst h9'
          exact absurd hi (by decide)
        · have hb8 : m * 128 + (x.toNat - 128) ≤ m * 128 + 127 := by omega
          -- m * 128^(i+1) < 2^64 and i + 1 ≤ 9: both sides are multiples of 128^(i+1)
          have h7 : (m + 1) * 128 ^ (i + 1) ≤ 18446744073709551616 := by
            have hp : ∃ q, 18446744073709551616 = q * 128 ^ (i + 1) := by
              refine ⟨2 * 128 ^ (8 - i), ?_⟩
              have h9 : (128 : Nat) ^ (8 - i) * 128 ^ (i + 1) = 128 ^ 9 := by rw [← Nat.pow_add, show 8 - i + (i + 1) = 9 by omega]
              have h10 : 2 * 128 ^ (8 - i) * 128 ^ (i + 1) = 2 * (128 : Nat) ^ 9 := by rw [Nat.mul_assoc, h9]
              omega
            obtain ⟨q, hq⟩ := hp
            exact mul_step _ _ _ _ hq h6
          have e2 : (m + 1) * 128 ^ (i + 1) = ((m + 1) * 128) * 128 ^ i := by rw [Nat.pow_succ, Nat.mul_comm (128 ^ i), ← Nat.mul_assoc]
          have h8 : (m * 128 + (x.toNat - 128)) * 128 ^ i < ((m + 1) * 128) * 128 ^ i := Nat.mul_lt_mul_of_pos_right (by omega) (pow_pos i)
          omega

theorem dec_acc (l : List UInt8) (a b : Nat) : dec 10 a l = dec 10 b l := by rw [dec_full, dec_full]
theorem dec_last (i acc : Nat) (x : UInt8) (l : List UInt8) (hi : i < 10) (hx : x.toNat < 128) :
    dec i acc (x :: l) = if i = 9 ∧ 1 < x.toNat then (0, 0, 6) else if 0 < i ∧ x.toNat = 0 then (0, 0, 1) else (acc + x.toNat * 128 ^ i, i + 1, 0) := by
  rw [dec, if_neg (by omega), if_pos hx]
theorem dec_more (i acc : Nat) (x : UInt8) (l : List UInt8) (hi : i < 10) (hx : ¬ x.toNat < 128) : dec i acc (x :: l) = dec (i + 1) (acc + (x.toNat - 128) * 128 ^ i) l := by
  rw [dec, if_neg (by omega), if_neg hx]
theorem or_add (n x i : Nat) (h : n < 2 ^ (7 * i)) : n ||| x * 2 ^ (7 * i) = n + x * 2 ^ (7 * i) := by
  rw [Nat.or_comm, Nat.mul_comm, ← Nat.two_pow_add_eq_or_of_lt h, Nat.add_comm]
theorem pow_two (i : Nat) : 2 ^ (7 * i) = 128 ^ i := by rw [Nat.pow_mul]
end Go.Proofs.YtjmlidejbddoeaaDoor
