/-
  Numbers in base 128: their bytes, and what is read of bytes.
  The bytes of a number, made by the program.
  The program's join: what it is given, one behind another, in a slice of its own.
  The program's PutUint.
  The document's own PutUint.
  Steps of a region that draws its order, one at a time: an operation taken first, the one that may come up now, and a condition on the world that grows on the way.
-/
import Derived.Test.YtjiijjdmkeeilaaDoorCAC
import Derived.IntWalk
import Derived.Test.YtjiijjdmkeeilaaDoorCAA
import Derived.Deep.RegionHeld3
namespace Go.Proofs.YtjiijjdmkeeilaaDoor

/-- The bytes of a number. -/
def enc (n : Nat) : List UInt8 := if n < 128 then [UInt8.ofNat n] else UInt8.ofNat (n % 128 + 128) :: enc (n / 128)
termination_by n
decreasing_by omega

/-- What is read behind i bytes that make acc: the number, how many bytes, the error. -/
def dec : Nat → Nat → List UInt8 → Nat × Nat × Nat
  | i, _, [] => (0, 0, if 10 ≤ i then 6 else 2)
  | i, acc, x :: l =>
    if 10 ≤ i then (0, 0, 6)
    else if x.toNat < 128 then
      if i = 9 ∧ 1 < x.toNat then (0, 0, 6)
      else if 0 < i ∧ x.toNat = 0 then (0, 0, 1)
      else (acc + x.toNat * 128 ^ i, i + 1, 0)
    else dec (i + 1) (acc + (x.toNat - 128) * 128 ^ i) l

theorem enc_small (n : Nat) (h : n < 128) : enc n = [UInt8.ofNat n] := by rw [enc, if_pos h]
theorem enc_big (n : Nat) (h : ¬ n < 128) : enc n = UInt8.ofNat (n % 128 + 128) :: enc (n / 128) := by rw [enc, if_neg h]
theorem enc_pos (n : Nat) : 0 < (enc n).length := by
  by_cases h : n < 128
  · rw [enc_small n h]; simp
  · rw [enc_big n h]; simp
theorem toNat8 (n : Nat) (h : n < 256) : (UInt8.ofNat n).toNat = n := by
  simp [UInt8.toNat_ofNat']; omega
theorem pow_pos (i : Nat) : 0 < 128 ^ i := Nat.pow_pos (by omega)
theorem dec_full (acc : Nat) (l : List UInt8) : dec 10 acc l = (0, 0, 6) := by
  cases l <;> simp [dec]
theorem pow_le (i : Nat) (h : 9 ≤ i) : 9223372036854775808 ≤ 128 ^ i := by
  have : (128 : Nat) ^ 9 ≤ 128 ^ i := Nat.pow_le_pow_right (by omega) h
  omega
theorem pow_le10 (i : Nat) (h : 10 ≤ i) : 1180591620717411303424 ≤ 128 ^ i := by
  have : (128 : Nat) ^ 10 ≤ 128 ^ i := Nat.pow_le_pow_right (by omega) h
  omega
theorem le_mul_pow (m i : Nat) (h : 0 < m) : 128 ^ i ≤ m * 128 ^ i := Nat.le_mul_of_pos_left _ h

/-- What was written is read. -/
theorem dec_enc (m : Nat) : ∀ (i acc : Nat) (rest : List UInt8), m * 128 ^ i < 18446744073709551616 → (0 < i → 0 < m) → dec i acc (enc m ++ rest) = (acc + m * 128 ^ i, i + (enc m).length, 0) := by
  induction m using Nat.strongRecOn with
  | ind m ih =>
    intro i acc rest hm hi
    by_cases h10 : 10 ≤ i
    · have := le_mul_pow m i (hi (by omega))
      have := pow_le10 i h10
      omega
    by_cases h : m < 128
    · rw [enc_small m h]
      have hx : (UInt8.ofNat m).toNat = m := toNat8 m (by omega)
      simp only [List.cons_append, List.nil_append, dec, hx, if_neg h10, if_pos h, List.length_singleton]
      have h9 : ¬ (i = 9 ∧ 1 < m) := by
        rintro ⟨rfl, h1⟩
        omega
      rw [if_neg h9, if_neg (by omega)]
    · rw [enc_big m h]
      have hx : (UInt8.ofNat (m % 128 + 128)).toNat = m % 128 + 128 := toNat8 _ (by omega)
      have hp := pow_pos i
      have hd : m / 128 * 128 ^ (i + 1) ≤ m * 128 ^ i := by
        rw [Nat.pow_succ, Nat.mul_comm (128 ^ i), ← Nat.mul_assoc]
        exact Nat.mul_le_mul_right _ (Nat.div_mul_le_self _ _)
      simp only [List.cons_append, dec, hx, if_neg h10, if_neg (show ¬ m % 128 + 128 < 128 by omega), List.length_cons]
      rw [ih (m / 128) (by omega) (i + 1) _ rest (by omega) (fun _ => by omega)]
      have e : m / 128 * 128 ^ (i + 1) = (m / 128 * 128) * 128 ^ i := by
        rw [Nat.pow_succ, Nat.mul_comm (128 ^ i), ← Nat.mul_assoc]
      rw [e, show m % 128 + 128 - 128 = m % 128 by omega, Nat.add_assoc, ← Nat.add_mul, show m % 128 + m / 128 * 128 = m by omega]
      simp only [Prod.mk.injEq, and_true, true_and]
      omega

/-- What is cut off is too short. -/
theorem dec_cut (m : Nat) : ∀ (i acc c : Nat), m * 128 ^ i < 18446744073709551616 → (0 < i → 0 < m) → c < (enc m).length → dec i acc ((enc m).take c) = (0, 0, 2) := by
  induction m using Nat.strongRecOn with
  | ind m ih =>
    intro i acc c hm hi hc
    by_cases h10 : 10 ≤ i
    · have := le_mul_pow m i (hi (by omega))
      have := pow_le10 i h10
      omega
    by_cases h : m < 128
    · rw [enc_small m h] at hc ⊢
      have : c = 0 := by simpa using hc
      subst this
      simp only [List.take_zero, dec, if_neg h10]
    · rw [enc_big m h] at hc ⊢
      cases c with
      | zero => simp only [List.take_zero, dec, if_neg h10]
      | succ c =>
        have hx : (UInt8.ofNat (m % 128 + 128)).toNat = m % 128 + 128 := toNat8 _ (by omega)
        have hd : m / 128 * 128 ^ (i + 1) ≤ m * 128 ^ i := by
          rw [Nat.pow_succ, Nat.mul_comm (128 ^ i), ← Nat.mul_assoc]
          exact Nat.mul_le_mul_right _ (Nat.div_mul_le_self _ _)
        simp only [List.take_succ_cons, dec, hx, if_neg h10, if_neg (show ¬ m % 128 + 128 < 128 by omega)]
        exact ih (m / 128) (by omega) (i + 1) _ c (by omega) (fun _ => by omega) (by simpa using hc)

theorem mul_step (m p q b : Nat) (hq : b = q * p) (h : m * p < b) : (m + 1) * p ≤ b := by
  subst hq
  exact Nat.mul_le_mul_right _ (Nat.lt_of_mul_lt_mul_right h)
/-- What is read is what is written for it. -/
theorem dec_ok (l : List UInt8) : ∀ (i acc n k : Nat), dec i acc l = (n, k, 0) → i < 10 ∧
    ∃ m, n = acc + m * 128 ^ i ∧ k = i + (enc m).length ∧ enc m = l.take (k - i) ∧ k - i ≤ l.length ∧ (0 < i → 0 < m) ∧ m * 128 ^ i < 18446744073709551616 := by
  induction l with
  | nil =>
    intro i acc n k h
    simp only [dec] at h
    split at h <;> simp at h
  | cons x l ih =>
    intro i acc n k h
    simp only [dec] at h
    have hx := x.toNat_lt
    split at h
    · simp at h
    rename_i h10
    split at h
    · rename_i hlt
      split at h
      · simp at h
      rename_i h9
      split at h
      · simp at h
      rename_i h0
      simp only [Prod.mk.injEq, and_true] at h
      obtain ⟨rfl, rfl⟩ := h
      refine ⟨by omega, x.toNat, rfl, ?_, ?_, ?_, by omega, ?_⟩
      · rw [enc_small _ hlt]; rfl
      · rw [enc_small _ hlt, show i + 1 - i = 1 by omega]; simp
      · simp
      · by_cases h9' : i = 9
        · subst h9'; omega
        · have : (128 : Nat) ^ i ≤ 128 ^ 8 := Nat.pow_le_pow_right (by omega) (by omega)
          have := Nat.mul_le_mul (show x.toNat ≤ 127 by omega) this
          omega
    · rename_i hlt
      obtain ⟨hi, m, h1, h2, h3, h4, h5, h6⟩ := ih _ _ _ _ h
      have hm := h5 (by omega)
      have e : m * 128 ^ (i + 1) = (m * 128) * 128 ^ i := by rw [Nat.pow_succ, Nat.mul_comm (128 ^ i), ← Nat.mul_assoc]
      have hb : ¬ m * 128 + (x.toNat - 128) < 128 := by omega
      have hd : (m * 128 + (x.toNat - 128)) / 128 = m := by omega
      have hr : (m * 128 + (x.toNat - 128)) % 128 + 128 = x.toNat := by omega
      have hpos := enc_pos m
      have he : enc (m * 128 + (x.toNat - 128)) = x :: enc m := by
        rw [enc_big _ hb, hd, hr]
        congr 1
        exact UInt8.toNat_inj.1 (toNat8 _ hx)
      refine ⟨by omega, m * 128 + (x.toNat - 128), ?_, ?_, ?_, ?_, fun _ => by omega, ?_⟩
      · rw [h1, e, Nat.add_mul]; omega
      · rw [he, h2, List.length_cons]; omega
      · rw [he, h3, show k - i = (k - (i + 1)) + 1 by omega, List.take_succ_cons]
      · simp only [List.length_cons]; omega
      · by_cases h9' : i = 9
        · subst h9'
          exact absurd hi (by decide)
        · have hb8 : m * 128 + (x.toNat - 128) ≤ m * 128 + 127 := by omega
          -- m * 128^(i+1) < 2^64 and i + 1 ≤ 9: both sides are multiples of 128^(i+1)
          have h7 : (m + 1) * 128 ^ (i + 1) ≤ 18446744073709551616 := by
            have hp : ∃ q, 18446744073709551616 = q * 128 ^ (i + 1) := by
              refine ⟨2 * 128 ^ (8 - i), ?_⟩
              have h9 : (128 : Nat) ^ (8 - i) * 128 ^ (i + 1) = 128 ^ 9 := by rw [← Nat.pow_add, show 8 - i + (i + 1) = 9 by omega]
              have h10 : 2 * 128 ^ (8 - i) * 128 ^ (i + 1) = 2 * (128 : Nat) ^ 9 := by rw [Nat.mul_assoc, h9]
              omega
            obtain ⟨q, hq⟩ := hp
            exact mul_step _ _ _ _ hq h6
          have e2 : (m + 1) * 128 ^ (i + 1) = ((m + 1) * 128) * 128 ^ i := by rw [Nat.pow_succ, Nat.mul_comm (128 ^ i), ← Nat.mul_assoc]
          have h8 : (m * 128 + (x.toNat - 128)) * 128 ^ i < ((m + 1) * 128) * 128 ^ i := Nat.mul_lt_mul_of_pos_right (by omega) (pow_pos i)
          omega

theorem dec_acc (l : List UInt8) (a b : Nat) : dec 10 a l = dec 10 b l := by rw [dec_full, dec_full]
theorem dec_last (i acc : Nat) (x : UInt8) (l : List UInt8) (hi : i < 10) (hx : x.toNat < 128) :
    dec i acc (x :: l) = if i = 9 ∧ 1 < x.toNat then (0, 0, 6) else if 0 < i ∧ x.toNat = 0 then (0, 0, 1) else (acc + x.toNat * 128 ^ i, i + 1, 0) := by
  rw [dec, if_neg (by omega), if_pos hx]
theorem dec_more (i acc : Nat) (x : UInt8) (l : List UInt8) (hi : i < 10) (hx : ¬ x.toNat < 128) : dec i acc (x :: l) = dec (i + 1) (acc + (x.toNat - 128) * 128 ^ i) l := by
  rw [dec, if_neg (by omega), if_neg hx]
theorem or_add (n x i : Nat) (h : n < 2 ^ (7 * i)) : n ||| x * 2 ^ (7 * i) = n + x * 2 ^ (7 * i) := by
  rw [Nat.or_comm, Nat.mul_comm, ← Nat.two_pow_add_eq_or_of_lt h, Nat.add_comm]
theorem pow_two (i : Nat) : 2 ^ (7 * i) = 128 ^ i := by rw [Nat.pow_mul]
end Go.Proofs.YtjiijjdmkeeilaaDoor
namespace Go.Proofs.YtjiijjdmkeeilaaDoor
open Go.RowKit

/-- A call gives a new slice with the bytes l, and what was there is as it was. -/
def Gives (w : World) (l : List UInt8) (e : Ending) (w' : World) : Prop := ∃ v, e = .returned v ∧ Own w' w.heap.size v l ∧ Below w.heap.size w w'

theorem enc_len (n : Nat) (h : n < 18446744073709551616) : (enc n).length ≤ 10 := by
  have aux : ∀ k m : Nat, m < 128 ^ k → (enc m).length ≤ max k 1 := by
    intro k
    induction k with
    | zero => intro m hm; rw [enc_small m (by omega)]; simp
    | succ k ih =>
      intro m hm
      by_cases h : m < 128
      · rw [enc_small m h]; simp
      · rw [enc_big m h, List.length_cons]
        rw [Nat.pow_succ] at hm
        have h1 := ih (m / 128) (by omega)
        have h2 : k ≠ 0 := by rintro rfl; simp at hm; omega
        omega
  exact aux 10 n (by omega)

set_option maxRecDepth 100000 in
set_option maxHeartbeats 600000 in
theorem number_any (n : Nat) (w : World) (hn : n < 18446744073709551616) :
    Calls Tryd.prog 94 #[.int .u64 n] w (Gives w (enc n)) := by
  go_enter Tryd.func94, Tryd.ntmps94
  go_wp2
  go_loopw [0, 3] (fun vm v wr => ∃ (m : Nat) (l : List UInt8), vm = .int .u64 m ∧ m < 18446744073709551616 ∧ enc n = l ++ enc m ∧ Own wr w.heap.size v l ∧ Below w.heap.size w wr) (fun vm _ _ => (intOf vm).toNat)
  case atStart => exact ⟨n, [], rfl, hn, rfl, .ofNil _ _, .refl _ _⟩
  case round =>
    obtain ⟨m, l, rfl, hm, he, hown, hb⟩ := hrel
    have hel := enc_len n hn
    rw [he, List.length_append] at hel
    have hsz := hb.size
    by_cases hlt : m < 128
    · have H1 := Lib.hid (Lie.one wr m (UInt8.ofNat m) (by rw [toNat8 m (by omega)]))
      have HO := Lib.hid (hown.below ((Below.refl _ _).alloc (Nat.le_refl _) (.cells #[.int .u8 (m : Int)] 5)))
      have HE := Lib.hid he
      have HB := Lib.hid hb
      have HS := Lib.hid hsz
      clear he hb hown
      go_wp2_with (at_builtin; refine wpList_append_u rfl (.tmp 15) (.tmp 18) rfl w.heap.size _ l rfl HO.out _ 1 1 [UInt8.ofNat m] (fun h => by cases h) H1.out rfl rfl (by omega) (by simp; omega) ?_; intro v1 w1 hown1 hgrow1)
      go_ret
      refine ⟨v1, rfl, ?_, (HB.out.alloc HS.out _).grown hgrow1 (by simp; omega) (fun k hk => (HO.out.lt k hk).1)⟩
      rw [HE.out, enc_small m hlt]
      exact hown1
    · have hr : UInt8.toNat (UInt8.ofNat (m % 128 + 128)) = m % 128 + 128 := toNat8 _ (by omega)
      have H1 := Lib.hid (Lie.one wr ((m : Int) % 128 + 128) (UInt8.ofNat (m % 128 + 128)) (by rw [hr]; omega))
      have HO := Lib.hid (hown.below ((Below.refl _ _).alloc (Nat.le_refl _) (.cells #[.int .u8 ((m : Int) % 128 + 128)] 5)))
      have HE := Lib.hid he
      have HB := Lib.hid hb
      have HS := Lib.hid hsz
      clear he hb hown hr
      go_wp2_with (at_builtin; refine wpList_append_u rfl (.tmp 8) (.tmp 13) rfl w.heap.size _ l rfl HO.out _ 1 1 [UInt8.ofNat (m % 128 + 128)] (fun h => by cases h) H1.out rfl rfl (by omega) (by simp; omega) ?_; intro v1 w1 hown1 hgrow1)
      refine ⟨⟨m / 128, l ++ [UInt8.ofNat (m % 128 + 128)], by simp, by omega, ?_, hown1, (HB.out.alloc HS.out _).grown hgrow1 (by simp; omega) (fun k hk => (HO.out.lt k hk).1)⟩, by simp [intOf]; omega⟩
      rw [HE.out, enc_big m hlt, List.append_assoc]
      rfl
end Go.Proofs.YtjiijjdmkeeilaaDoor
namespace Go.Proofs.YtjiijjdmkeeilaaDoor
open Go.RowKit

/-- How many bytes the first k of some texts have. -/
def tot (ls : List (List UInt8)) (k : Nat) : Nat := (ls.take k).flatten.length
theorem tot_succ (ls : List (List UInt8)) (k : Nat) (h : k < ls.length) : tot ls (k + 1) = tot ls k + (ls[k]).length := by
  unfold tot
  rw [List.take_succ_eq_append_getElem h, List.flatten_append, List.length_append, List.flatten_cons, List.flatten_nil, List.append_nil]
theorem tot_le (ls : List (List UInt8)) (k : Nat) : tot ls k ≤ ls.flatten.length := by
  unfold tot
  have h : ls.flatten = (ls.take k).flatten ++ (ls.drop k).flatten := by rw [← List.flatten_append, List.take_append_drop]
  rw [h, List.length_append]
  omega
theorem take_succ_flat (ls : List (List UInt8)) (k : Nat) (h : k < ls.length) : (ls.take (k + 1)).flatten = (ls.take k).flatten ++ ls[k] := by
  rw [List.take_succ_eq_append_getElem h, List.flatten_append, List.flatten_cons, List.flatten_nil, List.append_nil]

theorem lt_of_cell {w : World} {g k : Nat} {v : Value} (h : w.cell? ⟨g, k, none⟩ = some v) : g < w.heap.size := by
  rcases Nat.lt_or_ge g w.heap.size with h' | h'
  · exact h'
  · simp [World.cell?, Array.getElem?_eq_none h'] at h

set_option maxRecDepth 100000 in
set_option maxHeartbeats 800000 in
theorem join_bytes (ad : Option Addr) (cap g : Nat) (xs : List UInt8) (ss : List (Option Addr × Nat × List UInt8)) (w : World) (hl : Lie w ad xs) (hac : ad = none → cap = 0)
    (hc : ∀ k (h : k < ss.length), w.cell? ⟨g, k, none⟩ = some (.slice (ss[k]).1 (ss[k]).2.2.length (ss[k]).2.1) ∧ Lie w (ss[k]).1 (ss[k]).2.2 ∧ ((ss[k]).1 = none → (ss[k]).2.1 = 0)) (hs : xs.length ≤ 1000000) (hss : (ss.map fun s => s.2.2).flatten.length ≤ 1000000) (hn : ss.length ≤ 1000) :
    Calls Tryd.prog 93 #[.slice ad xs.length cap, .slice (some ⟨g, 0, none⟩) ss.length ss.length] w (Gives w (xs ++ (ss.map fun s => s.2.2).flatten)) := by
  obtain ⟨ls, hls⟩ : ∃ ls, ls = ss.map fun s => s.2.2 := ⟨_, rfl⟩
  rw [← hls] at hss ⊢
  have hll : ls.length = ss.length := by rw [hls]; simp
  have hget : ∀ k (h : k < ss.length) (h' : k < ls.length), ls[k] = (ss[k]).2.2 := fun k h h' => by simp [hls]
  have HL := Lib.hid hl
  have HC := Lib.hid hc
  have HN := Lib.hid hll
  have HG := Lib.hid hget
  have HA := Lib.hid hac
  have HS := Lib.hid hss
  clear hl hc hls hll hget hac hss
  go_enter Tryd.func93, Tryd.ntmps93
  go_wp2
  go_loop [5, 15] (fun n i => ∃ k L : Nat, k ≤ ss.length ∧ i = .int .i64 k ∧ n = .int .i64 L ∧ L = xs.length + tot ls k) (fun _ i => (ss.length - (intOf i).toNat))
  case atStart => exact ⟨0, xs.length, by omega, rfl, rfl, rfl⟩
  case round =>
    obtain ⟨k, L, hk, rfl, rfl, hL⟩ := hrel
    have hts := tot_le ls k
    have HS2 := HS.out
    by_cases hlt : k < ss.length
    · have hc := (HC.out k hlt).1
      have HT := Lib.hid (tot_succ ls k (by rw [HN.out]; exact hlt))
      have hsz : (ss[k]).2.2.length = (ls[k]'(by rw [HN.out]; exact hlt)).length := by rw [HG.out k hlt _]
      have hts1 := tot_le ls (k + 1)
      rw [HT.out] at hts1
      have HL2 := Lib.hid hL
      have HZ := Lib.hid hsz
      have hb : L + (ss[k]).2.2.length ≤ 3000000 := by omega
      clear hL hsz hts1 hts
      go_wp2
      refine ⟨⟨k + 1, L + (ss[k]).2.2.length, by omega, by go_num, by go_num, ?_⟩, by simp [intOf]; omega⟩
      rw [HT.out, HZ.out, HL2.out, Nat.add_assoc]
    · obtain rfl : k = ss.length := by omega
      have hb : L ≤ 3000000 := by omega
      clear hL hts HS2
      go_wp2_with (first
        | (at_make; refine wpList_make_u rfl (.const (.int .i64 0)) (.tmp 24) rfl w.heap.size _ L rfl rfl rfl (by omega) (Nat.le_refl _) ?_; intro v0 w0 hown0 hgrow0)
        | (at_builtin; refine wpList_append_u rfl (.tmp 25) (.tmp 26) rfl w.heap.size _ [] rfl hown0 ad _ cap xs HA.out (HL.out.below ((Below.refl _ _).grown hgrow0 (Nat.le_refl _) (by simp)) rfl) rfl rfl (by simp; omega) hgrow0.size ?_; intro v1 w1 hown1 hgrow1))
      have hb0 : Below w.heap.size w w0 := (Below.refl _ _).grown hgrow0 (Nat.le_refl _) (by simp)
      have hb1 : Below w.heap.size w w1 := hb0.grown hgrow1 hb0.size (fun k hk => (hown0.lt k hk).1)
      have HO1 := Lib.hid hown1
      have HB1 := Lib.hid hb1
      clear hown0 hown1 hgrow0 hgrow1 hb0 hb1
      go_loopw [8, 30] (fun v i wr => ∃ k : Nat, k ≤ ss.length ∧ i = .int .i64 k ∧ Own wr w.heap.size v (xs ++ (ls.take k).flatten) ∧ Below w.heap.size w wr) (fun _ i _ => (ss.length - (intOf i).toNat))
      case atStart => exact ⟨0, by omega, rfl, by simpa using HO1.out, HB1.out⟩
      case round =>
        obtain ⟨k, hk, rfl, hown, hb⟩ := hrel
        have HS2 := HS.out
        have hts := tot_le ls k
        by_cases hlt : k < ss.length
        · obtain ⟨hcw, hlw, hnw⟩ := HC.out k hlt
          have hlr := Lib.hid (hlw.below hb rfl)
          have hnr := Lib.hid hnw
          have hc : wr.cell? ⟨g, k, none⟩ = some (.slice (ss[k]).1 (ss[k]).2.2.length (ss[k]).2.1) := by
            rw [hb.cell (p := ⟨g, k, none⟩) (lt_of_cell hcw)]
            exact hcw
          have hk' : k < ls.length := by rw [HN.out]; exact hlt
          have HT := Lib.hid (take_succ_flat ls k hk')
          have hts1 := tot_le ls (k + 1)
          rw [tot_succ ls k hk'] at hts1
          have hsz : (ss[k]).2.2.length = (ls[k]'hk').length := by rw [HG.out k hlt hk']
          have hlen : (xs ++ (ls.take k).flatten).length = xs.length + tot ls k := by rw [List.length_append]; rfl
          have hbd : (xs ++ (ls.take k).flatten).length + (ss[k]).2.2.length ≤ 10000000 := by omega
          have hbs := hb.size
          have HB := Lib.hid hb
          have HO := Lib.hid hown
          clear hts hts1 hsz hlen hcw hown hb hlw hnw
          go_wp2_with (at_builtin; refine wpList_append_u rfl (.tmp 34) (.tmp 35) rfl w.heap.size _ _ rfl HO.out _ _ _ (ss[k]).2.2 hnr.out hlr.out rfl rfl hbd hbs ?_; intro v2 w2 hown2 hgrow2)
          refine ⟨⟨k + 1, by omega, by go_num, ?_, HB.out.grown hgrow2 hbs (fun j hj => (HO.out.lt j hj).1)⟩, by simp [intOf]; omega⟩
          rw [HT.out, HG.out k hlt hk', ← List.append_assoc]
          exact hown2
        · obtain rfl : k = ss.length := by omega
          have HB := Lib.hid hb
          have HO := Lib.hid hown
          clear hown hb hts
          go_wp2
          go_ret
          refine ⟨_, rfl, ?_, HB.out⟩
          have := HO.out
          rw [List.take_of_length_le (by rw [HN.out]; omega)] at this
          exact this
end Go.Proofs.YtjiijjdmkeeilaaDoor
namespace Go.Proofs.YtjiijjdmkeeilaaDoor
open Go.RowKit

theorem Gives.back {w W w' : World} {l : List UInt8} {e : Ending} (h : Gives W l e w') (hb : Below w.heap.size w W) : Gives w l e w' := by
  obtain ⟨v, rfl, ho, hb'⟩ := h
  exact ⟨v, rfl, ho.mono hb.size, hb.trans (hb'.mono hb.size)⟩
theorem Gives.eq {w w' : World} {l m : List UInt8} {e : Ending} (h : Gives w l e w') (hl : l = m) : Gives w m e w' := hl ▸ h

theorem part_one {w : World} {nd : Option Addr} {nc : Nat} {l : List UInt8} (hl : Lie w nd l) (hn : nd = none → nc = 0) (t : TypeId) :
    ∀ k (h : k < [(nd, nc, l)].length), (w.alloc (.cells #[.slice nd l.length nc] t)).cell? ⟨w.heap.size, k, none⟩ = some (.slice ([(nd, nc, l)][k]).1 ([(nd, nc, l)][k]).2.2.length ([(nd, nc, l)][k]).2.1) ∧ Lie (w.alloc (.cells #[.slice nd l.length nc] t)) ([(nd, nc, l)][k]).1 ([(nd, nc, l)][k]).2.2 ∧ (([(nd, nc, l)][k]).1 = none → ([(nd, nc, l)][k]).2.1 = 0) := by
  intro k h
  obtain rfl : k = 0 := by simpa using h
  refine ⟨?_, hl.below ((Below.refl _ _).alloc (Nat.le_refl _) _) rfl, hn⟩
  rw [World.cell?_alloc_mark]
  rfl
theorem join_one (ad : Option Addr) (cap g : Nat) (xs : List UInt8) (nd : Option Addr) (nc : Nat) (l : List UInt8) (w : World) (hl : Lie w ad xs) (hac : ad = none → cap = 0) (hl2 : Lie w nd l) (hn : nd = none → nc = 0) (hs : xs.length ≤ 1000000) (hs2 : l.length ≤ 1000000) (hg : g = w.heap.size) :
    Calls Tryd.prog 93 #[.slice ad xs.length cap, .slice (some ⟨g, 0, none⟩) 1 1] (w.alloc (.cells #[.slice nd l.length nc] 26)) (Gives w (xs ++ l)) := by
  have hb : Below w.heap.size w (w.alloc (.cells #[.slice nd l.length nc] 26)) := (Below.refl _ _).alloc (Nat.le_refl _) _
  subst hg
  refine (join_bytes ad cap w.heap.size xs [(nd, nc, l)] _ (hl.below hb rfl) hac (part_one hl2 hn _) hs (by simpa using hs2) (by simp)).mono ?_
  intro e w' h
  exact (h.back hb).eq (by simp)

set_option maxRecDepth 100000 in
set_option maxHeartbeats 600000 in
theorem puint_any (ad : Option Addr) (cap : Nat) (xs : List UInt8) (n : Nat) (w : World) (hl : Lie w ad xs) (hac : ad = none → cap = 0) (hs : xs.length ≤ 1000000) (hn : n < 18446744073709551616) :
    Calls Tryd.prog 72 #[.slice ad xs.length cap, .int .u64 n] w (Gives w (xs ++ enc n)) := by
  have HA := Lib.hid hac
  have hel := enc_len n hn
  clear hac
  go_enter Tryd.func72, Tryd.ntmps72
  go_wp2_with fail
  refine (number_any n _ hn).mono ?_
  rintro e w1 ⟨v, rfl, hown, hb⟩
  obtain ⟨nd, nc, rfl, hl2, _, _, hn2⟩ := hown.slice
  have HL := Lib.hid (hl.below hb rfl)
  have HL2 := Lib.hid hl2
  have HN2 := Lib.hid hn2
  have HB := Lib.hid hb
  clear hown hl hl2 hn2 hb
  go_wp2_with fail
  refine (join_one ad cap _ xs nd nc (enc n) _ HL.out HA.out HL2.out HN2.out hs (by omega) rfl).mono ?_
  rintro e w2 ⟨v, rfl, hown, hb⟩
  have HO := Lib.hid hown
  have HB2 := Lib.hid hb
  clear hown hb
  go_wp2
  go_ret
  exact ⟨v, rfl, HO.out.mono HB.out.size, HB.out.trans (HB2.out.mono HB.out.size)⟩

end Go.Proofs.YtjiijjdmkeeilaaDoor
namespace Go.Proofs.YtjiijjdmkeeilaaDoor
open Go.RowKit

set_option maxRecDepth 100000 in
set_option maxHeartbeats 600000 in
theorem rpuint_any (ad : Option Addr) (cap : Nat) (xs : List UInt8) (n : Nat) (w : World) (hl : Lie w ad xs) (hac : ad = none → cap = 0) (hs : xs.length ≤ 1000000) (hn : n < 18446744073709551616) :
    Calls Tryd.prog 109 #[.slice ad xs.length cap, .int .u64 n] w (Gives w (xs ++ enc n)) := by
  have hown0 := Own.made w
  have hl0 : Lie (w.alloc (.cells #[] 5)) ad xs := hl.below ((Below.refl _ _).alloc (Nat.le_refl _) _) rfl
  have HA := Lib.hid hac
  clear hl hac
  go_enter Tryd.func109, Tryd.ntmps109
  go_wp2_with (at_builtin; refine wpList_append_u rfl (.tmp 6) (.tmp 7) rfl w.heap.size _ [] rfl hown0 ad _ cap xs HA.out hl0 rfl rfl (by simp; omega) (by simp) ?_; intro v1 w1 hown1 hgrow1)
  have hb1 : Below w.heap.size w w1 := below_new hgrow1 (fun k hk => (hown0.lt k hk).1)
  have HO1 := Lib.hid hown1
  have HB1 := Lib.hid hb1
  clear hown0 hl0 hown1 hgrow1 hb1
  go_loopw [1, 5] (fun vm v wr => ∃ (m : Nat) (l : List UInt8), vm = .int .u64 m ∧ m < 18446744073709551616 ∧ enc n = l ++ enc m ∧ Own wr w.heap.size v (xs ++ l) ∧ Below w.heap.size w wr) (fun vm _ _ => (intOf vm).toNat)
  case atStart => exact ⟨n, [], rfl, hn, rfl, by simpa using HO1.out, HB1.out⟩
  case round =>
    obtain ⟨m, l, rfl, hm, he, hown, hb⟩ := hrel
    have hel := enc_len n hn
    rw [he, List.length_append] at hel
    have hlen : (xs ++ l).length + 1 ≤ 10000000 := by rw [List.length_append]; omega
    have hsz := hb.size
    have HE := Lib.hid he
    clear he
    by_cases hlt : m < 128
    · have H1 := Lib.hid (Lie.one wr m (UInt8.ofNat m) (by rw [toNat8 m (by omega)]))
      have HO := Lib.hid (hown.below ((Below.refl _ _).alloc (Nat.le_refl _) (.cells #[.int .u8 (m : Int)] 5)))
      have HB := Lib.hid hb
      have HS := Lib.hid hsz
      clear hb hown
      go_wp2_with (at_builtin; refine wpList_append_u rfl (.tmp 20) (.tmp 23) rfl w.heap.size _ _ rfl HO.out _ 1 1 [UInt8.ofNat m] (fun h => by cases h) H1.out rfl rfl hlen (by simp; omega) ?_; intro v1 w1 hown1 hgrow1)
      go_ret
      refine ⟨v1, rfl, ?_, (HB.out.alloc HS.out _).grown hgrow1 (by simp; omega) (fun k hk => (HO.out.lt k hk).1)⟩
      rw [HE.out, enc_small m hlt, ← List.append_assoc]
      exact hown1
    · have hr : UInt8.toNat (UInt8.ofNat (m % 128 + 128)) = m % 128 + 128 := toNat8 _ (by omega)
      have H1 := Lib.hid (Lie.one wr ((m : Int) % 128 + 128) (UInt8.ofNat (m % 128 + 128)) (by rw [hr]; omega))
      have HO := Lib.hid (hown.below ((Below.refl _ _).alloc (Nat.le_refl _) (.cells #[.int .u8 ((m : Int) % 128 + 128)] 5)))
      have HB := Lib.hid hb
      have HS := Lib.hid hsz
      clear hb hown hr
      go_wp2_with (at_builtin; refine wpList_append_u rfl (.tmp 11) (.tmp 16) rfl w.heap.size _ _ rfl HO.out _ 1 1 [UInt8.ofNat (m % 128 + 128)] (fun h => by cases h) H1.out rfl rfl hlen (by simp; omega) ?_; intro v1 w1 hown1 hgrow1)
      refine ⟨⟨m / 128, l ++ [UInt8.ofNat (m % 128 + 128)], by simp, by omega, ?_, by rw [← List.append_assoc]; exact hown1, (HB.out.alloc HS.out _).grown hgrow1 (by simp; omega) (fun k hk => (HO.out.lt k hk).1)⟩, by simp [intOf]; omega⟩
      rw [HE.out, enc_big m hlt, List.append_assoc]
      rfl

end Go.Proofs.YtjiijjdmkeeilaaDoor
namespace Go.Proofs.YtjiijjdmkeeilaaDoor
open Go.RowKit

section
variable {P : Program} {md : Region.Mode} {l : List Oper} {Q : Exit → Act → World → Prop} {S S' : World → Prop}

theorem held_take {i : Nat} {oi : Oper} {v : Value} {fuel : Nat} {listed : Array Bool} {a : Act} {w : World} (hi : l[i]? = some oi)
    (hs : Region.noSelect l.toArray = true) (hf : Region.free md l.toArray listed i = true) (hr : (Region.ready md l.toArray listed).contains i = true)
    (hQ : ∀ c a w, Q (.panic c) (a.put oi.dst v) w → Q (.panic c) a w) (hw : Region.wanted oi (yielded l.toArray a.tmps) = true)
    (hy : ∀ w, S w → (execOp a.eval oi).run P w = .ok (.value v) w) (hS : S w)
    (h : wpAnyH P md l.toArray Q S fuel (listed.setIfInBounds i true) (a.put oi.dst v) w) : wpAnyH P md l.toArray Q S (fuel + 1) listed a w :=
  wpAnyH_take (by rw [List.getElem?_toArray]; exact hi) hs hf hr hQ (Or.inl ⟨hw, hy⟩) hS h

theorem held_call {i : Nat} {oi : Oper} {fuel : Nat} {listed : Array Bool} {a : Act} {w : World} (hi : l[i]? = some oi)
    (hr : Region.ready md l.toArray listed = [i]) (hw : Region.wanted oi (yielded l.toArray a.tmps) = true)
    (h : ∀ K' : Act → World → Prop, Shut (∀ a w, S w → (S w → wpAnyH P md l.toArray Q S fuel (listed.setIfInBounds i true) a w) → K' a w) → Oper.wp P oi a w K' Q) :
    wpAnyH P md l.toArray Q S (fuel + 1) listed a w :=
  wpAnyH_ready hr (by simp) (AllReadyH.cons (by rw [List.getElem?_toArray]; exact hi) (fun K hK => by rw [if_pos hw]; exact h K hK) AllReadyH.nil)

theorem held_imp (hSS : ∀ w, S' w → S w) : ∀ (fuel : Nat) (listed : Array Bool) (a : Act) (w : World), wpAnyH P md l.toArray Q S' fuel listed a w → wpAnyH P md l.toArray Q S fuel listed a w
  | 0, _, _, _, h => h
  | fuel + 1, _, _, _, h => ⟨h.1, fun i hi => wpOp_mono (fun a' w' h' => ⟨hSS _ h'.1, held_imp hSS fuel _ a' w' h'.2⟩) (h.2 i hi)⟩
end
end Go.Proofs.YtjiijjdmkeeilaaDoor
