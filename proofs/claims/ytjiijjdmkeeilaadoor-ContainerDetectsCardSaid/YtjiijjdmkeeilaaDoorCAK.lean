/-
  The functions that read numbers: contracts of outside, lastByte and both Uint.
  The document's own Uint: its contract.
  The functions that read ints, texts and bools, and the document's own.
  The functions that read texts.
  The program's join of texts.
  The functions that write, and the document's own.
-/
import Derived.Test.YtjiijjdmkeeilaaDoorCAA
import Derived.Test.YtjiijjdmkeeilaaDoorCAD
import Derived.Laws.BitsAllLaws
import Derived.Laws.Bits64
import Derived.Test.YtjiijjdmkeeilaaDoorCAG
namespace Go.Proofs.YtjiijjdmkeeilaaDoor
open Go.RowKit

def lastE (i v : Nat) : Int := if i = 9 ∧ 1 < v then 6 else if 0 < i ∧ v = 0 then 1 else 0

set_option maxRecDepth 100000 in
theorem outside_no (ad : Option Addr) (n cap : Nat) (at_ : Nat) (w : World) (h : at_ ≤ n) :
    Calls Tryd.prog 104 #[.slice ad n cap, .int .i64 at_] w fun e w' => e = .returned (.bool false) ∧ w = w' := by
  have h1 : decide ((at_ : Int) < 0) = false := by simp
  have h2 : decide (n < at_) = false := by simpa using h
  go_enter Tryd.func104, Tryd.ntmps104
  go_wp2
  go_ret
  exact ⟨rfl, rfl⟩
set_option maxRecDepth 100000 in
theorem outside_yes (ad : Option Addr) (n cap : Nat) (at_ : Int) (w : World) (h : at_ < 0 ∨ 0 ≤ at_ ∧ n < at_) :
    Calls Tryd.prog 104 #[.slice ad n cap, .int .i64 at_] w fun e w' => e = .returned (.bool true) ∧ w = w' := by
  rcases h with h | ⟨h0, h⟩
  all_goals
    go_enter Tryd.func104, Tryd.ntmps104
    go_wp2
    go_ret
    exact ⟨rfl, rfl⟩

set_option maxRecDepth 100000 in
theorem last_any (i v : Nat) (w : World) (hi : i < 10) (hx : v < 256) :
    Calls Tryd.prog 105 #[.int .i64 i, .int .u8 v] w fun e w' => e = .returned (.int .i64 (lastE i v)) ∧ w = w' := by
  unfold lastE
  by_cases h9 : i = 9
  · subst h9
    by_cases h1 : 1 < v
    · rw [if_pos ⟨rfl, h1⟩]
      go_enter Tryd.func105, Tryd.ntmps105
      go_wp2
      go_ret
      exact ⟨rfl, rfl⟩
    · rw [if_neg (by omega)]
      by_cases h0 : v = 0
      · subst h0
        rw [if_pos ⟨by omega, rfl⟩]
        go_enter Tryd.func105, Tryd.ntmps105
        go_wp2
        go_ret
        exact ⟨rfl, rfl⟩
      · rw [if_neg (by omega)]
        have : v = 1 := by omega
        subst this
        go_enter Tryd.func105, Tryd.ntmps105
        go_wp2
        go_ret
        exact ⟨rfl, rfl⟩
  · rw [if_neg (by omega)]
    by_cases h0 : v = 0
    · subst h0
      by_cases hi0 : 0 < i
      · rw [if_pos ⟨hi0, rfl⟩]
        go_enter Tryd.func105, Tryd.ntmps105
        go_wp2
        go_ret
        exact ⟨rfl, rfl⟩
      · have : i = 0 := by omega
        subst this
        rw [if_neg (by omega)]
        go_enter Tryd.func105, Tryd.ntmps105
        go_wp2
        go_ret
        exact ⟨rfl, rfl⟩
    · rw [if_neg (by omega)]
      go_enter Tryd.func105, Tryd.ntmps105
      go_wp2
      go_ret
      exact ⟨rfl, rfl⟩

/-- The offset behind what was read. -/
def endOf (at_ : Nat) (r : Nat × Nat × Nat) : Int := if r.2.2 = 0 then ((at_ + r.2.1 : Nat) : Int) else 0

set_option maxRecDepth 100000 in
set_option maxHeartbeats 1000000 in
theorem uint_end (ad : Option Addr) (cap n : Nat) (w : World) (hn : n ≤ cap) (hs : n ≤ 1000000) (ha : ad = none → cap = 0) :
    Calls Tryd.prog 86 #[.slice ad n cap, .int .i64 n] w fun e w' => e = .returned (.tuple #[.int .u64 0, .int .i64 0, .int .i64 2]) ∧ w = w' := by
  by_cases hz : cap = n
  · subst hz
    clear ha
    go_enter Tryd.func86, Tryd.ntmps86
    go_wp2_with (refine (outside_no _ _ _ _ _ (Nat.le_refl _)).mono ?_; rintro e w' ⟨rfl, rfl⟩)
    go_loop [23] (fun i => i = .int .i64 0) (fun _ => 0)
    case atStart => rfl
    case round =>
      subst hrel
      go_wp2
      go_ret3
      exact ⟨rfl, rfl⟩
  · have hlt : n < cap := by omega
    clear hn
    cases ad with
    | none => have := ha rfl; omega
    | some a =>
      clear ha
      go_enter Tryd.func86, Tryd.ntmps86
      go_wp2_with (refine (outside_no _ _ _ _ _ (Nat.le_refl _)).mono ?_; rintro e w' ⟨rfl, rfl⟩)
      go_loop [23] (fun i => i = .int .i64 0) (fun _ => 0)
      case atStart => rfl
      case round =>
        subst hrel
        go_wp2
        go_ret3
        exact ⟨rfl, rfl⟩

theorem pow_lt (k v : Nat) (hk : k ≤ 9) (hv : v < 128) (h9 : k = 9 → v ≤ 1) : v * 128 ^ k < 18446744073709551616 := by
  by_cases h : k = 9
  · subst h
    have := h9 rfl
    omega
  · have h8 : (128 : Nat) ^ k ≤ 128 ^ 8 := Nat.pow_le_pow_right (by omega) (by omega)
    have := Nat.mul_le_mul (show v ≤ 127 by omega) h8
    omega
theorem acc_lt (k v acc : Nat) (ha : acc < 128 ^ k) (hv : v < 128) : acc + v * 128 ^ k < 128 ^ (k + 1) := by
  have h : (v + 1) * 128 ^ k ≤ 128 * 128 ^ k := Nat.mul_le_mul_right _ (by omega)
  have e : (128 : Nat) ^ (k + 1) = 128 * 128 ^ k := by rw [Nat.pow_succ, Nat.mul_comm]
  have e2 : (v + 1) * 128 ^ k = v * 128 ^ k + 128 ^ k := by rw [Nat.add_mul, Nat.one_mul]
  omega
theorem pow_small (k : Nat) (hk : k ≤ 9) : 128 ^ k ≤ 9223372036854775808 := by
  have h8 : (128 : Nat) ^ k ≤ 128 ^ 9 := Nat.pow_le_pow_right (by omega) hk
  omega
theorem shl_nat (k v : Nat) : IntKind.u64.wrap ((v : Int) * 2 ^ (7 * k)) = ((v * 2 ^ (7 * k) % 18446744073709551616 : Nat) : Int) := by
  rw [IntKind.wrap_u64, show ((v : Int) * 2 ^ (7 * k)) = ((v * 2 ^ (7 * k) : Nat) : Int) by simp]
  omega
theorem or_any (k v acc : Nat) (hacc : acc < 18446744073709551616) :
    ∃ r : Nat, bits .or .u64 (acc : Int) (IntKind.u64.wrap ((v : Int) * 2 ^ (7 * k))) = (r : Int) ∧ r < 18446744073709551616 ∧ (acc < 128 ^ k → v * 128 ^ k < 18446744073709551616 → r = acc + v * 128 ^ k) := by
  refine ⟨acc ||| (v * 2 ^ (7 * k) % 18446744073709551616), ?_, ?_, fun h1 h2 => ?_⟩
  · rw [shl_nat, u64_or_nat acc _ hacc (Nat.mod_lt _ (by omega))]
  · exact Nat.or_lt_two_pow (n := 64) hacc (Nat.mod_lt _ (by omega))
  · rw [pow_two, Nat.mod_eq_of_lt h2, ← pow_two, or_add _ _ _ (by rw [pow_two]; exact h1)]

/-- The bytes that are read, and what they are. -/
theorem dec_round {acc : Nat} {tl : List UInt8} {k : Nat} (hk : k < tl.length) (hrel : dec 0 0 tl = dec k acc (tl.drop k)) (h10 : k < 10) :
    (tl[k].toNat < 128 → dec 0 0 tl = if k = 9 ∧ 1 < tl[k].toNat then (0, 0, 6) else if 0 < k ∧ tl[k].toNat = 0 then (0, 0, 1) else (acc + tl[k].toNat * 128 ^ k, k + 1, 0)) ∧
    (¬ tl[k].toNat < 128 → dec 0 0 tl = dec (k + 1) (acc + (tl[k].toNat - 128) * 128 ^ k) (tl.drop (k + 1))) := by
  rw [List.drop_eq_getElem_cons hk] at hrel
  refine ⟨fun hx => ?_, fun hx => ?_⟩
  · rw [hrel, dec_last k acc _ _ h10 hx]
  · rw [hrel, dec_more k acc _ _ h10 hx]

set_option maxRecDepth 100000 in
set_option maxHeartbeats 600000 in
theorem uint_mid (b off cap : Nat) (xs : List UInt8) (at_ : Nat) (w : World) (hl : Lie w (some ⟨b, off, none⟩) xs) (hn : xs.length ≤ cap) (hs : xs.length ≤ 1000000) (ha : at_ < xs.length) :
    Calls Tryd.prog 86 #[.slice (some ⟨b, off, none⟩) xs.length cap, .int .i64 at_] w fun e w' =>
      e = .returned (.tuple #[.int .u64 (dec 0 0 (xs.drop at_)).1, .int .i64 (endOf at_ (dec 0 0 (xs.drop at_))), .int .i64 (dec 0 0 (xs.drop at_)).2.2]) ∧ w = w' := by
  have hcell : ∀ k (h : k < (xs.drop at_).length), w.cell? ⟨b, off + at_ + k, none⟩ = some (.int .u8 (((xs.drop at_)[k]'h).toNat : Int)) := by
    intro k h
    rcases hl.at_ with h0 | ⟨b', off', hbo, _, hc⟩
    · subst h0; simp at ha
    · cases hbo
      have := hc (at_ + k) (by simp at h; omega)
      rw [Nat.add_assoc, this]
      simp
  have hne : ¬ cap = at_ := by omega
  generalize htl : xs.drop at_ = tl at hcell ⊢
  have hlen : tl.length = xs.length - at_ := by rw [← htl]; simp
  have hge : xs.length = at_ + tl.length := by omega
  have hpos : 0 < tl.length := by omega
  have HC := Lib.hid hcell
  clear hcell hl htl hlen
  generalize xs.length = n at hn hs ha hge ⊢
  subst hge
  have h20 : ((at_ : Int) + 10).toNat = at_ + 10 := by omega
  by_cases h10 : tl.length ≤ 10
  all_goals
    go_enter Tryd.func86, Tryd.ntmps86
    go_wp2_with (refine (outside_no _ _ _ _ _ (by omega)).mono ?_; rintro e w' ⟨rfl, rfl⟩)
    go_loop [7, 23] (fun n i => ∃ k acc : Nat, k ≤ tl.length ∧ k ≤ 10 ∧ i = .int .i64 k ∧ n = .int .u64 acc ∧ acc < 18446744073709551616 ∧ (k ≤ 9 → acc < 128 ^ k) ∧ dec 0 0 tl = dec k acc (tl.drop k)) (fun _ i => (10 - intOf i).toNat)
    case atStart => exact ⟨0, 0, by omega, by omega, rfl, rfl, by omega, fun _ => by simp, rfl⟩
    case round =>
      obtain ⟨k, acc, hk1, hk2, rfl, rfl, hacc, hpow, hd⟩ := hrel
      by_cases hk : k < tl.length ∧ k < 10
      · obtain ⟨hka, hkb⟩ := hk
        have hc := HC.out k hka
        have HD := Lib.hid (dec_round hka hd hkb)
        have hx := (tl[k]).toNat_lt
        have HP := Lib.hid (hpow (by omega))
        clear hpow hd
        generalize (tl[k]).toNat = v at *
        by_cases hv : v < 128
        · go_wp2_with fail
          refine (last_any _ _ _ (by omega) (by omega)).mono ?_
          rintro e w' ⟨rfl, rfl⟩
          have hdd := HD.out.1 hv
          clear HD
          unfold lastE
          by_cases h9 : k = 9 ∧ 1 < v
          · rw [if_pos h9] at hdd ⊢
            have HD := Lib.hid hdd
            clear hdd
            go_wp2
            go_ret3
            exact ⟨by rw [HD.out]; rfl, rfl⟩
          · rw [if_neg h9] at hdd ⊢
            by_cases h0 : 0 < k ∧ v = 0
            · rw [if_pos h0] at hdd ⊢
              have HD := Lib.hid hdd
              clear hdd
              go_wp2
              go_ret3
              exact ⟨by rw [HD.out]; rfl, rfl⟩
            · rw [if_neg h0] at hdd ⊢
              obtain ⟨r, hr, _, hv2⟩ := or_any k v acc hacc
              obtain rfl := hv2 HP.out (pow_lt k v (by omega) hv (by omega))
              have HD := Lib.hid hdd
              clear h0 hdd
              go_wp2
              go_ret3
              exact ⟨by rw [HD.out]; rfl, rfl⟩
        · have hdd := HD.out.2 hv
          clear HD
          obtain ⟨u, rfl⟩ : ∃ u, v = u + 128 := ⟨v - 128, by omega⟩
          rw [Nat.add_sub_cancel] at hdd
          obtain ⟨r, hr, hr2, hv2⟩ := or_any k u acc hacc
          have HV := Lib.hid hv2
          have HD := Lib.hid hdd
          clear hdd hv2
          go_wp2
          refine ⟨⟨k + 1, r, by omega, by omega, by go_num, rfl, hr2, fun h => ?_, ?_⟩, by simp [intOf]; omega⟩
          · rw [HV.out HP.out (pow_lt k u (by omega) (by omega) (by omega))]
            exact acc_lt k u acc HP.out (by omega)
          · rw [HD.out]
            by_cases h9 : k = 9
            · subst h9
              exact dec_acc _ _ _
            · rw [HV.out HP.out (pow_lt k u (by omega) (by omega) (by omega))]
      · have hf : dec 0 0 tl = (0, 0, if tl.length < 10 then 2 else 6) := by
          rw [hd]
          by_cases hkk : k = 10
          · subst hkk
            rw [dec_full, if_neg (by omega)]
          · have : k = tl.length := by omega
            subst this
            rw [List.drop_length, if_pos (by omega)]
            simp only [dec]
            rw [if_neg (by omega)]
        clear hd hpow
        by_cases hkk : tl.length < 10
        · first
            | (exfalso; omega)
            | (obtain rfl : k = tl.length := by omega
               rw [if_pos hkk] at hf
               have HD := Lib.hid hf
               clear hf
               go_wp2
               go_ret3
               exact ⟨by rw [HD.out]; rfl, rfl⟩)
        · obtain rfl : k = 10 := by omega
          rw [if_neg hkk] at hf
          have HD := Lib.hid hf
          clear hf
          go_wp2
          go_ret3
          exact ⟨by rw [HD.out]; rfl, rfl⟩

/-- What Uint answers at any offset. -/
def uR (xs : List UInt8) (at_ : Int) : Nat × Int × Int :=
  if at_ < 0 ∨ xs.length < at_ then (0, 0, 7) else ((dec 0 0 (xs.drop at_.toNat)).1, endOf at_.toNat (dec 0 0 (xs.drop at_.toNat)), (dec 0 0 (xs.drop at_.toNat)).2.2)

set_option maxRecDepth 100000 in
set_option maxHeartbeats 1000000 in
theorem uint_any (ad : Option Addr) (cap : Nat) (xs : List UInt8) (at_ : Int) (w : World) (hl : Lie w ad xs) (hn : xs.length ≤ cap) (hs : xs.length ≤ 1000000) (ha : ad = none → cap = 0) :
    Calls Tryd.prog 86 #[.slice ad xs.length cap, .int .i64 at_] w fun e w' =>
      e = .returned (.tuple #[.int .u64 (uR xs at_).1, .int .i64 (uR xs at_).2.1, .int .i64 (uR xs at_).2.2]) ∧ w = w' := by
  unfold uR
  by_cases ho : at_ < 0 ∨ xs.length < at_
  · rw [if_pos ho]
    have ho' : at_ < 0 ∨ 0 ≤ at_ ∧ xs.length < at_ := by omega
    clear hl ha
    go_enter Tryd.func86, Tryd.ntmps86
    go_wp2_with fail
    refine (outside_yes _ _ _ _ _ ho').mono ?_
    rintro e w' ⟨rfl, rfl⟩
    go_wp2
    go_ret3
    exact ⟨rfl, rfl⟩
  · rw [if_neg ho]
    obtain ⟨n, rfl⟩ : ∃ n : Nat, at_ = n := ⟨at_.toNat, by omega⟩
    rw [Int.toNat_natCast]
    by_cases he : n < xs.length
    · rcases hl.at_ with h0 | ⟨b, off, rfl, _⟩
      · subst h0; simp at he
      · exact uint_mid b off cap xs n w hl hn hs he
    · obtain rfl : n = xs.length := by omega
      rw [List.drop_length]
      exact uint_end ad cap xs.length w hn hs ha
end Go.Proofs.YtjiijjdmkeeilaaDoor
namespace Go.Proofs.YtjiijjdmkeeilaaDoor
open Go.RowKit

set_option maxRecDepth 100000 in
set_option maxHeartbeats 1000000 in
theorem ruint_end (ad : Option Addr) (cap n : Nat) (w : World) (hs : n ≤ 1000000) :
    Calls Tryd.prog 106 #[.slice ad n cap, .int .i64 n] w fun e w' => e = .returned (.tuple #[.int .u64 0, .int .i64 0, .int .i64 2]) ∧ w = w' := by
  have h1 : decide ((n : Int) < 0) = false := by simp
  have h2 : decide (n < n) = false := by simp
  go_enter Tryd.func106, Tryd.ntmps106
  go_wp2
  go_loop [9] (fun i => i = .int .i64 0) (fun _ => 0)
  case atStart => rfl
  case round =>
    subst hrel
    go_wp2
    go_ret3
    exact ⟨rfl, rfl⟩

theorem mul_any (v F acc : Nat) :
    ∃ r : Nat, IntKind.u64.wrap ((acc : Int) + IntKind.u64.wrap ((v : Int) * (F : Int))) = (r : Int) ∧ r < 18446744073709551616 ∧ (acc + v * F < 18446744073709551616 → r = acc + v * F) := by
  refine ⟨(acc + v * F) % 18446744073709551616, ?_, Nat.mod_lt _ (by omega), fun h => Nat.mod_eq_of_lt h⟩
  rw [IntKind.wrap_u64, IntKind.wrap_u64, show ((v : Int) * (F : Int)) = ((v * F : Nat) : Int) by simp]
  generalize v * F = x
  omega
theorem factor_next (F : Nat) :
    ∃ G : Nat, IntKind.u64.wrap ((F : Int) * 128) = (G : Int) ∧ G < 18446744073709551616 ∧ (F * 128 < 18446744073709551616 → G = F * 128) := by
  refine ⟨(F * 128) % 18446744073709551616, ?_, Nat.mod_lt _ (by omega), fun h => Nat.mod_eq_of_lt h⟩
  rw [IntKind.wrap_u64]
  omega
theorem sum_lt (k v acc : Nat) (hk : k ≤ 9) (ha : acc < 128 ^ k) (hv : v < 128) (h9 : k = 9 → v ≤ 1) : acc + v * 128 ^ k < 18446744073709551616 := by
  by_cases h : k = 9
  · subst h
    have := h9 rfl
    omega
  · have h8 : (128 : Nat) ^ k ≤ 128 ^ 8 := Nat.pow_le_pow_right (by omega) (by omega)
    have := Nat.mul_le_mul (show v ≤ 127 by omega) h8
    omega

set_option maxRecDepth 100000 in
set_option maxHeartbeats 600000 in
theorem ruint_mid (b off cap : Nat) (xs : List UInt8) (at_ : Nat) (w : World) (hl : Lie w (some ⟨b, off, none⟩) xs) (hs : xs.length ≤ 1000000) (ha : at_ < xs.length) :
    Calls Tryd.prog 106 #[.slice (some ⟨b, off, none⟩) xs.length cap, .int .i64 at_] w fun e w' =>
      e = .returned (.tuple #[.int .u64 (dec 0 0 (xs.drop at_)).1, .int .i64 (endOf at_ (dec 0 0 (xs.drop at_))), .int .i64 (dec 0 0 (xs.drop at_)).2.2]) ∧ w = w' := by
  have hcell : ∀ k (h : k < (xs.drop at_).length), w.cell? ⟨b, off + (at_ + k), none⟩ = some (.int .u8 (((xs.drop at_)[k]'h).toNat : Int)) := by
    intro k h
    rcases hl.at_ with h0 | ⟨b', off', hbo, _, hc⟩
    · subst h0; simp at ha
    · cases hbo
      have := hc (at_ + k) (by simp at h; omega)
      rw [this]
      simp
  generalize htl : xs.drop at_ = tl at hcell ⊢
  have hlen : tl.length = xs.length - at_ := by rw [← htl]; simp
  have hge : xs.length = at_ + tl.length := by omega
  have hpos : 0 < tl.length := by omega
  have HC := Lib.hid hcell
  clear hcell hl htl hlen
  generalize xs.length = n at hs ha hge ⊢
  subst hge
  have h1 : decide ((at_ : Int) < 0) = false := by simp
  have h2 : decide (at_ + tl.length < at_) = false := by simp
  go_enter Tryd.func106, Tryd.ntmps106
  go_wp2
  go_loop [7, 8, 9] (fun n f i => ∃ k acc F : Nat, k ≤ tl.length ∧ k ≤ 10 ∧ i = .int .i64 k ∧ n = .int .u64 acc ∧ f = .int .u64 F ∧ acc < 18446744073709551616 ∧ F < 18446744073709551616 ∧ (k ≤ 9 → acc < 128 ^ k ∧ F = 128 ^ k) ∧ dec 0 0 tl = dec k acc (tl.drop k)) (fun _ _ i => (10 - intOf i).toNat)
  case atStart => exact ⟨0, 0, 1, by omega, by omega, rfl, rfl, rfl, by omega, by omega, fun _ => by simp, rfl⟩
  case round =>
    obtain ⟨k, acc, F, hk1, hk2, rfl, rfl, rfl, hacc, hF, hpow, hd⟩ := hrel
    by_cases hkb : k < 10
    · by_cases hka : k < tl.length
      · have hc := HC.out k hka
        have HD := Lib.hid (dec_round hka hd hkb)
        have hx := (tl[k]).toNat_lt
        have HP := Lib.hid (hpow (by omega))
        clear hpow hd
        generalize (tl[k]).toNat = v at *
        by_cases hv : v < 128
        · have hdd := HD.out.1 hv
          clear HD
          by_cases h9 : k = 9 ∧ 1 < v
          · rw [if_pos h9] at hdd
            have HD := Lib.hid hdd
            obtain ⟨rfl, h9⟩ := h9
            clear hdd
            go_wp2
            go_ret3
            exact ⟨by rw [HD.out]; rfl, rfl⟩
          · rw [if_neg h9] at hdd
            by_cases h0 : 0 < k ∧ v = 0
            · rw [if_pos h0] at hdd
              have HD := Lib.hid hdd
              obtain ⟨h0, rfl⟩ := h0
              clear hdd
              go_wp2
              all_goals
                go_ret3
                exact ⟨by rw [HD.out]; rfl, rfl⟩
            · rw [if_neg h0] at hdd
              obtain ⟨r, hr, _, hv2⟩ := mul_any v F acc
              obtain rfl : r = acc + v * 128 ^ k := by
                have h1 := HP.out
                rw [hv2 (by rw [h1.2]; exact sum_lt k v acc (by omega) h1.1 hv (by omega)), h1.2]
              have HD := Lib.hid hdd
              clear hdd hv2
              by_cases hk9 : k = 9
              · subst hk9
                go_wp2
                go_ret3
                exact ⟨by rw [HD.out]; rfl, rfl⟩
              · go_wp2
                all_goals
                  go_ret3
                  exact ⟨by rw [HD.out]; rfl, rfl⟩
        · have hdd := HD.out.2 hv
          clear HD
          obtain ⟨u, rfl⟩ : ∃ u, v = u + 128 := ⟨v - 128, by omega⟩
          rw [Nat.add_sub_cancel] at hdd
          obtain ⟨r, hr, hr2, hv2⟩ := mul_any u F acc
          obtain ⟨G, hG, hG2, hG3⟩ := factor_next F
          have HV := Lib.hid hv2
          have HG := Lib.hid hG3
          have HD := Lib.hid hdd
          clear hdd hv2 hG3
          go_wp2
          have hstep : k ≤ 8 → r = acc + u * 128 ^ k := fun h8 => by
            have h1 := HP.out
            rw [HV.out (by rw [h1.2]; exact sum_lt k u acc (by omega) h1.1 (by omega) (by omega)), h1.2]
          refine ⟨⟨k + 1, r, G, by omega, by omega, by go_num, rfl, rfl, hr2, hG2, fun h => ⟨?_, ?_⟩, ?_⟩, by simp [intOf]; omega⟩
          · rw [hstep (by omega)]
            exact acc_lt k u acc HP.out.1 (by omega)
          · have h1 := HP.out.2
            have hp := pow_small (k + 1) h
            rw [Nat.pow_succ] at hp ⊢
            rw [← h1] at hp ⊢
            exact HG.out (by omega)
          · rw [HD.out]
            by_cases h9 : k = 9
            · subst h9
              exact dec_acc _ _ _
            · rw [hstep (by omega)]
      · obtain rfl : k = tl.length := by omega
        have hf : dec 0 0 tl = (0, 0, 2) := by
          rw [hd, List.drop_length]
          simp only [dec]
          rw [if_neg (by omega)]
        have HD := Lib.hid hf
        clear hf hd hpow
        go_wp2
        go_ret3
        exact ⟨by rw [HD.out]; rfl, rfl⟩
    · obtain rfl : k = 10 := by omega
      have hf : dec 0 0 tl = (0, 0, 6) := by rw [hd, dec_full]
      have HD := Lib.hid hf
      clear hf hd hpow
      go_wp2
      go_ret3
      exact ⟨by rw [HD.out]; rfl, rfl⟩

set_option maxRecDepth 100000 in
set_option maxHeartbeats 1000000 in
theorem ruint_any (ad : Option Addr) (cap : Nat) (xs : List UInt8) (at_ : Int) (w : World) (hl : Lie w ad xs) (hs : xs.length ≤ 1000000) :
    Calls Tryd.prog 106 #[.slice ad xs.length cap, .int .i64 at_] w fun e w' =>
      e = .returned (.tuple #[.int .u64 (uR xs at_).1, .int .i64 (uR xs at_).2.1, .int .i64 (uR xs at_).2.2]) ∧ w = w' := by
  unfold uR
  by_cases ho : at_ < 0 ∨ xs.length < at_
  · rw [if_pos ho]
    have ho' : at_ < 0 ∨ 0 ≤ at_ ∧ xs.length < at_ := by omega
    clear hl ho
    rcases ho' with h | ⟨h0, h⟩
    all_goals
      go_enter Tryd.func106, Tryd.ntmps106
      go_wp2
      go_ret3
      exact ⟨rfl, rfl⟩
  · rw [if_neg ho]
    obtain ⟨n, rfl⟩ : ∃ n : Nat, at_ = n := ⟨at_.toNat, by omega⟩
    rw [Int.toNat_natCast]
    by_cases he : n < xs.length
    · rcases hl.at_ with h0 | ⟨b, off, rfl, _⟩
      · subst h0; simp at he
      · exact ruint_mid b off cap xs n w hl hs he
    · obtain rfl : n = xs.length := by omega
      rw [List.drop_length]
      exact ruint_end ad cap xs.length w hs
end Go.Proofs.YtjiijjdmkeeilaaDoor
namespace Go.Proofs.YtjiijjdmkeeilaaDoor
open Go.RowKit

/-- The int that has the code c. -/
def dcd (c : Nat) : Int := if c % 2 = 0 then (c : Int) / 2 else -((c : Int) / 2) - 1

theorem uR_ok {xs : List UInt8} {at_ : Int} {n : Nat} {p : Int} (h : uR xs at_ = (n, p, 0)) :
    n < 18446744073709551616 ∧ ∃ a q : Nat, at_ = a ∧ p = q ∧ a < q ∧ q ≤ xs.length ∧ dec 0 0 (xs.drop a) = (n, q - a, 0) := by
  unfold uR at h
  split at h
  · simp at h
  rename_i ho
  obtain ⟨a, rfl⟩ : ∃ a : Nat, at_ = a := ⟨at_.toNat, by omega⟩
  rw [Int.toNat_natCast] at h
  rcases hd : dec 0 0 (xs.drop a) with ⟨m, k, e⟩
  rw [hd] at h
  simp only [Prod.mk.injEq, endOf] at h
  obtain ⟨rfl, hp, he⟩ := h
  obtain rfl : e = 0 := by omega
  rw [if_pos rfl] at hp
  obtain ⟨_, m', h1, h2, _, h4, _, h6⟩ := dec_ok _ _ _ _ _ hd
  have := enc_pos m'
  rw [List.length_drop] at h4
  refine ⟨by omega, a, a + k, rfl, hp.symm, by omega, by omega, by rw [Nat.add_sub_cancel_left]; exact hd⟩

/-- What Int answers. -/
def iR (xs : List UInt8) (at_ : Int) : Int × Int × Int := if (uR xs at_).2.2 = 0 then (dcd (uR xs at_).1, (uR xs at_).2.1, 0) else (0, 0, (uR xs at_).2.2)

theorem dcd_bounds (c : Nat) (h : c < 18446744073709551616) : -9223372036854775808 ≤ dcd c ∧ dcd c ≤ 9223372036854775807 := by
  unfold dcd
  split <;> omega

/-- What Bool answers. -/
def bR (xs : List UInt8) (at_ : Int) : Bool × Int × Int :=
  if at_ < 0 ∨ xs.length < at_ then (false, 0, 7)
  else match xs.drop at_.toNat with
    | [] => (false, 0, 2)
    | x :: _ => if 1 < x.toNat then (false, 0, 1) else (x.toNat == 1, at_ + 1, 0)

theorem bR_in (xs : List UInt8) (n : Nat) (h : n < xs.length) : bR xs n = if 1 < (xs[n]).toNat then (false, 0, 1) else ((xs[n]).toNat == 1, (n : Int) + 1, 0) := by
  unfold bR
  rw [if_neg (by omega), Int.toNat_natCast, List.drop_eq_getElem_cons h]

end Go.Proofs.YtjiijjdmkeeilaaDoor
namespace Go.Proofs.YtjiijjdmkeeilaaDoor
open Go.RowKit

/-- What Text answers. -/
def tR (xs : List UInt8) (at_ most : Int) : ByteArray × Int × Int :=
  if (uR xs at_).2.2 ≠ 0 then (⟨#[]⟩, 0, (uR xs at_).2.2)
  else if most < 0 ∨ most < (uR xs at_).1 then (⟨#[]⟩, 0, 6)
  else if xs.length - (uR xs at_).2.1 < (uR xs at_).1 then (⟨#[]⟩, 0, 2)
  else (⟨((xs.drop (uR xs at_).2.1.toNat).take (uR xs at_).1).toArray⟩, (uR xs at_).2.1 + (uR xs at_).1, 0)

theorem Lie.part {w : World} {b off : Nat} {xs : List UInt8} (h : Lie w (some ⟨b, off, none⟩) xs) (q n : Nat) : Lie w (some ⟨b, off + q, none⟩) ((xs.drop q).take n) := by
  rcases h.at_ with rfl | ⟨b', off', hbo, hb, hc⟩
  · exact ⟨.inl (by simp)⟩
  · cases hbo
    refine ⟨.inr ⟨b, off + q, rfl, hb, fun j hj => ?_⟩⟩
    simp only [List.length_take, List.length_drop] at hj
    have := hc (q + j) (by omega)
    rw [Nat.add_assoc, this]
    simp

end Go.Proofs.YtjiijjdmkeeilaaDoor
namespace Go.Proofs.YtjiijjdmkeeilaaDoor
open Go.RowKit

end Go.Proofs.YtjiijjdmkeeilaaDoor
namespace Go.Proofs.YtjiijjdmkeeilaaDoor
open Go.RowKit

/-- The code of an int. -/
def cod (n : Int) : Nat := if 0 ≤ n then 2 * n.toNat else 2 * (-(n + 1)).toNat + 1
theorem cod_lt (n : Int) (h0 : -9223372036854775808 ≤ n) (h1 : n ≤ 9223372036854775807) : cod n < 18446744073709551616 := by
  unfold cod
  split <;> omega
theorem dcd_cod (n : Int) : dcd (cod n) = n := by
  unfold dcd cod
  split <;> split <;> omega
theorem cod_dcd (c : Nat) : cod (dcd c) = c := by
  unfold dcd cod
  split <;> split <;> omega

/-- The bytes of a text, and of a bool. -/
def encT (s : ByteArray) : List UInt8 := enc s.size ++ s.data.toList
def encB (v : Bool) : List UInt8 := [if v then 1 else 0]

theorem part_two (w : World) (s t : ByteArray) (ty : TypeId) :
    ∀ k (h : k < [s, t].length), (w.alloc (.cells #[.string s, .string t] ty)).cell? ⟨w.heap.size, k, none⟩ = some (.string ([s, t][k])) := by
  intro k h
  rw [World.cell?_alloc_mark]
  match k, h with
  | 0, _ => rfl
  | 1, _ => rfl
end Go.Proofs.YtjiijjdmkeeilaaDoor
