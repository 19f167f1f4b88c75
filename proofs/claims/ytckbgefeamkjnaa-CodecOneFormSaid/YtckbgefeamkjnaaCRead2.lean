/-
  The functions that read ints, texts and bools, and the document's own.
-/
import Derived.Test.YtckbgefeamkjnaaCRef
import Derived.Laws.IdiomStrings
namespace Go.Proofs.Ytckbgefeamkjnaa
open Go.RowKit

/-- The int that has the code c. -/
def dcd (c : Nat) : Int := if c % 2 = 0 then (c : Int) / 2 else -((c : Int) / 2) - 1

theorem uR_ok {xs : List UInt8} {at_ : Int} {n : Nat} {p : Int} (h : uR xs at_ = (n, p, 0)) :
    n < 18446744073709551616 ∧ ∃ a q : Nat, at_ = a ∧ p = q ∧ a < q ∧ q ≤ xs.length ∧ dec 0 0 (xs.drop a) = (n, q - a, 0) := by
  unfold uR at h
  split at h
  · simp at h
  rename_i ho
  obtain ⟨a, rfl⟩ : ∃ a : Nat, at_ = a := ⟨at_.toNat, by omega⟩
  rw [Int.toNat_natCast] at h
  rcases hd : dec 0 0 (xs.drop a) with ⟨m, k, e⟩
  rw [hd] at h
  simp only [Prod.mk.injEq, endOf] at h
  obtain ⟨rfl, hp, he⟩ := h
  obtain rfl : e = 0 := by omega
  rw [if_pos rfl] at hp
  obtain ⟨_, m', h1, h2, _, h4, _, h6⟩ := dec_ok _ _ _ _ _ hd
  have := enc_pos m'
  rw [List.length_drop] at h4
  refine ⟨by omega, a, a + k, rfl, hp.symm, by omega, by omega, by rw [Nat.add_sub_cancel_left]; exact hd⟩

theorem conv_lie {w : World} {ad : Option Addr} {l : List UInt8} (c : Nat) (h : Lie w ad l) : (convert 22 9 (.slice ad l.length c)).run Try.prog w = .ok (.string ⟨l.toArray⟩) w := by
  rcases h.at_ with rfl | ⟨b, off, rfl, _, hc⟩
  · rw [run_convert_bytes_string w _ _ 5 ad _ c Try.underlying22 Try.underlying5 Try.underlying9]
    cases ad with
    | none => simp [Conv.bytesToString]; rfl
    | some a =>
      have hl := run_loadCells_list (P := Try.prog) w a [] (fun j v hj => by simp at hj)
      have := run_bytesToString (P := Try.prog) w a 0 c [] (by simpa using hl)
      simp only [List.foldl_nil] at this
      exact this
  · refine run_convert_bytes_back w _ _ 5 _ c l Try.underlying22 Try.underlying5 Try.underlying9 fun j hj => ?_
    rw [Go.WideShapes.add_plain]
    exact hc j hj

set_option maxRecDepth 100000 in
theorem decode_any (c : Nat) (w : World) (hc : c < 18446744073709551616) :
    Calls Try.prog 32 #[.int .u64 c] w fun e w' => e = .returned (.int .i64 (dcd c)) ∧ w = w' := by
  unfold dcd
  by_cases h : c % 2 = 0
  · rw [if_pos h]
    go_enter Try.func32, Try.ntmps32
    go_wp2
    go_ret
    exact ⟨rfl, rfl⟩
  · rw [if_neg h]
    go_enter Try.func32, Try.ntmps32
    go_wp2
    go_ret
    exact ⟨rfl, rfl⟩

/-- What Int answers. -/
def iR (xs : List UInt8) (at_ : Int) : Int × Int × Int := if (uR xs at_).2.2 = 0 then (dcd (uR xs at_).1, (uR xs at_).2.1, 0) else (0, 0, (uR xs at_).2.2)

theorem dcd_bounds (c : Nat) (h : c < 18446744073709551616) : -9223372036854775808 ≤ dcd c ∧ dcd c ≤ 9223372036854775807 := by
  unfold dcd
  split <;> omega

set_option maxRecDepth 100000 in
set_option maxHeartbeats 600000 in
theorem int_any (ad : Option Addr) (cap : Nat) (xs : List UInt8) (at_ : Int) (w : World) (hl : Lie w ad xs) (hn : xs.length ≤ cap) (hs : xs.length ≤ 1000000) (ha : ad = none → cap = 0) :
    Calls Try.prog 15 #[.slice ad xs.length cap, .int .i64 at_] w fun e w' =>
      e = .returned (.tuple #[.int .i64 (iR xs at_).1, .int .i64 (iR xs at_).2.1, .int .i64 (iR xs at_).2.2]) ∧ w = w' := by
  have hu := uint_any ad cap xs at_ w hl hn hs ha
  unfold iR
  rcases hr : uR xs at_ with ⟨n, p, e⟩
  rw [hr] at hu
  dsimp only at hu ⊢
  clear hl ha hn
  by_cases he : e = 0
  · subst he
    rw [if_pos rfl]
    have hlt := (uR_ok hr).1
    clear hr
    go_enter Try.func15, Try.ntmps15
    go_wp2_with fail
    refine hu.mono ?_
    rintro e w' ⟨rfl, rfl⟩
    go_wp2_with fail
    refine (decode_any _ _ hlt).mono ?_
    rintro e w' ⟨rfl, rfl⟩
    go_wp2
    go_ret3
    exact ⟨rfl, rfl⟩
  · rw [if_neg he]
    clear hr
    have he1 : (e != 0) = true := by simpa using he
    go_enter Try.func15, Try.ntmps15
    go_wp2_with fail
    refine hu.mono ?_
    rintro e w' ⟨rfl, rfl⟩
    go_wp2
    go_ret3
    exact ⟨rfl, rfl⟩

set_option maxRecDepth 100000 in
set_option maxHeartbeats 600000 in
theorem rint_any (ad : Option Addr) (cap : Nat) (xs : List UInt8) (at_ : Int) (w : World) (hl : Lie w ad xs) (hs : xs.length ≤ 1000000) :
    Calls Try.prog 16 #[.slice ad xs.length cap, .int .i64 at_] w fun e w' =>
      e = .returned (.tuple #[.int .i64 (iR xs at_).1, .int .i64 (iR xs at_).2.1, .int .i64 (iR xs at_).2.2]) ∧ w = w' := by
  have hu := ruint_any ad cap xs at_ w hl hs
  unfold iR
  rcases hr : uR xs at_ with ⟨n, p, e⟩
  rw [hr] at hu
  dsimp only at hu ⊢
  clear hl
  by_cases he : e = 0
  · subst he
    rw [if_pos rfl]
    have hlt := (uR_ok hr).1
    clear hr
    unfold dcd
    by_cases h2 : n % 2 = 0
    · rw [if_pos h2]
      go_enter Try.func16, Try.ntmps16
      go_wp2_with fail
      refine hu.mono ?_
      rintro e w' ⟨rfl, rfl⟩
      go_wp2
      go_ret3
      exact ⟨rfl, rfl⟩
    · rw [if_neg h2]
      go_enter Try.func16, Try.ntmps16
      go_wp2_with fail
      refine hu.mono ?_
      rintro e w' ⟨rfl, rfl⟩
      go_wp2
      go_ret3
      exact ⟨rfl, rfl⟩
  · rw [if_neg he]
    clear hr
    have he1 : (e != 0) = true := by simpa using he
    go_enter Try.func16, Try.ntmps16
    go_wp2_with fail
    refine hu.mono ?_
    rintro e w' ⟨rfl, rfl⟩
    go_wp2
    go_ret3
    exact ⟨rfl, rfl⟩

/-- What Bool answers. -/
def bR (xs : List UInt8) (at_ : Int) : Bool × Int × Int :=
  if at_ < 0 ∨ xs.length < at_ then (false, 0, 7)
  else match xs.drop at_.toNat with
    | [] => (false, 0, 2)
    | x :: _ => if 1 < x.toNat then (false, 0, 1) else (x.toNat == 1, at_ + 1, 0)

theorem bR_in (xs : List UInt8) (n : Nat) (h : n < xs.length) : bR xs n = if 1 < (xs[n]).toNat then (false, 0, 1) else ((xs[n]).toNat == 1, (n : Int) + 1, 0) := by
  unfold bR
  rw [if_neg (by omega), Int.toNat_natCast, List.drop_eq_getElem_cons h]

set_option maxRecDepth 100000 in
set_option maxHeartbeats 600000 in
theorem bool_any (ad : Option Addr) (cap : Nat) (xs : List UInt8) (at_ : Int) (w : World) (hl : Lie w ad xs) (hs : xs.length ≤ 1000000) :
    Calls Try.prog 19 #[.slice ad xs.length cap, .int .i64 at_] w fun e w' =>
      e = .returned (.tuple #[.bool (bR xs at_).1, .int .i64 (bR xs at_).2.1, .int .i64 (bR xs at_).2.2]) ∧ w = w' := by
  by_cases ho : at_ < 0 ∨ xs.length < at_
  · unfold bR
    rw [if_pos ho]
    have ho' : at_ < 0 ∨ 0 ≤ at_ ∧ xs.length < at_ := by omega
    clear hl ho
    go_enter Try.func19, Try.ntmps19
    go_wp2_with fail
    refine (outside_yes _ _ _ _ _ ho').mono ?_
    rintro e w' ⟨rfl, rfl⟩
    go_wp2
    go_ret3
    exact ⟨rfl, rfl⟩
  · obtain ⟨n, rfl⟩ : ∃ n : Nat, at_ = n := ⟨at_.toNat, by omega⟩
    by_cases hn : n < xs.length
    · rw [bR_in xs n hn]
      rcases hl.at_ with h0 | ⟨b, off, rfl, _, hc⟩
      · subst h0; simp at hn
      have hc1 := hc n hn
      have hx := (xs[n]).toNat_lt
      generalize (xs[n]).toNat = v at *
      clear hc hl ho
      by_cases h1 : 1 < v
      · rw [if_pos h1]
        go_enter Try.func19, Try.ntmps19
        go_wp2_with fail
        refine (outside_no _ _ _ _ _ (by omega)).mono ?_
        rintro e w' ⟨rfl, rfl⟩
        go_wp2
        go_ret3
        exact ⟨rfl, rfl⟩
      · rw [if_neg h1]
        have hv : v = 0 ∨ v = 1 := by omega
        clear hx h1
        rcases hv with rfl | rfl
        all_goals
          go_enter Try.func19, Try.ntmps19
          go_wp2_with fail
          refine (outside_no _ _ _ _ _ (by omega)).mono ?_
          rintro e w' ⟨rfl, rfl⟩
          go_wp2
          go_ret3
          exact ⟨rfl, rfl⟩
    · obtain rfl : n = xs.length := by omega
      unfold bR
      rw [if_neg ho, Int.toNat_natCast, List.drop_length]
      clear ho hl hn
      generalize xs.length = n at hs ⊢
      go_enter Try.func19, Try.ntmps19
      go_wp2_with fail
      refine (outside_no _ _ _ _ _ (by omega)).mono ?_
      rintro e w' ⟨rfl, rfl⟩
      go_wp2
      go_ret3
      exact ⟨rfl, rfl⟩

set_option maxRecDepth 100000 in
set_option maxHeartbeats 600000 in
theorem rbool_any (ad : Option Addr) (cap : Nat) (xs : List UInt8) (at_ : Int) (w : World) (hl : Lie w ad xs) (hs : xs.length ≤ 1000000) :
    Calls Try.prog 20 #[.slice ad xs.length cap, .int .i64 at_] w fun e w' =>
      e = .returned (.tuple #[.bool (bR xs at_).1, .int .i64 (bR xs at_).2.1, .int .i64 (bR xs at_).2.2]) ∧ w = w' := by
  by_cases ho : at_ < 0 ∨ xs.length < at_
  · unfold bR
    rw [if_pos ho]
    have ho' : at_ < 0 ∨ 0 ≤ at_ ∧ xs.length < at_ := by omega
    clear hl ho
    rcases ho' with h | ⟨h0, h⟩
    all_goals
      go_enter Try.func20, Try.ntmps20
      go_wp2
      go_ret3
      exact ⟨rfl, rfl⟩
  · obtain ⟨n, rfl⟩ : ∃ n : Nat, at_ = n := ⟨at_.toNat, by omega⟩
    have hp1 : decide ((n : Int) < 0) = false := by simp
    by_cases hn : n < xs.length
    · rw [bR_in xs n hn]
      rcases hl.at_ with h0 | ⟨b, off, rfl, _, hc⟩
      · subst h0; simp at hn
      have hp2 : decide (xs.length < n) = false := by simp; omega
      have hc1 := hc n hn
      have hx := (xs[n]).toNat_lt
      generalize (xs[n]).toNat = v at *
      clear hc hl ho
      by_cases h1 : 1 < v
      · rw [if_pos h1]
        go_enter Try.func20, Try.ntmps20
        go_wp2
        go_ret3
        exact ⟨rfl, rfl⟩
      · rw [if_neg h1]
        have hv : v = 0 ∨ v = 1 := by omega
        clear hx h1
        rcases hv with rfl | rfl
        all_goals
          go_enter Try.func20, Try.ntmps20
          go_wp2
          go_ret3
          exact ⟨rfl, rfl⟩
    · obtain rfl : n = xs.length := by omega
      unfold bR
      rw [if_neg ho, Int.toNat_natCast, List.drop_length]
      clear ho hl hn
      generalize xs.length = n at *
      have hp2 : decide (n < n) = false := by simp
      go_enter Try.func20, Try.ntmps20
      go_wp2
      go_ret3
      exact ⟨rfl, rfl⟩
end Go.Proofs.Ytckbgefeamkjnaa
