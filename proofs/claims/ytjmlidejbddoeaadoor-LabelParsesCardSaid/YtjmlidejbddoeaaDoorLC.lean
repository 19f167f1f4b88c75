/-
  The text that a slice of bytes converts to.
  The functions that read ints, texts and bools, and the document's own.
  The functions that read texts.
-/
import Derived.Test.YtjmlidejbddoeaaDoorLA
import Derived.Laws.IdiomStrings
import Derived.Test.YtjmlidejbddoeaaDoorLB
namespace Go.Proofs.YtjmlidejbddoeaaDoor
open Go.RowKit

theorem conv_lie {w : World} {ad : Option Addr} {l : List UInt8} (c : Nat) (h : Lie w ad l) : (convert 36 9 (.slice ad l.length c)).run Tryd.prog w = .ok (.string ⟨l.toArray⟩) w := by
  rcases h.at_ with rfl | ⟨b, off, rfl, _, hc⟩
  · rw [run_convert_bytes_string w _ _ 5 ad _ c Tryd.underlying36 Tryd.underlying5 Tryd.underlying9]
    cases ad with
    | none => simp [Conv.bytesToString]; rfl
    | some a =>
      have hl := run_loadCells_list (P := Tryd.prog) w a [] (fun j v hj => by simp at hj)
      have := run_bytesToString (P := Tryd.prog) w a 0 c [] (by simpa using hl)
      simp only [List.foldl_nil] at this
      exact this
  · refine run_convert_bytes_back w _ _ 5 _ c l Tryd.underlying36 Tryd.underlying5 Tryd.underlying9 fun j hj => ?_
    rw [Go.WideShapes.add_plain]
    exact hc j hj
end Go.Proofs.YtjmlidejbddoeaaDoor
namespace Go.Proofs.YtjmlidejbddoeaaDoor
open Go.RowKit

/-- The int that has the code c. -/
def dcd (c : Nat) : Int := if c % 2 = 0 then (c : Int) / 2 else -((c : Int) / 2) - 1

theorem uR_ok {xs : List UInt8} {at_ : Int} {n : Nat} {p : Int} (h : uR xs at_ = (n, p, 0)) :
    n < 18446744073709551616 ∧ ∃ a q : Nat, at_ = a ∧ p = q ∧ a < q ∧ q ≤ xs.length ∧ dec 0 0 (xs.drop a) = (n, q - a, 0) := by
  unfold uR at h
  split at h
  · simp at h
  rename_i ho
  obtain ⟨a, rfl⟩ : ∃ a : Nat, at_ = a := ⟨at_.toNat, by omega⟩
  rw [Int.toNat_natCast] at h
  rcases hd : dec 0 0 (xs.drop a) with ⟨m, k, e⟩
  rw [hd] at h
  simp only [Prod.mk.injEq, endOf] at h
  obtain ⟨rfl, hp, he⟩ := h
  obtain rfl : e = 0 := by omega
  rw [if_pos rfl] at hp
  obtain ⟨_, m', h1, h2, _, h4, _, h6⟩ := dec_ok _ _ _ _ _ hd
  have := enc_pos m'
  rw [List.length_drop] at h4
  refine ⟨by omega, a, a + k, rfl, hp.symm, by omega, by omega, by rw [Nat.add_sub_cancel_left]; exact hd⟩

set_option maxRecDepth 100000 in
theorem decode_any (c : Nat) (w : World) (hc : c < 18446744073709551616) :
    Calls Tryd.prog 82 #[.int .u64 c] w fun e w' => e = .returned (.int .i64 (dcd c)) ∧ w = w' := by
  unfold dcd
  by_cases h : c % 2 = 0
  · rw [if_pos h]
    go_enter Tryd.func82, Tryd.ntmps82
    go_wp2
    go_ret
    exact ⟨rfl, rfl⟩
  · rw [if_neg h]
    go_enter Tryd.func82, Tryd.ntmps82
    go_wp2
    go_ret
    exact ⟨rfl, rfl⟩

/-- What Int answers. -/
def iR (xs : List UInt8) (at_ : Int) : Int × Int × Int := if (uR xs at_).2.2 = 0 then (dcd (uR xs at_).1, (uR xs at_).2.1, 0) else (0, 0, (uR xs at_).2.2)

theorem dcd_bounds (c : Nat) (h : c < 18446744073709551616) : -9223372036854775808 ≤ dcd c ∧ dcd c ≤ 9223372036854775807 := by
  unfold dcd
  split <;> omega

set_option maxRecDepth 100000 in
set_option maxHeartbeats 600000 in
theorem int_any (ad : Option Addr) (cap : Nat) (xs : List UInt8) (at_ : Int) (w : World) (hl : Lie w ad xs) (hn : xs.length ≤ cap) (hs : xs.length ≤ 1000000) (ha : ad = none → cap = 0) :
    Calls Tryd.prog 77 #[.slice ad xs.length cap, .int .i64 at_] w fun e w' =>
      e = .returned (.tuple #[.int .i64 (iR xs at_).1, .int .i64 (iR xs at_).2.1, .int .i64 (iR xs at_).2.2]) ∧ w = w' := by
  have hu := uint_any ad cap xs at_ w hl hn hs ha
  unfold iR
  rcases hr : uR xs at_ with ⟨n, p, e⟩
  rw [hr] at hu
  dsimp only at hu ⊢
  clear hl ha hn
  by_cases he : e = 0
  · subst he
    rw [if_pos rfl]
    have hlt := (uR_ok hr).1
    clear hr
    go_enter Tryd.func77, Tryd.ntmps77
    go_wp2_with fail
    refine hu.mono ?_
    rintro e w' ⟨rfl, rfl⟩
    go_wp2_with fail
    refine (decode_any _ _ hlt).mono ?_
    rintro e w' ⟨rfl, rfl⟩
    go_wp2
    go_ret3
    exact ⟨rfl, rfl⟩
  · rw [if_neg he]
    clear hr
    have he1 : (e != 0) = true := by simpa using he
    go_enter Tryd.func77, Tryd.ntmps77
    go_wp2_with fail
    refine hu.mono ?_
    rintro e w' ⟨rfl, rfl⟩
    go_wp2
    go_ret3
    exact ⟨rfl, rfl⟩

set_option maxRecDepth 100000 in
set_option maxHeartbeats 600000 in
theorem rint_any (ad : Option Addr) (cap : Nat) (xs : List UInt8) (at_ : Int) (w : World) (hl : Lie w ad xs) (hs : xs.length ≤ 1000000) :
    Calls Tryd.prog 64 #[.slice ad xs.length cap, .int .i64 at_] w fun e w' =>
      e = .returned (.tuple #[.int .i64 (iR xs at_).1, .int .i64 (iR xs at_).2.1, .int .i64 (iR xs at_).2.2]) ∧ w = w' := by
  have hu := ruint_any ad cap xs at_ w hl hs
  unfold iR
  rcases hr : uR xs at_ with ⟨n, p, e⟩
  rw [hr] at hu
  dsimp only at hu ⊢
  clear hl
  by_cases he : e = 0
  · subst he
    rw [if_pos rfl]
    have hlt := (uR_ok hr).1
    clear hr
    unfold dcd
    by_cases h2 : n % 2 = 0
    · rw [if_pos h2]
      go_enter Tryd.func64, Tryd.ntmps64
      go_wp2_with fail
      refine hu.mono ?_
      rintro e w' ⟨rfl, rfl⟩
      go_wp2
      go_ret3
      exact ⟨rfl, rfl⟩
    · rw [if_neg h2]
      go_enter Tryd.func64, Tryd.ntmps64
      go_wp2_with fail
      refine hu.mono ?_
      rintro e w' ⟨rfl, rfl⟩
      go_wp2
      go_ret3
      exact ⟨rfl, rfl⟩
  · rw [if_neg he]
    clear hr
    have he1 : (e != 0) = true := by simpa using he
    go_enter Tryd.func64, Tryd.ntmps64
    go_wp2_with fail
    refine hu.mono ?_
    rintro e w' ⟨rfl, rfl⟩
    go_wp2
    go_ret3
    exact ⟨rfl, rfl⟩

/-- What Bool answers. -/
def bR (xs : List UInt8) (at_ : Int) : Bool × Int × Int :=
  if at_ < 0 ∨ xs.length < at_ then (false, 0, 7)
  else match xs.drop at_.toNat with
    | [] => (false, 0, 2)
    | x :: _ => if 1 < x.toNat then (false, 0, 1) else (x.toNat == 1, at_ + 1, 0)

theorem bR_in (xs : List UInt8) (n : Nat) (h : n < xs.length) : bR xs n = if 1 < (xs[n]).toNat then (false, 0, 1) else ((xs[n]).toNat == 1, (n : Int) + 1, 0) := by
  unfold bR
  rw [if_neg (by omega), Int.toNat_natCast, List.drop_eq_getElem_cons h]

end Go.Proofs.YtjmlidejbddoeaaDoor
namespace Go.Proofs.YtjmlidejbddoeaaDoor
open Go.RowKit

/-- What Text answers. -/
def tR (xs : List UInt8) (at_ most : Int) : ByteArray × Int × Int :=
  if (uR xs at_).2.2 ≠ 0 then (⟨#[]⟩, 0, (uR xs at_).2.2)
  else if most < 0 ∨ most < (uR xs at_).1 then (⟨#[]⟩, 0, 6)
  else if xs.length - (uR xs at_).2.1 < (uR xs at_).1 then (⟨#[]⟩, 0, 2)
  else (⟨((xs.drop (uR xs at_).2.1.toNat).take (uR xs at_).1).toArray⟩, (uR xs at_).2.1 + (uR xs at_).1, 0)

theorem Lie.part {w : World} {b off : Nat} {xs : List UInt8} (h : Lie w (some ⟨b, off, none⟩) xs) (q n : Nat) : Lie w (some ⟨b, off + q, none⟩) ((xs.drop q).take n) := by
  rcases h.at_ with rfl | ⟨b', off', hbo, hb, hc⟩
  · exact ⟨.inl (by simp)⟩
  · cases hbo
    refine ⟨.inr ⟨b, off + q, rfl, hb, fun j hj => ?_⟩⟩
    simp only [List.length_take, List.length_drop] at hj
    have := hc (q + j) (by omega)
    rw [Nat.add_assoc, this]
    simp

set_option maxRecDepth 100000 in
set_option maxHeartbeats 600000 in
theorem text_any (ad : Option Addr) (cap : Nat) (xs : List UInt8) (at_ most : Int) (w : World) (hl : Lie w ad xs) (hn : xs.length ≤ cap) (hs : xs.length ≤ 1000000) (ha : ad = none → cap = 0) (hm : most ≤ 9223372036854775807) :
    Calls Tryd.prog 76 #[.slice ad xs.length cap, .int .i64 at_, .int .i64 most] w fun e w' =>
      e = .returned (.tuple #[.string (tR xs at_ most).1, .int .i64 (tR xs at_ most).2.1, .int .i64 (tR xs at_ most).2.2]) ∧ w = w' := by
  have hu := uint_any ad cap xs at_ w hl hn hs ha
  unfold tR
  rcases hr : uR xs at_ with ⟨n, p, e⟩
  rw [hr] at hu
  dsimp only at hu ⊢
  by_cases he : e = 0
  · subst he
    rw [if_neg (by simp)]
    obtain ⟨hlt, a, q, rfl, rfl, haq, hq, _⟩ := uR_ok hr
    clear hr
    by_cases hm0 : most < 0
    · rw [if_pos (.inl hm0)]
      clear hl ha
      go_enter Tryd.func76, Tryd.ntmps76
      go_wp2_with fail
      refine hu.mono ?_
      rintro e w' ⟨rfl, rfl⟩
      go_wp2
      go_ret3
      exact ⟨rfl, rfl⟩
    · obtain ⟨m, rfl⟩ : ∃ m : Nat, most = m := ⟨most.toNat, by omega⟩
      by_cases hm1 : m < n
      · rw [if_pos (.inr (by omega))]
        clear hl ha
        go_enter Tryd.func76, Tryd.ntmps76
        go_wp2_with fail
        refine hu.mono ?_
        rintro e w' ⟨rfl, rfl⟩
        go_wp2
        go_ret3
        exact ⟨rfl, rfl⟩
      · rw [if_neg (by omega)]
        by_cases hx : xs.length - q < n
        · rw [if_pos (by omega)]
          clear hl ha
          go_enter Tryd.func76, Tryd.ntmps76
          go_wp2_with fail
          refine hu.mono ?_
          rintro e w' ⟨rfl, rfl⟩
          go_wp2
          go_ret3
          exact ⟨rfl, rfl⟩
        · rw [if_neg (by omega)]
          rcases hl.at_ with h0 | ⟨b, off, rfl, _, _⟩
          · subst h0; simp at hq; omega
          by_cases hcq : cap = q
          · obtain rfl : n = 0 := by omega
            have hp := conv_lie (w := w) (ad := some ⟨b, off, none⟩) (l := []) 0 (.nil _ _)
            simp only [List.length_nil] at hp
            rw [List.take_zero]
            subst hcq
            clear hl ha
            go_enter Tryd.func76, Tryd.ntmps76
            go_wp2_with fail
            refine hu.mono ?_
            rintro e w' ⟨rfl, rfl⟩
            go_wp2
            go_ret3
            exact ⟨rfl, rfl⟩
          · have hp := conv_lie (cap - q) (hl.part q n)
            rw [show ((xs.drop q).take n).length = n by simp; omega] at hp
            rw [Int.toNat_natCast]
            generalize (xs.drop q).take n = l at *
            clear hl ha
            go_enter Tryd.func76, Tryd.ntmps76
            go_wp2_with fail
            refine hu.mono ?_
            rintro e w' ⟨rfl, rfl⟩
            go_wp2
            go_ret3
            exact ⟨rfl, rfl⟩
  · rw [if_pos he]
    clear hr ha hl
    have he1 : (e != 0) = true := by simpa using he
    go_enter Tryd.func76, Tryd.ntmps76
    go_wp2_with fail
    refine hu.mono ?_
    rintro e w' ⟨rfl, rfl⟩
    go_wp2
    go_ret3
    exact ⟨rfl, rfl⟩
set_option maxRecDepth 100000 in
set_option maxHeartbeats 600000 in
theorem rtext_any (ad : Option Addr) (cap : Nat) (xs : List UInt8) (at_ most : Int) (w : World) (hl : Lie w ad xs) (hn : xs.length ≤ cap) (hs : xs.length ≤ 1000000) (ha : ad = none → cap = 0) (hm : most ≤ 9223372036854775807) :
    Calls Tryd.prog 63 #[.slice ad xs.length cap, .int .i64 at_, .int .i64 most] w fun e w' =>
      e = .returned (.tuple #[.string (tR xs at_ most).1, .int .i64 (tR xs at_ most).2.1, .int .i64 (tR xs at_ most).2.2]) ∧ w = w' := by
  have hu := ruint_any ad cap xs at_ w hl hs
  unfold tR
  rcases hr : uR xs at_ with ⟨n, p, e⟩
  rw [hr] at hu
  dsimp only at hu ⊢
  by_cases he : e = 0
  · subst he
    rw [if_neg (by simp)]
    obtain ⟨hlt, a, q, rfl, rfl, haq, hq, _⟩ := uR_ok hr
    clear hr
    by_cases hm0 : most < 0
    · rw [if_pos (.inl hm0)]
      clear hl ha
      go_enter Tryd.func63, Tryd.ntmps63
      go_wp2_with fail
      refine hu.mono ?_
      rintro e w' ⟨rfl, rfl⟩
      go_wp2
      go_ret3
      exact ⟨rfl, rfl⟩
    · obtain ⟨m, rfl⟩ : ∃ m : Nat, most = m := ⟨most.toNat, by omega⟩
      by_cases hm1 : m < n
      · rw [if_pos (.inr (by omega))]
        clear hl ha
        go_enter Tryd.func63, Tryd.ntmps63
        go_wp2_with fail
        refine hu.mono ?_
        rintro e w' ⟨rfl, rfl⟩
        go_wp2
        go_ret3
        exact ⟨rfl, rfl⟩
      · rw [if_neg (by omega)]
        by_cases hx : xs.length - q < n
        · rw [if_pos (by omega)]
          clear hl ha
          go_enter Tryd.func63, Tryd.ntmps63
          go_wp2_with fail
          refine hu.mono ?_
          rintro e w' ⟨rfl, rfl⟩
          go_wp2
          go_ret3
          exact ⟨rfl, rfl⟩
        · rw [if_neg (by omega)]
          rcases hl.at_ with h0 | ⟨b, off, rfl, _, _⟩
          · subst h0; simp at hq; omega
          by_cases hcq : cap = q
          · obtain rfl : n = 0 := by omega
            have hp := conv_lie (w := w) (ad := some ⟨b, off, none⟩) (l := []) 0 (.nil _ _)
            simp only [List.length_nil] at hp
            rw [List.take_zero]
            subst hcq
            clear hl ha
            go_enter Tryd.func63, Tryd.ntmps63
            go_wp2_with fail
            refine hu.mono ?_
            rintro e w' ⟨rfl, rfl⟩
            go_wp2
            go_ret3
            exact ⟨rfl, rfl⟩
          · have hp := conv_lie (cap - q) (hl.part q n)
            rw [show ((xs.drop q).take n).length = n by simp; omega] at hp
            rw [Int.toNat_natCast]
            generalize (xs.drop q).take n = l at *
            clear hl ha
            go_enter Tryd.func63, Tryd.ntmps63
            go_wp2_with fail
            refine hu.mono ?_
            rintro e w' ⟨rfl, rfl⟩
            go_wp2
            go_ret3
            exact ⟨rfl, rfl⟩
  · rw [if_pos he]
    clear hr ha hl
    have he1 : (e != 0) = true := by simpa using he
    go_enter Tryd.func63, Tryd.ntmps63
    go_wp2_with fail
    refine hu.mono ?_
    rintro e w' ⟨rfl, rfl⟩
    go_wp2
    go_ret3
    exact ⟨rfl, rfl⟩
end Go.Proofs.YtjmlidejbddoeaaDoor
