/-
  The functions that read texts.
-/
import Derived.Test.YtckbgefeamkjnaaCRead2
namespace Go.Proofs.Ytckbgefeamkjnaa
open Go.RowKit

/-- What Text answers. -/
def tR (xs : List UInt8) (at_ most : Int) : ByteArray × Int × Int :=
  if (uR xs at_).2.2 ≠ 0 then (⟨#[]⟩, 0, (uR xs at_).2.2)
  else if most < 0 ∨ most < (uR xs at_).1 then (⟨#[]⟩, 0, 6)
  else if xs.length - (uR xs at_).2.1 < (uR xs at_).1 then (⟨#[]⟩, 0, 2)
  else (⟨((xs.drop (uR xs at_).2.1.toNat).take (uR xs at_).1).toArray⟩, (uR xs at_).2.1 + (uR xs at_).1, 0)

theorem Lie.part {w : World} {b off : Nat} {xs : List UInt8} (h : Lie w (some ⟨b, off, none⟩) xs) (q n : Nat) : Lie w (some ⟨b, off + q, none⟩) ((xs.drop q).take n) := by
  rcases h.at_ with rfl | ⟨b', off', hbo, hb, hc⟩
  · exact ⟨.inl (by simp)⟩
  · cases hbo
    refine ⟨.inr ⟨b, off + q, rfl, hb, fun j hj => ?_⟩⟩
    simp only [List.length_take, List.length_drop] at hj
    have := hc (q + j) (by omega)
    rw [Nat.add_assoc, this]
    simp

set_option maxRecDepth 100000 in
set_option maxHeartbeats 600000 in
theorem text_any (ad : Option Addr) (cap : Nat) (xs : List UInt8) (at_ most : Int) (w : World) (hl : Lie w ad xs) (hn : xs.length ≤ cap) (hs : xs.length ≤ 1000000) (ha : ad = none → cap = 0) (hm : most ≤ 9223372036854775807) :
    Calls Try.prog 17 #[.slice ad xs.length cap, .int .i64 at_, .int .i64 most] w fun e w' =>
      e = .returned (.tuple #[.string (tR xs at_ most).1, .int .i64 (tR xs at_ most).2.1, .int .i64 (tR xs at_ most).2.2]) ∧ w = w' := by
  have hu := uint_any ad cap xs at_ w hl hn hs ha
  unfold tR
  rcases hr : uR xs at_ with ⟨n, p, e⟩
  rw [hr] at hu
  dsimp only at hu ⊢
  by_cases he : e = 0
  · subst he
    rw [if_neg (by simp)]
    obtain ⟨hlt, a, q, rfl, rfl, haq, hq, _⟩ := uR_ok hr
    clear hr
    by_cases hm0 : most < 0
    · rw [if_pos (.inl hm0)]
      clear hl ha
      go_enter Try.func17, Try.ntmps17
      go_wp2_with fail
      refine hu.mono ?_
      rintro e w' ⟨rfl, rfl⟩
      go_wp2
      go_ret3
      exact ⟨rfl, rfl⟩
    · obtain ⟨m, rfl⟩ : ∃ m : Nat, most = m := ⟨most.toNat, by omega⟩
      by_cases hm1 : m < n
      · rw [if_pos (.inr (by omega))]
        clear hl ha
        go_enter Try.func17, Try.ntmps17
        go_wp2_with fail
        refine hu.mono ?_
        rintro e w' ⟨rfl, rfl⟩
        go_wp2
        go_ret3
        exact ⟨rfl, rfl⟩
      · rw [if_neg (by omega)]
        by_cases hx : xs.length - q < n
        · rw [if_pos (by omega)]
          clear hl ha
          go_enter Try.func17, Try.ntmps17
          go_wp2_with fail
          refine hu.mono ?_
          rintro e w' ⟨rfl, rfl⟩
          go_wp2
          go_ret3
          exact ⟨rfl, rfl⟩
        · rw [if_neg (by omega)]
          rcases hl.at_ with h0 | ⟨b, off, rfl, _, _⟩
          · subst h0; simp at hq; omega
          by_cases hcq : cap = q
          · obtain rfl : n = 0 := by omega
            have hp := conv_lie (w := w) (ad := some ⟨b, off, none⟩) (l := []) 0 (.nil _ _)
            simp only [List.length_nil] at hp
            rw [List.take_zero]
            subst hcq
            clear hl ha
            go_enter Try.func17, Try.ntmps17
            go_wp2_with fail
            refine hu.mono ?_
            rintro e w' ⟨rfl, rfl⟩
            go_wp2
            go_ret3
            exact ⟨rfl, rfl⟩
          · have hp := conv_lie (cap - q) (hl.part q n)
            rw [show ((xs.drop q).take n).length = n by simp; omega] at hp
            rw [Int.toNat_natCast]
            generalize (xs.drop q).take n = l at *
            clear hl ha
            go_enter Try.func17, Try.ntmps17
            go_wp2_with fail
            refine hu.mono ?_
            rintro e w' ⟨rfl, rfl⟩
            go_wp2
            go_ret3
            exact ⟨rfl, rfl⟩
  · rw [if_pos he]
    clear hr ha hl
    have he1 : (e != 0) = true := by simpa using he
    go_enter Try.func17, Try.ntmps17
    go_wp2_with fail
    refine hu.mono ?_
    rintro e w' ⟨rfl, rfl⟩
    go_wp2
    go_ret3
    exact ⟨rfl, rfl⟩
set_option maxRecDepth 100000 in
set_option maxHeartbeats 600000 in
theorem rtext_any (ad : Option Addr) (cap : Nat) (xs : List UInt8) (at_ most : Int) (w : World) (hl : Lie w ad xs) (hn : xs.length ≤ cap) (hs : xs.length ≤ 1000000) (ha : ad = none → cap = 0) (hm : most ≤ 9223372036854775807) :
    Calls Try.prog 18 #[.slice ad xs.length cap, .int .i64 at_, .int .i64 most] w fun e w' =>
      e = .returned (.tuple #[.string (tR xs at_ most).1, .int .i64 (tR xs at_ most).2.1, .int .i64 (tR xs at_ most).2.2]) ∧ w = w' := by
  have hu := ruint_any ad cap xs at_ w hl hs
  unfold tR
  rcases hr : uR xs at_ with ⟨n, p, e⟩
  rw [hr] at hu
  dsimp only at hu ⊢
  by_cases he : e = 0
  · subst he
    rw [if_neg (by simp)]
    obtain ⟨hlt, a, q, rfl, rfl, haq, hq, _⟩ := uR_ok hr
    clear hr
    by_cases hm0 : most < 0
    · rw [if_pos (.inl hm0)]
      clear hl ha
      go_enter Try.func18, Try.ntmps18
      go_wp2_with fail
      refine hu.mono ?_
      rintro e w' ⟨rfl, rfl⟩
      go_wp2
      go_ret3
      exact ⟨rfl, rfl⟩
    · obtain ⟨m, rfl⟩ : ∃ m : Nat, most = m := ⟨most.toNat, by omega⟩
      by_cases hm1 : m < n
      · rw [if_pos (.inr (by omega))]
        clear hl ha
        go_enter Try.func18, Try.ntmps18
        go_wp2_with fail
        refine hu.mono ?_
        rintro e w' ⟨rfl, rfl⟩
        go_wp2
        go_ret3
        exact ⟨rfl, rfl⟩
      · rw [if_neg (by omega)]
        by_cases hx : xs.length - q < n
        · rw [if_pos (by omega)]
          clear hl ha
          go_enter Try.func18, Try.ntmps18
          go_wp2_with fail
          refine hu.mono ?_
          rintro e w' ⟨rfl, rfl⟩
          go_wp2
          go_ret3
          exact ⟨rfl, rfl⟩
        · rw [if_neg (by omega)]
          rcases hl.at_ with h0 | ⟨b, off, rfl, _, _⟩
          · subst h0; simp at hq; omega
          by_cases hcq : cap = q
          · obtain rfl : n = 0 := by omega
            have hp := conv_lie (w := w) (ad := some ⟨b, off, none⟩) (l := []) 0 (.nil _ _)
            simp only [List.length_nil] at hp
            rw [List.take_zero]
            subst hcq
            clear hl ha
            go_enter Try.func18, Try.ntmps18
            go_wp2_with fail
            refine hu.mono ?_
            rintro e w' ⟨rfl, rfl⟩
            go_wp2
            go_ret3
            exact ⟨rfl, rfl⟩
          · have hp := conv_lie (cap - q) (hl.part q n)
            rw [show ((xs.drop q).take n).length = n by simp; omega] at hp
            rw [Int.toNat_natCast]
            generalize (xs.drop q).take n = l at *
            clear hl ha
            go_enter Try.func18, Try.ntmps18
            go_wp2_with fail
            refine hu.mono ?_
            rintro e w' ⟨rfl, rfl⟩
            go_wp2
            go_ret3
            exact ⟨rfl, rfl⟩
  · rw [if_pos he]
    clear hr ha hl
    have he1 : (e != 0) = true := by simpa using he
    go_enter Try.func18, Try.ntmps18
    go_wp2_with fail
    refine hu.mono ?_
    rintro e w' ⟨rfl, rfl⟩
    go_wp2
    go_ret3
    exact ⟨rfl, rfl⟩
end Go.Proofs.Ytckbgefeamkjnaa
