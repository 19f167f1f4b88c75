/-
  The walk of the statement ChecksumSlides: true for every slice of bytes and every length, and nothing that was there is written.
-/
import Derived.Test.YtheoklpgnchmcaaSlideMath
import Derived.Test.YtheoklpgnchmcaaAppend
import Derived.Deep.QuietTactic
import Derived.BigQuiet
namespace Go.Proofs.Ytheoklpgnchmcaa
open Go.RowKit

theorem weak_at (ad : Option Addr) (cap n : Nat) (xs : List (BitVec 32)) (w : World) (hl : Lies w ad xs) (hn : n = xs.length) (hm : xs.length ≤ 4096) :
    Calls Try.prog 18 #[.slice ad n cap] w fun e w' => e = .returned (.int .u32 (weakI xs)) ∧ w = w' := by
  subst hn
  exact weak_any ad cap xs w hl (by omega)
theorem lies_take {w : World} {ad : Option Addr} {xs : List (BitVec 32)} (h : Lies w ad xs) (n : Nat) : Lies w ad (xs.take n) := by
  have hg : ∀ j, j < (xs.take n).length → (xs.take n).getD j 0#32 = xs.getD j 0#32 := by
    intro j hj
    simp only [List.length_take] at hj
    simp [show j < n by omega]
  refine ⟨fun j hj => ?_, ?_⟩
  · rw [hg j hj]
    exact h.byte j (by simp only [List.length_take] at hj; omega)
  · rcases h.at_ with h0 | ⟨b, off, h0, hlt, hc⟩
    · left; subst h0; simp
    · exact .inr ⟨b, off, h0, hlt, fun j hj => by rw [hg j hj]; exact hc j (by simp only [List.length_take] at hj; omega)⟩
theorem lies_drop {w : World} {b off : Nat} {xs : List (BitVec 32)} (h : Lies w (some ⟨b, off, none⟩) xs) (k : Nat) : Lies w (some ⟨b, off + k, none⟩) (xs.drop k) := by
  have hg : ∀ j, (xs.drop k).getD j 0#32 = xs.getD (k + j) 0#32 := by
    intro j
    simp
  refine ⟨fun j hj => ?_, ?_⟩
  · rw [hg j]
    exact h.byte (k + j) (by simp only [List.length_drop] at hj; omega)
  · rcases h.at_ with h0 | ⟨b', off', h0, hlt, hc⟩
    · left; subst h0; simp
    · cases h0
      exact .inr ⟨b, off + k, rfl, hlt, fun j hj => by rw [hg j, Nat.add_assoc]; exact hc (k + j) (by simp only [List.length_drop] at hj; omega)⟩
theorem calls_flip {P : Program} {f : FuncId} {args : Array Value} {w : World} {v : Value} (h : Calls P f args w fun e w' => e = .returned v ∧ w = w') : Calls P f args w fun e w' => e = .returned v ∧ w' = w :=
  h.mono fun _ _ ⟨he, hw⟩ => ⟨he, hw.symm⟩
theorem win_zero (xs : List (BitVec 32)) (m : Nat) : xs.take m = win xs m 0 := rfl
attribute [local irreducible] weakI wk win rollI

set_option maxRecDepth 100000 in
set_option maxHeartbeats 2000000 in
theorem law_slides (b off cap m : Nat) (xs : List (BitVec 32)) (w : World) (hl : Lies w (some ⟨b, off, none⟩) xs) (hs : xs.length ≤ 4096) (hm1 : 1 ≤ m) (hm2 : m ≤ 2048) (hm3 : m ≤ xs.length) (hcap : xs.length ≤ cap) :
    Calls Try.prog 9 #[.slice (some ⟨b, off, none⟩) xs.length cap, .int .i64 m] w fun e w' => e = .returned (.bool true) ∧ Below w.heap.size w w' := by
  go_enter Try.func9, Try.ntmps9
  go_wp2_with fail
  refine (weak_at _ _ _ (xs.take m) _ (lies_take hl m) (by simp; omega) (by simp; omega)).mono ?_
  rintro e w' ⟨rfl, rfl⟩
  go_wp2_with fail
  rw [win_zero]
  have HL := Lib.hid hl
  clear hl
  go_loopw [5, 6] (fun vs vi wr => ∃ i : Nat, i + m ≤ xs.length ∧ vi = .int .i64 i ∧ vs = .int .u32 (weakI (win xs m i)) ∧ Hid (Lies wr (some ⟨b, off, none⟩) xs) ∧ Hid (Below w.heap.size w wr)) (fun _ i _ => xs.length - (intOf i).toNat)
  case atStart => exact ⟨0, by omega, rfl, rfl, HL, Lib.hid (Below.refl _ _)⟩
  case round =>
    obtain ⟨i, hi, rfl, rfl, hlr, hbr⟩ := hrel
    by_cases hlt : i + m < xs.length
    · have hc : ∀ j, j < xs.length → wr.cell? ⟨b, off + j, none⟩ = some (.int .u8 (iv (xs.getD j 0#32))) := by
        rcases hlr.out.at_ with h0 | ⟨b', off', h0, _, hc⟩
        · subst h0; simp at hlt
        · cases h0; exact hc
      have hx1 := hlr.out.byte i (by omega)
      have hx0 := iv_lo (xs.getD i 0#32)
      have hy1 := hlr.out.byte (i + m) hlt
      have hy0 := iv_lo (xs.getD (i + m) 0#32)
      have hcx := hc i (by omega)
      have hcy := hc (i + m) hlt
      clear hc
      have hw := win_next xs m i hm1 hlt
      generalize xs.getD i 0#32 = x at *
      generalize xs.getD (i + m) 0#32 = y at *
      have hbd := weakI_bd (win xs m i)
      have HR : Hid (∀ W, Calls Try.prog 20 #[.int .u32 (weakI (win xs m i)), .int .i64 m, .int .u8 (iv x), .int .u8 (iv y)] W fun e w' => e = .returned (.int .u32 (weakI (win xs m (i + 1)))) ∧ w' = W) :=
        Lib.hid fun W => by rw [← hw]; exact calls_flip (roll_any _ _ _ _ W hbd.1 hbd.2 hx0 hx1 hy0 hy1 (by omega) (by omega))
      clear hw hbd
      have hwr : IntKind.i64.wrap ((i : Int) + (m : Int)) = (i : Int) + (m : Int) := IntWalk.i64_in _ (by omega)
      have hnn : (0 : Int) ≤ (i : Int) + (m : Int) := by omega
      have hnl : (i : Int) + (m : Int) < (xs.length : Int) := by omega
      have hnt : ((i : Int) + (m : Int)).toNat = i + m := by omega
      have hil : (i : Int) < (xs.length : Int) := by omega
      go_wp2_with fail
      go_quiet ((go_at_call 20; exact Calls.quiet_of_same (HR.out _)))
      clear hwr hnn hnl hnt hil hcx hcy
      go_wp2
      go_roundw
      case rel => exact ⟨i + 1, by omega, by go_num, rfl, Lib.hid ⟨hlr.out.byte, hlr.out.at_⟩, Lib.hid ⟨hbr.out.os, hbr.out.tape, hbr.out.output, hbr.out.size, hbr.out.block⟩⟩
      case measure => simp [intOf]; omega
    · obtain rfl : i = xs.length - m := by omega
      rw [win_last xs m hm3]
      have hck : ¬ cap = xs.length - m := by omega
      have hcast : (xs.length : Int) - (m : Int) = ((xs.length - m : Nat) : Int) := by omega
      go_wp2_with fail
      refine (weak_at _ _ _ (xs.drop (xs.length - m)) _ (lies_drop hlr.out _) (by simp) (by simp; omega)).mono ?_
      rintro e w' ⟨rfl, rfl⟩
      go_wp2_with fail
      refine (awake_any _).mono ?_
      rintro e w7 ⟨rfl, hb7⟩
      have HB7 : Hid (Below w.heap.size w w7) := Lib.hid (hbr.out.trans (hb7.mono hbr.out.size))
      clear hb7
      go_wp2
      go_ret
      exact ⟨rfl, HB7.out⟩

set_option maxRecDepth 100000 in
set_option maxHeartbeats 2000000 in
theorem law_slides_out (ad : Option Addr) (len cap : Nat) (n : Int) (w : World) (h : 4096 < len ∨ len ≤ 4096 ∧ n < 1 ∨ len ≤ 4096 ∧ 1 ≤ n ∧ 2048 < n ∨ len ≤ 4096 ∧ 1 ≤ n ∧ n ≤ 2048 ∧ (len : Int) < n) :
    Calls Try.prog 9 #[.slice ad len cap, .int .i64 n] w fun e w' => e = .returned (.bool true) ∧ Below w.heap.size w w' := by
  rcases h with h | ⟨h1, h⟩ | ⟨h1, h2, h⟩ | ⟨h1, h2, h3, h⟩
  all_goals
    go_enter Try.func9, Try.ntmps9
    go_wp2_with fail
    refine (awake_any _).mono ?_
    rintro e w7 ⟨rfl, hb7⟩
    have HB7 := Lib.hid hb7
    clear hb7
    go_wp2
    go_ret
    exact ⟨rfl, HB7.out⟩
end Go.Proofs.Ytheoklpgnchmcaa
