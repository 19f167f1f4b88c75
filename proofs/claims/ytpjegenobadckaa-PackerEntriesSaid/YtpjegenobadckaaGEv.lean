/-
  Elements of the field as the numbers of the program.
-/
import Derived.Test.YtpjegenobadckaaRows
import Derived.Test.YtpjegenobadckaaGMath
import Derived.WalkKit
import Derived.Lib.Hide
import Derived.WalkSpells
import Derived.WalkLawsBesides
namespace Go.Proofs.Ytpjegenobadckaa
open Go.RowKit

/-- the number that stands for an element; kept closed -/
@[irreducible] def ev (x : UInt8) : Int := (x.toNat : Int)
theorem ev_nat (x : UInt8) : ev x = (x.toNat : Int) := by unfold ev; rfl
theorem ev_lo (x : UInt8) : 0 ≤ ev x := by rw [ev_nat]; omega
theorem ev_hi (x : UInt8) : ev x < 256 := by rw [ev_nat]; have := x.toNat_lt; omega
theorem ev_inj {x y : UInt8} (h : ev x = ev y) : x = y := by rw [ev_nat, ev_nat] at h; exact UInt8.toNat_inj.1 (by omega)
theorem ev_lit (n : Nat) (h : n < 256) : (n : Int) = ev (UInt8.ofNat n) := by rw [ev_nat, UInt8.toNat_ofNat']; omega
theorem exists_ev (z : Int) (h0 : 0 ≤ z) (h1 : z < 256) : ∃ x, z = ev x := ⟨UInt8.ofNat z.toNat, by rw [← ev_lit _ (by omega)]; omega⟩
theorem ev_zero : ev 0 = 0 := (ev_lit 0 (by decide)).symm
theorem ev_one : ev 1 = 1 := (ev_lit 1 (by decide)).symm
theorem ev_eq0 (x : UInt8) : ev x = 0 ↔ x = 0 := ⟨fun h => ev_inj (by rw [h, ev_zero]), fun h => by rw [h, ev_zero]⟩
theorem ev_eq1 (x : UInt8) : ev x = 1 ↔ x = 1 := ⟨fun h => ev_inj (by rw [h, ev_one]), fun h => by rw [h, ev_one]⟩
theorem bits_xor_ev (a b : UInt8) : bits .xor .u8 (ev a) (ev b) = ev (a ^^^ b) := by
  rw [ev_nat, ev_nat, ev_nat, u8_xor_nat _ _ a.toNat_lt b.toNat_lt, UInt8.toNat_xor]
theorem ret_u8 {a b : Int} (h : a = b) : Ending.returned (.int .u8 a) = .returned (.int .u8 b) := by rw [h]
theorem dbl_small (a : UInt8) (h : ev a < 128) : ev a * 2 = ev (dblU a) := by
  rw [ev_nat, ev_nat, dbl_lo a (by rw [ev_nat] at h; omega)]; omega
theorem val_zero : Value.int .u8 0 = .int .u8 (ev 0) := by rw [ev_zero]
theorem val_one : Value.int .u8 1 = .int .u8 (ev 1) := by rw [ev_one]
end Go.Proofs.Ytpjegenobadckaa
