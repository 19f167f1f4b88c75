/-
  Numbers of 64 bits, and FNV-1a as plain mathematics.
-/
import Derived.Test.YtihiccccpjakgaaGLie
import Derived.Test.YtihiccccpjakgaaKMerkle
import Derived.Deep.LoopGhost
import Derived.Deep.RegionWith
import Derived.BigQuiet
import Derived.Deep.DeepCutAuto
import Derived.StillTailTactics
namespace Go.Proofs.Ytihiccccpjakgaa
open Go.RowKit

/-- the number of a value of 64 bits; kept closed -/
@[irreducible] def gv (x : UInt64) : Int := (x.toNat : Int)
theorem gv_nat (x : UInt64) : gv x = (x.toNat : Int) := by unfold gv; rfl
theorem gv_lo (x : UInt64) : 0 ≤ gv x := by rw [gv_nat]; omega
theorem gv_hi (x : UInt64) : gv x < 18446744073709551616 := by rw [gv_nat]; have := x.toNat_lt; omega
theorem gv_inj {x y : UInt64} (h : gv x = gv y) : x = y := by rw [gv_nat, gv_nat] at h; exact UInt64.toNat_inj.1 (by omega)
theorem gv_lit (n : Nat) (h : n < 18446744073709551616) : (n : Int) = gv (UInt64.ofNat n) := by rw [gv_nat, UInt64.toNat_ofNat']; omega
theorem exists_gv (z : Int) (h0 : 0 ≤ z) (h1 : z < 18446744073709551616) : ∃ x, z = gv x := ⟨UInt64.ofNat z.toNat, by rw [← gv_lit _ (by omega)]; omega⟩
theorem gv_lit' (n : Nat) (x : UInt64) (h : x.toNat = n) : gv x = (n : Int) := by rw [gv_nat, h]
theorem ev_lit' (n : Nat) (x : UInt8) (h : x.toNat = n) : ev x = (n : Int) := by rw [ev_nat, h]
theorem bits_xor_gv (a b : UInt64) : bits .xor .u64 (gv a) (gv b) = gv (a ^^^ b) := by
  rw [gv_nat, gv_nat, gv_nat, u64_xor_nat _ _ a.toNat_lt b.toNat_lt, UInt64.toNat_xor]
theorem ev_gv (x : UInt8) : ev x = gv x.toUInt64 := by rw [ev_nat, gv_nat, UInt8.toNat_toUInt64]
theorem bits_xor_ge (a : UInt64) (x : UInt8) : bits .xor .u64 (gv a) (ev x) = gv (a ^^^ x.toUInt64) := by rw [ev_gv, bits_xor_gv]

/-- one byte more -/
def fnv (h : UInt64) (x : UInt8) : UInt64 := (h ^^^ x.toUInt64) * 1099511628211
theorem fnv_num (h : UInt64) (x : UInt8) : gv (h ^^^ x.toUInt64) * 1099511628211 % 18446744073709551616 = gv (fnv h x) := by
  unfold fnv
  rw [gv_nat, gv_nat, UInt64.toNat_mul]
  show _ = ((_ * 1099511628211 % 18446744073709551616 : Nat) : Int)
  omega
/-- the hash of the empty string -/
def basis : UInt64 := 14695981039346656037
/-- the hash of a string -/
def hashU (b : List UInt8) : UInt64 := b.foldl fnv basis
def leafU (b : List UInt8) : UInt64 := hashU (0 :: b)
/-- byte k of a number, from the lowest -/
def byteU (n : UInt64) (k : Nat) : UInt8 := UInt8.ofNat (n.toNat / 2 ^ (8 * k))
/-- the first j of the 8 bytes of a number, the most significant one first -/
def beU (n : UInt64) (j : Nat) : List UInt8 := (List.range j).map fun i => byteU n (7 - i)
theorem beU_zero (n : UInt64) : beU n 0 = [] := rfl
theorem beU_succ (n : UInt64) (j : Nat) : beU n (j + 1) = beU n j ++ [byteU n (7 - j)] := by
  unfold beU; rw [List.range_succ, List.map_append]; rfl
theorem beU_length (n : UInt64) (j : Nat) : (beU n j).length = j := by unfold beU; simp
/-- the hash of two numbers -/
def nodeU (a b : UInt64) : UInt64 := hashU (1 :: (beU a 8 ++ beU b 8))
theorem byte_shr (n : UInt64) (k : Nat) : gv n / 2 ^ (8 * k) % 256 = ev (byteU n k) := by
  rw [gv_nat, ev_nat]
  unfold byteU
  rw [UInt8.toNat_ofNat', show (2 : Nat) ^ 8 = 256 from rfl, Int.natCast_emod, Int.natCast_ediv, Int.natCast_pow]
  rfl
theorem ret_u64 {a b : Int} (h : a = b) : Ending.returned (.int .u64 a) = .returned (.int .u64 b) := by rw [h]
theorem gv_basis : gv basis = 14695981039346656037 := gv_lit' 14695981039346656037 _ rfl

abbrev rootU (l : List UInt64) : UInt64 := rootM nodeU basis l
abbrev pathU (l : List UInt64) (i : Nat) : List UInt64 := pathM nodeU basis l i
abbrev linkU (l : List UInt64) (m : Nat) (flag : Bool) : List UInt64 := linkM nodeU basis l m flag
end Go.Proofs.Ytihiccccpjakgaa
