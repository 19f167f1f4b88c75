/-
  The checksum of bytes as a number; the program's functions of layer 1, and the document's, over bytes in memory.
-/
import Derived.Test.YtpjegenobadckaaUpd
import Derived.Test.YtpjegenobadckaaRow
namespace Go.Proofs.Ytpjegenobadckaa
open Go.RowKit

/-- Bytes as words. -/
def wd (l : List UInt8) : List (BitVec 32) := l.map fun x => BitVec.ofNat 32 x.toNat
theorem wd_length (l : List UInt8) : (wd l).length = l.length := by simp [wd]
theorem wd_append (l m : List UInt8) : wd (l ++ m) = wd l ++ wd m := by simp [wd]
theorem wd_getD (l : List UInt8) (j : Nat) (h : j < l.length) : iv ((wd l).getD j 0#32) = ((l[j]'h).toNat : Int) := by
  have e : (wd l).getD j 0#32 = BitVec.ofNat 32 (l[j]'h).toNat := by simp [wd, h]
  have := (l[j]'h).toNat_lt
  rw [e, iv_ofNat _ (by omega)]
theorem Lie.lies {w : World} {ad : Option Addr} {xs : List UInt8} (h : Lie w ad xs) : Lies w ad (wd xs) := by
  refine ⟨fun j hj => ?_, ?_⟩
  · rw [wd_length] at hj
    rw [wd_getD xs j hj]
    have := (xs[j]'hj).toNat_lt
    omega
  · rcases h.at_ with rfl | ⟨b, off, rfl, hb, hc⟩
    · exact .inl rfl
    · refine .inr ⟨b, off, rfl, hb, fun j hj => ?_⟩
      rw [wd_length] at hj
      rw [wd_getD xs j hj]
      exact hc j hj

/-- The checksum of bytes. -/
@[irreducible] def crc (l : List UInt8) : Nat := (updB 0#32 (wd l)).toNat
theorem crc_iv (l : List UInt8) : iv (updB 0#32 (wd l)) = (crc l : Int) := by unfold iv crc; rfl
theorem crc_lt (l : List UInt8) : crc l < 4294967296 := by unfold crc; exact (updB 0#32 (wd l)).isLt
theorem regB_append (r : BitVec 32) (l m : List (BitVec 32)) : regB r (l ++ m) = regB (regB r l) m := by simp [regB, List.foldl_append]
theorem updB_append (s : BitVec 32) (l m : List (BitVec 32)) : updB (updB s l) m = updB s (l ++ m) := by
  unfold updB
  rw [regB_append, BitVec.not_not]
theorem below3 (w : World) (a b c : Obj) : Below w.heap.size w (((w.alloc a).alloc b).alloc c) :=
  (((Below.refl _ w).alloc (Nat.le_refl _) a).alloc (by simp) b).alloc (by simp; omega) c

theorem csum_any (ad : Option Addr) (n cap : Nat) (xs : List UInt8) (w : World) (hl : Lie w ad xs) (hn : n = xs.length) (hm : xs.length ≤ 10000000) :
    Calls Try.prog 40 #[.slice ad n cap] w fun e w' => e = .returned (.int .u32 (crc xs : Int)) ∧ Below w.heap.size w w' := by
  subst hn
  have h := sum_any ad cap (wd xs) w hl.lies (by rw [wd_length]; omega)
  rw [wd_length] at h
  refine h.mono ?_
  rintro e w' ⟨rfl, rfl⟩
  exact ⟨by rw [crc_iv], below3 _ _ _ _⟩
theorem cupd_any (ad : Option Addr) (n cap : Nat) (l xs : List UInt8) (w : World) (hl : Lie w ad xs) (hn : n = xs.length) (hm : xs.length ≤ 10000000) :
    Calls Try.prog 48 #[.int .u32 (crc l : Int), .slice ad n cap] w fun e w' => e = .returned (.int .u32 (crc (l ++ xs) : Int)) ∧ Below w.heap.size w w' := by
  subst hn
  have h := upd_any (updB 0#32 (wd l)) ad cap (wd xs) w hl.lies (by rw [wd_length]; omega)
  rw [wd_length, crc_iv] at h
  refine h.mono ?_
  rintro e w' ⟨rfl, rfl⟩
  exact ⟨by rw [updB_append, ← wd_append, crc_iv], below3 _ _ _ _⟩
theorem rcsum_any (ad : Option Addr) (n cap : Nat) (xs : List UInt8) (w : World) (hl : Lie w ad xs) (hn : n = xs.length) (hm : xs.length ≤ 10000000) :
    Calls Try.prog 41 #[.slice ad n cap] w fun e w' => e = .returned (.int .u32 (crc xs : Int)) ∧ w = w' := by
  subst hn
  have h := rsum_any ad cap (wd xs) w hl.lies (by rw [wd_length]; omega)
  rw [wd_length] at h
  refine h.mono ?_
  rintro e w' ⟨rfl, rfl⟩
  exact ⟨by rw [crc_iv], rfl⟩
end Go.Proofs.Ytpjegenobadckaa
