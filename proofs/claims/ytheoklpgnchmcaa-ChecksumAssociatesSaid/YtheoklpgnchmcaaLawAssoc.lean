/-
  The walk of the statement ChecksumAssociates: true for every two parts, and nothing that was there is written.
-/
import Derived.Test.YtheoklpgnchmcaaAwake
import Derived.Deep.QuietTactic
import Derived.BigQuiet
namespace Go.Proofs.Ytheoklpgnchmcaa
open Go.RowKit

theorem combine_int (a b : BitVec 32) (n : Int) (h0 : 0 ≤ n) (h1 : n ≤ 1125899906842624) (w : World) :
    Calls Try.prog 16 #[.int .u32 (iv a), .int .u32 (iv b), .int .i64 n] w fun e w' => e = .returned (.int .u32 (iv (b ^^^ stepsB (8 * n.toNat) a))) ∧ w' = w := by
  have h := combine_any a b n.toNat (by omega) w
  rw [Int.toNat_of_nonneg h0] at h
  exact h.mono fun _ _ ⟨he, hw⟩ => ⟨he, hw.symm⟩
theorem assoc_eq (a b c : BitVec 32) (n m : Int) (h0 : 0 ≤ n) (h1 : 0 ≤ m) :
    c ^^^ stepsB (8 * m.toNat) (b ^^^ stepsB (8 * n.toNat) a) = (c ^^^ stepsB (8 * m.toNat) b) ^^^ stepsB (8 * (n + m).toNat) a := by
  rw [stepsB_xor, ← stepsB_add, show 8 * m.toNat + 8 * n.toNat = 8 * (n + m).toNat by omega, BitVec.xor_assoc]
attribute [local irreducible] stepB stepsB

set_option maxRecDepth 100000 in
set_option maxHeartbeats 2000000 in
theorem law_assoc (a b c d : BitVec 32) (n m : Int) (w : World) (hn : 0 ≤ n) (hm : 0 ≤ m) (hn1 : n ≤ 1099511627776) (hm1 : m ≤ 1099511627776) :
    Calls Try.prog 6 #[.agg #[.int .u32 (iv a), .int .u32 (iv b), .int .i64 n], .agg #[.int .u32 (iv c), .int .u32 (iv d), .int .i64 m]] w fun e w' => e = .returned (.bool true) ∧ Below w.heap.size w w' := by
  go_enter Try.func6, Try.ntmps6
  go_wp2_with fail
  generalize hw2 : World.alloc _ _ = w2
  have HB : Hid (Below w.heap.size w w2) := Lib.hid (by rw [← hw2]; exact ((Below.refl _ _).alloc (Nat.le_refl _) _).alloc (by simp) _)
  have p0 : w2.cell? ⟨w.heap.size, 0, none⟩ = some (.int .u32 (iv a)) := by rw [← hw2]; simp
  have p1 : w2.cell? ⟨w.heap.size, 1, none⟩ = some (.int .u32 (iv b)) := by rw [← hw2]; simp
  have p2 : w2.cell? ⟨w.heap.size, 2, none⟩ = some (.int .i64 n) := by rw [← hw2]; simp
  have q0 : w2.cell? ⟨w.heap.size + 1, 0, none⟩ = some (.int .u32 (iv c)) := by rw [← hw2]; simp
  have q2 : w2.cell? ⟨w.heap.size + 1, 2, none⟩ = some (.int .i64 m) := by rw [← hw2]; simp
  clear hw2
  go_quiet ((go_at_call 16; exact Calls.quiet_of_same (combine_int _ _ _ (by omega) (by omega) _)))
  go_wp2_with fail
  generalize hw3 : World.drewN _ _ = w3
  have HB3 : Hid (Below w.heap.size w w3) := Lib.hid (by rw [← hw3]; exact ⟨HB.out.os, HB.out.tape, HB.out.output, HB.out.size, HB.out.block⟩)
  have p0' : w3.cell? ⟨w.heap.size, 0, none⟩ = some (.int .u32 (iv a)) := by rw [← hw3]; exact p0
  have p1' : w3.cell? ⟨w.heap.size, 1, none⟩ = some (.int .u32 (iv b)) := by rw [← hw3]; exact p1
  have p2' : w3.cell? ⟨w.heap.size, 2, none⟩ = some (.int .i64 n) := by rw [← hw3]; exact p2
  have q0' : w3.cell? ⟨w.heap.size + 1, 0, none⟩ = some (.int .u32 (iv c)) := by rw [← hw3]; exact q0
  have q2' : w3.cell? ⟨w.heap.size + 1, 2, none⟩ = some (.int .i64 m) := by rw [← hw3]; exact q2
  clear hw3 p0 p1 p2 q0 q2
  rw [assoc_eq a b c n m hn hm]
  have hwr : IntKind.i64.wrap (n + m) = n + m := IntWalk.i64_in _ (by omega)
  go_quiet ((go_at_call 16; exact Calls.quiet_of_same (combine_int _ _ _ (by omega) (by omega) _)))
  clear hwr p0' p1' p2' q0' q2'
  generalize hw4 : World.drewN _ _ = w4
  have HB4 : Hid (Below w.heap.size w w4) := Lib.hid (by rw [← hw4]; exact ⟨HB3.out.os, HB3.out.tape, HB3.out.output, HB3.out.size, HB3.out.block⟩)
  clear hw4
  go_wp2_with fail
  refine (awake_any _).mono ?_
  rintro e w5 ⟨rfl, hb5⟩
  have HB5 := Lib.hid hb5
  clear hb5
  go_wp2
  go_ret
  exact ⟨rfl, HB4.out.trans (HB5.out.mono HB4.out.size)⟩

set_option maxRecDepth 100000 in
set_option maxHeartbeats 2000000 in
theorem law_assoc_out (a b c d : BitVec 32) (n m : Int) (w : World) (h : n < 0 ∨ 0 ≤ n ∧ m < 0 ∨ 0 ≤ n ∧ 0 ≤ m ∧ 1099511627776 < n ∨ 0 ≤ n ∧ 0 ≤ m ∧ n ≤ 1099511627776 ∧ 1099511627776 < m) :
    Calls Try.prog 6 #[.agg #[.int .u32 (iv a), .int .u32 (iv b), .int .i64 n], .agg #[.int .u32 (iv c), .int .u32 (iv d), .int .i64 m]] w fun e w' => e = .returned (.bool true) ∧ Below w.heap.size w w' := by
  rcases h with h | ⟨h1, h⟩ | ⟨h1, h2, h⟩ | ⟨h1, h2, h3, h⟩
  all_goals
    go_enter Try.func6, Try.ntmps6
    go_wp2_with fail
    refine (awake_any _).mono ?_
    rintro e w5 ⟨rfl, hb5⟩
    have HB : Below w.heap.size w w5 := (((Below.refl _ _).alloc (Nat.le_refl _) _).alloc (by simp) _).trans (hb5.mono (by simp; omega))
    have HB5 := Lib.hid HB
    clear hb5 HB
    go_wp2
    go_ret
    exact ⟨rfl, HB5.out⟩
end Go.Proofs.Ytheoklpgnchmcaa
namespace Go.Proofs.Ytheoklpgnchmcaa
open Go.RowKit
theorem law_assoc_all (a b n c d m : Int) (w : World) (ha : 0 ≤ a ∧ a ≤ 4294967295) (hb : 0 ≤ b ∧ b ≤ 4294967295) (hc : 0 ≤ c ∧ c ≤ 4294967295) (hd : 0 ≤ d ∧ d ≤ 4294967295) :
    Calls Try.prog 6 #[.agg #[.int .u32 a, .int .u32 b, .int .i64 n], .agg #[.int .u32 c, .int .u32 d, .int .i64 m]] w fun e w' => e = .returned (.bool true) ∧ Below w.heap.size w w' := by
  obtain ⟨a, rfl⟩ := exists_iv a ha.1 (by omega)
  obtain ⟨b, rfl⟩ := exists_iv b hb.1 (by omega)
  obtain ⟨c, rfl⟩ := exists_iv c hc.1 (by omega)
  obtain ⟨d, rfl⟩ := exists_iv d hd.1 (by omega)
  by_cases h : 0 ≤ n ∧ 0 ≤ m ∧ n ≤ 1099511627776 ∧ m ≤ 1099511627776
  · exact law_assoc a b c d n m w h.1 h.2.1 h.2.2.1 h.2.2.2
  · exact law_assoc_out a b c d n m w (by omega)
end Go.Proofs.Ytheoklpgnchmcaa
