/-
  The walk of the statement ChecksumDetects: true for every slice of bytes, place and change, and nothing that was there is written.
-/
import Derived.Test.YtheoklpgnchmcaaDetMath
namespace Go.Proofs.Ytheoklpgnchmcaa
open Go.RowKit
theorem chg_cells (xs : List (BitVec 32)) (t : Nat) (u : BitVec 32) (k : Nat) :
    (cellsB (chg xs t u k)).set (t + k) (.int .u8 (iv ((chg xs t u k).getD (t + k) 0#32 ^^^ byteK u k))) = cellsB (chg xs t u (k + 1)) := by
  show _ = cellsB ((chg xs t u k).set (t + k) _)
  unfold cellsB
  rw [List.map_set]
theorem sum_at (ad : Option Addr) (cap n : Nat) (xs : List (BitVec 32)) (w : World) (hl : Lies w ad xs) (hn : n = xs.length) (hm : xs.length ≤ 4096) :
    Calls Try.prog 12 #[.slice ad n cap] w fun e w' => e = .returned (.int .u32 (iv (updB 0#32 xs))) ∧ Below w.heap.size w w' := by
  subst hn
  exact sum_below ad cap xs w hl (by omega)
attribute [local irreducible] stepB stepsB updB regB afterB cellsB chg byteK

set_option maxRecDepth 100000 in
set_option maxHeartbeats 2000000 in
theorem law_det (ad : Option Addr) (ac t : Nat) (u : BitVec 32) (xs : List (BitVec 32)) (w : World) (hl : Lies w ad xs) (hac : ad = none → ac = 0) (hx : xs.length ≤ 4096) (ht : t + 4 ≤ xs.length) (hu : u ≠ 0#32) :
    Calls Try.prog 7 #[.slice ad xs.length ac, .int .i64 t, .int .u32 (iv u)] w fun e w' => e = .returned (.bool true) ∧ Below w.heap.size w w' := by
  have hown0 : (w.alloc (.cells #[] 5)).ownsRow w.heap.size 5 1 (.slice (some ⟨w.heap.size, 0, none⟩) 0 0) 0 [] := World.ownsRow_made w #[] 0 (Nat.le_refl _) (by decide) rfl
  have hl0 : Lies (w.alloc (.cells #[] 5)) ad xs := lies_below hl ((Below.refl _ _).alloc (Nat.le_refl _) _)
  have hu0 : (iv u == 0) = false := by
    rw [beq_eq_false_iff_ne]
    intro h
    exact hu (iv_inj (v := 0#32) (by rw [h]; exact (iv_ofNat 0 (by decide)).symm))
  go_enter Try.func7, Try.ntmps7
  go_wp2_with (at_builtin; refine wpList_append_bytes rfl (.tmp 33) (.tmp 34) rfl w.heap.size _ 0 [] rfl hown0 ad ac xs hac hl0 rfl (by omega) (by simp) ?_; intro v1 w1 hown1 hgrow1)
  simp only [Nat.zero_add, List.nil_append] at hown1
  have hb1 : Below w.heap.size w w1 := below_own hgrow1 (fun k hk => (hown0.lt k hk).1)
  obtain ⟨g, cap, hv, hg⟩ : ∃ g cap, v1 = .slice (some ⟨g, 0, none⟩) xs.length cap ∧ w.heap.size ≤ g := by
    rcases hown1.2 with ⟨_, h0⟩ | ⟨g, cap, cur, h0, hg, _⟩
    · omega
    · exact ⟨g, cap, h0, hg⟩
  subst hv
  have HO : Hid (w1.ownsRow w.heap.size 5 1 (.slice (some ⟨g, 0, none⟩) xs.length cap) xs.length (cellsB (chg xs t u 0))) := Lib.hid (by rw [chg_zero]; exact hown1)
  have HB1 := Lib.hid hb1
  clear hown0 hl0 hown1 hgrow1 hb1
  go_wp2_with fail
  go_loopw [8] (fun vk wr => ∃ k : Nat, k ≤ 4 ∧ vk = .int .i64 k ∧ Hid (wr.ownsRow w.heap.size 5 1 (.slice (some ⟨g, 0, none⟩) xs.length cap) xs.length (cellsB (chg xs t u k))) ∧ Hid (Below w.heap.size w wr)) (fun i _ => 4 - (intOf i).toNat)
  case atStart => exact ⟨0, by omega, rfl, HO, HB1⟩
  case round =>
    obtain ⟨k, hk, rfl, ho, hbr⟩ := hrel
    by_cases hlt : k < 4
    · have hlen : t + k < (chg xs t u k).length := by rw [chg_length]; omega
      have hc : wr.cell? ⟨g, t + k, none⟩ = some (.int .u8 (iv ((chg xs t u k).getD (t + k) 0#32))) := by
        rw [ho.out.cellAt (t + k) (by omega)]
        exact cellsB_get _ _ hlen
      have hf : wr.frozen? ⟨g, t + k, none⟩ = false := ho.out.frozenAt (t + k)
      have hz := chg_lt xs t u k hl.byte (t + k) hlen
      have hst := ho.out.stored (t + k) (.int .u8 (iv ((chg xs t u k).getD (t + k) 0#32 ^^^ byteK u k)))
      have HS := Lib.hid hst
      have HC := Lib.hid (chg_cells xs t u k)
      clear hst
      generalize (chg xs t u k).getD (t + k) 0#32 = z at *
      have hbx := bits_xor8 z (byteK u k) hz (byteK_lt u k)
      rw [byteK_iv] at hbx
      go_wp2
      go_roundw
      case rel => exact ⟨k + 1, by omega, by go_num, Lib.hid (by rw [← HC.out]; exact HS.out.1), Lib.hid (hbr.out.setCell hg _)⟩
      case measure => simp [intOf]; omega
    · obtain rfl : k = 4 := by omega
      have hbytes := chg_lt xs t u 4 hl.byte
      obtain ⟨zd, zc, hzv, hz⟩ := lies_own ho.out (chg_length xs t u 4).symm hbytes
      rw [chg_length] at hzv
      simp only [Value.slice.injEq, true_and] at hzv
      obtain ⟨rfl, rfl⟩ := hzv
      have hne := chg_detected xs t u ht hu
      have hn1 : (iv (updB 0#32 (chg xs t u 4)) == iv (updB 0#32 xs)) = false := by
        rw [beq_eq_false_iff_ne]
        exact fun h => hne (iv_inj h)
      have hn2 : (iv (updB 0#32 (chg xs t u 4)) != iv (updB 0#32 xs)) = true := by
        rw [bne, hn1]; rfl
      have HZ := Lib.hid hz
      clear hne hz hbytes
      go_wp2_with fail
      refine (sum_at _ _ _ (chg xs t u 4) _ HZ.out (chg_length xs t u 4).symm (by rw [chg_length]; exact hx)).mono ?_
      rintro e w3 ⟨rfl, hb3⟩
      have HB3 : Hid (Below w.heap.size w w3) := Lib.hid (hbr.out.trans (hb3.mono hbr.out.size))
      clear hb3
      go_wp2_with fail
      refine (sum_below ad ac xs _ (lies_below hl HB3.out) (by omega)).mono ?_
      rintro e w4 ⟨rfl, hb4⟩
      have HB4 : Hid (Below w.heap.size w w4) := Lib.hid (HB3.out.trans (hb4.mono HB3.out.size))
      clear hb4
      go_wp2_with fail
      refine (awake_any _).mono ?_
      rintro e w7 ⟨rfl, hb7⟩
      have HB7 : Hid (Below w.heap.size w w7) := Lib.hid (HB4.out.trans (hb7.mono HB4.out.size))
      clear hb7
      go_wp2
      go_ret
      exact ⟨rfl, HB7.out⟩

set_option maxRecDepth 100000 in
set_option maxHeartbeats 2000000 in
theorem law_det_out (ad : Option Addr) (ac len : Nat) (t c : Int) (w : World)
    (h : len < 4 ∨ 4 ≤ len ∧ 4096 < len ∨ 4 ≤ len ∧ len ≤ 4096 ∧ t < 0 ∨ 4 ≤ len ∧ len ≤ 4096 ∧ 0 ≤ t ∧ (len : Int) - 4 < t ∨ 4 ≤ len ∧ len ≤ 4096 ∧ 0 ≤ t ∧ t ≤ (len : Int) - 4 ∧ (c == 0) = true) :
    Calls Try.prog 7 #[.slice ad len ac, .int .i64 t, .int .u32 c] w fun e w' => e = .returned (.bool true) ∧ Below w.heap.size w w' := by
  rcases h with h | ⟨h1, h⟩ | ⟨h1, h2, h⟩ | ⟨h1, h2, h3, h⟩ | ⟨h1, h2, h3, h4, h⟩
  all_goals
    go_enter Try.func7, Try.ntmps7
    go_wp2_with fail
    refine (awake_any _).mono ?_
    rintro e w7 ⟨rfl, hb7⟩
    have HB7 := Lib.hid hb7
    clear hb7
    go_wp2
    go_ret
    exact ⟨rfl, HB7.out⟩
end Go.Proofs.Ytheoklpgnchmcaa
