/-
  The specification's block, count and Barcode.
-/
import Derived.Test.YtlbnjojafaieoaaCtOpen
import Derived.WalkKit
import Derived.Lib.Hide
import Derived.WalkSpells
import Derived.WalkLawsBesides
import Derived.Deep.LoopGhost
namespace Go.Proofs.Ytlbnjojafaieoaa
open Go.RowKit
set_option linter.unusedVariables false
theorem below_boxC (w : World) (o : Obj) : Below w.heap.size w (w.alloc o) := (Below.refl _ _).alloc (Nat.le_refl _) _
/-- a block is valid -/
def okB (m : Bool) (n : Nat) : Bool := if m then (n : Int) == 0 else decide ((1 : Int) ≤ (n : Int)) && decide ((n : Int) ≤ 64)
def cnt (n : Int) : Bool := decide (0 ≤ n) && decide (n ≤ 1125899906842624)
/-- a byte of a barcode -/
def chr (x : UInt8) : Bool := (decide (65 ≤ x.toNat) && decide (x.toNat ≤ 90)) || (decide (48 ≤ x.toNat) && decide (x.toNat ≤ 57))
def bar (s : ByteArray) : Bool := s.data.toList.all chr && (decide (1 ≤ s.size) && decide (s.size ≤ 24))
set_option maxRecDepth 100000 in
set_option maxHeartbeats 400000 in
theorem rblk_any (m bad : Bool) (ad : Option Addr) (n cap : Nat) (w : World) :
    Calls Try.prog 41 #[.agg #[.bool m, .bool bad, .slice ad n cap]] w fun e w' => e = .returned (.bool (okB m n)) ∧ Below w.heap.size w w' := by
  cases m
  · by_cases h1 : 1 ≤ n
    · have hd : decide ((1 : Int) ≤ (n : Int)) = true := decide_eq_true (by omega)
      go_enter Try.func41, Try.ntmps41
      go_wp2
      go_ret
      exact ⟨by unfold okB; rw [if_neg (by decide), hd]; rfl, below_boxC _ _⟩
    · obtain rfl : n = 0 := by omega
      go_enter Try.func41, Try.ntmps41
      go_wp2
      go_ret
      exact ⟨by simp [okB], below_boxC _ _⟩
  · go_enter Try.func41, Try.ntmps41
    go_wp2
    go_ret
    exact ⟨by unfold okB; rw [if_pos rfl]; rfl, below_boxC _ _⟩
set_option maxRecDepth 100000 in
set_option maxHeartbeats 400000 in
theorem rcnt_any (a : Int) (w : World) :
    Calls Try.prog 42 #[.int .i64 a] w fun e w' => e = .returned (.bool (cnt a)) ∧ w' = w := by
  go_enter Try.func42, Try.ntmps42
  go_wp2
  all_goals go_ret
  · rename_i h
    exact ⟨by unfold cnt; rw [decide_eq_true h]; rfl, rfl⟩
  · rename_i h
    exact ⟨by unfold cnt; rw [decide_eq_false (by omega)]; rfl, rfl⟩
set_option maxRecDepth 100000 in
set_option maxHeartbeats 1000000 in
theorem rbar_any (s : ByteArray) (w : World) (hs : s.size ≤ maxLen) :
    Calls Try.prog 34 #[.string s] w fun e w' => e = .returned (.bool (bar s)) ∧ w' = w := by
  obtain ⟨N, hN⟩ : ∃ N, N = s.size := ⟨_, rfl⟩
  have HN := Lib.hid hN
  have hm : N ≤ 9223372036854775807 := by rw [hN]; exact hs
  go_enter Try.func34, Try.ntmps34
  go_wp2
  go_loopg [3] N (fun gk vk wx => ∃ k : Nat, vk = .int .i64 k ∧ k + gk = N ∧ wx = w ∧ Hid (∀ j (h : j < s.data.toList.length), j < k → chr s.data.toList[j] = true))
  case atStart => exact ⟨0, rfl, by omega, rfl, Lib.hid fun j _ hj => by omega⟩
  case round =>
    obtain ⟨k, rfl, hk, rfl, hall⟩ := hrel
    cases gk with
    | zero =>
      obtain rfl : k = N := by omega
      have HA := Lib.hid (show s.data.toList.all chr = true by
        rw [List.all_eq_true]
        intro x hx
        obtain ⟨j, hj, rfl⟩ := List.getElem_of_mem hx
        exact hall.out j hj (by have := HN.out; have e : s.data.toList.length = s.size := by simp
                                omega))
      have hnn : ((s.size : Nat) : Int) = (k : Int) := by have := HN.out; omega
      by_cases h1 : 1 ≤ k
      · by_cases h2 : k ≤ 24
        · have HR := Lib.hid (show bar s = true by unfold bar; rw [HA.out]; have := HN.out; simp; omega)
          have hd : decide ((k : Int) ≤ 24) = true := decide_eq_true (by omega)
          go_wp2
          go_ret
          exact ⟨by rw [HR.out]; rfl, rfl⟩
        · have HR := Lib.hid (show bar s = false by unfold bar; rw [HA.out]; have := HN.out; simp; omega)
          have hd : decide ((k : Int) ≤ 24) = false := decide_eq_false (by omega)
          go_wp2
          go_ret
          exact ⟨by rw [HR.out]; rfl, rfl⟩
      · have HR := Lib.hid (show bar s = false by unfold bar; rw [HA.out]; have := HN.out; simp; omega)
        go_wp2
        go_ret
        exact ⟨by rw [HR.out]; rfl, rfl⟩
    | succ gk0 =>
      have hkN : k < N := by omega
      have hks : k < s.data.toList.length := by
        have := HN.out
        have e : s.data.toList.length = s.size := by simp
        omega
      have hks2 : k < s.size := by have := HN.out; omega
      have hI : (Instr.index 9 (.string s) (.int .i64 (k : Int))).run Try.prog wr = .ok (.int .u8 ((s.data.toList[k]).toNat : Int)) wr := by
        rw [run_index_string wr 9 s .i64 (k : Int) Try.underlying9, dif_pos ⟨by omega, by omega⟩]
        rfl
      obtain ⟨x, hx⟩ : ∃ x, x = s.data.toList[k] := ⟨_, rfl⟩
      rw [← hx] at hI
      have HNX : chr x = true → Hid (∀ j (h : j < s.data.toList.length), j < k + 1 → chr s.data.toList[j] = true) := fun hc => Lib.hid fun j h hj => by
        rcases Nat.lt_or_ge j k with h3 | h3
        · exact hall.out j h h3
        · obtain rfl : j = k := by omega
          rw [← hx]
          exact hc
      have HBA : Hid (chr x = false → bar s = false) := Lib.hid fun hc => by
        unfold bar
        rw [show s.data.toList.all chr = false by
          rw [List.all_eq_false]
          exact ⟨x, by rw [hx]; exact List.getElem_mem hks, by rw [hc]; simp⟩]
        rfl
      have HC : chr x = (decide (65 ≤ x.toNat) && decide (x.toNat ≤ 90) || decide (48 ≤ x.toNat) && decide (x.toNat ≤ 57)) := rfl
      have HCH := Lib.hid HC
      clear HC hx hks hks2
      generalize x.toNat = n at *
      have part : n < 48 ∨ (48 ≤ n ∧ n ≤ 57) ∨ (58 ≤ n ∧ n < 65) ∨ (65 ≤ n ∧ n ≤ 90) ∨ 91 ≤ n := by omega
      rcases part with h1 | ⟨h1, h2⟩ | ⟨h1, h2⟩ | ⟨h1, h2⟩ | h1
      · have HR := Lib.hid (HBA.out (by rw [HCH.out]; simp; omega))
        clear HNX
        go_wp2
        go_ret
        exact ⟨by rw [HR.out]; rfl, rfl⟩
      · have HNY := HNX (by rw [HCH.out]; simp; omega)
        clear HNX
        have d57 : decide ((n : Int) ≤ 57) = true := decide_eq_true (by omega)
        go_wp2
        go_roundg gk0
        case rel => exact ⟨k + 1, by go_num, by omega, rfl, HNY⟩
        case measure => omega
      · have HR := Lib.hid (HBA.out (by rw [HCH.out]; simp; omega))
        clear HNX
        have d57 : decide ((n : Int) ≤ 57) = false := decide_eq_false (by omega)
        go_wp2
        go_ret
        exact ⟨by rw [HR.out]; rfl, rfl⟩
      · have HNY := HNX (by rw [HCH.out]; simp; omega)
        clear HNX
        have d90 : decide ((n : Int) ≤ 90) = true := decide_eq_true (by omega)
        have d57 : decide ((n : Int) ≤ 57) = false := decide_eq_false (by omega)
        go_wp2
        go_roundg gk0
        case rel => exact ⟨k + 1, by go_num, by omega, rfl, HNY⟩
        case measure => omega
      · have HR := Lib.hid (HBA.out (by rw [HCH.out]; simp; omega))
        clear HNX
        have d90 : decide ((n : Int) ≤ 90) = false := decide_eq_false (by omega)
        have d57 : decide ((n : Int) ≤ 57) = false := decide_eq_false (by omega)
        go_wp2
        go_ret
        exact ⟨by rw [HR.out]; rfl, rfl⟩
end Go.Proofs.Ytlbnjojafaieoaa
