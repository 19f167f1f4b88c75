/-
  Which matrices are valid, by the program.
-/
import Derived.Test.YtinfjidclkgfnaaQRows
import Derived.BigQuiet
namespace Go.Proofs.Ytinfjidclkgfnaa
open Go.RowKit
set_option maxRecDepth 100000 in
set_option maxHeartbeats 1000000 in
theorem valid_any (ad : Option Addr) (n cap : Nat) (ls : List (List UInt8)) (w : World) (hl : Lr w ad ls) (hn : n = ls.length) (hm : n ≤ maxLen) :
    Calls Try.prog 52 #[.slice ad n cap] w fun e w' => e = .returned (.bool (vld ls)) ∧ w = w' := by
  unfold maxLen at hm
  by_cases h1 : n < 1
  · have HV := Lib.hid (vld_no (M := ls) fun h => by have := h.pos; omega)
    clear hl
    go_enter Try.func52, Try.ntmps52
    go_wp2
    go_ret
    exact ⟨by rw [HV.out]; rfl, rfl⟩
  by_cases h2 : 64 < n
  · have HV := Lib.hid (vld_no (M := ls) fun h => by have := h.le; omega)
    clear hl
    go_enter Try.func52, Try.ntmps52
    go_wp2
    go_ret
    exact ⟨by rw [HV.out]; rfl, rfl⟩
  have hp : 0 < ls.length := by omega
  obtain ⟨b, off, rfl, -, a0, c0, f0, -, g0, m0, -⟩ := hl.row 0 hp
  have HL := Lib.hid hl
  have HN := Lib.hid hn
  have HC := Lib.hid (cols_first ls hp)
  have HW := Lib.hid (valid_of ls)
  rw [← HC.out] at f0 g0
  rw [Nat.add_zero] at f0
  unfold maxLen at m0
  generalize cols ls = C at f0 g0 HC HW
  clear hl hn
  go_enter Try.func52, Try.ntmps52
  go_wp2_with fail
  go_loop [20] (fun vk => ∃ k : Nat, vk = .int .i64 k ∧ k ≤ n ∧ Hid (∀ j (h : j < ls.length), j < k → (ls[j]).length = C)) (fun vk => n - (intOf vk).toNat)
  case atStart => exact ⟨0, rfl, by omega, Lib.hid fun j h hj => by omega⟩
  case round =>
    obtain ⟨k, rfl, hk, hall⟩ := hrel
    by_cases hlt : k < n
    · have hkl : k < ls.length := by have := HN.out; omega
      obtain ⟨b', off', e, -, a1, c1, f1, -, g1, m1, -⟩ := HL.out.row k hkl
      cases e
      unfold maxLen at m1
      generalize hL : (ls[k]).length = L at f1 g1
      have HLL := Lib.hid hL
      by_cases he : L = C
      · have HNX : Hid (∀ j (h : j < ls.length), j < k + 1 → (ls[j]).length = C) := Lib.hid fun j h hj => by
          rcases Nat.lt_or_ge j k with h' | h'
          · exact hall.out j h h'
          · obtain rfl : j = k := by omega
            exact hL.trans he
        have he' : (L : Int) = (C : Int) := by omega
        clear HLL hL hkl
        go_wp2
        go_round
        case rel => exact ⟨k + 1, by go_num, by omega, HNX⟩
        case measure => simp [intOf]; omega
      · have HV := Lib.hid (vld_no (M := ls) fun h => he (by rw [← hL, h.len k hkl, HC.out, cols_first ls hp]))
        clear HLL hL hkl
        have he' : ¬ (L : Int) = (C : Int) := by omega
        go_wp2
        go_ret
        exact ⟨by rw [HV.out]; rfl, rfl⟩
    · have hall' : Hid (∀ i (h : i < ls.length), (ls[i]).length = C) := Lib.hid fun i h => hall.out i h (by have := HN.out; omega)
      by_cases h4 : 1 ≤ C
      · by_cases h5 : C ≤ 64
        · have HV := Lib.hid (vld_yes (HW.out (by have := HN.out; omega) (by have := HN.out; omega) hall'.out h4 h5))
          go_wp2
          go_ret
          exact ⟨by rw [HV.out]; show Ending.returned (Value.bool (decide ((C : Int) ≤ 64))) = _; rw [decide_eq_true (by omega)], rfl⟩
        · have HV := Lib.hid (vld_no (M := ls) fun h => h5 (by have := h.cle; rw [cols_first ls (by have := HN.out; omega), ← HC.out] at this; exact this))
          go_wp2
          go_ret
          exact ⟨by rw [HV.out]; show Ending.returned (Value.bool (decide ((C : Int) ≤ 64))) = _; rw [decide_eq_false (by omega)], rfl⟩
      · have HV := Lib.hid (vld_no (M := ls) fun h => h4 (by have := h.cpos; rw [cols_first ls (by have := HN.out; omega), ← HC.out] at this; exact this))
        go_wp2
        go_ret
        exact ⟨by rw [HV.out]; rfl, rfl⟩

end Go.Proofs.Ytinfjidclkgfnaa
