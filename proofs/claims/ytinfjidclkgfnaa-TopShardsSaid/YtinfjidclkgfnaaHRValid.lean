/-
  Which matrices are valid, by the specification.
-/
import Derived.Test.YtinfjidclkgfnaaQRows
import Derived.BigQuiet
namespace Go.Proofs.Ytinfjidclkgfnaa
open Go.RowKit

set_option maxRecDepth 100000 in
set_option maxHeartbeats 1000000 in
theorem rvalid_any (ad : Option Addr) (n cap : Nat) (ls : List (List UInt8)) (w : World) (hl : Lr w ad ls) (hn : n = ls.length) (hm : n ≤ maxLen) :
    Calls Try.prog 58 #[.slice ad n cap] w fun e w' => e = .returned (.bool (vld ls)) ∧ ∃ q, w' = w.drewN q := by
  unfold maxLen at hm
  by_cases h1 : n < 1
  · have HV := Lib.hid (vld_no (M := ls) fun h => by have := h.pos; omega)
    clear hl
    go_enter Try.func58, Try.ntmps58
    go_wp2
    go_ret
    exact ⟨by rw [HV.out]; rfl, 0, rfl⟩
  by_cases h2 : 64 < n
  · have HV := Lib.hid (vld_no (M := ls) fun h => by have := h.le; omega)
    clear hl
    go_enter Try.func58, Try.ntmps58
    go_wp2
    go_ret
    exact ⟨by rw [HV.out]; rfl, 0, rfl⟩
  have hp : 0 < ls.length := by omega
  obtain ⟨b, off, rfl, -, a0, c0, f0, -, g0, m0, -⟩ := hl.row 0 hp
  have HL := Lib.hid hl
  have HN := Lib.hid hn
  have HC := Lib.hid (cols_first ls hp)
  have HW := Lib.hid (valid_of ls)
  rw [← HC.out] at f0 g0
  rw [Nat.add_zero] at f0
  unfold maxLen at m0
  generalize cols ls = C at f0 g0 HC HW
  clear hl hn
  have F0 := Lib.hid f0
  clear f0
  go_enter Try.func58, Try.ntmps58
  go_wp2_with fail
  go_loopw [3] (fun vk wr => ∃ k : Nat, vk = .int .i64 k ∧ k ≤ n ∧ Hid (∀ j (h : j < ls.length), j < k → (ls[j]).length = C) ∧ Hid (k ≠ 0 → 1 ≤ C ∧ C ≤ 64) ∧ Hid (∃ q, wr = w.drewN q)) (fun vk _ => n - (intOf vk).toNat)
  case atStart => exact ⟨0, rfl, by omega, Lib.hid fun j h hj => by omega, Lib.hid fun h => absurd rfl h, Lib.hid ⟨0, rfl⟩⟩
  case round =>
    obtain ⟨k, rfl, hk, hall, hC, hq⟩ := hrel
    by_cases hlt : k < n
    · have hkl : k < ls.length := by have := HN.out; omega
      obtain ⟨b', off', e, -, a1, c1, f1, -, g1, m1, -⟩ := HL.out.row k hkl
      cases e
      unfold maxLen at m1
      generalize hL : (ls[k]).length = L at f1 g1
      have HLL := Lib.hid hL
      have f2 : wr.cell? ⟨b, off + k, none⟩ = some (.slice a1 L c1) := by obtain ⟨q, h⟩ := hq.out; rw [h]; exact f1
      have f3 : wr.cell? ⟨b, off, none⟩ = some (.slice a0 C c0) := by obtain ⟨q, h⟩ := hq.out; rw [h]; exact F0.out
      clear f1
      have hn0 : (0 : Int) < (n : Int) := by omega
      have hn1 : 0 < n := by omega
      have hn2 : ¬ n = 0 := by omega
      have hn3 : ¬ n ≤ 0 := by omega
      by_cases he : L = C
      · subst he
        have HNX : Hid (∀ j (h : j < ls.length), j < k + 1 → (ls[j]).length = L) := Lib.hid fun j h hj => by
          rcases Nat.lt_or_ge j k with h' | h'
          · exact hall.out j h h'
          · obtain rfl : j = k := by omega
            exact hL
        by_cases h4 : L < 1
        · have HV := Lib.hid (vld_no (M := ls) fun h => by have := h.cpos; rw [cols_first ls hp, ← HC.out] at this; omega)
          have hd1 : decide ((L : Int) < 1) = true := decide_eq_true (by omega)
          clear HLL hL hkl HNX
          go_wp2_with fail
          go_quiet (fail)
          go_wp2
          go_ret
          exact ⟨by rw [HV.out]; rfl, by obtain ⟨q, h⟩ := hq.out; rw [h]; exact ⟨_, by first | rfl | rw [World.drewN_drewN]⟩⟩
        · have hd1 : decide ((L : Int) < 1) = false := decide_eq_false (by omega)
          by_cases h5 : 64 < L
          · have HV := Lib.hid (vld_no (M := ls) fun h => by have := h.cle; rw [cols_first ls hp, ← HC.out] at this; omega)
            clear HLL hL hkl HNX
            go_wp2_with fail
            go_quiet (fail)
            go_wp2
            go_ret
            exact ⟨by rw [HV.out]; rfl, by obtain ⟨q, h⟩ := hq.out; rw [h]; exact ⟨_, by first | rfl | rw [World.drewN_drewN]⟩⟩
          · clear HLL hL hkl
            go_wp2_with fail
            go_quiet (fail)
            go_wp2
            go_roundw
            case rel => exact ⟨k + 1, by go_num, by omega, HNX, Lib.hid fun _ => ⟨by omega, by omega⟩, Lib.hid (by obtain ⟨q, h⟩ := hq.out; rw [h]; exact ⟨_, by first | rfl | rw [World.drewN_drewN]⟩)⟩
            case measure => simp [intOf]; omega
      · have HV := Lib.hid (vld_no (M := ls) fun h => he (by rw [← hL, h.len k hkl, HC.out, cols_first ls hp]))
        clear HLL hL hkl
        have he' : ¬ (L : Int) = (C : Int) := by omega
        go_wp2_with fail
        go_quiet (fail)
        go_wp2
        go_ret
        exact ⟨by rw [HV.out]; rfl, by obtain ⟨q, h⟩ := hq.out; rw [h]; exact ⟨_, by first | rfl | rw [World.drewN_drewN]⟩⟩
    · have HV := Lib.hid (vld_yes (HW.out (by have := HN.out; omega) (by have := HN.out; omega) (fun i h => hall.out i h (by have := HN.out; omega)) (hC.out (by omega)).1 (hC.out (by omega)).2))
      go_wp2
      go_ret
      exact ⟨by rw [HV.out]; rfl, hq.out⟩

theorem drewN_below (w : World) {w' : World} (h : ∃ q, w' = w.drewN q) : Below w.heap.size w w' := by
  obtain ⟨q, rfl⟩ := h
  exact below_drewN (.refl _ _) q
theorem rvalid_b (ad : Option Addr) (n cap : Nat) (ls : List (List UInt8)) (w : World) (hl : Lr w ad ls) (hn : n = ls.length) (hm : n ≤ maxLen) :
    Calls Try.prog 58 #[.slice ad n cap] w fun e w' => e = .returned (.bool (vld ls)) ∧ Below w.heap.size w w' :=
  (rvalid_any ad n cap ls w hl hn hm).mono fun _ _ ⟨h1, h2⟩ => ⟨h1, drewN_below w h2⟩
end Go.Proofs.Ytinfjidclkgfnaa
