/-
  Which matrices are valid, by the specification; equal matrices are the same.
-/
import Derived.Test.YtbkjocmldeagdaaHValid
import Derived.Test.YtbkjocmldeagdaaConv
namespace Go.Proofs.Ytbkjocmldeagdaa
open Go.RowKit

set_option maxRecDepth 100000 in
set_option maxHeartbeats 1000000 in
theorem rvalid_any (ad : Option Addr) (n cap : Nat) (ls : List (List UInt8)) (w : World) (hl : Lr w ad ls) (hn : n = ls.length) (hm : n ≤ maxLen) :
    Calls Try.prog 17 #[.slice ad n cap] w fun e w' => e = .returned (.bool (vld ls)) ∧ ∃ q, w' = w.drewN q := by
  unfold maxLen at hm
  by_cases h1 : n < 1
  · have HV := Lib.hid (vld_no (M := ls) fun h => by have := h.pos; omega)
    clear hl
    go_enter Try.func17, Try.ntmps17
    go_wp2
    go_ret
    exact ⟨by rw [HV.out]; rfl, 0, rfl⟩
  by_cases h2 : 64 < n
  · have HV := Lib.hid (vld_no (M := ls) fun h => by have := h.le; omega)
    clear hl
    go_enter Try.func17, Try.ntmps17
    go_wp2
    go_ret
    exact ⟨by rw [HV.out]; rfl, 0, rfl⟩
  have hp : 0 < ls.length := by omega
  obtain ⟨b, off, rfl, -, a0, c0, f0, -, g0, m0, -⟩ := hl.row 0 hp
  have HL := Lib.hid hl
  have HN := Lib.hid hn
  have HC := Lib.hid (cols_first ls hp)
  have HW := Lib.hid (valid_of ls)
  rw [← HC.out] at f0 g0
  rw [Nat.add_zero] at f0
  unfold maxLen at m0
  generalize cols ls = C at f0 g0 HC HW
  clear hl hn
  have F0 := Lib.hid f0
  clear f0
  go_enter Try.func17, Try.ntmps17
  go_wp2_with fail
  go_loopw [3] (fun vk wr => ∃ k : Nat, vk = .int .i64 k ∧ k ≤ n ∧ Hid (∀ j (h : j < ls.length), j < k → (ls[j]).length = C) ∧ Hid (k ≠ 0 → 1 ≤ C ∧ C ≤ 64) ∧ Hid (∃ q, wr = w.drewN q)) (fun vk _ => n - (intOf vk).toNat)
  case atStart => exact ⟨0, rfl, by omega, Lib.hid fun j h hj => by omega, Lib.hid fun h => absurd rfl h, Lib.hid ⟨0, rfl⟩⟩
  case round =>
    obtain ⟨k, rfl, hk, hall, hC, hq⟩ := hrel
    by_cases hlt : k < n
    · have hkl : k < ls.length := by have := HN.out; omega
      obtain ⟨b', off', e, -, a1, c1, f1, -, g1, m1, -⟩ := HL.out.row k hkl
      cases e
      unfold maxLen at m1
      generalize hL : (ls[k]).length = L at f1 g1
      have HLL := Lib.hid hL
      have f2 : wr.cell? ⟨b, off + k, none⟩ = some (.slice a1 L c1) := by obtain ⟨q, h⟩ := hq.out; rw [h]; exact f1
      have f3 : wr.cell? ⟨b, off, none⟩ = some (.slice a0 C c0) := by obtain ⟨q, h⟩ := hq.out; rw [h]; exact F0.out
      clear f1
      have hn0 : (0 : Int) < (n : Int) := by omega
      have hn1 : 0 < n := by omega
      have hn2 : ¬ n = 0 := by omega
      have hn3 : ¬ n ≤ 0 := by omega
      by_cases he : L = C
      · subst he
        have HNX : Hid (∀ j (h : j < ls.length), j < k + 1 → (ls[j]).length = L) := Lib.hid fun j h hj => by
          rcases Nat.lt_or_ge j k with h' | h'
          · exact hall.out j h h'
          · obtain rfl : j = k := by omega
            exact hL
        by_cases h4 : L < 1
        · have HV := Lib.hid (vld_no (M := ls) fun h => by have := h.cpos; rw [cols_first ls hp, ← HC.out] at this; omega)
          have hd1 : decide ((L : Int) < 1) = true := decide_eq_true (by omega)
          clear HLL hL hkl HNX
          go_wp2_with fail
          go_quiet (fail)
          go_wp2
          go_ret
          exact ⟨by rw [HV.out]; rfl, by obtain ⟨q, h⟩ := hq.out; rw [h]; exact ⟨_, by first | rfl | rw [World.drewN_drewN]⟩⟩
        · have hd1 : decide ((L : Int) < 1) = false := decide_eq_false (by omega)
          by_cases h5 : 64 < L
          · have HV := Lib.hid (vld_no (M := ls) fun h => by have := h.cle; rw [cols_first ls hp, ← HC.out] at this; omega)
            clear HLL hL hkl HNX
            go_wp2_with fail
            go_quiet (fail)
            go_wp2
            go_ret
            exact ⟨by rw [HV.out]; rfl, by obtain ⟨q, h⟩ := hq.out; rw [h]; exact ⟨_, by first | rfl | rw [World.drewN_drewN]⟩⟩
          · clear HLL hL hkl
            go_wp2_with fail
            go_quiet (fail)
            go_wp2
            go_roundw
            case rel => exact ⟨k + 1, by go_num, by omega, HNX, Lib.hid fun _ => ⟨by omega, by omega⟩, Lib.hid (by obtain ⟨q, h⟩ := hq.out; rw [h]; exact ⟨_, by first | rfl | rw [World.drewN_drewN]⟩)⟩
            case measure => simp [intOf]; omega
      · have HV := Lib.hid (vld_no (M := ls) fun h => he (by rw [← hL, h.len k hkl, HC.out, cols_first ls hp]))
        clear HLL hL hkl
        have he' : ¬ (L : Int) = (C : Int) := by omega
        go_wp2_with fail
        go_quiet (fail)
        go_wp2
        go_ret
        exact ⟨by rw [HV.out]; rfl, by obtain ⟨q, h⟩ := hq.out; rw [h]; exact ⟨_, by first | rfl | rw [World.drewN_drewN]⟩⟩
    · have HV := Lib.hid (vld_yes (HW.out (by have := HN.out; omega) (by have := HN.out; omega) (fun i h => hall.out i h (by have := HN.out; omega)) (hC.out (by omega)).1 (hC.out (by omega)).2))
      go_wp2
      go_ret
      exact ⟨by rw [HV.out]; rfl, hq.out⟩

set_option maxRecDepth 100000 in
set_option maxHeartbeats 1000000 in
theorem same_yes (ad bd : Option Addr) (n cap mcap : Nat) (ls : List (List UInt8)) (w : World) (h1 : Lr w ad ls) (h2 : Lr w bd ls) (hn : n = ls.length) (hs : ls.length ≤ 1000000) :
    Calls Try.prog 13 #[.slice ad n cap, .slice bd n mcap] w fun e w' => e = .returned (.bool true) ∧ ∃ k, w' = w.drewN k := by
  have H1 := Lib.hid h1
  have H2 := Lib.hid h2
  have HN := Lib.hid hn
  have hnb : n ≤ 1000000 := by omega
  clear h1 h2 hn hs
  go_enter Try.func13, Try.ntmps13
  go_wp2
  go_loopw [5] (fun vk wr => ∃ k : Nat, vk = .int .i64 k ∧ k ≤ n ∧ Hid (∃ q, wr = w.drewN q)) (fun vk _ => n - (intOf vk).toNat)
  case atStart => exact ⟨0, rfl, by omega, Lib.hid ⟨0, rfl⟩⟩
  case round =>
    obtain ⟨k, rfl, hk, hq⟩ := hrel
    by_cases hlt : k < n
    · have hkl : k < ls.length := by have := HN.out; omega
      obtain ⟨b, off, rfl, -, a1, c1, e1, l1, -⟩ := H1.out.row k hkl
      obtain ⟨b2, off2, rfl, -, a2, c2, e2, l2, -⟩ := H2.out.row k hkl
      obtain ⟨q, hqq⟩ := hq.out
      have f1 : wr.cell? ⟨b, off + k, none⟩ = some (.slice a1 (ls[k]).length c1) := by rw [hqq]; exact e1
      have f2 : wr.cell? ⟨b2, off2 + k, none⟩ = some (.slice a2 (ls[k]).length c2) := by rw [hqq]; exact e2
      have g1 : ∀ q2, (convert 23 9 (.slice a1 (ls[k]).length c1)).run Try.prog (wr.drewN q2) = .ok (.string ⟨(ls[k]).toArray⟩) (wr.drewN q2) := fun q2 => by rw [hqq]; exact conv_lie c1 ((l1.drewN q).drewN q2)
      have g2 : ∀ q2, (convert 23 9 (.slice a2 (ls[k]).length c2)).run Try.prog (wr.drewN q2) = .ok (.string ⟨(ls[k]).toArray⟩) (wr.drewN q2) := fun q2 => by rw [hqq]; exact conv_lie c2 ((l2.drewN q).drewN q2)
      generalize (⟨(ls[k]).toArray⟩ : ByteArray) = S at g1 g2
      generalize (ls[k]).length = N at *
      clear l1 l2 e1 e2 hkl hqq
      go_wp2_with fail
      go_quiet (fail)
      go_wp2
      go_roundw
      case rel => exact ⟨k + 1, by go_num, by omega, Lib.hid (by obtain ⟨q, h⟩ := hq.out; rw [h]; exact ⟨_, by first | rfl | rw [World.drewN_drewN]⟩)⟩
      case measure => simp [intOf]; omega
    · go_wp2
      go_ret
      exact ⟨rfl, hq.out⟩
end Go.Proofs.Ytbkjocmldeagdaa
