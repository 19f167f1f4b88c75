/-
  Which counts are valid, which shards have the same length, by the program.
-/
import Derived.Test.YtinfjidclkgfnaaQRows
import Derived.Test.YtinfjidclkgfnaaQList
import Derived.BigQuiet
namespace Go.Proofs.Ytinfjidclkgfnaa
open Go.RowKit
set_option maxRecDepth 100000 in
set_option maxHeartbeats 1000000 in
theorem counts_any (a b : Int) (w : World) (h0 : -9223372036854775808 ≤ a) (h1 : a ≤ 9223372036854775807) : Calls Try.prog 31 #[.int .i64 a, .int .i64 b] w fun e w' => e = .returned (.bool (vc a b)) ∧ w = w' := by
  by_cases ha : 1 ≤ a
  rotate_left
  · go_enter Try.func31, Try.ntmps31
    go_wp2
    go_ret
    exact ⟨by rw [vc_no (by omega)]; rfl, rfl⟩
  by_cases hb : 0 ≤ b
  rotate_left
  · go_enter Try.func31, Try.ntmps31
    go_wp2
    go_ret
    exact ⟨by rw [vc_no (by omega)]; rfl, rfl⟩
  have hw : IntKind.i64.wrap (16 - a) = 16 - a := by rw [IntKind.wrap_i64]; omega
  by_cases hc : b ≤ 16 - a
  · go_enter Try.func31, Try.ntmps31
    go_wp2
    go_ret
    exact ⟨by rw [vc_yes ⟨ha, hb, by omega⟩]; rfl, rfl⟩
  · go_enter Try.func31, Try.ntmps31
    go_wp2
    go_ret
    exact ⟨by rw [vc_no (by omega)]; rfl, rfl⟩
set_option maxRecDepth 100000 in
set_option maxHeartbeats 1000000 in
theorem same_any (ad : Option Addr) (n cap : Nat) (ls : List (List UInt8)) (w : World) (hl : Lr w ad ls) (hn : n = ls.length) (hm : n ≤ maxLen) :
    Calls Try.prog 32 #[.slice ad n cap] w fun e w' => e = .returned (.bool (sameL ls)) ∧ w = w' := by
  unfold maxLen at hm
  have HL := Lib.hid hl
  have HN := Lib.hid hn
  have HC := Lib.hid (cols_first ls)
  have HY := Lib.hid (@sameL_yes ls)
  have HX := Lib.hid (@sameL_no ls)
  generalize cols ls = C at HC HY HX
  clear hl hn
  go_enter Try.func32, Try.ntmps32
  go_wp2_with fail
  go_loop [7] (fun vk => ∃ k : Nat, vk = .int .i64 k ∧ k ≤ n ∧ Hid (∀ j (h : j < ls.length), j < k → (ls[j]).length = C)) (fun vk => n - (intOf vk).toNat)
  case atStart => exact ⟨0, rfl, by omega, Lib.hid fun j h hj => by omega⟩
  case round =>
    obtain ⟨k, rfl, hk, hall⟩ := hrel
    by_cases hlt : k < n
    · have hkl : k < ls.length := by have := HN.out; omega
      have hp : 0 < ls.length := by omega
      obtain ⟨b, off, rfl, -, a0, c0, f0, -, g0, m0, -⟩ := HL.out.row 0 hp
      rw [← HC.out hp] at f0 g0
      rw [Nat.add_zero] at f0
      unfold maxLen at m0
      have hn1 : 0 < n := by omega
      have hn2 : (0 : Int) < (n : Int) := by omega
      obtain ⟨b', off', e', -, a1, c1, f1, -, g1, m1, -⟩ := HL.out.row k hkl
      cases e'
      unfold maxLen at m1
      clear hp
      by_cases he : (ls[k]).length = C
      · have HNX : Hid (∀ j (h : j < ls.length), j < k + 1 → (ls[j]).length = C) := Lib.hid fun j h hj => by
          rcases Nat.lt_or_ge j k with h' | h'
          · exact hall.out j h h'
          · obtain rfl : j = k := by omega
            exact he
        rw [he] at f1 g1
        clear hkl he
        go_wp2
        go_round
        case rel => exact ⟨k + 1, by go_num, by omega, HNX⟩
        case measure => simp [intOf]; omega
      · have HF := Lib.hid (HX.out k hkl he)
        have he2 : ¬ ((ls[k]).length : Int) = (C : Int) := by omega
        generalize (ls[k]).length = L at f1 g1 he he2
        clear hkl
        go_wp2
        go_ret
        exact ⟨by rw [HF.out]; rfl, rfl⟩
    · have HE := Lib.hid (HY.out fun i hi => hall.out i hi (by have := HN.out; omega))
      go_wp2
      go_ret
      exact ⟨by rw [HE.out]; rfl, rfl⟩
end Go.Proofs.Ytinfjidclkgfnaa
