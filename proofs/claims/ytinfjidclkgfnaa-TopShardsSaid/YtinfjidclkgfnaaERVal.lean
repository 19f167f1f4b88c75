/-
  Which counts are valid, which shards have the same length, by the specification.
-/
import Derived.Test.YtinfjidclkgfnaaQRows
import Derived.Test.YtinfjidclkgfnaaQList
import Derived.Test.YtinfjidclkgfnaaHRValid
import Derived.BigQuiet
namespace Go.Proofs.Ytinfjidclkgfnaa
open Go.RowKit
set_option maxRecDepth 100000 in
set_option maxHeartbeats 1000000 in
theorem rcounts_any (a b : Int) (w : World) : Calls Try.prog 35 #[.int .i64 a, .int .i64 b] w fun e w' => e = .returned (.bool (vc a b)) ∧ w = w' := by
  by_cases ha : 1 ≤ a
  rotate_left
  · go_enter Try.func35, Try.ntmps35
    go_wp2
    go_ret
    exact ⟨by rw [vc_no (by omega)]; rfl, rfl⟩
  by_cases ha2 : a ≤ 16
  rotate_left
  · go_enter Try.func35, Try.ntmps35
    go_wp2
    go_ret
    exact ⟨by rw [vc_no (by omega)]; rfl, rfl⟩
  by_cases hb : 0 ≤ b
  rotate_left
  · go_enter Try.func35, Try.ntmps35
    go_wp2
    go_ret
    exact ⟨by rw [vc_no (by omega)]; rfl, rfl⟩
  by_cases hb2 : b ≤ 16
  rotate_left
  · go_enter Try.func35, Try.ntmps35
    go_wp2
    go_ret
    exact ⟨by rw [vc_no (by omega)]; rfl, rfl⟩
  have hw : IntKind.i64.wrap (a + b) = a + b := by rw [IntKind.wrap_i64]; omega
  by_cases hc : a + b ≤ 16
  · go_enter Try.func35, Try.ntmps35
    go_wp2
    go_ret
    exact ⟨by rw [vc_yes ⟨ha, hb, by omega⟩]; rfl, rfl⟩
  · go_enter Try.func35, Try.ntmps35
    go_wp2
    go_ret
    exact ⟨by rw [vc_no (by omega)]; rfl, rfl⟩
set_option maxRecDepth 100000 in
set_option maxHeartbeats 1000000 in
theorem requal_any (ad : Option Addr) (n cap : Nat) (ls : List (List UInt8)) (w : World) (hl : Lr w ad ls) (hn : n = ls.length) (hm : n ≤ maxLen) :
    Calls Try.prog 36 #[.slice ad n cap] w fun e w' => e = .returned (.bool (sameL ls)) ∧ Below w.heap.size w w' := by
  unfold maxLen at hm
  have HL := Lib.hid hl
  have HN := Lib.hid hn
  have HC := Lib.hid (cols_first ls)
  have HY := Lib.hid (@sameL_yes ls)
  have HX := Lib.hid (@sameL_no ls)
  generalize cols ls = C at HC HY HX
  clear hl hn
  go_enter Try.func36, Try.ntmps36
  go_wp2_with fail
  go_loopw [3] (fun vk wr => ∃ k : Nat, vk = .int .i64 k ∧ k ≤ n ∧ Hid (∀ j (h : j < ls.length), j < k → (ls[j]).length = C) ∧ Hid (∃ q, wr = w.drewN q)) (fun vk _ => n - (intOf vk).toNat)
  case atStart => exact ⟨0, rfl, by omega, Lib.hid fun j h hj => by omega, Lib.hid ⟨0, rfl⟩⟩
  case round =>
    obtain ⟨k, rfl, hk, hall, hq⟩ := hrel
    by_cases hlt : k < n
    · have hkl : k < ls.length := by have := HN.out; omega
      have hp : 0 < ls.length := by omega
      obtain ⟨q, hqq⟩ := hq.out
      obtain ⟨b, off, rfl, -, a0, c0, f0, -, g0, m0, -⟩ := HL.out.row 0 hp
      rw [← HC.out hp] at f0 g0
      rw [Nat.add_zero] at f0
      unfold maxLen at m0
      have hn1 : 0 < n := by omega
      have hn2 : (0 : Int) < (n : Int) := by omega
      have hn3 : (k : Int) < (n : Int) := by omega
      obtain ⟨b', off', e', -, a1, c1, f1, -, g1, m1, -⟩ := HL.out.row k hkl
      cases e'
      unfold maxLen at m1
      have f2 : wr.cell? ⟨b, off + k, none⟩ = some (.slice a1 (ls[k]).length c1) := by rw [hqq]; exact f1
      have f3 : wr.cell? ⟨b, off, none⟩ = some (.slice a0 C c0) := by rw [hqq]; exact f0
      clear hp f0 f1 hqq
      by_cases he : (ls[k]).length = C
      · have HNX : Hid (∀ j (h : j < ls.length), j < k + 1 → (ls[j]).length = C) := Lib.hid fun j h hj => by
          rcases Nat.lt_or_ge j k with h' | h'
          · exact hall.out j h h'
          · obtain rfl : j = k := by omega
            exact he
        rw [he] at f2 g1
        clear hkl he
        go_wp2_with fail
        go_quiet (fail)
        go_wp2
        go_roundw
        case rel => exact ⟨k + 1, by go_num, by omega, HNX, Lib.hid (by obtain ⟨q, h⟩ := hq.out; rw [h]; exact ⟨_, by first | rfl | rw [World.drewN_drewN]⟩)⟩
        case measure => simp [intOf]; omega
      · have HF := Lib.hid (HX.out k hkl he)
        have he2 : ¬ ((ls[k]).length : Int) = (C : Int) := by omega
        generalize (ls[k]).length = L at f2 g1 he he2
        clear hkl
        go_wp2_with fail
        go_quiet (fail)
        go_wp2
        go_ret
        exact ⟨by rw [HF.out]; rfl, drewN_below w (by obtain ⟨q, h⟩ := hq.out; rw [h]; exact ⟨_, by first | rfl | rw [World.drewN_drewN]⟩)⟩
    · have HE := Lib.hid (HY.out fun i hi => hall.out i hi (by have := HN.out; omega))
      go_wp2
      go_ret
      exact ⟨by rw [HE.out]; rfl, drewN_below w hq.out⟩
end Go.Proofs.Ytinfjidclkgfnaa
