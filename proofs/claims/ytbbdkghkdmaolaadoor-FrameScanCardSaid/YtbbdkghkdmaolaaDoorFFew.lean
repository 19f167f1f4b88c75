/-
  At most twelve strings, each cut to sixty bytes.
-/
import Derived.Test.YtbbdkghkdmaolaaDoorFSalv2
import Derived.Test.YtbbdkghkdmaolaaDoorFLaw1
import Derived.Test.YtbbdkghkdmaolaaDoorFCut
namespace Go.Proofs.YtbbdkghkdmaolaaDoor
open Go.RowKit
set_option linter.unusedVariables false
set_option linter.unusedSimpArgs false

set_option maxRecDepth 100000 in
set_option maxHeartbeats 1000000 in
theorem few_any (ad : Option Addr) (n cap : Nat) (ls : List (List UInt8)) (w : World) (hl : Lr w ad ls) (hn : n = ls.length) (hc : n ≤ cap) (hcm : cap ≤ maxLen) :
    Calls Tryd.prog 24 #[.slice ad n cap] w fun e w' => ∃ v, e = .returned v ∧ Ls w' w.heap.size v (fews ls 12) ∧ Below w.heap.size w w' := by
  have HL := Lib.hid hl
  have HN := Lib.hid hn
  unfold maxLen at hcm
  clear hl hn
  go_enter Tryd.func24, Tryd.ntmps24
  go_wp2
  go_loopw [3, 4] (fun vo vk wr => ∃ k : Nat, vk = .int .i64 k ∧ k ≤ n ∧ k ≤ 12 ∧ Hid (Ls wr w.heap.size vo (fews ls k)) ∧ Hid (Below w.heap.size w wr)) (fun _ vk _ => n - (intOf vk).toNat)
  case atStart => exact ⟨0, rfl, Nat.zero_le _, by omega, Lib.hid (by rw [show fews ls 0 = [] by simp [fews]]; exact Ls.nil _ _), Lib.hid (.refl _ _)⟩
  case round =>
    obtain ⟨k, rfl, hkn, hk12, hls, hb⟩ := hrel
    by_cases hlt : k < n
    · by_cases hlt2 : k < 12
      · have hkl : k < ls.length := by have := HN.out; omega
        rcases HL.out.at_ with h0 | ⟨b, off, rfl, hbl, hcc⟩
        · rw [h0] at hkl; simp at hkl
        obtain ⟨a1, c1, e1, l1, hc1, hc1m, ha1⟩ := hcc k hkl
        have f1 : wr.cell? ⟨b, off + k, none⟩ = some (.slice a1 (ls[k]).length c1) := (hb.out.cell (p := ⟨b, off + k, none⟩) hbl).trans e1
        have hlen : (fews ls k).length ≤ 100000 := by rw [fews_len]; omega
        have HSZ := Lib.hid hb.out.size
        have hlow : LieS wr w.heap.size a1 ((ls[k]).take 60) := (LieS.of_low (l1.take 60) (Nat.le_refl _)).below hb.out
        obtain ⟨txt, ht⟩ : ∃ txt, (ls[k]).take 60 = txt := ⟨_, rfl⟩
        have htl : txt.length = min 60 (ls[k]).length := by rw [← ht, List.length_take]
        rw [ht] at hlow
        have HT := Lib.hid ht
        unfold maxLen at hc1m
        by_cases h60 : 60 < (ls[k]).length
        · have HH : Hid (HoldS wr w.heap.size (.slice a1 60 c1) txt) := Lib.hid ⟨a1, c1, by rw [htl, Nat.min_eq_left (by omega)], hlow, by omega, by unfold maxLen; omega, ha1⟩
          obtain ⟨a1, rfl⟩ : ∃ a, a1 = some a := by
            cases a1 with
            | none => have := ha1 rfl; omega
            | some a => exact ⟨a, rfl⟩
          generalize (ls[k]).length = N at f1 h60 hc1 htl
          clear hcc e1 l1 hlow ht htl ha1
          go_wp2_with (at_builtin; refine wpList_append_l rfl (.tmp 25) (.tmp 27) rfl w.heap.size _ (.slice (some a1) 60 c1) _ txt rfl (hls.out.alloc _) _ rfl (cell_one_new _ _ _) (HH.out.alloc _) hlen (by have := HSZ.out; simp; omega) ?_; intro v3 w3 hls3 hg3)
          go_roundw
          case rel => exact ⟨k + 1, by go_num, by omega, by omega, Lib.hid (by rw [fews_succ hkl, HT.out]; exact hls3), Lib.hid (hb.out.trans (((Below.refl _ _).alloc HSZ.out _).grown hg3 (by have := HSZ.out; simp; omega) (fun r hr => (hls.out.lt r hr).1)))⟩
          case measure => simp [intOf]; omega
        · have HH : Hid (HoldS wr w.heap.size (.slice a1 (ls[k]).length c1) txt) := Lib.hid ⟨a1, c1, by rw [htl, Nat.min_eq_right (by omega)], hlow, by omega, by unfold maxLen; omega, ha1⟩
          generalize (ls[k]).length = N at f1 h60 hc1 htl HH
          clear hcc e1 l1 hlow ht htl ha1
          go_wp2_with (at_builtin; refine wpList_append_l rfl (.tmp 25) (.tmp 27) rfl w.heap.size _ (.slice a1 N c1) _ txt rfl (hls.out.alloc _) _ rfl (cell_one_new _ _ _) (HH.out.alloc _) hlen (by have := HSZ.out; simp; omega) ?_; intro v3 w3 hls3 hg3)
          go_roundw
          case rel => exact ⟨k + 1, by go_num, by omega, by omega, Lib.hid (by rw [fews_succ hkl, HT.out]; exact hls3), Lib.hid (hb.out.trans (((Below.refl _ _).alloc HSZ.out _).grown hg3 (by have := HSZ.out; simp; omega) (fun r hr => (hls.out.lt r hr).1)))⟩
          case measure => simp [intOf]; omega
      · go_wp2
        go_ret
        obtain rfl : k = 12 := by omega
        exact ⟨_, rfl, hls.out, hb.out⟩
    · go_wp2
      go_ret
      refine ⟨_, rfl, ?_, hb.out⟩
      have h1 : fews ls k = fews ls 12 := by
        unfold fews
        rw [List.take_of_length_le (by have := HN.out; omega), List.take_of_length_le (by have := HN.out; omega)]
      rw [← h1]
      exact hls.out
end Go.Proofs.YtbbdkghkdmaolaaDoor
