/-
  Identity matrices by the specification, which the call owns.
-/
import Derived.Test.YtinfjidclkgfnaaQRows
import Derived.Test.YtinfjidclkgfnaaQList
namespace Go.Proofs.Ytinfjidclkgfnaa
open Go.RowKit
def EIdeP (w : World) (n : Int) (e : Ending) (w' : World) : Prop := (n < 1 ∨ 64 < n → e = .returned (.slice none 0 0) ∧ w = w') ∧ (1 ≤ n ∧ n ≤ 64 → ∃ v, e = .returned v ∧ Lq w' w.heap.size w.heap.size v (idL n.toNat) ∧ Below w.heap.size w w')
theorem EIdeP.no {w : World} {n : Int} (h : n < 1 ∨ 64 < n) : EIdeP w n (.returned (.slice none 0 0)) w := ⟨fun _ => ⟨rfl, rfl⟩, fun h' => by omega⟩
attribute [local irreducible] matL rowF dl
set_option maxRecDepth 100000 in
set_option maxHeartbeats 1000000 in
theorem eident_any (n : Int) (w : World) (h0 : -9223372036854775808 ≤ n) (h1 : n ≤ 9223372036854775807) : Calls Try.prog 56 #[.int .i64 n] w (EIdeP w n) := by
  by_cases hn : n < 1
  · go_enter Try.func56, Try.ntmps56
    go_wp2
    go_ret
    exact EIdeP.no (.inl hn)
  by_cases hn2 : 64 < n
  · go_enter Try.func56, Try.ntmps56
    go_wp2
    go_ret
    exact EIdeP.no (.inr hn2)
  obtain ⟨N, rfl⟩ := Int.eq_ofNat_of_zero_le (show 0 ≤ n by omega)
  have HO1 := Lib.hid (OMv.made w (w.alloc (.cells #[] 33)).heap.size N dl)
  have HB1 := Lib.hid ((Below.refl w.heap.size w).alloc (Nat.le_refl _) (.cells #[] 33))
  go_enter Try.func56, Try.ntmps56
  go_wp2_with fail
  go_loopg [3, 4] N (fun gk vm vk wx => ∃ k : Nat, vk = .int .i64 k ∧ k + gk = N ∧ Hid (OMv wx w.heap.size wx.heap.size vm k N dl) ∧ Hid (Below w.heap.size w wx))
  case atStart => exact ⟨0, rfl, by omega, HO1, HB1⟩
  case round =>
    obtain ⟨k, rfl, hk, hO, HB⟩ := hrel
    cases gk with
    | zero =>
      have hlt : ¬ (k : Int) < (N : Int) := by omega
      obtain rfl : k = N := by omega
      go_wp2
      go_ret
      exact ⟨fun h => by omega, fun _ => ⟨_, rfl, by unfold idL; exact Lq.of_omv hO.out, HB.out⟩⟩
    | succ gk0 =>
      have hlt : (k : Int) < (N : Int) := by omega
      have hkN : k < N := by omega
      go_wp2_with (first
        | (at_make; refine wpList_make_row rfl (.tmp 18) (.tmp 18) rfl _ _ N rfl rfl rfl rfl (by omega) ?_; intro gb w2 hr2 hg2 hb2; have hc2 := hr2.cell k (by rw [List.length_replicate]; exact hkN); have hf2 := hr2.blk.frozen k; have HR2 := Lib.hid hr2; have HB2 := Lib.hid hb2; have HG2 := Lib.hid hg2; have HB3 := Lib.hid ((hb2.setCell (p := ⟨gb, k, none⟩) hg2 (.int .u8 1)).alloc (by simpa using hb2.size) (.cells #[.slice (some ⟨gb, 0, none⟩) N N] 33)); have HRO : Hid (Own ((w2.setCell ⟨gb, k, none⟩ (.int .u8 1)).alloc (.cells #[.slice (some ⟨gb, 0, none⟩) N N] 33)) wr.heap.size (.slice (some ⟨gb, 0, none⟩) N N) ((List.range N).map (dl k))) := Lib.hid (by have h := hr2.set_ k 1 1 rfl; rw [dl_row, rowF_def] at h; have h2 := h.below ((Below.refl _ _).alloc (Nat.le_refl _) (.cells #[.slice (some ⟨gb, 0, none⟩) N N] 33)) h.blk.lt; exact h2.own (n := N) hg2 (by simp) (by unfold maxLen; omega)); clear hr2 hg2 hb2)
        | (at_builtin; refine wpList_append_row rfl (.tmp 23) (.tmp 25) rfl w.heap.size u3 (.slice (some ⟨gb, 0, none⟩) N N) k N dl wr.heap.size rfl (hO.out.below HB3.out) _ rfl (cell_one_at _ _ _ _ (by simp)) HRO.out (by omega) HB.out.size (by omega) (Nat.le_trans HB.out.size HB3.out.size) ?_; intro v3 w3 ho3 hg3; have HO3 := Lib.hid ho3; have HB4 := Lib.hid ((hO.out.below HB3.out).below_lt (HB.out.trans (HB3.out.mono HB.out.size)) (Nat.le_trans HB.out.size HB3.out.size) hg3); clear ho3 hg3))
      go_roundg gk0
      case rel => exact ⟨k + 1, by go_num, by omega, HO3, HB4⟩
      case measure => omega
end Go.Proofs.Ytinfjidclkgfnaa
