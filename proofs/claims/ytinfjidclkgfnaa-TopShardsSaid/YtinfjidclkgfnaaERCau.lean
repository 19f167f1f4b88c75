/-
  Cauchy matrices by the specification, which the call owns.
-/
import Derived.Test.YtinfjidclkgfnaaQRows
import Derived.Test.YtinfjidclkgfnaaQList
import Derived.Test.YtinfjidclkgfnaaQRef
namespace Go.Proofs.Ytinfjidclkgfnaa
open Go.RowKit
def ECauP (w : World) (r c : Int) (e : Ending) (w' : World) : Prop :=
  (r < 1 ∨ c < 1 ∨ 64 < r + c → e = .returned (.tuple #[.slice none 0 0, .bool false]) ∧ w = w') ∧
  (1 ≤ r ∧ 1 ≤ c ∧ r + c ≤ 64 → ∃ v, e = .returned (.tuple #[v, .bool true]) ∧ Lq w' w.heap.size w.heap.size v (cauL r.toNat c.toNat) ∧ Below w.heap.size w w')
theorem ECauP.no {w : World} {r c : Int} (h : r < 1 ∨ c < 1 ∨ 64 < r + c) : ECauP w r c (.returned (.tuple #[.slice none 0 0, .bool false])) w := ⟨fun _ => ⟨rfl, rfl⟩, fun h' => by omega⟩
attribute [local irreducible] matL rowF progF cauF invU
set_option maxRecDepth 100000 in
set_option maxHeartbeats 1000000 in
theorem ecauchy_any (r c : Int) (w : World) (h0 : -9223372036854775808 ≤ r) (h1 : r ≤ 9223372036854775807) (h2 : -9223372036854775808 ≤ c) (h3 : c ≤ 9223372036854775807) : Calls Try.prog 57 #[.int .i64 r, .int .i64 c] w (ECauP w r c) := by
  by_cases hr : r < 1
  · go_enter Try.func57, Try.ntmps57
    go_wp2
    go_ret2
    exact ECauP.no (.inl hr)
  by_cases hc : c < 1
  · go_enter Try.func57, Try.ntmps57
    go_wp2
    go_ret2
    exact ECauP.no (.inr (.inl hc))
  by_cases hr2 : 64 < r
  · go_enter Try.func57, Try.ntmps57
    go_wp2
    go_ret2
    exact ECauP.no (.inr (.inr (by omega)))
  by_cases hc2 : 64 < c
  · go_enter Try.func57, Try.ntmps57
    go_wp2
    go_ret2
    exact ECauP.no (.inr (.inr (by omega)))
  have hwr : IntKind.i64.wrap (r + c) = r + c := by rw [IntKind.wrap_i64]; omega
  by_cases hs : 64 < r + c
  · go_enter Try.func57, Try.ntmps57
    go_wp2
    go_ret2
    exact ECauP.no (.inr (.inr hs))
  obtain ⟨n, rfl⟩ := Int.eq_ofNat_of_zero_le (show 0 ≤ r by omega)
  obtain ⟨m, rfl⟩ := Int.eq_ofNat_of_zero_le (show 0 ≤ c by omega)
  have HO1 := Lib.hid (OMv.made w (w.alloc (.cells #[] 33)).heap.size m (cauF m))
  have HB1 := Lib.hid ((Below.refl w.heap.size w).alloc (Nat.le_refl _) (.cells #[] 33))
  go_enter Try.func57, Try.ntmps57
  go_wp2_with fail
  go_loopg [6, 7] n (fun gk vm vk wx => ∃ k : Nat, vk = .int .i64 k ∧ k + gk = n ∧ Hid (OMv wx w.heap.size wx.heap.size vm k m (cauF m)) ∧ Hid (Below w.heap.size w wx))
  case atStart => exact ⟨0, rfl, by omega, HO1, HB1⟩
  case round =>
    obtain ⟨k, rfl, hk, hO, HB⟩ := hrel
    cases gk with
    | zero =>
      have hlt : ¬ (k : Int) < (n : Int) := by omega
      obtain rfl : k = n := by omega
      go_wp2
      go_ret2
      exact ⟨fun h => by omega, fun _ => ⟨_, rfl, by rw [cauL_eq]; exact Lq.of_omv hO.out, HB.out⟩⟩
    | succ gk0 =>
      have hlt : (k : Int) < (n : Int) := by omega
      have hkN : k < n := by omega
      obtain ⟨W0, HW0⟩ : ∃ W0 : World, Hid (W0 = wr) := ⟨_, Lib.hid rfl⟩
      have HO0 : Hid (OMv W0 w.heap.size W0.heap.size u6 k m (cauF m)) := Lib.hid (by rw [HW0.out]; exact hO.out)
      have HB0 : Hid (Below w.heap.size w W0) := Lib.hid (by rw [HW0.out]; exact HB.out)
      go_wp2_with (at_make; refine wpList_make_row rfl (.tmp 36) (.tmp 36) rfl _ _ m rfl rfl rfl rfl (by omega) ?_; intro gb w2 hr2 hg2 hb2; rw [← HW0.out] at hg2 hb2; have HR2 := Lib.hid hr2; have HB2 := Lib.hid hb2; have HG2 := Lib.hid hg2; clear hr2 hg2 hb2)
      go_loopg [9] m (fun gj vj wx => ∃ j : Nat, vj = .int .i64 j ∧ j + gj = m ∧ Hid (Rowu wx gb (progF m j (cauF m k))) ∧ Hid (Below W0.heap.size W0 wx))
      case atStart => exact ⟨0, rfl, by omega, by rw [progF_zero]; exact HR2, HB2⟩
      case round =>
        obtain ⟨j, rfl, hj, hR4, hB4⟩ := hrel
        cases gk with
        | zero =>
          have hlt2 : ¬ (j : Int) < (m : Int) := by omega
          obtain rfl : j = m := by omega
          have HB5 : Hid (Below W0.heap.size W0 (wr.alloc (.cells #[.slice (some ⟨gb, 0, none⟩) j j] 33))) := Lib.hid (hB4.out.alloc hB4.out.size _)
          have HRO : Hid (Own (wr.alloc (.cells #[.slice (some ⟨gb, 0, none⟩) j j] 33)) W0.heap.size (.slice (some ⟨gb, 0, none⟩) j j) ((List.range j).map (cauF j k))) := Lib.hid (by
            have h := hR4.out.below ((Below.refl wr.heap.size wr).alloc (Nat.le_refl _) (.cells #[.slice (some ⟨gb, 0, none⟩) j j] 33)) hR4.out.blk.lt
            rw [progF_end, rowF_def] at h
            exact h.own (n := j) HG2.out (by simp) (by unfold maxLen; omega))
          go_wp2_with (at_builtin; refine wpList_append_row rfl (.tmp 53) (.tmp 55) rfl w.heap.size u6 (.slice (some ⟨gb, 0, none⟩) j j) k j (cauF j) W0.heap.size rfl (HO0.out.below HB5.out) _ rfl (cell_one_at _ _ _ _ (by simp)) HRO.out (by omega) HB0.out.size (by omega) (Nat.le_trans HB0.out.size HB5.out.size) ?_; intro v3 w3 ho3 hg3; have HO3 := Lib.hid ho3; have HB6 := Lib.hid ((HO0.out.below HB5.out).below_lt (HB0.out.trans (HB5.out.mono HB0.out.size)) (Nat.le_trans HB0.out.size HB5.out.size) hg3); clear ho3 hg3)
          go_roundg gk0
          case rel => exact ⟨k + 1, by go_num, by omega, HO3, HB6⟩
          case measure => omega
        | succ gj0 =>
          have hlt2 : (j : Int) < (m : Int) := by omega
          have hjm : j < (progF m j (cauF m k)).length := by rw [progF_length]; omega
          have hc5 := hR4.out.cell j hjm
          have hf5 := hR4.out.blk.frozen j
          have hx0 : IntKind.i64.wrap ((m : Int) + (k : Int)) = (m : Int) + (k : Int) := by rw [IntKind.wrap_i64]; omega
          have hxz : (m + k) ^^^ j < 2 ^ 7 := Nat.xor_lt_two_pow (by omega) (by omega)
          obtain ⟨Z, hZ⟩ : ∃ Z, Z = (m + k) ^^^ j := ⟨_, rfl⟩
          have hx1 : bits .xor .i64 ((m : Int) + (k : Int)) (j : Int) = (Z : Int) := by
            rw [hZ, ← i64_xor _ _ (by omega) (by omega), Int.natCast_add]
          rw [← hZ] at hxz
          have hx2 : IntKind.u8.wrap (Z : Int) = ev (UInt8.ofNat Z) := by
            rw [← ev_lit Z (by omega), IntKind.wrap_u8]; omega
          have HF : Hid (invU (UInt8.ofNat Z) = cauF m k j) := Lib.hid (by rw [hZ]; unfold cauF; rfl)
          have HN := Lib.hid (progF_next m j (cauF m k))
          have HX : Hid (Rowu (wr.setCell ⟨gb, j, none⟩ (.int .u8 (ev (cauF m k j)))) gb (progF m (j + 1) (cauF m k))) := Lib.hid (by
            have h := hR4.out.set_ j (ev (cauF m k j)) (cauF m k j) (ev_nat _)
            rwa [HN.out] at h)
          have HB5 := Lib.hid (hB4.out.setCell (p := ⟨gb, j, none⟩) HG2.out (.int .u8 (ev (cauF m k j))))
          generalize UInt8.ofNat Z = X at hx2 HF
          clear hZ
          go_wp2_with fail
          refine (rinv_any _ _).mono ?_
          rintro e w' ⟨rfl, rfl⟩
          rw [HF.out]
          go_wp2
          go_roundg gj0
          case rel => exact ⟨j + 1, by go_num, by omega, HX, HB5⟩
          case measure => omega
end Go.Proofs.Ytinfjidclkgfnaa
