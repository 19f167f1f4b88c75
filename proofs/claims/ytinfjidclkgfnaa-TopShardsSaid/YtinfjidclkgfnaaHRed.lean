/-
  The elimination of the program: what it leaves is in the reduced form.
-/
import Derived.Test.YtinfjidclkgfnaaHIso
namespace Go.Proofs.Ytinfjidclkgfnaa
open Go.RowKit
/-- what it leaves -/
def RedP (w : World) (B g r L C : Nat) (M0 : Nat → Nat → UInt8) (e : Ending) (w' : World) : Prop :=
  ∃ (R : Nat) (M : Nat → Nat → UInt8) (p : Nat → Nat), e = .returned (.int .i64 R) ∧ Reduced r L M0 M C R p ∧ Out w' B g r w'.heap.size (matL r L M) ∧ Below B w w'
attribute [local irreducible] matL rowF sc isoN divR pivoted sw
set_option maxRecDepth 100000 in
set_option maxHeartbeats 1000000 in
theorem reduce_any (B g D r L C : Nat) (M0 : Nat → Nat → UInt8) (w : World) (hO : Out w B g r D (matL r L M0)) (hr : r ≤ 1000) (hL : L ≤ 1000) (hC : C ≤ L) :
    Calls Try.prog 54 #[.slice (some ⟨g, 0, none⟩) r r, .int .i64 C] w (RedP w B g r L C M0) := by
  have HO := Lib.hid (hO.up w.heap.size hO.leD (Nat.le_refl _))
  clear hO
  go_enter Try.func54, Try.ntmps54
  go_wp2_with fail
  go_loopg [10] r (fun gk vk wx => ∃ k : Nat, vk = .int .i64 k ∧ k + gk = r ∧ Hid (∃ (j : Nat) (M : Nat → Nat → UInt8) (p : Nat → Nat), Reduced r L M0 M j k p ∧ j ≤ C ∧ k ≤ j ∧ Out wx B g r wx.heap.size (matL r L M)) ∧ Hid (Below B w wx))
  case atStart => exact ⟨0, rfl, by omega, Lib.hid ⟨0, M0, id, Reduced.start r L M0, by omega, by omega, HO.out⟩, Lib.hid (.refl _ _)⟩
  case round =>
    obtain ⟨k, rfl, hk, HS, hB⟩ := hrel
    cases gk with
    | zero =>
      have hlt : ¬ (k : Int) < (r : Int) := by omega
      obtain rfl : k = r := by omega
      go_wp2
      go_ret
      obtain ⟨j, M, p, h1, h2, _, h3⟩ := HS.out
      exact ⟨k, M, p, rfl, h1.full_any rfl C h2, h3, hB.out⟩
    | succ gk0 =>
      have hlt : (k : Int) < (r : Int) := by omega
      obtain ⟨j, M, p, hR, hj, hkj, hO⟩ := HS.out
      have HR := Lib.hid hR
      have HO2 := Lib.hid hO
      clear hR hO HS
      go_wp2_with fail
      refine (pivot_any B g r _ r L k C M _ HO2.out hr hL hC (by omega)).mono ?_
      rintro e w' ⟨a, c, rfl, hc1, hc2, hz, hne, rfl⟩
      have HZ := Lib.hid hz
      have HNE := Lib.hid hne
      clear hz hne
      by_cases hcC : c = C
      · have hcc : (c : Int) = (C : Int) := by omega
        have HF : Hid (Reduced r L M0 M C k p) := Lib.hid (HR.out.skip C hj fun q h1 h2 i h3 h4 => HZ.out q (by omega) (by omega) i h3 h4)
        go_wp2
        go_ret
        exact ⟨k, M, p, rfl, HF.out, HO2.out, hB.out⟩
      · have hcc : ¬ (c : Int) = (C : Int) := by omega
        obtain ⟨ha1, ha2, hne⟩ := HNE.out (by omega)
        have hjc : j ≤ c := by
          rcases Nat.lt_or_ge c j with h' | h'
          · exact absurd (HR.out.rest a ha1 ha2 c h') hne
          · exact h'
        have HF : Hid (Reduced r L M0 (pivoted k a c M) (c + 1) (k + 1) (fun t => if t = k then c else p t)) := Lib.hid ((HR.out.skip c hjc fun q h1 h2 i h3 h4 => HZ.out q (by omega) h2 i h3 h4).some (by omega) ha1 ha2 hne)
        have har : (a : Int) < (r : Int) := by omega
        clear hne HNE HZ HR
        go_upto_region 7 with fail
        go_cut [37] (fun _ wx => Hid (Out wx B g r wx.heap.size (matL r L fun i => M (sw a k i))) ∧ Hid (Below B w wx))
        case first =>
          obtain ⟨b1, off1, cap1, f1, -, hl1, g1, g2⟩ := HO2.out.elem k c (by omega) (by omega)
          obtain ⟨b2, off2, cap2, f2, -, hl2, g3, g4⟩ := HO2.out.elem a c ha2 (by omega)
          have HX : Hid (Out ((wr.setCell ⟨g, k, none⟩ (.slice (some ⟨b2, off2, none⟩) L cap2)).setCell ⟨g, a, none⟩ (.slice (some ⟨b1, off1, none⟩) L cap1)) B g r wr.heap.size (matL r L fun i => M (sw a k i)) ∧ Below B w ((wr.setCell ⟨g, k, none⟩ (.slice (some ⟨b2, off2, none⟩) L cap2)).setCell ⟨g, a, none⟩ (.slice (some ⟨b1, off1, none⟩) L cap1))) := Lib.hid (by
            have e1 := rowF_length L (M a)
            have e2 := rowF_length L (M k)
            have h1 := HO2.out.set_ k (by rw [matL_length]; omega) (some ⟨b2, off2, none⟩) (rowF L (M a)) cap2 hl2 (by rw [e1]; exact g3) g4 (fun h => by cases h)
            have hl1' : LieN (wr.setCell ⟨g, k, none⟩ (.slice (some ⟨b2, off2, none⟩) (rowF L (M a)).length cap2)) g wr.heap.size (some ⟨b1, off1, none⟩) (rowF L (M k)) := hl1.kept (Nat.le_refl _) fun b _ hb => Below.heap_setCell wr ⟨g, k, none⟩ _ b (by intro e; have e : b = g := e; omega)
            have h2 := h1.set_ a (by rw [List.length_set, matL_length]; omega) (some ⟨b1, off1, none⟩) (rowF L (M k)) cap1 hl1' (by rw [e2]; exact g1) g2 (fun h => by cases h)
            rw [swap_set r L a k M, e1, e2] at h2
            exact ⟨h2, (hB.out.setCell (p := ⟨g, k, none⟩) HO2.out.base _).setCell (p := ⟨g, a, none⟩) HO2.out.base _⟩)
          obtain ⟨u5, hu5⟩ : ∃ u, (wr.setCell ⟨g, k, none⟩ (.slice (some ⟨b2, off2, none⟩) L cap2)).cell? ⟨g, a, none⟩ = some u := by
            have e1 := rowF_length L (M a)
            have h1 := HO2.out.set_ k (by rw [matL_length]; omega) (some ⟨b2, off2, none⟩) (rowF L (M a)) cap2 hl2 (by rw [e1]; exact g3) g4 (fun h => by cases h)
            rw [e1] at h1
            exact h1.there a ha2
          have hz1 := HO2.out.frozen k
          have hz2 := HO2.out.frozen a
          clear hl1 hl2
          unfold maxLen at g2 g4
          go_region
          all_goals (go_wp2_with fail; go_meet; exact ⟨Lib.hid (by have h := HX.out.1.drew; simpa using h), Lib.hid HX.out.2.drew⟩)
        case rest =>
          obtain ⟨hO3, hB3⟩ := hcut
          clear HO2
          go_wp2_with fail
          refine (isolate_any B g _ r L k c _ _ hO3.out hr hL (by omega) (by omega)).mono ?_
          rintro e w4 ⟨rfl, hO4, hB4⟩
          have HO4 : Hid (Out w4 B g r w4.heap.size (matL r L (pivoted k a c M))) := Lib.hid (by rw [← iso_pivoted]; exact hO4)
          have HB4 := Lib.hid (hB3.out.trans hB4)
          clear hO4 hB4
          go_wp2
          go_roundg gk0
          case rel => exact ⟨k + 1, by go_num, by omega, Lib.hid ⟨c + 1, _, _, HF.out, by omega, by omega, HO4.out⟩, HB4⟩
          case measure => omega
end Go.Proofs.Ytinfjidclkgfnaa
