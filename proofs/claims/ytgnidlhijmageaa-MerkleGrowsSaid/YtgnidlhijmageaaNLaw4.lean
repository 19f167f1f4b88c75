/-
  The statement MerkleGrows.
-/
import Derived.Test.YtgnidlhijmageaaNLaw3
namespace Go.Proofs.Ytgnidlhijmageaa
open Go.RowKit
attribute [local irreducible] accU fnv basis byteU beU hashU nodeU spl proI preI verI extI leafU
set_option maxRecDepth 100000 in
set_option maxHeartbeats 1000000 in
theorem grows_out (ad : Option Addr) (n cap : Nat) (m k : Int) (w : World) (h : 200 < n ∨ m < 1 ∨ k < m ∨ (n : Int) < k) :
    Calls Try.prog 9 #[.slice ad n cap, .int .i64 m, .int .i64 k] w fun e w' => e = .returned (.bool true) ∧ Below w.heap.size w w' := by
  by_cases h1 : (200 : Int) < (n : Int)
  · clear h
    go_enter Try.func9, Try.ntmps9
    go_wp2_with fail
    refine (awake_any _).mono ?_
    rintro e w2 ⟨rfl, hb⟩
    have HB := Lib.hid hb
    clear hb
    go_wp2
    go_ret
    exact ⟨rfl, HB.out⟩
  by_cases h2 : m < 1
  · clear h
    go_enter Try.func9, Try.ntmps9
    go_wp2_with fail
    refine (awake_any _).mono ?_
    rintro e w2 ⟨rfl, hb⟩
    have HB := Lib.hid hb
    clear hb
    go_wp2
    go_ret
    exact ⟨rfl, HB.out⟩
  by_cases h3 : k < m
  · clear h
    go_enter Try.func9, Try.ntmps9
    go_wp2_with fail
    refine (awake_any _).mono ?_
    rintro e w2 ⟨rfl, hb⟩
    have HB := Lib.hid hb
    clear hb
    go_wp2
    go_ret
    exact ⟨rfl, HB.out⟩
  have h4 : (n : Int) < k := by omega
  clear h
  go_enter Try.func9, Try.ntmps9
  go_wp2_with fail
  refine (awake_any _).mono ?_
  rintro e w2 ⟨rfl, hb⟩
  have HB := Lib.hid hb
  clear hb
  go_wp2
  go_ret
  exact ⟨rfl, HB.out⟩
set_option maxRecDepth 100000 in
set_option maxHeartbeats 4000000 in
theorem grows_in (b off n cap m k : Nat) (xs : List UInt64) (w : World) (hl : Lin w (some ⟨b, off, none⟩) xs) (hn : n = xs.length) (hs : n ≤ 200) (hc : n ≤ cap) (hm : cap ≤ maxLen) (h1 : 1 ≤ m) (h2 : m ≤ k) (h3 : k ≤ n) :
    Calls Try.prog 9 #[.slice (some ⟨b, off, none⟩) n cap, .int .i64 m, .int .i64 k] w fun e w' => e = .returned (.bool true) ∧ Below w.heap.size w w' := by
  have hml : cap ≤ 9223372036854775807 := by unfold maxLen at hm; omega
  have HL := Lib.hid hl
  have HN := Lib.hid hn
  have HM := Lib.hid hm
  have HLK := Lib.hid (hl.take k)
  have HLM := Lib.hid (hl.take m)
  have HK : Hid (k = (xs.take k).length) := Lib.hid (by rw [List.length_take]; omega)
  have HMK : Hid (m = (xs.take m).length) := Lib.hid (by rw [List.length_take]; omega)
  have HA := Lib.hid (preI_yes (xs.take k) m h1 (by rw [List.length_take]; omega))
  have HBp := Lib.hid (preI_yes xs k (by omega) (by omega))
  have HC := Lib.hid (preI_yes xs m h1 (by omega))
  have HV1 := Lib.hid (grow_one xs m k h1 h2 (by omega))
  have HV2 := Lib.hid (pre_ext xs k (by omega) (by omega))
  have HV3 := Lib.hid (pre_ext xs m h1 (by omega))
  rw [← hn] at HV2 HV3
  have HE1 := Lib.hid (link9 (xs.take k) m true (by rw [List.length_take]; omega))
  have HE2 := Lib.hid (link9 xs k true (by omega))
  have HE3 := Lib.hid (link9 xs m true (by omega))
  have g1 : ¬ (200 : Int) < (n : Int) := by omega
  have g2 : (1 : Int) ≤ (m : Int) := by omega
  have g3 : (m : Int) ≤ (k : Int) := by omega
  have g4 : (k : Int) ≤ (n : Int) := by omega
  have g5 : (k : Int) ≤ (cap : Int) := by omega
  have g6 : (m : Int) ≤ (cap : Int) := by omega
  have g7 : (0 : Int) ≤ (k : Int) := by omega
  have g8 : (0 : Int) ≤ (m : Int) := by omega
  have g9 : (m : Int) ≤ (n : Int) := by omega
  clear hl hn hm
  go_enter Try.func9, Try.ntmps9
  go_wp2_with fail
  refine (prefix_any (xs.take k) _ k cap m _ HLK.out HK.out (by omega) (by omega) HM.out).mono ?_
  rintro e w2 ⟨v1, rfl, ho, hb⟩
  rw [HA.out] at ho ⊢
  have HB := Lib.hid hb
  dsimp only at ho ⊢
  obtain ⟨a1, c1, e1, hl1, hc1, hm1, -⟩ := ho.slice
  obtain ⟨n1, hn1⟩ : ∃ n, n = (linkU (xs.take k) m true).length := ⟨_, rfl⟩
  rw [← hn1] at e1 hc1
  have hb1 : n1 ≤ 9 := by have := HE1.out; omega
  subst e1
  have HL1 := Lib.hid hl1
  have HM1 := Lib.hid hm1
  have HN1 := Lib.hid hn1
  clear ho hb hl1 hm1 hn1
  go_wp2_with fail
  refine (prefix_any xs _ n cap k _ (HL.out.below HB.out rfl) HN.out (by omega) hc HM.out).mono ?_
  rintro e w3 ⟨v2, rfl, ho, hb⟩
  rw [HBp.out] at ho ⊢
  replace HL1 := Lib.hid (HL1.out.below hb rfl)
  replace HB := Lib.hid (HB.out.trans (hb.mono HB.out.size))
  dsimp only at ho ⊢
  obtain ⟨a2, c2, e2, hl2, hc2, hm2, -⟩ := ho.slice
  obtain ⟨n2, hn2⟩ : ∃ n, n = (linkU xs k true).length := ⟨_, rfl⟩
  rw [← hn2] at e2 hc2
  have hb2 : n2 ≤ 9 := by have := HE2.out; omega
  subst e2
  have HL2 := Lib.hid hl2
  have HM2 := Lib.hid hm2
  have HN2 := Lib.hid hn2
  clear ho hb hl2 hm2 hn2
  go_wp2_with fail
  refine (prefix_any xs _ n cap m _ (HL.out.below HB.out rfl) HN.out (by omega) hc HM.out).mono ?_
  rintro e w4 ⟨v3, rfl, ho, hb⟩
  rw [HC.out] at ho ⊢
  replace HL1 := Lib.hid (HL1.out.below hb rfl)
  replace HL2 := Lib.hid (HL2.out.below hb rfl)
  replace HB := Lib.hid (HB.out.trans (hb.mono HB.out.size))
  dsimp only at ho ⊢
  obtain ⟨a3, c3, e3, hl3, hc3, hm3, -⟩ := ho.slice
  obtain ⟨n3, hn3⟩ : ∃ n, n = (linkU xs m true).length := ⟨_, rfl⟩
  rw [← hn3] at e3 hc3
  have hb3 : n3 ≤ 9 := by have := HE3.out; omega
  subst e3
  have HL3 := Lib.hid hl3
  have HM3 := Lib.hid hm3
  have HN3 := Lib.hid hn3
  clear ho hb hl3 hm3 hn3 HE1 HE2 HE3 HA HBp HC
  have HR : Hid (Below w4.heap.size w4 w4.drew) := Lib.hid ((Below.refl _ _).drew)
  have HT1 : Hid (∀ W, Below w4.heap.size w4 W → Calls Try.prog 18 #[.slice (some ⟨b, off, none⟩) m cap] W (GivesH W (rootU (xs.take m)))) := Lib.hid fun W hW => root_go _ (xs.take m) _ m cap W (Nat.le_refl _) (HLM.out.below (HB.out.trans (hW.mono HB.out.size)) rfl) HMK.out (by omega) (by omega) HM.out
  have HT2 : Hid (∀ W, Below w4.heap.size w4 W → Calls Try.prog 18 #[.slice (some ⟨b, off, none⟩) k cap] W (GivesH W (rootU (xs.take k)))) := Lib.hid fun W hW => root_go _ (xs.take k) _ k cap W (Nat.le_refl _) (HLK.out.below (HB.out.trans (hW.mono HB.out.size)) rfl) HK.out (by omega) (by omega) HM.out
  have HT3 : Hid (∀ W, Below w4.heap.size w4 W → Calls Try.prog 18 #[.slice (some ⟨b, off, none⟩) n cap] W (GivesH W (rootU xs))) := Lib.hid fun W hW => root_go _ xs _ n cap W (Nat.le_refl _) (HL.out.below (HB.out.trans (hW.mono HB.out.size)) rfl) HN.out (by omega) hc HM.out
  generalize linkU (xs.take k) m true = p1 at HL1 HN1 HV1
  generalize linkU xs k true = p2 at HL2 HN2 HV2
  generalize linkU xs m true = p3 at HL3 HN3 HV3
  generalize rootU (xs.take m) = r1 at HT1 HV1 HV3
  generalize rootU (xs.take k) = r2 at HT2 HV1 HV2
  generalize rootU xs = r3 at HT3 HV2 HV3
  clear HLK HLM HK HMK HL HN
  go_wp2_with fail
  go_region_with (first
    | (go_at_call 18; (with_reducible refine (HT1.out _ HR.out).mono ?_); rintro e w5 ⟨rfl, hb⟩; replace HR := Lib.hid (HR.out.trans (hb.mono HR.out.size)); clear hb)
    | (go_at_call 18; (with_reducible refine (HT2.out _ HR.out).mono ?_); rintro e w5 ⟨rfl, hb⟩; replace HR := Lib.hid (HR.out.trans (hb.mono HR.out.size)); clear hb)
    | (go_at_call 18; (with_reducible refine (HT3.out _ HR.out).mono ?_); rintro e w5 ⟨rfl, hb⟩; replace HR := Lib.hid (HR.out.trans (hb.mono HR.out.size)); clear hb))
  all_goals
    have HQ1 := Lib.hid (HL1.out.below HR.out rfl)
    have HQ2 := Lib.hid (HL2.out.below HR.out rfl)
    have HQ3 := Lib.hid (HL3.out.below HR.out rfl)
    clear HT1 HT2 HT3
    go_wp2_with fail
    refine (extends_any r1 r2 m k p1 a1 n1 c1 _ HQ1.out HN1.out (by omega) hc1 HM1.out (by omega) (by omega) (by omega) (by omega)).mono ?_
    rintro e w6 ⟨rfl, hb⟩
    rw [HV1.out]
    replace HQ2 := Lib.hid (HQ2.out.below hb rfl)
    replace HQ3 := Lib.hid (HQ3.out.below hb rfl)
    replace HR := Lib.hid (HR.out.trans (hb.mono HR.out.size))
    clear hb
    go_wp2_with fail
    refine (extends_any r2 r3 k n p2 a2 n2 c2 _ HQ2.out HN2.out (by omega) hc2 HM2.out (by omega) (by omega) (by omega) (by omega)).mono ?_
    rintro e w7 ⟨rfl, hb⟩
    rw [HV2.out]
    replace HQ3 := Lib.hid (HQ3.out.below hb rfl)
    replace HR := Lib.hid (HR.out.trans (hb.mono HR.out.size))
    clear hb
    go_wp2_with fail
    refine (extends_any r1 r3 m n p3 a3 n3 c3 _ HQ3.out HN3.out (by omega) hc3 HM3.out (by omega) (by omega) (by omega) (by omega)).mono ?_
    rintro e w8 ⟨rfl, hb⟩
    rw [HV3.out]
    replace HR := Lib.hid (HR.out.trans (hb.mono HR.out.size))
    clear hb
    go_wp2_with fail
    refine (awake_any _).mono ?_
    rintro e w9 ⟨rfl, hb⟩
    replace HR := Lib.hid (HR.out.trans (hb.mono HR.out.size))
    clear hb
    go_wp2
    go_ret
    exact ⟨rfl, HB.out.trans (HR.out.mono HB.out.size)⟩
theorem law_grows (ad : Option Addr) (cap : Nat) (xs : List UInt64) (i j : Int) (w : World) (hl : Lin w ad xs) (hc : xs.length ≤ cap) (hm : cap ≤ maxLen) (i0 : -9223372036854775808 ≤ i) (i1 : i ≤ 9223372036854775807) (j0 : -9223372036854775808 ≤ j) (j1 : j ≤ 9223372036854775807) :
    Calls Try.prog 9 #[.slice ad xs.length cap, .int .i64 i, .int .i64 j] w fun e w' => e = .returned (.bool true) ∧ Below w.heap.size w w' := by
  by_cases h : 200 < xs.length ∨ i < 1 ∨ j < i ∨ (xs.length : Int) < j
  · exact grows_out ad xs.length cap i j w h
  · obtain ⟨k, rfl⟩ := Int.eq_ofNat_of_zero_le (show 0 ≤ i by omega)
    obtain ⟨q, rfl⟩ := Int.eq_ofNat_of_zero_le (show 0 ≤ j by omega)
    obtain ⟨b, off, rfl, _, _⟩ := hl.get (by omega)
    exact grows_in b off xs.length cap k q xs w hl rfl (by omega) hc hm (by omega) (by omega) (by omega)
end Go.Proofs.Ytgnidlhijmageaa
