/-
  The statements MerklePrefixes and MerkleGrows.
-/
import Derived.Test.YtgnidlhijmageaaNLaw2
namespace Go.Proofs.Ytgnidlhijmageaa
open Go.RowKit
theorem grow_one (xs : List UInt64) (m n : Nat) (h1 : 1 ≤ m) (h2 : m ≤ n) (h3 : n ≤ xs.length) : extI (rootU (xs.take m)) (rootU (xs.take n)) m n (linkU (xs.take n) m true) = true := by
  have hl : (xs.take n).length = n := by rw [List.length_take]; omega
  have h := pre_ext (xs.take n) m h1 (by omega)
  rw [List.take_take, Nat.min_eq_left h2, hl] at h
  exact h
theorem link9 (xs : List UInt64) (m : Nat) (f : Bool) (h : xs.length ≤ 200) : (linkU xs m f).length ≤ 9 := link_length 8 xs m f (Nat.le_trans h (by decide))
attribute [local irreducible] accU fnv basis byteU beU hashU nodeU spl proI preI verI extI leafU
set_option maxRecDepth 100000 in
set_option maxHeartbeats 2000000 in
theorem law_prefixes (ad : Option Addr) (cap : Nat) (xs : List UInt64) (i : Int) (w : World) (hl : Lin w ad xs) (hc : xs.length ≤ cap) (hm : cap ≤ maxLen) (i0 : -9223372036854775808 ≤ i) (i1 : i ≤ 9223372036854775807) :
    Calls Try.prog 7 #[.slice ad xs.length cap, .int .i64 i] w fun e w' => e = .returned (.bool true) ∧ Below w.heap.size w w' := by
  obtain ⟨n, hn⟩ : ∃ n, n = xs.length := ⟨_, rfl⟩
  rw [← hn] at hc ⊢
  have HL := Lib.hid hl
  have HN := Lib.hid hn
  have HM := Lib.hid hm
  unfold maxLen at hm
  clear hl
  by_cases h : 200 < n
  · have h2 : (200 : Int) < (n : Int) := by omega
    clear hn
    go_enter Try.func7, Try.ntmps7
    go_wp2_with fail
    refine (awake_any _).mono ?_
    rintro e w2 ⟨rfl, hb⟩
    have HB := Lib.hid hb
    clear hb
    go_wp2
    go_ret
    exact ⟨rfl, HB.out⟩
  have h2 : (n : Int) ≤ 200 := by omega
  by_cases hi : 1 ≤ i ∧ i ≤ n
  · obtain ⟨k, rfl⟩ := Int.eq_ofNat_of_zero_le (show 0 ≤ i by omega)
    have hk : k ≤ n := by omega
    have HP := Lib.hid (preI_yes xs k (by omega) (by omega))
    have HV := Lib.hid (pre_ext xs k (by omega) (by omega))
    rw [← hn] at HV
    obtain ⟨b, off, rfl, hb, -⟩ := HL.out.get (by omega)
    have HLEN := Lib.hid (link9 xs k true (by omega))
    have HL1 := Lib.hid (HL.out.take k)
    have HK : Hid (k = (xs.take k).length) := Lib.hid (by rw [List.length_take]; omega)
    have hk0 : (0 : Int) ≤ (k : Int) := by omega
    have hk1 : (k : Int) ≤ (n : Int) := by omega
    have hk2 : (k : Int) ≤ (cap : Int) := by omega
    have hkc : k ≤ cap := by omega
    clear hn hb hi
    go_enter Try.func7, Try.ntmps7
    go_wp2_with fail
    refine (prefix_any xs _ n cap k _ HL.out HN.out (by omega) hc HM.out).mono ?_
    rintro e w2 ⟨v, rfl, ho, hb⟩
    rw [HP.out] at ho ⊢
    have HO := Lib.hid ho
    have HB := Lib.hid hb
    clear ho hb
    dsimp only
    go_wp2_with fail
    refine (rprefix_any xs _ n cap k _ (HL.out.below HB.out rfl) HN.out (by omega) hc HM.out).mono ?_
    rintro e w3 ⟨v2, rfl, ho2, hb⟩
    rw [HP.out] at ho2 ⊢
    replace HO := Lib.hid (HO.out.below hb)
    replace HB := Lib.hid (HB.out.trans (hb.mono HB.out.size))
    dsimp only at HO ho2 ⊢
    generalize linkU xs k true = ps at HO ho2 HV HLEN HP
    obtain ⟨ad1, cap1, e1, hl1, hc1, hm1, -⟩ := HO.out.slice
    obtain ⟨ad2, cap2, e2, hl2, -⟩ := ho2.slice
    obtain ⟨m, hmm⟩ : ∃ m, m = ps.length := ⟨_, rfl⟩
    rw [← hmm] at e1 e2 hc1 HLEN
    subst e1 e2
    have HLA := Lib.hid hl1
    have HLB := Lib.hid hl2
    have HMM := Lib.hid hmm
    have hm8 := HLEN.out
    have HCM := Lib.hid hm1
    clear hl1 hl2 hmm ho2 hb HO hm1
    go_wp2_with fail
    refine (same_any ad1 ad2 m cap1 cap2 ps _ HLA.out HLB.out HMM.out (by omega)).mono ?_
    rintro e w4 ⟨rfl, hb⟩
    replace HLA := Lib.hid (HLA.out.below hb rfl)
    replace HB := Lib.hid (HB.out.trans (hb.mono HB.out.size))
    clear hb HLB
    go_wp2_with fail
    refine (root_go _ (xs.take k) (some ⟨b, off, none⟩) k cap _ (Nat.le_refl _) (HL1.out.below HB.out rfl) HK.out (by omega) hkc HM.out).mono ?_
    rintro e w5 ⟨rfl, hb⟩
    replace HLA := Lib.hid (HLA.out.below hb rfl)
    replace HB := Lib.hid (HB.out.trans (hb.mono HB.out.size))
    clear hb
    go_wp2_with fail
    refine (root_go _ xs (some ⟨b, off, none⟩) n cap _ (Nat.le_refl _) (HL.out.below HB.out rfl) HN.out (by omega) hc HM.out).mono ?_
    rintro e w6 ⟨rfl, hb⟩
    replace HLA := Lib.hid (HLA.out.below hb rfl)
    replace HB := Lib.hid (HB.out.trans (hb.mono HB.out.size))
    clear hb
    generalize rootU (xs.take k) = r1 at HV ⊢
    generalize rootU xs = r2 at HV ⊢
    go_wp2_with fail
    refine (extends_any r1 r2 k n ps ad1 m cap1 _ HLA.out HMM.out (by omega) hc1 HCM.out (by omega) (by omega) (by omega) (by omega)).mono ?_
    rintro e w7 ⟨rfl, hb⟩
    rw [HV.out]
    replace HB := Lib.hid (HB.out.trans (hb.mono HB.out.size))
    clear hb
    go_wp2_with fail
    refine (awake_any _).mono ?_
    rintro e w8 ⟨rfl, hb⟩
    replace HB := Lib.hid (HB.out.trans (hb.mono HB.out.size))
    clear hb
    go_wp2
    go_ret
    exact ⟨rfl, HB.out⟩
  · have HP := Lib.hid (preI_no xs i (by rw [← hn]; exact hi))
    clear hn hi
    go_enter Try.func7, Try.ntmps7
    go_wp2_with fail
    refine (prefix_any xs _ n cap i _ HL.out HN.out (by omega) hc HM.out).mono ?_
    rintro e w2 ⟨v, rfl, ho, hb⟩
    rw [HP.out] at ho ⊢
    have HO := Lib.hid ho
    have HB := Lib.hid hb
    clear ho hb
    dsimp only
    go_wp2_with fail
    refine (rprefix_any xs _ n cap i _ (HL.out.below HB.out rfl) HN.out (by omega) hc HM.out).mono ?_
    rintro e w3 ⟨v2, rfl, ho2, hb⟩
    rw [HP.out] at ho2 ⊢
    replace HO := Lib.hid (HO.out.below hb)
    replace HB := Lib.hid (HB.out.trans (hb.mono HB.out.size))
    dsimp only at HO ho2 ⊢
    obtain ⟨ad1, cap1, e1, hl1, -⟩ := HO.out.slice
    obtain ⟨ad2, cap2, e2, hl2, -⟩ := ho2.slice
    rw [List.length_nil] at e1 e2
    subst e1 e2
    have HL1 := Lib.hid hl1
    have HL2 := Lib.hid hl2
    clear hl1 hl2 ho2 hb HO
    go_wp2_with fail
    refine (same_any ad1 ad2 0 cap1 cap2 [] _ HL1.out HL2.out rfl (by omega)).mono ?_
    rintro e w4 ⟨rfl, hb⟩
    replace HB := Lib.hid (HB.out.trans (hb.mono HB.out.size))
    clear hb HL1 HL2
    go_wp2_with fail
    refine (awake_any _).mono ?_
    rintro e w8 ⟨rfl, hb⟩
    replace HB := Lib.hid (HB.out.trans (hb.mono HB.out.size))
    clear hb
    go_wp2
    go_ret
    exact ⟨rfl, HB.out⟩
end Go.Proofs.Ytgnidlhijmageaa
