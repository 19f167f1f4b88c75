/-
  The statement MerkleHashes.
-/
import Derived.Test.YtgnidlhijmageaaNAwake
import Derived.Test.YtgnidlhijmageaaNBlocks
import Derived.Test.YtgnidlhijmageaaNRBlocks
import Derived.Test.YtgnidlhijmageaaNSame
namespace Go.Proofs.Ytgnidlhijmageaa
open Go.RowKit
attribute [local irreducible] accU fnv basis byteU beU hashU nodeU spl proI preI verI extI leafU
theorem blk_len (s : Nat) (N : Nat) : ∀ (xs : List UInt8), xs.length ≤ N → (partsF s xs).length ≤ xs.length := by
  induction N with
  | zero => intro xs h; rw [parts_nil s xs (by omega)]; simp
  | succ N ih =>
    intro xs h
    by_cases hx : 1 ≤ s ∧ 0 < xs.length
    · rw [parts_cons s xs hx.1 hx.2]
      have := ih (xs.drop s) (by rw [List.length_drop]; omega)
      rw [List.length_drop] at this
      simp only [List.length_cons]; omega
    · rw [partsF, dif_neg hx]; simp
theorem blkU_len (xs : List UInt8) (size : Int) : (blkU xs size).length ≤ xs.length := by
  unfold blkU
  split
  · simp
  · rw [List.length_map]; exact blk_len _ xs.length xs (Nat.le_refl _)
set_option maxRecDepth 100000 in
set_option maxHeartbeats 1000000 in
theorem law_hashes (ad : Option Addr) (cap : Nat) (xs : List UInt8) (size : Int) (x : UInt64) (w : World) (hl : Lie w ad xs) (hc : xs.length ≤ cap) (hm : cap ≤ maxLen) (ha : ad = none → cap = 0) (s1 : size ≤ 9223372036854775807) :
    Calls Try.prog 3 #[.slice ad xs.length cap, .int .i64 size, .int .u64 (gv x)] w fun e w' => e = .returned (.bool true) ∧ Below w.heap.size w w' := by
  obtain ⟨n, hn⟩ : ∃ n, n = xs.length := ⟨_, rfl⟩
  rw [← hn] at hc ⊢
  have HL := Lib.hid hl
  have HN := Lib.hid hn
  have HM := Lib.hid hm
  have HA := Lib.hid ha
  have HBL := Lib.hid (blkU_len xs size)
  unfold maxLen at hm
  clear hl hn ha
  by_cases h : 4096 < n
  · have h2 : (4096 : Int) < (n : Int) := by omega
    go_enter Try.func3, Try.ntmps3
    go_wp2_with fail
    refine (awake_any _).mono ?_
    rintro e w2 ⟨rfl, hb⟩
    have HB := Lib.hid hb
    clear hb
    go_wp2
    go_ret
    exact ⟨rfl, HB.out⟩
  · have h2 : (n : Int) ≤ 4096 := by omega
    go_enter Try.func3, Try.ntmps3
    go_wp2_with fail
    refine (leaf_any ad n cap xs _ HL.out HN.out (by omega)).mono ?_
    rintro e w' ⟨rfl, rfl⟩
    go_wp2_with fail
    refine (rleaf_any ad n cap xs _ HL.out HN.out HA.out (by omega)).mono ?_
    rintro e w2 ⟨rfl, hb⟩
    have HB := Lib.hid hb
    clear hb
    generalize hy : leafU xs = y
    have HY := Lib.hid hy
    clear hy
    go_wp2_with fail
    refine (leaf_any ad n cap xs _ (HL.out.below HB.out rfl) HN.out (by omega)).mono ?_
    rintro e w' ⟨rfl, rfl⟩
    rw [HY.out]
    go_wp2_with fail
    refine (node_any x y _).mono ?_
    rintro e w3 ⟨rfl, hb⟩
    replace HB := Lib.hid (HB.out.trans (hb.mono HB.out.size))
    clear hb
    go_wp2_with fail
    refine (rleaf_any ad n cap xs _ (HL.out.below HB.out rfl) HN.out HA.out (by omega)).mono ?_
    rintro e w4 ⟨rfl, hb⟩
    replace HB := Lib.hid (HB.out.trans (hb.mono HB.out.size))
    rw [HY.out]
    clear hb
    go_wp2_with fail
    refine (rnode_any x y _).mono ?_
    rintro e w5 ⟨rfl, hb⟩
    replace HB := Lib.hid (HB.out.trans (hb.mono HB.out.size))
    clear hb
    generalize nodeU x y = z
    go_wp2_with fail
    refine (blocks_any ad n cap xs size _ (HL.out.below HB.out rfl) HN.out (by omega) hc HM.out s1).mono ?_
    rintro e w6 ⟨v, rfl, ho, hb⟩
    have HO := Lib.hid ho
    replace HB := Lib.hid (HB.out.trans (hb.mono HB.out.size))
    clear ho hb
    go_wp2_with fail
    refine (rblocks_any ad n cap xs size _ (HL.out.below HB.out rfl) HN.out (by omega) hc HM.out s1).mono ?_
    rintro e w7 ⟨v2, rfl, ho2, hb⟩
    replace HO := Lib.hid (HO.out.below hb)
    replace HB := Lib.hid (HB.out.trans (hb.mono HB.out.size))
    generalize blkU xs size = ps at HO ho2 HBL
    obtain ⟨ad1, cap1, e1, hl1, -⟩ := HO.out.slice
    obtain ⟨ad2, cap2, e2, hl2, -⟩ := ho2.slice
    obtain ⟨m, hmm⟩ : ∃ m, m = ps.length := ⟨_, rfl⟩
    rw [← hmm] at e1 e2
    have hm8 : m ≤ 1000000 := by have := HBL.out; have := HN.out; omega
    subst e1 e2
    have HL1 := Lib.hid hl1
    have HL2 := Lib.hid hl2
    have HMM := Lib.hid hmm
    clear hl1 hl2 hmm ho2 hb HO
    go_wp2_with fail
    refine (same_any ad1 ad2 m cap1 cap2 ps _ HL1.out HL2.out HMM.out hm8).mono ?_
    rintro e w8 ⟨rfl, hb⟩
    replace HB := Lib.hid (HB.out.trans (hb.mono HB.out.size))
    clear hb
    go_wp2_with fail
    refine (awake_any _).mono ?_
    rintro e w9 ⟨rfl, hb⟩
    replace HB := Lib.hid (HB.out.trans (hb.mono HB.out.size))
    clear hb
    go_wp2
    go_ret
    exact ⟨rfl, HB.out⟩
end Go.Proofs.Ytgnidlhijmageaa
