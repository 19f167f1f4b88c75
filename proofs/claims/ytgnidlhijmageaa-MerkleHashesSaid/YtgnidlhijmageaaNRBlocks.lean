/-
  The leaves of the parts of a string, by the specification.
-/
import Derived.Test.YtgnidlhijmageaaNBlkM
import Derived.Test.YtgnidlhijmageaaNRef
namespace Go.Proofs.Ytgnidlhijmageaa
open Go.RowKit
attribute [local irreducible] accU fnv basis byteU beU hashU leafU
set_option maxRecDepth 100000 in
set_option maxHeartbeats 1000000 in
theorem rblocks_any (ad : Option Addr) (n cap : Nat) (xs : List UInt8) (size : Int) (w : World) (hl : Lie w ad xs) (hn : n = xs.length) (hs : n ≤ 4096) (hc : n ≤ cap) (hcm : cap ≤ maxLen) (s1 : size ≤ 9223372036854775807) :
    Calls Try.prog 17 #[.slice ad n cap, .int .i64 size] w (GivesN w (blkU xs size)) := by
  unfold maxLen at hcm
  by_cases h0 : size < 1
  · have HE := Lib.hid (blkU_no xs size h0)
    clear hl hn
    go_enter Try.func17, Try.ntmps17
    go_wp2
    go_ret
    exact ⟨_, rfl, by rw [HE.out]; exact Onu.ofNil _ _, Below.refl _ _⟩
  obtain ⟨s, rfl⟩ := Int.eq_ofNat_of_zero_le (show 0 ≤ size by omega)
  have HS : Hid (1 ≤ s) := Lib.hid (by omega)
  have HE := Lib.hid (blkU_yes xs s HS.out)
  have HL := Lib.hid hl
  have HN := Lib.hid hn
  have hs1 : (1 : Int) ≤ (s : Int) := by omega
  clear hl hn h0
  go_enter Try.func17, Try.ntmps17
  go_wp2
  go_loopw [5, 6] (fun u5 u6 wr => ∃ (i : Nat) (l : List UInt64), i ≤ n ∧ u6 = .int .i64 i ∧ l.length ≤ i ∧ Hid (Onu wr w.heap.size u5 l) ∧ Hid (l ++ (partsF s (xs.drop i)).map leafU = (partsF s xs).map leafU) ∧ Hid (Below w.heap.size w wr)) (fun _ i _ => n - (intOf i).toNat)
  case atStart => exact ⟨0, [], by omega, rfl, by simp, Lib.hid (Onu.ofNil _ _), Lib.hid (by simp), Lib.hid (Below.refl _ _)⟩
  case round =>
    obtain ⟨i, l, hin, rfl, hli, ho, hp, hb⟩ := hrel
    by_cases hlt : i < n
    · have hix : i < xs.length := by have := HN.out; omega
      obtain ⟨c, hcc⟩ : ∃ c, c = min s (xs.length - i) := ⟨_, rfl⟩
      have HNX := Lib.hid (parts_next s i c xs HS.out hix hcc)
      have hcn : i + c ≤ n := by have := HN.out; omega
      have hc1 : 1 ≤ c := by have := HN.out; have := HS.out; omega
      have hcase : (c = s ∧ (s : Int) ≤ (n : Int) - (i : Int)) ∨ ((n : Int) - (i : Int) = (c : Int) ∧ (c : Int) < (s : Int)) := by have := HN.out; omega
      have HPL := Lib.hid (part_len i c xs (by have := HN.out; omega))
      obtain ⟨b, off, rfl, -⟩ := HL.out.ev (by omega)
      have HSUB := Lib.hid ((HL.out.below hb.out rfl).sub i c)
      have hj1 : (i : Int) < (n : Int) := by omega
      have hck : cap - i ≠ 0 := by omega
      have hck2 : ¬ cap = i := by omega
      have g1 : (i : Int) ≤ (cap : Int) := by omega
      have g2 : (i : Int) + (c : Int) ≤ (cap : Int) := by omega
      have hlen : l.length ≤ 1000000 := by omega
      have hic : i + c - i = c := by omega
      clear hcc
      have HPM : Hid (l ++ [leafU ((xs.drop i).take c)] ++ (partsF s (xs.drop (i + c))).map leafU = (partsF s xs).map leafU) := Lib.hid (by rw [← hp.out, HNX.out]; simp)
      generalize hps : (xs.drop i).take c = ps at HSUB HPL HPM
      clear hps HNX hp
      rcases hcase with ⟨hcs, hcl⟩ | ⟨hcs, hcl⟩
      all_goals
        first
          | (subst hcs)
          | skip
        go_wp2_with fail
        refine (rleaf_any _ c _ ps _ HSUB.out HPL.out (fun h => by cases h) (by omega)).mono ?_
        rintro e w2 ⟨rfl, hb2⟩
        have HB2 := Lib.hid (hb.out.trans (hb2.mono hb.out.size))
        have HO2 := Lib.hid ((ho.out.below hb2).alloc (.cells #[.int .u64 (gv (leafU ps))] 23))
        have HB3 : Hid (Below w.heap.size w (w2.alloc (.cells #[.int .u64 (gv (leafU ps))] 23))) := Lib.hid (HB2.out.alloc HB2.out.size _)
        clear hb2
        go_wp2_with (at_builtin; refine wpList_append_n rfl (.tmp 20) (.tmp 28) rfl w.heap.size _ _ rfl HO2.out (leafU ps) ⟨w2.heap.size, 0, none⟩ rfl (cell_newN _ _) hlen HB3.out.size ?_; intro v1 w1 ho1 hg1; have HO1 := Lib.hid ho1; have HB1 := Lib.hid (HB3.out.grown hg1 HB3.out.size (fun k hk => (HO2.out.lt k hk).1)); clear ho1 hg1)
        go_roundw
        case rel => exact ⟨_, l ++ [leafU ps], hcn, by go_num, by rw [List.length_append, List.length_singleton]; omega, HO1, HPM, HB1⟩
        case measure => simp [intOf]; omega
    · obtain rfl : i = n := by omega
      have HF : Hid (l = blkU xs s) := Lib.hid (by have h := hp.out; rw [parts_end s i xs (by have := HN.out; omega)] at h; rw [HE.out, ← h]; simp)
      go_wp2
      go_ret
      exact ⟨_, rfl, by rw [← HF.out]; exact ho.out, hb.out⟩
end Go.Proofs.Ytgnidlhijmageaa
