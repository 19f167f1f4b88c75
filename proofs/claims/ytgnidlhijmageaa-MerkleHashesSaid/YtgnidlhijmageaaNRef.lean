/-
  The specification's bytes of a number and hashes of blocks and of two hashes.
-/
import Derived.Test.YtgnidlhijmageaaNLeaf
import Derived.Test.YtgnidlhijmageaaNLin
namespace Go.Proofs.Ytgnidlhijmageaa
open Go.RowKit
theorem heap_newN (w : World) (o : Obj) : (w.alloc o).heap[w.heap.size]? = some o := by
  show (w.heap.push o)[w.heap.size]? = some o
  simp
theorem Own.litsN (w : World) (cs : Array Value) (xs : List UInt8) (h : cs.toList = cellsU xs) (hm : xs.length ≤ 10000000) : Own (w.alloc (.cells cs 5)) w.heap.size (.slice (some ⟨w.heap.size, 0, none⟩) xs.length xs.length) xs := by
  have hs : cs.size = xs.length := by rw [← Array.length_toList, h, cellsU_length]
  refine ⟨by rw [cellsU_length]; omega, .inr ⟨w.heap.size, xs.length, cs, rfl, Nat.le_refl _, heap_newN w _, Nat.le_refl _, by unfold maxLen; omega, by omega, ?_⟩⟩
  rw [h, List.take_of_length_le (by rw [cellsU_length]; omega)]
theorem own_one0 (w : World) : Own (w.alloc (.cells #[.int .u8 0] 5)) w.heap.size (.slice (some ⟨w.heap.size, 0, none⟩) 1 1) [0] := Own.litsN w _ [0] rfl (by decide)
theorem own_one1 (w : World) : Own (w.alloc (.cells #[.int .u8 1] 5)) w.heap.size (.slice (some ⟨w.heap.size, 0, none⟩) 1 1) [1] := Own.litsN w _ [1] rfl (by decide)
attribute [local irreducible] accU fnv basis byteU beU hashU

set_option maxRecDepth 100000 in
set_option maxHeartbeats 400000 in
theorem rbytes_any (B : Nat) (v : Value) (l : List UInt8) (n : UInt64) (w : World) (hl : Own w B v l) (hs : l.length ≤ 1000000) (hB : B ≤ w.heap.size) :
    Calls Try.prog 31 #[v, .int .u64 (gv n)] w fun e w' => ∃ v', e = .returned v' ∧ Own w' B v' (l ++ beU n 8) ∧ Below B w w' := by
  have HO := Lib.hid hl
  have HBB := Lib.hid hB
  clear hl
  go_enter Try.func31, Try.ntmps31
  go_wp2
  go_loopg [0, 5] 8 (fun gk v0 vi wx => ∃ j : Nat, j + gk = 8 ∧ vi = .int .i64 (7 - (j : Int)) ∧ Hid (Own wx B v0 (l ++ beU n j)) ∧ Hid (Below B w wx))
  case atStart => exact ⟨0, by omega, rfl, by rw [beU_zero, List.append_nil]; exact HO, Lib.hid (Below.refl _ _)⟩
  case round =>
    obtain ⟨j, hj, rfl, ho, hb⟩ := hrel
    cases gk with
    | zero =>
      obtain rfl : j = 8 := by omega
      go_wp2
      go_ret
      exact ⟨_, rfl, ho.out, hb.out⟩
    | succ gk0 =>
      obtain ⟨k, hk⟩ : ∃ k, k = 7 - j := ⟨_, rfl⟩
      have hik : (7 : Int) - (j : Int) = (k : Int) := by omega
      have hk7 : k ≤ 7 := by omega
      have hsh := byte_shr n k
      have HN := Lib.hid (beU_succ n j)
      have hlen : (l ++ beU n j).length + 1 ≤ 10000000 := by rw [List.length_append, beU_length]; omega
      rw [← hk] at HN
      have HK := Lib.hid hk
      rw [hik]
      clear hk hik
      generalize byteU n k = c at hsh HN
      have HL := Lib.hid (Lie.one wr (ev c) c (ev_nat c))
      have HO := Lib.hid (ho.out.below ((Below.refl _ _).alloc (Nat.le_refl _) (.cells #[.int .u8 (ev c)] 5)))
      have HB1 := Lib.hid (hb.out.alloc (Nat.le_trans HBB.out hb.out.size) (.cells #[.int .u8 (ev c)] 5))
      have HS1 : Hid (B ≤ (wr.alloc (.cells #[.int .u8 (ev c)] 5)).heap.size) := Lib.hid (by have := hb.out.size; have := HBB.out; simp; omega)
      have hw8 : IntKind.i64.wrap (8 * (k : Int)) = 8 * (k : Int) := by rw [IntKind.wrap_i64]; omega
      go_wp2_with (at_builtin; refine wpList_append_u rfl (.tmp 10) (.tmp 17) rfl B _ _ rfl HO.out _ 1 1 [c] (fun h => by cases h) HL.out rfl rfl hlen HS1.out ?_; intro v1 w1 hown1 hgrow1)
      go_roundg gk0
      case rel => exact ⟨j + 1, by omega, by have := HK.out; go_num, by rw [HN.out, ← List.append_assoc]; exact Lib.hid hown1, Lib.hid (HB1.out.grown hgrow1 HS1.out (fun k hk => (HO.out.lt k hk).1))⟩
      case measure => omega

set_option maxRecDepth 100000 in
set_option maxHeartbeats 400000 in
theorem rleaf_any (ad : Option Addr) (n cap : Nat) (xs : List UInt8) (w : World) (hl : Lie w ad xs) (hn : n = xs.length) (ha : ad = none → cap = 0) (hs : n ≤ 100000) :
    Calls Try.prog 12 #[.slice ad n cap] w fun e w' => e = .returned (.int .u64 (gv (leafU xs))) ∧ Below w.heap.size w w' := by
  have HO := Lib.hid (own_one0 w)
  have HL := Lib.hid (hl.below ((Below.refl w.heap.size w).alloc (Nat.le_refl _) (.cells #[.int .u8 0] 5)) rfl)
  have HB := Lib.hid ((Below.refl w.heap.size w).alloc (Nat.le_refl _) (.cells #[.int .u8 0] 5))
  have HA := Lib.hid ha
  have HN := Lib.hid hn
  have hlen : ([0] : List UInt8).length + n ≤ 10000000 := by simp; omega
  clear hl ha hn
  go_enter Try.func12, Try.ntmps12
  go_wp2_with (at_builtin; refine wpList_append_u rfl (.tmp 5) (.tmp 6) rfl w.heap.size _ [0] rfl HO.out _ n cap xs HA.out HL.out HN.out rfl hlen HB.out.size ?_; intro v1 w1 hown1 hgrow1; have HB1 := Lib.hid (HB.out.grown hgrow1 HB.out.size (fun k hk => (HO.out.lt k hk).1)); obtain ⟨ad1, cap1, rfl, hl1, -⟩ := hown1.slice; have HL1 := Lib.hid hl1; have HS1 : Hid (([0] ++ xs).length ≤ 100001) := (Lib.hid (by have := HN.out; simp; omega)); clear hl1 hown1 hgrow1)
  refine (rhash_any ad1 _ cap1 ([0] ++ xs) _ HL1.out rfl (by have := HS1.out; omega)).mono ?_
  rintro e w' ⟨rfl, rfl⟩
  go_wp2
  go_ret
  exact ⟨rfl, HB1.out⟩

set_option maxRecDepth 100000 in
set_option maxHeartbeats 400000 in
theorem rnode_any (a b : UInt64) (w : World) :
    Calls Try.prog 14 #[.int .u64 (gv a), .int .u64 (gv b)] w fun e w' => e = .returned (.int .u64 (gv (nodeU a b))) ∧ Below w.heap.size w w' := by
  have HO := Lib.hid (own_one1 w)
  have HB := Lib.hid ((Below.refl w.heap.size w).alloc (Nat.le_refl _) (.cells #[.int .u8 1] 5))
  go_enter Try.func14, Try.ntmps14
  go_wp2_with fail
  refine (rbytes_any w.heap.size _ [1] a _ HO.out (by simp) HB.out.size).mono ?_
  rintro e w1 ⟨v1, rfl, ho1, hb1⟩
  have HO1 := Lib.hid ho1
  have HB1 := Lib.hid (HB.out.trans hb1)
  clear ho1 hb1
  go_wp2_with fail
  refine (rbytes_any w.heap.size v1 _ b _ HO1.out (by rw [List.length_append, beU_length]; simp) HB1.out.size).mono ?_
  rintro e w2 ⟨v2, rfl, ho2, hb2⟩
  have HB2 := Lib.hid (HB1.out.trans hb2)
  obtain ⟨ad2, cap2, e2, hl2, -⟩ := ho2.slice
  have h17 : 17 = ([1] ++ beU a 8 ++ beU b 8).length := by rw [List.length_append, List.length_append, beU_length, beU_length]; rfl
  rw [← h17] at e2
  subst e2
  have HL2 := Lib.hid hl2
  have H17 := Lib.hid h17
  have HE : Hid (hashU ([1] ++ beU a 8 ++ beU b 8) = nodeU a b) := Lib.hid (by unfold nodeU; congr 1)
  clear ho2 hb2 hl2 h17
  go_wp2_with fail
  refine (rhash_any ad2 17 cap2 _ _ HL2.out H17.out (by decide)).mono ?_
  rintro e w' ⟨rfl, rfl⟩
  rw [HE.out]
  go_wp2
  go_ret
  exact ⟨rfl, HB2.out⟩
end Go.Proofs.Ytgnidlhijmageaa
