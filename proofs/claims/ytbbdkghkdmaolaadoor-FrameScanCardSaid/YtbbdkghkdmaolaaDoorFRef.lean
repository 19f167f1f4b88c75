/-
  The document's own functions: a number of four bytes, a checksum in four bytes, what begins at an offset.
-/
import Derived.Test.YtbbdkghkdmaolaaDoorFNext
import Derived.LoopN
namespace Go.Proofs.YtbbdkghkdmaolaaDoor
open Go.RowKit
set_option linter.unusedVariables false

set_option maxRecDepth 100000 in
set_option maxHeartbeats 1000000 in
theorem rnum_any (b off n cap : Nat) (xs : List UInt8) (w : World) (hl : Lie w (some ⟨b, off, none⟩) xs) (hn : n = xs.length) (h4 : 4 ≤ xs.length) (hm : xs.length ≤ 10000000) :
    Calls Tryd.prog 31 #[.slice (some ⟨b, off, none⟩) n cap] w fun e w' => e = .returned (.int .i64 (num4 xs : Int)) ∧ w = w' := by
  rcases hl.at_ with rfl | ⟨b', off', h0, hb, hc⟩
  · simp at h4
  cases h0
  match xs, h4 with
  | x0 :: x1 :: x2 :: x3 :: r, _ =>
    have c0 := hc 0 (by simp)
    have c1 := hc 1 (by simp)
    have c2 := hc 2 (by simp)
    have c3 := hc 3 (by simp)
    simp only [List.getElem_cons_zero, List.getElem_cons_succ, Nat.add_zero] at c0 c1 c2 c3
    have b0 := x0.toNat_lt
    have b1 := x1.toNat_lt
    have b2 := x2.toNat_lt
    have b3 := x3.toNat_lt
    simp only [num4]
    generalize x0.toNat = v0 at *
    generalize x1.toNat = v1 at *
    generalize x2.toNat = v2 at *
    generalize x3.toNat = v3 at *
    have hn4 : 4 ≤ n := by simp at hn; omega
    have hnm : n ≤ 10000000 := by omega
    clear hc hl hn hm
    simp only [Nat.reducePow] at b0 b1 b2 b3
    go_enter Tryd.func31, Tryd.ntmps31
    go_wp2
    refine wp_loop_rounds 5 ?_
    rw [rounds_succ]
    go_wp2
    rw [rounds_succ]
    go_wp2
    rw [rounds_succ]
    go_wp2
    rw [rounds_succ]
    go_wp2
    rw [rounds_succ]
    go_wp2
    go_ret
    exact ⟨ret_i64 (by omega), rfl⟩

set_option maxRecDepth 100000 in
set_option maxHeartbeats 600000 in
theorem rfsum_any (ad : Option Addr) (n cap : Nat) (xs : List UInt8) (w : World) (hl : Lie w ad xs) (hn : n = xs.length) (hm : xs.length ≤ 1000000) (had : ad = none → cap = 0) :
    Calls Tryd.prog 28 #[.slice ad n cap] w fun e w' => ∃ g, e = .returned (.slice (some ⟨g, 0, none⟩) 4 4) ∧ Lie w' (some ⟨g, 0, none⟩) (be4 (crc (be4 xs.length ++ xs))) ∧ Below w.heap.size w w' := by
  have HN := Lib.hid hn
  have hnm : n ≤ 1000000 := by omega
  have hl0 : (be4 n).length = 4 := rfl
  have hbl : (be4 n ++ xs).length ≤ 10000000 := by rw [List.length_append, hl0]; omega
  have hcl := crc_lt (be4 n ++ xs)
  rw [← hn]
  generalize hC : crc (be4 n ++ xs) = C at *
  have HC := Lib.hid hC
  have HL0 := Lib.hid hl0
  clear hn hC hl0
  go_enter Tryd.func28, Tryd.ntmps28
  go_wp2_with fail
  refine (four_any n _ (by omega)).mono ?_
  rintro e w1 ⟨rfl, hl1, ho1, hb1⟩
  have HO1 := Lib.hid ho1
  have HB1 := Lib.hid hb1
  have HL := Lib.hid (hl.below hb1 rfl)
  have hsz := hb1.size
  have HSZ := Lib.hid hsz
  clear hl1 ho1 hb1 hl hsz
  go_wp2_with (at_builtin; refine wpList_append_u rfl (.tmp 7) (.tmp 8) rfl w.heap.size _ (be4 n) rfl HO1.out _ n cap xs had HL.out HN.out rfl (by rw [HL0.out]; omega) HSZ.out ?_; intro v2 w2 hown2 hgrow2)
  have HB2 := Lib.hid (HB1.out.trans (below_app HO1.out HSZ.out hgrow2))
  obtain ⟨ad2, cap2, rfl, hl2, hc2, hm2, ha2⟩ := hown2.slice
  have HL2 := Lib.hid hl2
  have HLEN : Hid ((be4 n ++ xs).length = n + 4) := Lib.hid (by rw [List.length_append, HL0.out, HN.out]; omega)
  clear hl2 hown2 hgrow2 ha2
  rw [HLEN.out] at hc2 ⊢
  go_wp2_with fail
  refine (rcsum_any ad2 _ cap2 (be4 n ++ xs) _ HL2.out HLEN.out.symm hbl).mono ?_
  rintro e w3 ⟨rfl, rfl⟩
  rw [HC.out]
  go_wp2_with fail
  refine (four_any C _ hcl).mono ?_
  rintro e w4 ⟨rfl, hl4, ho4, hb4⟩
  have HL4 := Lib.hid hl4
  have HB4 := Lib.hid hb4
  clear hl4 ho4 hb4
  go_wp2
  go_ret
  exact ⟨_, rfl, HL4.out, HB2.out.trans (HB4.out.mono HB2.out.size)⟩
end Go.Proofs.YtbbdkghkdmaolaaDoor
