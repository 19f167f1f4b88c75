/-
  A frame appended: the program's function and the document's own.
-/
import Derived.Test.YtbbdkghkdmaolaaDoorFRNext3
namespace Go.Proofs.YtbbdkghkdmaolaaDoor
open Go.RowKit
set_option linter.unusedVariables false
set_option linter.unusedSimpArgs false

/-- A frame appended: a slice of the call's own, and no error. -/
def ApP (w : World) (l : List UInt8) (en : Ending) (w' : World) : Prop := ∃ v, en = .returned (.tuple #[v, .int .i64 0]) ∧ Own w' w.heap.size v l ∧ Below w.heap.size w w'

theorem Lie.pair (w : World) (x y : Nat) (hx : x < 256) (hy : y < 256) : Lie (w.alloc (.cells #[.int .u8 x, .int .u8 y] 5)) (some ⟨w.heap.size, 0, none⟩) [UInt8.ofNat x, UInt8.ofNat y] :=
  Lie.lits w _ _ (by unfold cellsU; simp only [List.map_cons, List.map_nil]; rw [toNat8' _ hx, toNat8' _ hy])

set_option maxRecDepth 100000 in
set_option maxHeartbeats 1000000 in
theorem append_any (ad bd : Option Addr) (n cap m mcap : Nat) (xs body : List UInt8) (w : World) (hl : Lie w ad xs) (hn : n = xs.length) (hs : xs.length ≤ 100000) (had : ad = none → cap = 0)
    (hl2 : Lie w bd body) (hm : m = body.length) (hs2 : body.length ≤ 65536) (hbd : bd = none → mcap = 0) (hmg : Mag w) :
    Calls Tryd.prog 10 #[.slice ad n cap, .slice bd m mcap] w (ApP w (xs ++ frm body)) := by
  have hnl : n ≤ 100000 := by omega
  have hml : m ≤ 65536 := by omega
  have hlen : lenF (m : Int) = (m : Int) + 10 := by unfold lenF; rw [if_neg (by omega)]
  have HLEN := Lib.hid hlen
  have HN := Lib.hid hn
  have HM := Lib.hid hm
  clear hlen hn hm
  go_enter Tryd.func10, Tryd.ntmps10
  go_wp2_with fail
  refine (putn_any _ [] w.heap.size m _ (by omega) (Own.ofNil _ _) (Nat.le_refl _) (by simp)).mono ?_
  rintro e w1 ⟨v1, rfl, ho1, hb1⟩
  rw [List.nil_append] at ho1
  obtain ⟨ad1, cap1, rfl, hl1, hc1, hm1, ha1⟩ := ho1.slice
  have HL1 := Lib.hid hl1
  have HB1 := Lib.hid hb1
  have HA1 := Lib.hid ha1
  have HX := Lib.hid (hl.below hb1 rfl)
  have HY := Lib.hid (hl2.below hb1 rfl)
  have HG := Lib.hid (hmg.step hb1)
  have hsz := hb1.size
  have HSZ := Lib.hid hsz
  rw [be4_length] at hc1 ⊢
  clear ho1 hl1 hb1 ha1 hl hl2 hmg hsz
  go_wp2_with fail
  refine (len_any (m : Int) _ (by omega) (by omega)).mono ?_
  rintro e w' ⟨rfl, rfl⟩
  rw [HLEN.out]
  go_wp2_with (first
    | (at_make; refine wpList_make_u rfl (.const (.int .i64 0)) (.tmp 20) rfl w1.heap.size _ (n + m + 10) rfl rfl (by omega) (by omega) (Nat.le_refl _) ?_; intro v2 w2 ho2 hg2; have HO2 := Lib.hid ho2; have HB2 : Hid (Below w1.heap.size w1 w2) := Lib.hid ((Below.refl _ _).grown hg2 (Nat.le_refl _) (by simp)); have HX2 := Lib.hid (HX.out.below HB2.out rfl); have hsz2 := HB2.out.size; have HSZ2 := Lib.hid hsz2; clear ho2 hg2 hsz2)
    | (at_builtin; refine wpList_append_u rfl (.tmp 21) (.tmp 22) rfl w1.heap.size _ [] rfl HO2.out ad n cap xs had HX2.out HN.out rfl (by simp only [List.length_nil]; omega) HSZ2.out ?_; intro v3 w3 ho3 hg3; rw [List.nil_append] at ho3; have HO3 := Lib.hid ho3; have HB3 : Hid (Below w1.heap.size w1 w3) := Lib.hid (HB2.out.trans (below_app HO2.out HSZ2.out hg3)); have hsz3 := HB3.out.size; have HSZ3 := Lib.hid hsz3; have hmg3 := HG.out.step HB3.out; have hg0 := hmg3.c0; have hg1 := hmg3.c1; have HMG3 := Lib.hid hmg3; clear ho3 hg3 hsz3 hmg3)
    | (at_builtin; refine wpList_append_u rfl (.tmp 24) (.tmp 29) rfl w1.heap.size _ xs rfl (HO3.out.alloc _) _ 2 2 [167, 60] (fun h => by cases h) (Lie.pair w3 167 60 (by decide) (by decide)) rfl rfl (by omega) (by have := HSZ3.out; simp; omega) ?_; intro v4 w4 ho4 hg4; have HO4 := Lib.hid ho4; have HB4 : Hid (Below w1.heap.size w1 w4) := Lib.hid (HB3.out.trans (below_add HO3.out HSZ3.out hg4)); have HL4 := Lib.hid (HL1.out.below HB4.out rfl); have hsz4 := HB4.out.size; have HSZ4 := Lib.hid hsz4; clear ho4 hg4 hsz4 hg0 hg1)
    | (at_builtin; refine wpList_append_u rfl (.tmp 31) (.tmp 32) rfl w1.heap.size _ (xs ++ [167, 60]) rfl HO4.out ad1 4 cap1 (be4 m) HA1.out HL4.out rfl rfl (by simp only [List.length_append, List.length_cons, List.length_nil, be4_length]; omega) HSZ4.out ?_; intro v5 w5 ho5 hg5; have HO5 := Lib.hid ho5; have HB5 : Hid (Below w1.heap.size w1 w5) := Lib.hid (HB4.out.trans (below_app HO4.out HSZ4.out hg5)); have HL5 := Lib.hid (HL1.out.below HB5.out rfl); have HY5 := Lib.hid (HY.out.below HB5.out rfl); clear ho5 hg5))
  go_wp2_with fail
  refine (fsum_any _ _ _ _ _ _ (be4 m) body _ HL5.out HY5.out rfl HM.out (by rw [be4_length]; decide) (by omega)).mono ?_
  rintro e w6 ⟨rfl, hb6⟩
  have HB6 : Hid (Below w1.heap.size w1 w6) := Lib.hid (HB5.out.trans (hb6.mono HB5.out.size))
  have HO6 := Lib.hid (HO5.out.below hb6)
  have hcl := crc_lt (be4 m ++ body)
  obtain ⟨C, hC⟩ : ∃ C, crc (be4 m ++ body) = C := ⟨_, rfl⟩
  rw [hC] at hcl ⊢
  have HC := Lib.hid hC
  clear hb6 hC
  go_wp2_with fail
  refine (putn_any v5 _ w1.heap.size C _ hcl HO6.out HB6.out.size (by simp only [List.length_append, List.length_cons, List.length_nil, be4_length]; omega)).mono ?_
  rintro e w7 ⟨v7, rfl, ho7, hb7⟩
  have HO7 := Lib.hid ho7
  have HB7 : Hid (Below w1.heap.size w1 w7) := Lib.hid (HB6.out.trans hb7)
  have HY7 := Lib.hid (HY.out.below HB7.out rfl)
  have hsz7 := HB7.out.size
  have HSZ7 := Lib.hid hsz7
  clear ho7 hb7 hsz7
  go_wp2_with (at_builtin; refine wpList_append_u rfl (.tmp 39) (.tmp 40) rfl w1.heap.size _ _ rfl HO7.out bd m mcap body hbd HY7.out HM.out rfl (by simp only [List.length_append, List.length_cons, List.length_nil, be4_length]; omega) HSZ7.out ?_; intro v8 w8 ho8 hg8)
  have HO8 := Lib.hid ho8
  have HB8 : Hid (Below w1.heap.size w1 w8) := Lib.hid (HB7.out.trans (below_app HO7.out HSZ7.out hg8))
  clear ho8 hg8
  go_wp2
  go_ret2
  refine ⟨v8, rfl, ?_, HB1.out.trans (HB8.out.mono HB1.out.size)⟩
  have h := HO8.out.mono HB1.out.size
  have e : xs ++ [167, 60] ++ be4 m ++ be4 C ++ body = xs ++ frm body := by
    rw [← HC.out, HM.out]
    simp [frm]
  rw [← e]
  exact h

set_option maxRecDepth 100000 in
set_option maxHeartbeats 1000000 in
theorem rappend_any (ad bd : Option Addr) (n cap m mcap : Nat) (xs body : List UInt8) (w : World) (hl : Lie w ad xs) (hn : n = xs.length) (hs : xs.length ≤ 100000) (had : ad = none → cap = 0)
    (hl2 : Lie w bd body) (hm : m = body.length) (hs2 : body.length ≤ 65536) (hbd : bd = none → mcap = 0) :
    Calls Tryd.prog 11 #[.slice ad n cap, .slice bd m mcap] w (ApP w (xs ++ frm body)) := by
  have hnl : n ≤ 100000 := by omega
  have hml : m ≤ 65536 := by omega
  have HN := Lib.hid hn
  have HM := Lib.hid hm
  have HX := Lib.hid hl
  have HY := Lib.hid hl2
  clear hn hm hl hl2
  go_enter Tryd.func11, Tryd.ntmps11
  go_wp2_with (first
    | (at_builtin; refine wpList_append_u rfl (.tmp 10) (.tmp 11) rfl w.heap.size _ [] rfl (Own.ofNil _ _) ad n cap xs had HX.out HN.out rfl (by simp only [List.length_nil]; omega) (Nat.le_refl _) ?_; intro v1 w1 ho1 hg1; rw [List.nil_append] at ho1; have HO1 := Lib.hid ho1; have HB1 : Hid (Below w.heap.size w w1) := Lib.hid (below_app (Own.ofNil _ _) (Nat.le_refl _) hg1); have hsz1 := HB1.out.size; have HSZ1 := Lib.hid hsz1; clear ho1 hg1 hsz1)
    | (at_builtin; refine wpList_append_u rfl (.tmp 13) (.tmp 14) rfl w.heap.size _ xs rfl (HO1.out.alloc _) _ 2 2 [167, 60] (fun h => by cases h) (Lie.pair w1 167 60 (by decide) (by decide)) rfl rfl (by omega) (by have := HSZ1.out; simp; omega) ?_; intro v2 w2 ho2 hg2; have HO2 := Lib.hid ho2; have HB2 : Hid (Below w.heap.size w w2) := Lib.hid (HB1.out.trans (below_add HO1.out HSZ1.out hg2)); have hsz2 := HB2.out.size; have HSZ2 := Lib.hid hsz2; clear ho2 hg2 hsz2))
  refine (four_any m _ (by omega)).mono ?_
  rintro e w3 ⟨rfl, hl3, _, hb3⟩
  have HO3 := Lib.hid (HO2.out.below hb3)
  have HB3 : Hid (Below w.heap.size w w3) := Lib.hid (HB2.out.trans (hb3.mono HSZ2.out))
  have HL3 := Lib.hid hl3
  have hsz3 := HB3.out.size
  have HSZ3 := Lib.hid hsz3
  clear hl3 hb3 hsz3
  go_wp2_with (at_builtin; refine wpList_append_u rfl (.tmp 16) (.tmp 19) rfl w.heap.size _ _ rfl HO3.out _ 4 4 (be4 m) (fun h => by cases h) HL3.out rfl rfl (by simp only [List.length_append, List.length_cons, List.length_nil, be4_length]; omega) HSZ3.out ?_; intro v4 w4 ho4 hg4; have HO4 := Lib.hid ho4; have HB4 : Hid (Below w.heap.size w w4) := Lib.hid (HB3.out.trans (below_app HO3.out HSZ3.out hg4)); have HY4 := Lib.hid (HY.out.below HB4.out rfl); clear ho4 hg4)
  refine (rfsum_any bd m mcap body _ HY4.out HM.out (by omega) hbd).mono ?_
  rintro e w5 ⟨g, rfl, hl5, hb5⟩
  have HO5 := Lib.hid (HO4.out.below hb5)
  have HB5 : Hid (Below w.heap.size w w5) := Lib.hid (HB4.out.trans (hb5.mono HB4.out.size))
  have HL5 := Lib.hid hl5
  have hsz5 := HB5.out.size
  have HSZ5 := Lib.hid hsz5
  clear hl5 hb5 hsz5
  go_wp2_with (first
    | (at_builtin; refine wpList_append_u rfl (.tmp 21) (.tmp 23) rfl w.heap.size _ _ rfl HO5.out _ 4 4 (be4 (crc (be4 body.length ++ body))) (fun h => by cases h) HL5.out rfl rfl (by simp only [List.length_append, List.length_cons, List.length_nil, be4_length]; omega) HSZ5.out ?_; intro v6 w6 ho6 hg6; have HO6 := Lib.hid ho6; have HB6 : Hid (Below w.heap.size w w6) := Lib.hid (HB5.out.trans (below_app HO5.out HSZ5.out hg6)); have HY6 := Lib.hid (HY.out.below HB6.out rfl); have hsz6 := HB6.out.size; have HSZ6 := Lib.hid hsz6; clear ho6 hg6 hsz6)
    | (at_builtin; refine wpList_append_u rfl (.tmp 25) (.tmp 26) rfl w.heap.size _ _ rfl HO6.out bd m mcap body hbd HY6.out HM.out rfl (by simp only [List.length_append, List.length_cons, List.length_nil, be4_length]; omega) HSZ6.out ?_; intro v7 w7 ho7 hg7; have HO7 := Lib.hid ho7; have HB7 : Hid (Below w.heap.size w w7) := Lib.hid (HB6.out.trans (below_app HO6.out HSZ6.out hg7)); clear ho7 hg7))
  go_ret2
  refine ⟨v7, rfl, ?_, HB7.out⟩
  have h := HO7.out
  have e : xs ++ [167, 60] ++ be4 m ++ be4 (crc (be4 body.length ++ body)) ++ body = xs ++ frm body := by
    rw [HM.out]
    simp [frm]
  rw [← e]
  exact h
end Go.Proofs.YtbbdkghkdmaolaaDoor
