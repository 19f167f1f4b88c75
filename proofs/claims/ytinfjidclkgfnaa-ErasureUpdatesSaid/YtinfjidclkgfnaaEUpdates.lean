/-
  ErasureUpdates: the walk.
-/
import Derived.Test.YtinfjidclkgfnaaEUpd
import Derived.Test.YtinfjidclkgfnaaERUpd
namespace Go.Proofs.Ytinfjidclkgfnaa
open Go.RowKit
theorem upR_small (ls : List (List UInt8)) (d x : Int) (old new : List UInt8) (hl : ls.length ≤ 17) : (upR ls d x old new).length ≤ 1000000 := by
  unfold upR
  split
  · rw [upL_length]; omega
  · simp
attribute [local irreducible] upE upR fewL
set_option maxRecDepth 100000 in
set_option maxHeartbeats 1000000 in
theorem law_updates (ad od nd : Option Addr) (n mo mn cap oc nc : Nat) (xs : List (List UInt8)) (old new : List UInt8) (d x : Int) (w : World) (hl : Lr w ad xs) (hn : n = xs.length) (hm : n ≤ maxLen)
    (ho : Lie w od old) (ho1 : mo = old.length) (ho2 : mo ≤ oc) (ho3 : oc ≤ maxLen) (ho4 : od = none → oc = 0) (hw : Lie w nd new) (hw1 : mn = new.length) (hw2 : mn ≤ nc) (hw3 : nc ≤ maxLen) (hw4 : nd = none → nc = 0) (h0 : -9223372036854775808 ≤ d) (h1 : d ≤ 9223372036854775807) :
    Calls Try.prog 5 #[.slice ad n cap, .int .i64 d, .int .i64 x, .slice od mo oc, .slice nd mn nc] w fun e w' => e = .returned (.bool true) ∧ Below w.heap.size w w' := by
  go_enter Try.func5, Try.ntmps5
  have HL := Lib.hid hl
  have HN := Lib.hid hn
  have HM := Lib.hid hm
  have HO := Lib.hid ho
  have HW := Lib.hid hw
  have HOC : Hid (mo = old.length ∧ mo ≤ oc ∧ oc ≤ maxLen ∧ (od = none → oc = 0)) := Lib.hid ⟨ho1, ho2, ho3, ho4⟩
  have HWC : Hid (mn = new.length ∧ mn ≤ nc ∧ nc ≤ maxLen ∧ (nd = none → nc = 0)) := Lib.hid ⟨hw1, hw2, hw3, hw4⟩
  clear hl hn hm ho hw ho1 ho2 ho3 ho4 hw1 hw2 hw3 hw4
  go_wp2_with fail
  refine (few_any ad n cap xs w HL.out HN.out HM.out).mono ?_
  rintro e w1 ⟨a1, c1, rfl, hl1, hc1, hm1, hn1, hb1⟩
  have HF := Lib.hid (fewL_length xs)
  have HR : Hid (∀ r ∈ fewL xs, r.length ≤ 1000) := Lib.hid fun r hr => Nat.le_trans (fewL_row xs r hr) (by omega)
  obtain ⟨ls, hls⟩ : ∃ ls, ls = fewL xs := ⟨_, rfl⟩
  rw [← hls] at hl1 hc1 HF HR ⊢
  obtain ⟨k, hk⟩ : ∃ k, k = ls.length := ⟨_, rfl⟩
  have HRS := Lib.hid (upR_small ls d x (old.take 40) (new.take 40) (by rw [hls]; exact fewL_length xs))
  rw [← hk] at hc1 HF ⊢
  have hk17 : k ≤ 17 := HF.out
  have HK := Lib.hid hk
  have HB1 := Lib.hid hb1
  have HL1 := Lib.hid hl1
  have HC1 : Hid (k ≤ c1 ∧ (a1 = none → c1 = 0)) := Lib.hid ⟨hc1, hn1⟩
  have HO1 := Lib.hid (HO.out.below hb1 rfl)
  have HW1 := Lib.hid (HW.out.below hb1 rfl)
  clear hls hl1 hc1 hm1 hn1 hb1 hk HF
  go_wp2_with fail
  refine (short_any od mo oc old w1 HOC.out.1 HOC.out.2.1 HOC.out.2.2.1 HOC.out.2.2.2).mono ?_
  rintro e w' ⟨⟨m1, rfl, hm1⟩, rfl⟩
  have HM1 := Lib.hid hm1
  clear hm1
  go_wp2_with fail
  refine (short_any nd mn nc new w1 HWC.out.1 HWC.out.2.1 HWC.out.2.2.1 HWC.out.2.2.2).mono ?_
  rintro e w' ⟨⟨m2, rfl, hm2⟩, rfl⟩
  have HM2 := Lib.hid hm2
  clear hm2
  have HDO : Hid (Hds w1 (.slice od m1 oc) (old.take 40)) := Lib.hid ⟨od, oc, by rw [← HM1.out], HO1.out.take 40, by rw [List.length_take]; have := HOC.out; omega, HOC.out.2.2.1, HOC.out.2.2.2⟩
  have HDW : Hid (Hds w1 (.slice nd m2 nc) (new.take 40)) := Lib.hid ⟨nd, nc, by rw [← HM2.out], HW1.out.take 40, by rw [List.length_take]; have := HWC.out; omega, HWC.out.2.2.1, HWC.out.2.2.2⟩
  have HS1 : Hid ((old.take 40).length ≤ 1000) := Lib.hid (by rw [List.length_take]; omega)
  have HS2 : Hid ((new.take 40).length ≤ 1000) := Lib.hid (by rw [List.length_take]; omega)
  clear HO1 HW1
  go_wp2_with fail
  refine (update_any a1 od nd k c1 m1 oc m2 nc ls (old.take 40) (new.take 40) d x w1 HL1.out HK.out (by omega) HC1.out.1 HC1.out.2 HR.out HDO.out HS1.out HDW.out h0 h1).mono ?_
  rintro e w2 ⟨v2, rfl, ho2, hb2⟩
  obtain ⟨a2, c2, rfl, hl2, hc2, hm2, -⟩ := ho2.read
  have HB2 := Lib.hid (HB1.out.trans (hb2.mono HB1.out.size))
  have HL2 := Lib.hid hl2
  have HLS := Lib.hid (HL1.out.below hb2)
  have HDO2 := Lib.hid (HDO.out.below hb2)
  have HDW2 := Lib.hid (HDW.out.below hb2)
  clear ho2 hb2 hl2 hc2 hm2 HL1 HDO HDW
  go_wp2_with fail
  refine (rupdate_any a1 od nd k c1 m1 oc m2 nc ls (old.take 40) (new.take 40) d x w2 HLS.out HK.out (by omega) HDO2.out HS1.out HDW2.out HS2.out).mono ?_
  rintro e w3 ⟨v3, rfl, ho3, hb3⟩
  obtain ⟨a3, c3, rfl, hl3, hc3, hm3, -⟩ := ho3.read
  have HB3 := Lib.hid (HB2.out.trans (hb3.mono HB2.out.size))
  have HL3 := Lib.hid hl3
  have HL4 := Lib.hid (HL2.out.below hb3)
  generalize upE ls d x (old.take 40) (new.take 40) = E
  clear ho3 hb3 hl3 hc3 hm3 HL2 HLS HDO2 HDW2
  go_wp2_with fail
  refine (rsame_any a2 a3 _ _ c2 c3 (upR ls d x (old.take 40) (new.take 40)) (upR ls d x (old.take 40) (new.take 40)) w3 HL4.out HL3.out rfl rfl HRS.out).mono ?_
  rintro e w4 ⟨rfl, hb4⟩
  rw [eqL_self]
  have HB4 := Lib.hid (HB3.out.trans (hb4.mono HB3.out.size))
  clear hb4 HL4 HL3
  go_wp2_with fail
  refine (awake_any w4).mono ?_
  rintro e w7 ⟨rfl, hb7⟩
  have HB7 := Lib.hid (HB4.out.trans (hb7.mono HB4.out.size))
  clear hb7
  go_wp2
  go_ret
  exact ⟨rfl, HB7.out⟩
end Go.Proofs.Ytinfjidclkgfnaa
