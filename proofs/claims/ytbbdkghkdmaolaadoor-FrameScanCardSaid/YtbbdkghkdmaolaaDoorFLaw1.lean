/-
  The walks of the statements FrameAppends and FrameNexts: true for every slice of bytes and number, and nothing that was there is written.
-/
import Derived.Test.YtbbdkghkdmaolaaDoorFAwake
namespace Go.Proofs.YtbbdkghkdmaolaaDoor
open Go.RowKit
set_option linter.unusedVariables false
set_option linter.unusedSimpArgs false

set_option maxRecDepth 100000 in
set_option maxHeartbeats 400000 in
theorem short_any (ad : Option Addr) (n cap : Nat) (w : World) (hn : n ≤ cap) (hcm : cap ≤ maxLen) (had : ad = none → cap = 0) :
    Calls Tryd.prog 9 #[.slice ad n cap] w fun e w' => e = .returned (.slice ad (min n 300) cap) ∧ w = w' := by
  unfold maxLen at hcm
  by_cases h : 300 < n
  · cases ad with
    | none => have := had rfl; omega
    | some a =>
      rw [Nat.min_eq_right (by omega)]
      go_enter Tryd.func9, Tryd.ntmps9
      go_wp2
      go_ret
      exact ⟨rfl, rfl⟩
  · rw [Nat.min_eq_left (by omega)]
    clear had
    go_enter Tryd.func9, Tryd.ntmps9
    go_wp2
    go_ret
    exact ⟨rfl, rfl⟩

set_option maxRecDepth 100000 in
set_option maxHeartbeats 1000000 in
theorem nexts_short (ad : Option Addr) (n cap k : Nat) (xs : List UInt8) (at_ : Int) (w : World) (hk : min n 300 = k) (hl : Lie w ad xs) (hn : k = xs.length) (hs : xs.length ≤ 1000) (hc : k ≤ cap) (hc0 : n ≤ cap) (hcm : cap ≤ maxLen) (had : ad = none → cap = 0) (hmg : Mag w) :
    Calls Tryd.prog 4 #[.slice ad n cap, .int .i64 at_] w fun e w' => e = .returned (.bool true) ∧ Below w.heap.size w w' := by
  have hsh := short_any ad n cap w hc0 hcm had
  rw [hk] at hsh
  have c1 := fun W hl hm => next_any ad k cap xs at_ W hl hn (by omega) hc hcm had hm
  have c2 := fun W hl => rnext_any ad k cap xs at_ W hl hn (by omega) hc hcm had
  unfold NxP at c1 c2
  generalize bodyAt xs at_ = body at *
  generalize (chk xs at_).1 = x at *
  generalize (chk xs at_).2 = y at *
  have C1 := Lib.hid c1
  have C2 := Lib.hid c2
  have HL := Lib.hid hl
  have HM := Lib.hid hmg
  clear c1 c2 hl hn hs hc hc0 hcm had hmg hk
  go_enter Tryd.func4, Tryd.ntmps4
  go_wp2_with fail
  refine hsh.mono ?_
  rintro e w' ⟨rfl, rfl⟩
  clear hsh
  go_wp2_with fail
  refine (C1.out _ HL.out HM.out).mono ?_
  rintro e w1 ⟨v1, rfl, ho1, hb1⟩
  have HB1 := Lib.hid hb1
  have HL1 := Lib.hid (HL.out.below hb1 rfl)
  have HM1 := Lib.hid (HM.out.step hb1)
  obtain ⟨ad1, cap1, rfl, hl1, _, _, _⟩ := ho1.slice
  have HV1 := Lib.hid hl1
  clear ho1 hl1 hb1
  go_wp2_with fail
  refine (C2.out _ HL1.out).mono ?_
  rintro e w2 ⟨v2, rfl, ho2, hb2⟩
  have HM2 := Lib.hid (HM1.out.step hb2)
  obtain ⟨ad2, cap2, rfl, hl2, _, _, _⟩ := ho2.slice
  have hcv1 := conv_lie cap1 (HV1.out.below hb2 rfl)
  have hcv2 := conv_lie cap2 hl2
  have HB2 := Lib.hid (HB1.out.trans (hb2.mono HB1.out.size))
  clear ho2 hl2 hb2
  generalize (⟨body.toArray⟩ : ByteArray) = S at hcv1 hcv2
  generalize body.length = N at *
  go_wp2_with fail
  refine (awake_any _ HM2.out).mono ?_
  rintro e w3 ⟨rfl, hb3⟩
  have HB3 := Lib.hid (HB2.out.trans (hb3.mono HB2.out.size))
  clear hb3
  go_wp2
  go_ret
  exact ⟨rfl, HB3.out⟩
theorem law_nexts (ad : Option Addr) (n cap : Nat) (xs : List UInt8) (at_ : Int) (w : World) (hl : Lie w ad xs) (hn : n = xs.length) (hc : n ≤ cap) (hcm : cap ≤ maxLen) (had : ad = none → cap = 0) (hmg : Mag w) :
    Calls Tryd.prog 4 #[.slice ad n cap, .int .i64 at_] w fun e w' => e = .returned (.bool true) ∧ Below w.heap.size w w' :=
  nexts_short ad n cap (min n 300) (xs.take 300) at_ w rfl (hl.take 300) (by rw [List.length_take]; omega) (by rw [List.length_take]; omega) (by omega) hc hcm had hmg

set_option maxRecDepth 100000 in
set_option maxHeartbeats 1000000 in
theorem appends_short (ad bd : Option Addr) (n cap k m mcap j : Nat) (xs body : List UInt8) (v : Int) (w : World) (hk : min n 300 = k) (hj : min m 300 = j) (hl : Lie w ad xs) (hn : k = xs.length) (hs : xs.length ≤ 300) (hc0 : n ≤ cap) (hcm : cap ≤ maxLen) (had : ad = none → cap = 0)
    (hl2 : Lie w bd body) (hm : j = body.length) (hs2 : body.length ≤ 300) (hmc0 : m ≤ mcap) (hmcm : mcap ≤ maxLen) (hbd : bd = none → mcap = 0) (hv : -9223372036854775808 ≤ v ∧ v ≤ 9223372036854775807) (hmg : Mag w) :
    Calls Tryd.prog 3 #[.slice ad n cap, .slice bd m mcap, .int .i64 v] w fun e w' => e = .returned (.bool true) ∧ Below w.heap.size w w' := by
  have hsh1 := short_any ad n cap w hc0 hcm had
  have hsh2 := short_any bd m mcap w hmc0 hmcm hbd
  rw [hk] at hsh1
  rw [hj] at hsh2
  have c1 := fun W h1 h2 h3 => append_any ad bd k cap j mcap xs body W h1 hn (by omega) had h2 hm (by omega) hbd h3
  have c2 := fun W h1 h2 => rappend_any ad bd k cap j mcap xs body W h1 hn (by omega) had h2 hm (by omega) hbd
  have hcv0 : ∀ W, Lie W ad xs → (convert 22 9 (.slice ad k cap)).run Tryd.prog W = .ok (.string ⟨xs.toArray⟩) W := fun W h => by rw [hn]; exact conv_lie cap h
  generalize xs ++ frm body = L at c1 c2
  have C1 := Lib.hid c1
  have C2 := Lib.hid c2
  have HL := Lib.hid hl
  have HL2 := Lib.hid hl2
  have HM := Lib.hid hmg
  have HV := Lib.hid hv
  have HC := Lib.hid hcv0
  have hcv := hcv0 w hl
  obtain ⟨S0, hS0⟩ : ∃ S : ByteArray, (⟨xs.toArray⟩ : ByteArray) = S := ⟨_, rfl⟩
  rw [hS0] at hcv
  have HS0 := Lib.hid hS0
  clear c1 c2 hl hn hs hc0 hcm had hmg hk hj hl2 hm hs2 hmc0 hmcm hbd hv hcv0 hS0
  go_enter Tryd.func3, Tryd.ntmps3
  go_wp2_with fail
  refine hsh1.mono ?_
  rintro e w' ⟨rfl, rfl⟩
  clear hsh1
  go_wp2_with fail
  refine hsh2.mono ?_
  rintro e w' ⟨rfl, rfl⟩
  clear hsh2
  go_wp2_with fail
  refine (C1.out _ HL.out HL2.out HM.out).mono ?_
  rintro e w1 ⟨v1, rfl, ho1, hb1⟩
  have HB1 := Lib.hid hb1
  have HL' := Lib.hid (HL.out.below hb1 rfl)
  have HL2' := Lib.hid (HL2.out.below hb1 rfl)
  have HM1 := Lib.hid (HM.out.step hb1)
  obtain ⟨ad1, cap1, rfl, hl1, _, _, _⟩ := ho1.slice
  have HV1 := Lib.hid hl1
  clear ho1 hl1 hb1 hcv
  go_wp2_with fail
  refine (C2.out _ HL'.out HL2'.out).mono ?_
  rintro e w2 ⟨v2, rfl, ho2, hb2⟩
  have HM2 := Lib.hid (HM1.out.step hb2)
  obtain ⟨ad2, cap2, rfl, hl2, _, _, _⟩ := ho2.slice
  have hcv1 := conv_lie cap1 (HV1.out.below hb2 rfl)
  have hcv2 := conv_lie cap2 hl2
  have hcv3 := HC.out w2 (HL'.out.below hb2 rfl)
  rw [HS0.out] at hcv3
  have HB2 := Lib.hid (HB1.out.trans (hb2.mono HB1.out.size))
  clear ho2 hl2 hb2
  generalize (⟨L.toArray⟩ : ByteArray) = S at hcv1 hcv2
  generalize L.length = N at *
  go_wp2_with (first
    | (go_at_call 12; refine (len_any v _ HV.out.1 HV.out.2).mono ?_; rintro e w' ⟨rfl, rfl⟩)
    | (go_at_call 13; refine (rlen_any v _ HV.out.1 HV.out.2).mono ?_; rintro e w' ⟨rfl, rfl⟩))
  refine (awake_any _ HM2.out).mono ?_
  rintro e w3 ⟨rfl, hb3⟩
  have HB3 := Lib.hid (HB2.out.trans (hb3.mono HB2.out.size))
  clear hb3
  go_wp2
  go_ret
  exact ⟨rfl, HB3.out⟩
theorem law_appends (ad bd : Option Addr) (n cap m mcap : Nat) (xs body : List UInt8) (v : Int) (w : World) (hl : Lie w ad xs) (hn : n = xs.length) (hc : n ≤ cap) (hcm : cap ≤ maxLen) (had : ad = none → cap = 0)
    (hl2 : Lie w bd body) (hm : m = body.length) (hmc : m ≤ mcap) (hmcm : mcap ≤ maxLen) (hbd : bd = none → mcap = 0) (hv : -9223372036854775808 ≤ v ∧ v ≤ 9223372036854775807) (hmg : Mag w) :
    Calls Tryd.prog 3 #[.slice ad n cap, .slice bd m mcap, .int .i64 v] w fun e w' => e = .returned (.bool true) ∧ Below w.heap.size w w' :=
  appends_short ad bd n cap (min n 300) m mcap (min m 300) (xs.take 300) (body.take 300) v w rfl rfl (hl.take 300) (by rw [List.length_take]; omega) (by rw [List.length_take]; omega) hc hcm had
    (hl2.take 300) (by rw [List.length_take]; omega) (by rw [List.length_take]; omega) hmc hmcm hbd hv hmg
end Go.Proofs.YtbbdkghkdmaolaaDoor
