/-
  The walk of the statement FrameFinds: true for every slice of bytes and offset, and nothing that was there is written.
-/
import Derived.Test.YtbbdkghkdmaolaaDoorFSalv2
import Derived.Test.YtbbdkghkdmaolaaDoorFLaw1
namespace Go.Proofs.YtbbdkghkdmaolaaDoor
open Go.RowKit
set_option linter.unusedVariables false
set_option linter.unusedSimpArgs false

theorem Part.short {xs : List UInt8} {ps : List (List UInt8 × Nat)} {a e : Nat} (h : Part xs a ps e) : 10 * ps.length ≤ xs.length := by
  have h1 := h.le
  by_cases h0 : ps = []
  · rw [h0]; simp
  · have := h1.2 h0; omega
theorem Salv.short {xs : List UInt8} {ls : List (List UInt8)} {a e : Nat} (h : Salv xs a ls e) : 10 * ls.length ≤ xs.length := by
  have h1 := h.le
  by_cases h0 : ls = []
  · rw [h0]; simp
  · have := h1.2 h0; omega

theorem rs_pair (r : Option Nat) : ∃ (x : Int) (o : Bool), ∀ w e w', RsP w r e w' → e = Ending.returned (.tuple #[.int .i64 x, .bool o]) ∧ Below w.heap.size w w' := by
  cases r with
  | none => exact ⟨0, false, fun _ _ _ h => h⟩
  | some i => exact ⟨i, true, fun _ _ _ h => h⟩

set_option maxRecDepth 100000 in
set_option maxHeartbeats 1000000 in
theorem finds_short (ad : Option Addr) (n cap k : Nat) (xs : List UInt8) (at_ : Int) (w : World) (hk : min n 300 = k) (hl : Lie w ad xs) (hn : k = xs.length) (hs : xs.length ≤ 1000) (hc : k ≤ cap) (hc0 : n ≤ cap) (hcm : cap ≤ maxLen) (had : ad = none → cap = 0) (hmg : Mag w) :
    Calls Tryd.prog 5 #[.slice ad n cap, .int .i64 at_] w fun e w' => e = .returned (.bool true) ∧ Below w.heap.size w w' := by
  have hsh := short_any ad n cap w hc0 hcm had
  rw [hk] at hsh
  have C1 := Lib.hid (fun W hl hm => scan_any ad k cap xs W hl hn (by omega) hc hcm had hm)
  have C2 := Lib.hid (fun W hl => rscan_any ad k cap xs W hl hn (by omega) hc hcm had)
  have C3 := Lib.hid (fun W hl hm => resync_from ad k cap (max at_ 0).toNat xs at_ W hl hn (by omega) hc hcm had hm (by omega))
  have C4 := Lib.hid (fun W hl => rresync_from ad k cap (max at_ 0).toNat xs at_ W hl hn (by omega) hc hcm had (by omega))
  have C5 := Lib.hid (fun W hl hm => salvage_any ad k cap xs W hl hn (by omega) hc hcm had hm)
  have C6 := Lib.hid (fun W hl => rsalvage_any ad k cap xs W hl hn (by omega) hc hcm had)
  obtain ⟨a3, o3, hr⟩ := rs_pair (rs xs (max at_ 0).toNat)
  have HR := Lib.hid hr
  have HL := Lib.hid hl
  have HM := Lib.hid hmg
  have HS := Lib.hid hs
  clear hr hl hn hs hc hc0 hcm had hmg hk
  go_enter Tryd.func5, Tryd.ntmps5
  go_wp2_with fail
  refine hsh.mono ?_
  rintro e w' ⟨rfl, rfl⟩
  clear hsh
  go_wp2_with fail
  refine (C1.out _ HL.out HM.out).mono ?_
  rintro e w1 ⟨v1, ps, f, rfl, hp, hpn, hls1, hb1⟩
  have HB1 := Lib.hid hb1
  have HL1 := Lib.hid (HL.out.below hb1 rfl)
  have HM1 := Lib.hid (HM.out.step hb1)
  have HP := Lib.hid hp
  have HPN := Lib.hid hpn
  have HV1 := Lib.hid hls1
  clear hp hpn hls1 hb1
  go_wp2_with fail
  refine (C2.out _ HL1.out).mono ?_
  rintro e w2 ⟨v2, qs, g, rfl, hq, hqn, hls2, hb2⟩
  obtain ⟨rfl, rfl⟩ := Part.unique HP.out HPN.out hq hqn
  have HB2 := Lib.hid (HB1.out.trans (hb2.mono HB1.out.size))
  have HL2 := Lib.hid (HL1.out.below hb2 rfl)
  have HM2 := Lib.hid (HM1.out.step hb2)
  have HV1 := Lib.hid (HV1.out.below hb2)
  have HV2 := Lib.hid hls2
  clear hq hqn hls2 hb2
  go_wp2_with fail
  refine (C3.out _ HL2.out HM2.out).mono ?_
  rintro e w3 hr3
  obtain ⟨rfl, hb3⟩ := HR.out _ _ _ hr3
  have HB3 := Lib.hid (HB2.out.trans (hb3.mono HB2.out.size))
  have HL3 := Lib.hid (HL2.out.below hb3 rfl)
  have HM3 := Lib.hid (HM2.out.step hb3)
  have HV1 := Lib.hid (HV1.out.below hb3)
  have HV2 := Lib.hid (HV2.out.below hb3)
  clear hr3 hb3
  go_wp2_with fail
  refine (C4.out _ HL3.out).mono ?_
  rintro e w4 hr4
  obtain ⟨rfl, hb4⟩ := HR.out _ _ _ hr4
  have HB4 := Lib.hid (HB3.out.trans (hb4.mono HB3.out.size))
  have HL4 := Lib.hid (HL3.out.below hb4 rfl)
  have HM4 := Lib.hid (HM3.out.step hb4)
  obtain ⟨ad1, cap1, rfl, lr1, _, _, _⟩ := (HV1.out.below hb4).read
  obtain ⟨ad2, cap2, rfl, lr2, _, _, _⟩ := (HV2.out.below hb4).read
  have HR1 := Lib.hid lr1
  have HR2 := Lib.hid lr2
  clear hr4 hb4 lr1 lr2
  have hpl : (ps.map (fun x : List UInt8 × Nat => x.1)).length ≤ 1000000 := by have := HP.out.short; have := HS.out; rw [List.length_map]; omega
  have hsame := same_yes ad1 ad2 _ cap1 cap2 _ w4 HR1.out HR2.out rfl hpl
  generalize (ps.map (fun x : List UInt8 × Nat => x.1)).length = N at hsame
  clear hpl
  go_wp2_with fail
  refine hsame.mono ?_
  rintro e w5 ⟨rfl, q, hw5⟩
  have hb5 : Below w4.heap.size w4 w5 := by rw [hw5]; exact below_drewN (.refl _ _) q
  have HB5 := Lib.hid (HB4.out.trans (hb5.mono HB4.out.size))
  have HL5 := Lib.hid (HL4.out.below hb5 rfl)
  have HM5 := Lib.hid (HM4.out.step hb5)
  clear hsame hb5 hw5
  go_wp2_with fail
  refine (C5.out _ HL5.out HM5.out).mono ?_
  rintro e w6 ⟨v6, ls, g6, rfl, hs6, hn6, hl6, hb6⟩
  have HB6 := Lib.hid (HB5.out.trans (hb6.mono HB5.out.size))
  have HL6 := Lib.hid (HL5.out.below hb6 rfl)
  have HM6 := Lib.hid (HM5.out.step hb6)
  have HS6 := Lib.hid hs6
  have HN6 := Lib.hid hn6
  have HV6 := Lib.hid hl6
  clear hs6 hn6 hl6 hb6
  go_wp2_with fail
  refine (C6.out _ HL6.out).mono ?_
  rintro e w7 ⟨v7, ms, g7, rfl, hs7, hn7, hl7, hb7⟩
  obtain rfl := Salv.unique HS6.out HN6.out hs7 hn7
  have HB7 := Lib.hid (HB6.out.trans (hb7.mono HB6.out.size))
  have HM7 := Lib.hid (HM6.out.step hb7)
  obtain ⟨ad6, cap6, rfl, lr6, _, _, _⟩ := (HV6.out.below hb7).read
  obtain ⟨ad7, cap7, rfl, lr7, _, _, _⟩ := hl7.read
  have hsame := same_yes ad6 ad7 _ cap6 cap7 _ w7 lr6 lr7 rfl (by have := HS6.out.short; have := HS.out; omega)
  generalize ls.length = N6 at hsame
  clear hs7 hn7 hl7 hb7 lr6 lr7
  go_wp2_with fail
  refine hsame.mono ?_
  rintro e w8 ⟨rfl, q, hw8⟩
  have hb8 : Below w7.heap.size w7 w8 := by rw [hw8]; exact below_drewN (.refl _ _) q
  have HB8 := Lib.hid (HB7.out.trans (hb8.mono HB7.out.size))
  have HM8 := Lib.hid (HM7.out.step hb8)
  clear hsame hb8 hw8
  go_wp2_with fail
  refine (awake_any _ HM8.out).mono ?_
  rintro e w9 ⟨rfl, hb9⟩
  have HB9 := Lib.hid (HB8.out.trans (hb9.mono HB8.out.size))
  clear hb9
  go_wp2
  go_ret
  exact ⟨rfl, HB9.out⟩
theorem law_finds (ad : Option Addr) (n cap : Nat) (xs : List UInt8) (at_ : Int) (w : World) (hl : Lie w ad xs) (hn : n = xs.length) (hc : n ≤ cap) (hcm : cap ≤ maxLen) (had : ad = none → cap = 0) (hmg : Mag w) :
    Calls Tryd.prog 5 #[.slice ad n cap, .int .i64 at_] w fun e w' => e = .returned (.bool true) ∧ Below w.heap.size w w' :=
  finds_short ad n cap (min n 300) (xs.take 300) at_ w rfl (hl.take 300) (by rw [List.length_take]; omega) (by rw [List.length_take]; omega) (by omega) hc hcm had hmg
end Go.Proofs.YtbbdkghkdmaolaaDoor
