/-
  PackerBounds.
-/
import Derived.Test.YtgmcniflandmmaaPkLaw1
import Derived.Test.YtgmcniflandmmaaPkPacks
namespace Go.Proofs.Ytgmcniflandmmaa
open Go.RowKit
set_option linter.unusedVariables false
set_option linter.unusedSimpArgs false
theorem ordX_perm {l : List Int} {c : Int} (h : valU l c = 0) : (ordX l c).Perm (List.range l.length) := by
  rw [ordX_ok h]
  exact ordD_perm (valU_ok h).2.2
attribute [local irreducible] ffU leastU
set_option maxRecDepth 100000 in
set_option maxHeartbeats 8000000 in
theorem law_bounds (ad : Option Addr) (n cap : Nat) (l : List Int) (c : Int) (w : World) (hl : Lf inC w ad l) (hn : n = l.length) (hs : n ≤ 9223372036854775807) :
    Calls Try.prog 6 #[.slice ad n cap, .int .i64 c] w fun e w' => e = .returned (.bool true) ∧ Below w.heap.size w w' := by
  have HL := Lib.hid hl
  have HN := Lib.hid hn
  have HSS := Lib.hid hs
  have HS := Lib.hid (ffU_same l c (ordX l c) (List.range l.length))
  have HK := Lib.hid (@ffU_ok l c (List.range l.length))
  have HP1 := Lib.hid (fun h => ffU_perm (L := l) (c := c) (o := List.range l.length) h (List.Perm.refl _))
  have HP2 := Lib.hid (fun (hv : valU l c = 0) h => ffU_perm (L := l) (c := c) (o := ordX l c) h (ordX_perm hv))
  clear hl hn hs
  go_enter Try.func6, Try.ntmps6
  by_cases h6 : 600 < n
  · go_wp2_with fail
    refine (awake16_any w).mono ?_
    rintro e w' ⟨rfl, hb⟩
    have HB := Lib.hid hb
    clear hb
    go_wp2_with fail
    go_ret
    exact ⟨rfl, HB.out⟩
  have HN6 := Lib.hid (show n ≤ 600 by omega)
  go_wp2_with fail
  refine (least_any ad n cap l c w HL.out HN.out HSS.out).mono ?_
  rintro e X1 ⟨rfl, hb1⟩
  have HB1 := Lib.hid hb1
  clear hb1
  obtain ⟨U, hU⟩ : ∃ U, U = leastU l c := ⟨_, rfl⟩
  have HUE := Lib.hid hU
  rw [← hU]
  have huu := ne_f (show U = U from rfl)
  go_wp2_with fail
  refine (rleast_any ad n cap l c X1 (HL.out.below HB1.out) HN.out HSS.out).mono ?_
  rw [← hU]
  clear hU
  rintro e w' ⟨rfl, rfl⟩
  go_wp2_with fail
  refine (firstfit_any ad n cap l c X1 (HL.out.below HB1.out) HN.out HSS.out).mono ?_
  rintro e X2 ⟨v1, rfl, hv1, hb2⟩
  have HV1 := Lib.hid hv1
  have HB2 := Lib.hid (HB1.out.trans (hb2.mono HB1.out.size))
  clear hv1 hb2
  go_wp2_with fail
  refine (decreasing_any ad n cap l c X2 (HL.out.below HB2.out) HN.out HSS.out).mono ?_
  rintro e X3 ⟨v2, rfl, hv2, hb3⟩
  have HV2 := Lib.hid hv2
  have HV3 := Lib.hid (HV1.out.below hb3)
  have HB3 := Lib.hid (HB2.out.trans (hb3.mono HB2.out.size))
  clear hv2 hb3 HV1 HB1 HB2
  rw [HS.out]
  generalize hE : (ffU l c (List.range l.length)).2 = E at *
  by_cases hE0 : E = 0
  rotate_left
  · have he := ne_t hE0
    have he2 := eq_t (show E = E from rfl)
    clear hE0 hE
    go_wp2_with fail
    refine (awake16_any X3).mono ?_
    rintro e w' ⟨rfl, hb⟩
    have HB := Lib.hid (HB3.out.trans (hb.mono HB3.out.size))
    clear hb
    go_wp2_with fail
    go_ret
    exact ⟨rfl, HB.out⟩
  obtain ⟨hval, -, -⟩ := HK.out hE0
  obtain ⟨hg1, hp1⟩ := HP1.out hE0
  obtain ⟨hg2, hp2⟩ := HP2.out hval (HS.out.trans hE0)
  have hok := (valU_ok hval).2
  have HL1 := Lib.hid (least_le hval (fun q hq => hg1.use q hq) hp1)
  have HL2 := Lib.hid (least_le hval (fun q hq => hg2.use q hq) hp2)
  subst hE0
  clear hE HS HK HP1 HP2
  generalize (ffU l c (List.range l.length)).1 = ll at *
  generalize (ffU l c (ordX l c)).1 = lk at *
  rw [← HUE.out] at HL1 HL2
  have HQ1 := Lib.hid (packs_any ad n cap l c v1 _ ll X3 (HL.out.below HB3.out) HN.out HV3.out hg1 hp1 hok HN6.out)
  have HQ2 := Lib.hid (fun X (hX : Below X3.heap.size X3 X) => packs_any ad n cap l c v2 _ lk X (HL.out.below (HB3.out.trans (hX.mono HB3.out.size))) HN.out (HV2.out.below hX) hg2 hp2 hok HN6.out)
  clear hg1 hp1 hg2 hp2 hok hval
  go_wp2_with fail
  refine HQ1.out.mono ?_
  rintro e X4 ⟨rfl, hb4⟩
  have HB4 := Lib.hid hb4
  clear hb4
  go_wp2_with fail
  refine (HQ2.out X4 HB4.out).mono ?_
  rintro e X5 ⟨rfl, hb5⟩
  have HB5 := Lib.hid (HB3.out.trans ((HB4.out.trans (hb5.mono HB4.out.size)).mono HB3.out.size))
  clear hb5
  obtain ⟨ad1, cap1, rfl, -⟩ := HV3.out.read
  obtain ⟨ad2, cap2, rfl, -⟩ := HV2.out.read
  have h1 := HL1.out
  have h2 := HL2.out
  go_wp2_with fail
  refine (awake16_any X5).mono ?_
  rintro e w' ⟨rfl, hb⟩
  have HB := Lib.hid (HB5.out.trans (hb.mono HB5.out.size))
  clear hb
  go_wp2_with fail
  go_ret
  exact ⟨rfl, HB.out⟩
end Go.Proofs.Ytgmcniflandmmaa
