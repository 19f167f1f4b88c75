/-
  The program's Valid and body.
  The program's body.
-/
import Derived.Test.YtjmlidejbddoeaaDoorLU
import Derived.Test.YtjmlidejbddoeaaDoorLH
import Derived.Test.YtjmlidejbddoeaaDoorLI
import Derived.Test.YtjmlidejbddoeaaDoorLD
namespace Go.Proofs.YtjmlidejbddoeaaDoor
open Go.RowKit
set_option linter.unusedVariables false
theorem win_ep (n : Int) : winB [(0, 1125899906842624)] [n] = numE n := by rw [win_len]; rfl
theorem win_cr (n : Int) : winB [(0, 1099511627775)] [n] = numT n := by
  rw [win_len]
  unfold numT
  rw [Bool.eq_iff_iff]
  simp
  omega
theorem vldT_eq (x : Lbl) : vldT x = ((bar x.bc && nam x.pl) && (numE x.ep && numT x.cr)) := rfl
/-- a number and two bounds in new memory -/
theorem winNew (n a b : Int) (W : World) : Calls Tryd.prog 30 #[.slice (some ⟨W.heap.size, 0, none⟩) 1 1, .slice (some ⟨W.heap.size + 1, 0, none⟩) 1 1] ((W.alloc (.cells #[.int .i64 n] 3)).alloc (.cells #[.int .i64 a, .int .i64 b] 51)) fun e w' => e = .returned (.bool (winB [(a, b)] [n])) ∧ Below W.heap.size W w' := by
  have HB := (vl_boxw W (.cells #[.int .i64 n] 3)).alloc (by simp) (.cells #[.int .i64 a, .int .i64 b] 51)
  refine (withini_any (some ⟨W.heap.size, 0, none⟩) (some ⟨W.heap.size + 1, 0, none⟩) 1 1 1 1 [n] [(a, b)] _ ((Ezs.one W n 3).below (vl_boxw _ _)) rfl (by omega) (by have := Prs.one (k := .i64) (W.alloc (.cells #[.int .i64 n] 3)) a b 51; rwa [World.size_alloc] at this) rfl (by omega)).mono ?_
  rintro e w' ⟨rfl, hb⟩
  exact ⟨rfl, HB.trans (hb.mono HB.size)⟩
attribute [local irreducible] vldT bar nam numE numT winB
set_option maxRecDepth 100000 in
set_option maxHeartbeats 2000000 in
theorem validL_any (x : Lbl) (w : World) (hx : x.Fit) (hm : Lmg w) :
    Calls Tryd.prog 12 #[lbV x] w fun e w' => e = .returned (.bool (vldT x)) ∧ Below w.heap.size w w' := by
  have HE := Lib.hid (vldT_eq x)
  have HX := Lib.hid (LbRow.new w x)
  have HXL := Lib.hid (show w.heap.size < (w.alloc (boxL x)).heap.size by simp)
  have HB0 := Lib.hid (vl_boxw w (boxL x))
  have HF := Lib.hid hx
  have HM0 := Lib.hid (hm.step (vl_boxw w (boxL x)))
  have HW1 := Lib.hid (win_ep x.ep)
  have HW2 := Lib.hid (win_cr x.cr)
  clear hx hm
  generalize vldT x = V at HE
  generalize numE x.ep = p3 at *
  generalize numT x.cr = p4 at *
  go_enter Tryd.func12, Tryd.ntmps12
  go_wp2_with fail
  generalize World.alloc w _ = X0 at *
  refine (isbar_any x.bc _ HF.out.b HM0.out).mono ?_
  generalize bar x.bc = p1 at *
  rintro e X1 ⟨rfl, hb1⟩
  have HX1 := Lib.hid (HX.out.below hb1 HXL.out)
  have HB1 := Lib.hid (HB0.out.trans (hb1.mono (Nat.le_of_lt HXL.out)))
  have HM1 := Lib.hid (HM0.out.step hb1)
  clear hb1 HX HB0 HM0 HXL
  obtain ⟨-, c0, c1, c2, c3⟩ := HX1.out.at_
  cases p1
  · go_wp2
    go_ret
    exact ⟨by rw [HE.out]; rfl, HB1.out⟩
  go_wp2_with fail
  refine (name_any x.pl _ HF.out.p HM1.out).mono ?_
  generalize nam x.pl = p2 at *
  rintro e X2 ⟨rfl, hb2⟩
  have HX2 := Lib.hid (HX1.out.below hb2 HX1.out.at_.lt)
  have HB2 := Lib.hid (HB1.out.trans (hb2.mono HB1.out.size))
  clear hb2 c0 c1 c2 c3 HX1 HB1 HM1
  obtain ⟨-, c0, c1, c2, c3⟩ := HX2.out.at_
  cases p2
  · go_wp2
    go_ret
    exact ⟨by rw [HE.out]; rfl, HB2.out⟩
  go_wp2_with fail
  refine (winNew x.ep 0 1125899906842624 X2).mono ?_
  rw [HW1.out]
  rintro e X3 ⟨rfl, hb3⟩
  have HX3 := Lib.hid (HX2.out.below hb3 HX2.out.at_.lt)
  have HB3 := Lib.hid (HB2.out.trans (hb3.mono HB2.out.size))
  clear hb3 c0 c1 c2 c3 HX2 HB2
  obtain ⟨-, c0, c1, c2, c3⟩ := HX3.out.at_
  cases p3
  · go_wp2
    go_ret
    exact ⟨by rw [HE.out]; rfl, HB3.out⟩
  go_wp2_with fail
  refine (winNew x.cr 0 1099511627775 X3).mono ?_
  rw [HW2.out]
  rintro e X4 ⟨rfl, hb4⟩
  have HB4 := Lib.hid (HB3.out.trans (hb4.mono HB3.out.size))
  clear hb4 c0 c1 c2 c3
  go_wp2
  go_ret
  exact ⟨by rw [HE.out]; rfl, HB4.out⟩
end Go.Proofs.YtjmlidejbddoeaaDoor
namespace Go.Proofs.YtjmlidejbddoeaaDoor
open Go.RowKit
set_option linter.unusedVariables false
attribute [local irreducible] encT cod
set_option maxRecDepth 100000 in
set_option maxHeartbeats 2000000 in
theorem body_any (x : Lbl) (w : World) (hv : vldT x = true) :
    Calls Tryd.prog 24 #[lbV x] w (Gives w (bodyT x)) := by
  obtain ⟨h1, h2, h3, h4⟩ := vldT_iff.1 hv
  have b1 := bar_size h1
  have b2 := nam_size h2
  have z0 : (encT volume).length = 7 := by decide +kernel
  have z1 := size_le_encT x.bc
  have z2 := size_le_encT x.pl
  have z3 := enc_len _ (cod_lt x.ep (by omega) (by omega))
  have HZ := Lib.hid (show (encT volume).length ≤ 10 ∧ (encT x.bc).length ≤ 40 ∧ (encT x.pl).length ≤ 40 ∧ (enc (cod x.ep)).length ≤ 40 from ⟨by omega, by omega, by omega, by omega⟩)
  have HI := Lib.hid (show (-9223372036854775808 ≤ x.ep ∧ x.ep ≤ 9223372036854775807) ∧ (-9223372036854775808 ≤ x.cr ∧ x.cr ≤ 9223372036854775807) ∧ x.bc.size ≤ 100 ∧ x.pl.size ≤ 100 from ⟨⟨by omega, by omega⟩, ⟨by omega, by omega⟩, by omega, by omega⟩)
  have HE := Lib.hid (show bodyT x = ((((encT volume ++ encT x.bc) ++ encT x.pl) ++ enc (cod x.ep)) ++ enc (cod x.cr)) from rfl)
  have HX := Lib.hid (LbRow.new w x)
  have HXL := Lib.hid (show w.heap.size < (w.alloc (boxL x)).heap.size by simp)
  have HB0 := Lib.hid (vl_boxw w (boxL x))
  clear hv h1 h2 h3 h4 b1 b2 z0 z1 z2 z3
  generalize bodyT x = T at HE
  go_enter Tryd.func24, Tryd.ntmps24
  go_wp2_with fail
  generalize World.alloc w _ = X0 at *
  refine (ptext_any none 0 [] volume _ (.nil _ _) (fun _ => rfl) (by simp) (by decide +kernel)).mono ?_
  rintro e X1 ⟨v1, rfl, ho1, hb1⟩
  rw [List.nil_append] at ho1
  obtain ⟨ad1, cap1, rfl, hl1, -, -, ha1⟩ := ho1.slice
  have HX1 := Lib.hid (HX.out.below hb1 HXL.out)
  have HB1 := Lib.hid (HB0.out.trans (hb1.mono HB0.out.size))
  have HL1 := Lib.hid hl1
  have HA1 := Lib.hid ha1
  clear ho1 hl1 ha1 hb1 HX HB0 HXL
  obtain ⟨-, c0, c1, c2, c3⟩ := HX1.out.at_
  go_wp2_with fail
  refine (ptext_any ad1 cap1 _ x.bc _ HL1.out HA1.out (by have := HZ.out; omega) (by have := HI.out; omega)).mono ?_
  rintro e X2 ⟨v2, rfl, ho2, hb2⟩
  have HZ2 := Lib.hid (show (encT volume ++ encT x.bc).length ≤ 50 by rw [List.length_append]; have := HZ.out; omega)
  generalize encT volume ++ encT x.bc = P2 at *
  obtain ⟨ad2, cap2, rfl, hl2, -, -, ha2⟩ := ho2.slice
  have HX2 := Lib.hid (HX1.out.below hb2 HX1.out.at_.lt)
  have HB2 := Lib.hid (HB1.out.trans (hb2.mono HB1.out.size))
  have HL2 := Lib.hid hl2
  have HA2 := Lib.hid ha2
  clear ho2 hl2 ha2 hb2 HX1 HB1 HL1 HA1 c0 c1 c2 c3
  obtain ⟨-, c0, c1, c2, c3⟩ := HX2.out.at_
  go_wp2_with fail
  refine (ptext_any ad2 cap2 _ x.pl _ HL2.out HA2.out (by have := HZ2.out; omega) (by have := HI.out; omega)).mono ?_
  rintro e X3 ⟨v3, rfl, ho3, hb3⟩
  have HZ3 := Lib.hid (show (P2 ++ encT x.pl).length ≤ 90 by rw [List.length_append]; have := HZ.out; have := HZ2.out; omega)
  generalize P2 ++ encT x.pl = P3 at *
  obtain ⟨ad3, cap3, rfl, hl3, -, -, ha3⟩ := ho3.slice
  have HX3 := Lib.hid (HX2.out.below hb3 HX2.out.at_.lt)
  have HB3 := Lib.hid (HB2.out.trans (hb3.mono HB2.out.size))
  have HL3 := Lib.hid hl3
  have HA3 := Lib.hid ha3
  clear ho3 hl3 ha3 hb3 HX2 HB2 HL2 HA2 HZ2 c0 c1 c2 c3
  obtain ⟨-, c0, c1, c2, c3⟩ := HX3.out.at_
  go_wp2_with fail
  refine (pint_any ad3 cap3 _ x.ep _ HL3.out HA3.out (by have := HZ3.out; omega) HI.out.1.1 HI.out.1.2).mono ?_
  rintro e X4 ⟨v4, rfl, ho4, hb4⟩
  have HZ4 := Lib.hid (show (P3 ++ enc (cod x.ep)).length ≤ 130 by rw [List.length_append]; have := HZ.out; have := HZ3.out; omega)
  generalize P3 ++ enc (cod x.ep) = P4 at *
  obtain ⟨ad4, cap4, rfl, hl4, -, -, ha4⟩ := ho4.slice
  have HX4 := Lib.hid (HX3.out.below hb4 HX3.out.at_.lt)
  have HB4 := Lib.hid (HB3.out.trans (hb4.mono HB3.out.size))
  have HL4 := Lib.hid hl4
  have HA4 := Lib.hid ha4
  clear ho4 hl4 ha4 hb4 HX3 HB3 HL3 HA3 HZ3 c0 c1 c2 c3
  obtain ⟨-, c0, c1, c2, c3⟩ := HX4.out.at_
  go_wp2_with fail
  refine (pint_any ad4 cap4 _ x.cr _ HL4.out HA4.out (by have := HZ4.out; omega) HI.out.2.1.1 HI.out.2.1.2).mono ?_
  rintro e X5 ⟨v5, rfl, ho5, hb5⟩
  have HB5 := Lib.hid (HB4.out.trans (hb5.mono HB4.out.size))
  have HO5 := Lib.hid (ho5.mono HB4.out.size)
  clear ho5 hb5 HB4 HL4 HA4 HX4 c0 c1 c2 c3
  go_wp2
  go_ret
  exact ⟨v5, rfl, by rw [HE.out]; exact HO5.out, HB5.out⟩
end Go.Proofs.YtjmlidejbddoeaaDoor
