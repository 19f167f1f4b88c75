/-
  MatrixInverts: the walk.
-/
import Derived.Test.YtbkjocmldeagdaaJGives
namespace Go.Proofs.Ytbkjocmldeagdaa
open Go.RowKit
theorem GivesB.len {w w' : World} {b : Bool} {L : List (List UInt8)} {e : Ending} (h : GivesB w b L e w') (n : Nat) (hn : n = L.length) : ∃ ad cap, e = .returned (.tuple #[.slice ad n cap, .bool b]) ∧ Lr w' ad L ∧ Below w.heap.size w w' := by
  subst hn
  obtain ⟨ad, cap, h1, h2, _, _, h3⟩ := h
  exact ⟨ad, cap, h1, h2, h3⟩
theorem GivesM.len {w w' : World} {L : List (List UInt8)} {e : Ending} (h : GivesM w L e w') (n : Nat) (hn : n = L.length) : ∃ ad cap, e = .returned (.slice ad n cap) ∧ Lr w' ad L ∧ Below w.heap.size w w' := by
  subst hn
  obtain ⟨ad, cap, h1, h2, _, _, h3⟩ := h
  exact ⟨ad, cap, h1, h2, h3⟩
theorem has_rank {ls : List (List UInt8)} (hV : ValidL ls) (hs : ls.length = cols ls) : Has ls ↔ rk ls = ls.length := by
  rw [rk_yes hV, ← hs, ← inv_iff_rank]
  exact ⟨fun h => h.2.2, fun h => ⟨hV, hs, h⟩⟩
/-- all that the law asks of an inverse -/
structure InvAll (ls P : List (List UInt8)) (n : Nat) : Prop where
  ide : ideR (n : Int) = idL n
  val : invR ls = P
  len : P.length = n
  fit1 : Fits P ls
  mul1 : mulL P ls = idL n
  fit2 : Fits ls P
  mul2 : mulL ls P = idL n
  has : Has P
  back : invR P = ls
theorem inv_all {ls : List (List UInt8)} (h : Has ls) (n : Nat) (hn : n = ls.length) : ∃ P, InvAll ls P n := by
  obtain ⟨hV, hs, A, hA⟩ := h
  subst hn
  have hp := hV.pos
  have hle := hV.le
  have hVP : ValidL (matL ls.length ls.length A) := matL_valid _ _ _ hp hle hp hle
  have hcP : cols (matL ls.length ls.length A) = ls.length := matL_cols _ _ _ hp
  have hHP : Has (matL ls.length ls.length A) := ⟨hVP, by rw [hcP, matL_length], ent ls, by rw [matL_length]; exact Inv.back hA⟩
  refine ⟨matL ls.length ls.length A, ?_, invR_yes ⟨hV, hs, A, hA⟩ A hA, matL_length _ _ _, ⟨hVP, hV, hcP⟩, mulL_left _ A ls rfl hs.symm hA, ⟨hV, hVP, by rw [matL_length]; exact hs.symm⟩, mulL_right _ A ls rfl hp hA, hHP, ?_⟩
  · unfold ideR
    rw [if_pos ⟨by omega, by omega⟩, Int.toNat_natCast]
  · rw [invR_yes hHP (ent ls) (by rw [matL_length]; exact Inv.back hA), matL_length]
    have := hV.self
    rw [← hs] at this
    exact this
set_option maxRecDepth 100000 in
set_option maxHeartbeats 1000000 in
theorem law_inverts (ad : Option Addr) (n cap : Nat) (ls : List (List UInt8)) (w : World) (hl : Lr w ad ls) (hn : n = ls.length) (hm : n ≤ maxLen) :
    Calls Try.prog 5 #[.slice ad n cap] w fun e w' => e = .returned (.bool true) ∧ Below w.heap.size w w' := by
  have HL := Lib.hid hl
  have HN := Lib.hid hn
  have HM := Lib.hid hm
  clear hl hn hm
  go_enter Try.func5, Try.ntmps5
  go_wp2_with fail
  refine (lives_any _).mono ?_
  rintro e w1 ⟨rfl, hb1⟩
  have HB1 := Lib.hid hb1
  clear hb1
  go_wp2_with fail
  refine (few_any ad n cap ls w1 (HL.out.below HB1.out) HN.out HM.out).mono ?_
  rintro e w1' ⟨f, rfl, -, rfl⟩
  cases f
  · go_wp2
    go_ret
    exact ⟨rfl, HB1.out⟩
  go_wp2_with fail
  refine (valid_any ad n cap ls w1 (HL.out.below HB1.out) HN.out HM.out).mono ?_
  rintro e w1' ⟨rfl, rfl⟩
  rcases vld_cases ls with ⟨hv, hV⟩ | ⟨hv, hV⟩
  rotate_left
  · rw [hv]
    go_wp2
    go_ret
    exact ⟨rfl, HB1.out⟩
  rw [hv]
  obtain ⟨C, hC⟩ : ∃ C, C = cols ls := ⟨_, rfl⟩
  obtain ⟨b, off, rfl, HCa⟩ := HL.out.mat hV n C HN.out hC
  have hn64 : n ≤ 64 := by have := hV.le; have := HN.out; omega
  have hn1 : 0 < n := by have := hV.pos; have := HN.out; omega
  have hn0 : (0 : Int) < (n : Int) := by omega
  have hC64 : C ≤ 64 := by rw [hC]; exact hV.cle
  obtain ⟨x1, x2, x3, f0, g0, m0, -⟩ := HCa.out w1 HB1.out 0 hn1
  rw [Nat.add_zero] at f0
  have HV := Lib.hid hV
  have HC := Lib.hid hC
  clear hV hC hv
  by_cases hnC : n = C
  rotate_left
  · have hnC2 : ¬ (n : Int) = (C : Int) := by omega
    go_wp2
    go_ret
    exact ⟨rfl, HB1.out⟩
  subst hnC
  have HSQ : Hid (ls.length = cols ls) := Lib.hid (by rw [← HN.out]; exact HC.out)
  go_wp2_with fail
  refine (invert_any _ n cap ls w1 (HL.out.below HB1.out) HN.out HM.out).mono ?_
  rintro e w2 h2
  have h2' := h2.gives
  clear f0 g0 m0
  by_cases hH : Has ls
  rotate_left
  · rw [okI_no hH, invR_no hH] at h2'
    obtain ⟨a2, c2, rfl, hl2, -, -, hb2⟩ := h2'
    have HB2 := Lib.hid (HB1.out.trans (hb2.mono HB1.out.size))
    have hrk : ¬ (rk ls : Int) = (n : Int) := by
      have := (has_rank HV.out HSQ.out).2
      have := HN.out
      intro h
      exact hH ((has_rank HV.out HSQ.out).2 (by omega))
    have hrb : ((rk ls : Int) == (n : Int)) = false := by rw [beq_eq_false_iff_ne]; exact hrk
    clear h2 hl2 hb2 hH
    go_wp2_with fail
    refine (rank_any _ n cap ls w2 (HL.out.below HB2.out) HN.out HM.out).mono ?_
    rintro e w3 ⟨rfl, hb3⟩
    have HB3 := Lib.hid (HB2.out.trans (hb3.mono HB2.out.size))
    clear hb3
    go_wp2
    go_ret
    exact ⟨rfl, HB3.out⟩
  obtain ⟨P, HP⟩ : ∃ P, Hid (InvAll ls P n) := by
    obtain ⟨P, h⟩ := inv_all hH n HN.out
    exact ⟨P, Lib.hid h⟩
  rw [okI_yes hH, HP.out.val] at h2'
  obtain ⟨a2, c2, rfl, hl2, hb2⟩ := h2'.len n HP.out.len.symm
  have HB2 := Lib.hid (HB1.out.trans (hb2.mono HB1.out.size))
  have HA := Lib.hid hl2
  have hrk : (rk ls : Int) = (n : Int) := by
    have := (has_rank HV.out HSQ.out).1 hH
    have := HN.out
    omega
  have hrb : ((rk ls : Int) == (n : Int)) = true := by rw [beq_iff_eq]; exact hrk
  have hm64 : n ≤ maxLen := by unfold maxLen; omega
  have HM64 := Lib.hid hm64
  clear h2 hl2 hb2 hH hm64
  go_wp2_with fail
  refine (rank_any _ n cap ls w2 (HL.out.below HB2.out) HN.out HM.out).mono ?_
  rintro e w3 ⟨rfl, hb3⟩
  have HB3 := Lib.hid (HB2.out.trans (hb3.mono HB2.out.size))
  have HA3 := Lib.hid (HA.out.below hb3)
  clear hb3
  go_wp2_with fail
  refine (ident_any (n : Int) w3 (by omega) (by omega)).mono ?_
  rintro e w4 h4
  have h4' := h4.gives
  rw [HP.out.ide] at h4'
  obtain ⟨a4, c4, rfl, hl4, hb4⟩ := h4'.len n (idL_length n).symm
  have HB4 := Lib.hid (HB3.out.trans (hb4.mono HB3.out.size))
  have HA4 := Lib.hid (HA3.out.below hb4)
  have HI4 := Lib.hid hl4
  clear h4 hl4 hb4
  go_wp2_with fail
  refine (mulm_any a2 _ n n c2 cap P ls w4 HA4.out HP.out.len.symm HM64.out (HL.out.below HB4.out) HN.out HM.out).mono ?_
  rintro e w5 h5
  have h5' := h5.gives
  rw [okM_yes HP.out.fit1, mulR_yes HP.out.fit1, HP.out.mul1] at h5'
  obtain ⟨a5, c5, rfl, hl5, hb5⟩ := h5'.len n (idL_length n).symm
  have HB5 := Lib.hid (HB4.out.trans (hb5.mono HB4.out.size))
  have HA5 := Lib.hid (HA4.out.below hb5)
  have HI5 := Lib.hid (HI4.out.below hb5)
  have HX5 := Lib.hid hl5
  clear h5 hl5 hb5
  go_wp2_with fail
  refine (mulm_any _ a2 n n cap c2 ls P w5 (HL.out.below HB5.out) HN.out HM.out HA5.out HP.out.len.symm HM64.out).mono ?_
  rintro e w6 h6
  have h6' := h6.gives
  rw [okM_yes HP.out.fit2, mulR_yes HP.out.fit2, HP.out.mul2] at h6'
  obtain ⟨a6, c6, rfl, hl6, hb6⟩ := h6'.len n (idL_length n).symm
  have HB6 := Lib.hid (HB5.out.trans (hb6.mono HB5.out.size))
  have HA6 := Lib.hid (HA5.out.below hb6)
  have HI6 := Lib.hid (HI5.out.below hb6)
  have HX6 := Lib.hid (HX5.out.below hb6)
  have HY6 := Lib.hid hl6
  clear h6 hl6 hb6
  go_wp2_with fail
  refine (invert_any a2 n c2 P w6 HA6.out HP.out.len.symm HM64.out).mono ?_
  rintro e w7 h7
  have h7' := h7.gives
  rw [okI_yes HP.out.has, HP.out.back] at h7'
  obtain ⟨a7, c7, rfl, hl7, hb7⟩ := h7'.len n HN.out
  have HB7 := Lib.hid (HB6.out.trans (hb7.mono HB6.out.size))
  have HI7 := Lib.hid (HI6.out.below hb7)
  have HX7 := Lib.hid (HX6.out.below hb7)
  have HY7 := Lib.hid (HY6.out.below hb7)
  have HZ7 := Lib.hid hl7
  clear h7 hl7 hb7
  go_wp2_with fail
  refine (same_yes a5 a4 n c5 c4 (idL n) w7 HX7.out HI7.out (idL_length n).symm (by rw [idL_length]; omega)).mono ?_
  rintro e w8 ⟨rfl, hb8⟩
  have hb8' := drewN_below w7 hb8
  have HB8 := Lib.hid (HB7.out.trans (hb8'.mono HB7.out.size))
  have HI8 := Lib.hid (HI7.out.below hb8')
  have HY8 := Lib.hid (HY7.out.below hb8')
  have HZ8 := Lib.hid (HZ7.out.below hb8')
  clear hb8 hb8'
  go_wp2_with fail
  refine (same_yes a6 a4 n c6 c4 (idL n) w8 HY8.out HI8.out (idL_length n).symm (by rw [idL_length]; omega)).mono ?_
  rintro e w9 ⟨rfl, hb9⟩
  have hb9' := drewN_below w8 hb9
  have HB9 := Lib.hid (HB8.out.trans (hb9'.mono HB8.out.size))
  have HZ9 := Lib.hid (HZ8.out.below hb9')
  clear hb9 hb9'
  go_wp2_with fail
  refine (same_yes a7 _ n c7 cap ls w9 HZ9.out (HL.out.below HB9.out) HN.out (by have := HN.out; omega)).mono ?_
  rintro e w10 ⟨rfl, hb10⟩
  have HB10 := Lib.hid (HB9.out.trans ((drewN_below w9 hb10).mono HB9.out.size))
  clear hb10
  go_wp2
  go_ret
  exact ⟨rfl, HB10.out⟩
end Go.Proofs.Ytbkjocmldeagdaa
