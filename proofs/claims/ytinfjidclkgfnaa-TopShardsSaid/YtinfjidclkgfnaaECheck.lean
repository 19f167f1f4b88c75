/-
  Are the last shards the parity shards of the others? By the program and by the specification.
-/
import Derived.Test.YtinfjidclkgfnaaEEqual
import Derived.Test.YtinfjidclkgfnaaEProd
import Derived.Test.YtinfjidclkgfnaaERPar
namespace Go.Proofs.Ytinfjidclkgfnaa
open Go.RowKit
/-- are the last q shards the parity shards of the first k? -/
def chkK (ls : List (List UInt8)) (k q : Nat) : Bool := sameL (ls.take k) && eqL (parL (ls.take k) q) (ls.drop k)
/-- are the last p shards the parity shards of the others? -/
def chkL (ls : List (List UInt8)) (p : Int) : Bool := vc ((ls.length : Int) - p) p && chkK ls ((ls.length : Int) - p).toNat p.toNat
theorem chkL_no {ls : List (List UInt8)} {p : Int} (h : vc ((ls.length : Int) - p) p = false) : chkL ls p = false := by unfold chkL; rw [h]; rfl
theorem chkL_yes {ls : List (List UInt8)} {k q : Nat} (h : vc (k : Int) q = true) (hn : ls.length = k + q) : chkL ls q = chkK ls k q := by
  unfold chkL
  have e : (ls.length : Int) - (q : Int) = (k : Int) := by omega
  rw [e, h]
  rfl
theorem chkK_no {ls : List (List UInt8)} {k q : Nat} (h : sameL (ls.take k) = false) : chkK ls k q = false := by unfold chkK; rw [h]; rfl
theorem chkK_yes {ls : List (List UInt8)} {k q : Nat} (h : sameL (ls.take k) = true) : chkK ls k q = eqL (parL (ls.take k) q) (ls.drop k) := by unfold chkK; rw [h]; rfl
theorem cols_take (ls : List (List UInt8)) (k : Nat) (hk : 1 ≤ k) : cols (ls.take k) = cols ls := by
  obtain ⟨m, rfl⟩ : ∃ m, k = m + 1 := ⟨k - 1, by omega⟩
  cases ls <;> rfl
theorem same_take {ls : List (List UInt8)} {k : Nat} (hk : 1 ≤ k) (h : sameL ls = true) : sameL (ls.take k) = true :=
  (sameL_iff _).2 fun r hr => by rw [cols_take ls k hk]; exact (sameL_iff _).1 h r (List.mem_of_mem_take hr)
/-- the specification looks at all lengths first -/
theorem chkK_all {ls : List (List UInt8)} {k q : Nat} (hk : 1 ≤ k) (h : sameL ls = false) : chkK ls k q = false := by
  rw [← Bool.not_eq_true]
  intro hc
  unfold chkK at hc
  rw [Bool.and_eq_true] at hc
  obtain ⟨h1, h2⟩ := hc
  have h2 : parL (ls.take k) q = ls.drop k := of_decide_eq_true h2
  rw [← Bool.not_eq_true, sameL_iff] at h
  refine h fun r hr => ?_
  rw [← List.take_append_drop k ls] at hr
  rcases List.mem_append.1 hr with h3 | h3
  · rw [(sameL_iff _).1 h1 r h3, cols_take ls k hk]
  · rw [← h2] at h3
    rw [parL_row _ _ r h3, cols_take ls k hk]
attribute [local irreducible] parL chkL chkK eqL sameL
set_option maxRecDepth 100000 in
set_option maxHeartbeats 1000000 in
theorem check_any (ad : Option Addr) (n cap : Nat) (ls : List (List UInt8)) (p : Int) (w : World) (hl : Lr w ad ls) (hn : n = ls.length) (hm : n ≤ 100000) (hcap : n ≤ cap) (hcm : cap ≤ maxLen) (h0 : -9223372036854775808 ≤ p) (h1 : p ≤ 9223372036854775807) (hrow : ∀ r ∈ ls, r.length ≤ 1000) :
    Calls Try.prog 14 #[.slice ad n cap, .int .i64 p] w fun e w' => e = .returned (.bool (chkL ls p)) ∧ Below w.heap.size w w' := by
  have hvw := vc_wrap n p hm h0 h1
  have HN := Lib.hid hn
  have HL := Lib.hid hl
  have HR := Lib.hid hrow
  obtain ⟨D, hD⟩ : ∃ D, IntKind.i64.wrap ((n : Int) - p) = D := ⟨_, rfl⟩
  have hD2 := hD
  rw [IntKind.wrap_i64] at hD2
  unfold maxLen at hcm
  clear hl hrow
  rcases hv : vc ((n : Int) - p) p with _ | _
  · have HF : Hid (chkL ls p = false) := Lib.hid (chkL_no (by rw [← hn]; exact hv))
    rw [hv, hD] at hvw
    clear hn
    have hd0 : -9223372036854775808 ≤ D := by omega
    have hd1 : D ≤ 9223372036854775807 := by omega
    clear hD2
    go_enter Try.func14, Try.ntmps14
    go_wp2_with fail
    refine (counts_any D p w hd0 hd1).mono ?_
    rintro e w' ⟨rfl, rfl⟩
    rw [hvw]
    go_wp2
    go_ret
    exact ⟨by rw [HF.out]; rfl, Below.refl _ _⟩
  have hq := (vc_iff _ _).1 hv
  obtain ⟨q, rfl⟩ := Int.eq_ofNat_of_zero_le hq.2.1
  obtain ⟨k, hk⟩ := Int.eq_ofNat_of_zero_le (show 0 ≤ (n : Int) - (q : Int) by omega)
  have hkn : n = k + q := by omega
  have hDk : D = (k : Int) := by omega
  subst hDk
  rw [hv, hD] at hvw
  have HV := Lib.hid hvw
  have HE : Hid (chkL ls (q : Int) = chkK ls k q) := Lib.hid (chkL_yes hvw (by omega))
  have hk1 : 1 ≤ k := by omega
  have hk16 : k ≤ 16 := by omega
  have hq16 : q ≤ 16 := by omega
  have hkn2 : k ≤ n := by omega
  have hnq : n - k = q := by omega
  have hkc : k ≤ cap := by omega
  obtain ⟨b, off, rfl, hbl, -⟩ := HL.out.row 0 (by omega)
  have HT : Hid (k = (ls.take k).length) := Lib.hid (by rw [List.length_take]; omega)
  have HDR : Hid (q = (ls.drop k).length) := Lib.hid (by rw [List.length_drop]; omega)
  have HLT := Lib.hid (HL.out.take k)
  have HLD := Lib.hid (HL.out.drop k)
  have HRT : Hid (∀ r ∈ ls.take k, r.length ≤ 1000) := Lib.hid fun r hr => HR.out r (List.mem_of_mem_take hr)
  have hwk : (vc (((ls.take k).length : Nat) : Int) (q : Int)) = true := by rw [← HT.out]; exact hvw
  have HWK := Lib.hid hwk
  clear hv hq hk hn hD2 hwk hvw
  have HHK := Lib.hid hkn
  rcases hs : sameL (ls.take k) with _ | _
  · have HF : Hid (chkK ls k q = false) := Lib.hid (chkK_no hs)
    have HPE : Hid (parE (ls.take k) q = 8) := Lib.hid (by unfold parE; rw [HWK.out, hs]; rfl)
    clear hkn
    go_enter Try.func14, Try.ntmps14
    go_wp2_with fail
    refine (counts_any (k : Int) q w (by omega) (by omega)).mono ?_
    rintro e w' ⟨rfl, rfl⟩
    rw [HV.out]
    go_wp2_with fail
    refine (parity_any _ k cap (ls.take k) q w HLT.out HT.out (by unfold maxLen; omega) HRT.out).mono ?_
    rintro e w2 ⟨v2, rfl, ho2, hb2⟩
    rw [HPE.out]
    have HB2 := Lib.hid hb2
    clear ho2 hb2
    go_wp2
    go_ret
    exact ⟨by rw [HE.out, HF.out]; rfl, HB2.out⟩
  · have HF : Hid (chkK ls k q = eqL (parL (ls.take k) q) (ls.drop k)) := Lib.hid (chkK_yes hs)
    have HPE : Hid (parE (ls.take k) q = 0) := Lib.hid (parE_ok HWK.out hs)
    have HPR : Hid (parR (ls.take k) q = parL (ls.take k) q) := Lib.hid (by rw [parR_ok HWK.out hs, Int.toNat_natCast])
    clear hkn
    go_enter Try.func14, Try.ntmps14
    go_wp2_with fail
    refine (counts_any (k : Int) q w (by omega) (by omega)).mono ?_
    rintro e w' ⟨rfl, rfl⟩
    rw [HV.out]
    go_wp2_with fail
    refine (parity_any _ k cap (ls.take k) q w HLT.out HT.out (by unfold maxLen; omega) HRT.out).mono ?_
    rintro e w2 ⟨v2, rfl, ho2, hb2⟩
    rw [HPE.out]
    rw [HPR.out] at ho2
    obtain ⟨ad2, cap2, rfl, hl2, -⟩ := ho2.read
    rw [parL_length]
    have HL2 := Lib.hid hl2
    have HB2 := Lib.hid hb2
    clear ho2 hb2 hl2
    by_cases hck : k = cap
    · have HLD2 : Hid (Lr w (some ⟨b, off, none⟩) (ls.drop k)) := Lib.hid ⟨.inl (List.drop_eq_nil_of_le (by have := HN.out; omega))⟩
      clear HLD
      subst hck
      go_wp2_with fail
      refine (eqfunc_any ad2 _ q q cap2 0 (parL (ls.take k) q) (ls.drop k) w2 HL2.out (HLD2.out.below HB2.out) (parL_length _ _).symm HDR.out (by omega)).mono ?_
      rintro e w' ⟨rfl, rfl⟩
      go_wp2
      go_ret
      exact ⟨by rw [HE.out, HF.out]; rfl, HB2.out⟩
    · have hck2 : cap - k ≠ 0 := by omega
      have hck3 : ¬ cap = k := by omega
      go_wp2_with fail
      refine (eqfunc_any ad2 _ q q cap2 (cap - k) (parL (ls.take k) q) (ls.drop k) w2 HL2.out (HLD.out.below HB2.out) (parL_length _ _).symm HDR.out (by omega)).mono ?_
      rintro e w' ⟨rfl, rfl⟩
      go_wp2
      go_ret
      exact ⟨by rw [HE.out, HF.out]; rfl, HB2.out⟩
set_option maxRecDepth 100000 in
set_option maxHeartbeats 1000000 in
theorem rcheck_any (ad : Option Addr) (n cap : Nat) (ls : List (List UInt8)) (p : Int) (w : World) (hl : Lr w ad ls) (hn : n = ls.length) (hm : n ≤ 100000) (hcap : n ≤ cap) (hcm : cap ≤ maxLen) (h0 : -9223372036854775808 ≤ p) (h1 : p ≤ 9223372036854775807) (hrow : ∀ r ∈ ls, r.length ≤ 1000) :
    Calls Try.prog 15 #[.slice ad n cap, .int .i64 p] w fun e w' => e = .returned (.bool (chkL ls p)) ∧ Below w.heap.size w w' := by
  have hvw := vc_wrap n p hm h0 h1
  have HN := Lib.hid hn
  have HL := Lib.hid hl
  have HR := Lib.hid hrow
  have HM : Hid (n ≤ maxLen) := Lib.hid (by unfold maxLen; omega)
  obtain ⟨D, hD⟩ : ∃ D, IntKind.i64.wrap ((n : Int) - p) = D := ⟨_, rfl⟩
  have hD2 := hD
  rw [IntKind.wrap_i64] at hD2
  unfold maxLen at hcm
  clear hl hrow
  rcases hv : vc ((n : Int) - p) p with _ | _
  · have HF : Hid (chkL ls p = false) := Lib.hid (chkL_no (by rw [← hn]; exact hv))
    rw [hv, hD] at hvw
    clear hn hD2
    by_cases hp0 : p < 0
    · go_enter Try.func15, Try.ntmps15
      go_wp2
      go_ret
      exact ⟨by rw [HF.out]; rfl, Below.refl _ _⟩
    by_cases hp1 : 16 < p
    · go_enter Try.func15, Try.ntmps15
      go_wp2
      go_ret
      exact ⟨by rw [HF.out]; rfl, Below.refl _ _⟩
    go_enter Try.func15, Try.ntmps15
    go_wp2_with fail
    refine (rcounts_any D p w).mono ?_
    rintro e w' ⟨rfl, rfl⟩
    rw [hvw]
    go_wp2
    go_ret
    exact ⟨by rw [HF.out]; rfl, Below.refl _ _⟩
  have hq := (vc_iff _ _).1 hv
  obtain ⟨q, rfl⟩ := Int.eq_ofNat_of_zero_le hq.2.1
  obtain ⟨k, hk⟩ := Int.eq_ofNat_of_zero_le (show 0 ≤ (n : Int) - (q : Int) by omega)
  have hkn : n = k + q := by omega
  have hDk : D = (k : Int) := by omega
  subst hDk
  rw [hv, hD] at hvw
  have HV := Lib.hid hvw
  have HE : Hid (chkL ls (q : Int) = chkK ls k q) := Lib.hid (chkL_yes hvw (by omega))
  have hk1 : 1 ≤ k := by omega
  have hk16 : k ≤ 16 := by omega
  have hq16 : q ≤ 16 := by omega
  have hq0 : ¬ (q : Int) < 0 := by omega
  have hq17 : ¬ (16 : Int) < (q : Int) := by omega
  have hkn2 : k ≤ n := by omega
  have hnq : n - k = q := by omega
  have hkc : k ≤ cap := by omega
  obtain ⟨b, off, rfl, hbl, -⟩ := HL.out.row 0 (by omega)
  have HT : Hid (k = (ls.take k).length) := Lib.hid (by rw [List.length_take]; omega)
  have HDR : Hid (q = (ls.drop k).length) := Lib.hid (by rw [List.length_drop]; omega)
  have HLT := Lib.hid (HL.out.take k)
  have HLD := Lib.hid (HL.out.drop k)
  have HRT : Hid (∀ r ∈ ls.take k, r.length ≤ 1000) := Lib.hid fun r hr => HR.out r (List.mem_of_mem_take hr)
  have hwk : (vc (((ls.take k).length : Nat) : Int) (q : Int)) = true := by rw [← HT.out]; exact hvw
  have HWK := Lib.hid hwk
  clear hv hq hk hn hD2 hwk hvw hkn
  rcases hs : sameL ls with _ | _
  · have HF : Hid (chkK ls k q = false) := Lib.hid (chkK_all hk1 hs)
    go_enter Try.func15, Try.ntmps15
    go_wp2_with fail
    refine (rcounts_any (k : Int) q w).mono ?_
    rintro e w' ⟨rfl, rfl⟩
    rw [HV.out]
    go_wp2_with fail
    refine (requal_any _ n cap ls w HL.out HN.out HM.out).mono ?_
    rintro e w1 ⟨rfl, hb1⟩
    rw [hs]
    have HB1 := Lib.hid hb1
    clear hb1
    go_wp2
    go_ret
    exact ⟨by rw [HE.out, HF.out]; rfl, HB1.out⟩
  · have HST := Lib.hid (same_take (k := k) hk1 hs)
    have HF : Hid (chkK ls k q = eqL (parL (ls.take k) q) (ls.drop k)) := Lib.hid (chkK_yes HST.out)
    have HPE : Hid (parE (ls.take k) q = 0) := Lib.hid (parE_ok HWK.out HST.out)
    have HPR : Hid (parR (ls.take k) q = parL (ls.take k) q) := Lib.hid (by rw [parR_ok HWK.out HST.out, Int.toNat_natCast])
    go_enter Try.func15, Try.ntmps15
    go_wp2_with fail
    refine (rcounts_any (k : Int) q w).mono ?_
    rintro e w' ⟨rfl, rfl⟩
    rw [HV.out]
    go_wp2_with fail
    refine (requal_any _ n cap ls w HL.out HN.out HM.out).mono ?_
    rintro e w1 ⟨rfl, hb1⟩
    rw [hs]
    have HB1 := Lib.hid hb1
    clear hb1
    go_wp2_with fail
    refine (rparity_any _ k cap (ls.take k) q w1 (HLT.out.below HB1.out) HT.out (by unfold maxLen; omega) HRT.out).mono ?_
    rintro e w2 ⟨v2, rfl, ho2, hb2⟩
    rw [HPE.out]
    rw [HPR.out] at ho2
    obtain ⟨ad2, cap2, rfl, hl2, -⟩ := ho2.read
    rw [parL_length]
    have HL2 := Lib.hid hl2
    have HB2 := Lib.hid (HB1.out.trans (hb2.mono HB1.out.size))
    clear ho2 hb2 hl2
    by_cases hck : k = cap
    · have HLD2 : Hid (Lr w (some ⟨b, off, none⟩) (ls.drop k)) := Lib.hid ⟨.inl (List.drop_eq_nil_of_le (by have := HN.out; omega))⟩
      clear HLD
      subst hck
      go_wp2_with fail
      refine (rsame_any ad2 _ q q cap2 0 (parL (ls.take k) q) (ls.drop k) w2 HL2.out (HLD2.out.below HB2.out) (parL_length _ _).symm HDR.out (by omega)).mono ?_
      rintro e w3 ⟨rfl, hb3⟩
      have HB3 := Lib.hid (HB2.out.trans (hb3.mono HB2.out.size))
      clear hb3
      go_wp2
      go_ret
      exact ⟨by rw [HE.out, HF.out]; rfl, HB3.out⟩
    · have hck2 : cap - k ≠ 0 := by omega
      have hck3 : ¬ cap = k := by omega
      go_wp2_with fail
      refine (rsame_any ad2 _ q q cap2 (cap - k) (parL (ls.take k) q) (ls.drop k) w2 HL2.out (HLD.out.below HB2.out) (parL_length _ _).symm HDR.out (by omega)).mono ?_
      rintro e w3 ⟨rfl, hb3⟩
      have HB3 := Lib.hid (HB2.out.trans (hb3.mono HB2.out.size))
      clear hb3
      go_wp2
      go_ret
      exact ⟨by rw [HE.out, HF.out]; rfl, HB3.out⟩
end Go.Proofs.Ytinfjidclkgfnaa
