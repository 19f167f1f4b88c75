/-
  All shards out of those that are present, by the program.
-/
import Derived.Test.YtinfjidclkgfnaaESolve
import Derived.Test.YtinfjidclkgfnaaERecP
namespace Go.Proofs.Ytinfjidclkgfnaa
open Go.RowKit
attribute [local irreducible] cauL idL encL rowsL knownL prodL matL dataL parL recE recR sameL pick
set_option maxRecDepth 100000 in
set_option maxHeartbeats 2000000 in
theorem recon_any (ad hd : Option Addr) (n m cap hc : Nat) (ls : List (List UInt8)) (hs : List Bool) (p : Int) (w : World) (hl : Lr w ad ls) (hn : n = ls.length) (hn2 : n ≤ 1000) (hb : LieB w hd hs) (hh : m = hs.length) (h0 : -9223372036854775808 ≤ p) (h1 : p ≤ 9223372036854775807) (hrow : ∀ r ∈ ls, r.length ≤ 1000) :
    Calls Try.prog 17 #[.slice ad n cap, .slice hd m hc, .int .i64 p] w (RecP w ls hs p) := by
  have hvw := vc_wrap n p (by omega) h0 h1
  have HN := Lib.hid hn
  have HL := Lib.hid hl
  have HR := Lib.hid hrow
  have HB := Lib.hid hb
  have HH := Lib.hid hh
  obtain ⟨D, hD⟩ : ∃ D, IntKind.i64.wrap ((n : Int) - p) = D := ⟨_, rfl⟩
  have hD2 := hD
  rw [IntKind.wrap_i64] at hD2
  clear hl hrow hb hh
  rcases hv : vc ((n : Int) - p) p with _ | _
  · have HF : Hid (recE ls hs p = 7) := Lib.hid (recE_range (by rw [← hn]; exact hv))
    rw [hv, hD] at hvw
    have hd0 : -9223372036854775808 ≤ D := by omega
    have hd1 : D ≤ 9223372036854775807 := by omega
    clear hD2 hn
    go_enter Try.func17, Try.ntmps17
    go_wp2_with fail
    refine (counts_any D p w hd0 hd1).mono ?_
    rintro e w' ⟨rfl, rfl⟩
    rw [hvw]
    go_wp2
    go_ret2
    exact RecP.no (by decide) HF.out (Below.refl _ _)
  have HVL : Hid (vc ((ls.length : Int) - p) p = true) := Lib.hid (by rw [← hn]; exact hv)
  have hq := (vc_iff _ _).1 hv
  obtain ⟨q, rfl⟩ := Int.eq_ofNat_of_zero_le hq.2.1
  obtain ⟨k, hk⟩ := Int.eq_ofNat_of_zero_le (show 0 ≤ (n : Int) - (q : Int) by omega)
  have hDk : D = (k : Int) := by omega
  subst hDk
  rw [hv, hD] at hvw
  have HV := Lib.hid hvw
  have hk1 : 1 ≤ k := by omega
  have hkn : k + q ≤ 16 := by omega
  have HNK : Hid (n = k + q) := Lib.hid (by omega)
  have HLK : Hid (ls.length = k + q) := Lib.hid (by omega)
  clear hv hq hk hn hD2 hvw
  by_cases hmn : m = n
  rotate_left
  · have HF : Hid (recE ls hs q = 8) := Lib.hid (recE_len HVL.out (by have := HH.out; have := HN.out; omega))
    have hmn2 : ¬ (m : Int) = (n : Int) := by omega
    go_enter Try.func17, Try.ntmps17
    go_wp2_with fail
    refine (counts_any (k : Int) q w (by omega) (by omega)).mono ?_
    rintro e w' ⟨rfl, rfl⟩
    rw [HV.out]
    go_wp2
    go_ret2
    exact RecP.no (by decide) HF.out (Below.refl _ _)
  subst hmn
  have HHL : Hid (hs.length = ls.length) := Lib.hid (by rw [← HH.out, ← HN.out])
  go_enter Try.func17, Try.ntmps17
  go_wp2_with fail
  refine (counts_any (k : Int) q w (by omega) (by omega)).mono ?_
  rintro e w' ⟨rfl, rfl⟩
  rw [HV.out]
  go_wp2_with fail
  refine (present_any ad hd m cap hc ls hs w HL.out HN.out hn2 HB.out HH.out).mono ?_
  rintro e w1 ⟨v1, rfl, ho1, hb1⟩
  obtain ⟨a1, c1, rfl, hl1, hc1, hm1, -⟩ := ho1.read
  have HL1 := Lib.hid hl1
  have HB1 := Lib.hid hb1
  have HM1 : Hid ((pick ls hs).length ≤ maxLen) := Lib.hid (Nat.le_trans hc1 hm1)
  obtain ⟨P, hP⟩ : ∃ P, P = (pick ls hs).length := ⟨_, rfl⟩
  rw [← hP] at hc1 ⊢
  rw [← hP] at HM1
  have HP := Lib.hid hP
  unfold maxLen at hm1
  clear ho1 hb1 hl1 hP
  rcases hsm : sameL (pick ls hs) with _ | _
  · have HF : Hid (recE ls hs q = 8) := Lib.hid (recE_same HVL.out HHL.out hsm)
    go_wp2_with fail
    refine (same_any a1 P c1 (pick ls hs) w1 HL1.out HP.out HM1.out).mono ?_
    rintro e w' ⟨rfl, rfl⟩
    rw [hsm]
    go_wp2
    go_ret2
    exact RecP.no (by decide) HF.out HB1.out
  have HSM := Lib.hid hsm
  go_wp2_with fail
  refine (same_any a1 P c1 (pick ls hs) w1 HL1.out HP.out HM1.out).mono ?_
  rintro e w' ⟨rfl, rfl⟩
  rw [hsm]
  clear hsm hc1 hm1
  go_wp2_with fail
  refine (chosen_any hd m hc k q hs w1 (HB.out.below HB1.out) HH.out hk1 (by omega) HNK.out).mono ?_
  rintro e w2 ⟨b, D, rfl, hM, hb2⟩
  have HB2 := Lib.hid (HB1.out.trans (hb2.mono HB1.out.size))
  have HM := Lib.hid hM
  have hsz := hM.2.1
  have hlen := hM.1.len Try.underlying58 3
  rw [List.take_of_length_le (by rw [← HH.out]; exact Nat.le_refl _)] at hsz
  clear hM hb2
  by_cases hct : k ≤ hs.count true
  rotate_left
  · have HF : Hid (recE ls hs q = 23) := Lib.hid (recE_lost HVL.out HHL.out HSM.out HLK.out (by omega))
    have hs1 : ((Maps.size D : Nat) : Int) < (k : Int) := by omega
    clear hsz hct
    go_wp2
    go_ret2
    exact RecP.no (by decide) HF.out HB2.out
  have HF : Hid (recE ls hs q = 0) := Lib.hid (recE_ok HVL.out HHL.out HSM.out HLK.out hct)
  have hs1 : ¬ ((Maps.size D : Nat) : Int) < (k : Int) := by omega
  have HC := Lib.hid hct
  clear hsz hct
  go_wp2_with fail
  clear hlen hs1
  refine (solve_any ad m cap k q b D ls hs w2 (HL.out.below HB2.out) HN.out HH.out hk1 (by omega) HNK.out HM.out HC.out HSM.out HR.out).mono ?_
  rintro e w3 ⟨v3, rfl, ho3, hb3⟩
  have HDL := Lib.hid (dataL_length (k := k) (p := q) (hs := hs) (ls := ls) (by rw [HHL.out, HLK.out]) HC.out (by omega))
  have HDR := Lib.hid (dataL_row (k := k) (p := q) (hs := hs) (ls := ls) (by rw [HHL.out, HLK.out]) HC.out (by omega))
  have HKC : Hid (cols (knownL k ls hs) ≤ 1000) := Lib.hid (cols_le _ _ fun r hr => HR.out r (pick_mem ls hs r (by unfold knownL at hr; exact List.mem_of_mem_take hr)))
  obtain ⟨a3, c3, e3, hl3, hc3, hm3, -⟩ := ho3.read
  have HL3 := Lib.hid hl3
  have HB3 := Lib.hid (HB2.out.trans (hb3.mono HB2.out.size))
  have HO3 : Hid (Lq w3 w2.heap.size w2.heap.size (.slice a3 (dataL k q ls hs).length c3) (dataL k q ls hs)) := Lib.hid (by rw [← e3]; exact ho3)
  have HS3 := Lib.hid hb3.size
  subst e3
  rw [HDL.out] at HO3 hc3 ⊢
  unfold maxLen at hm3
  clear ho3 hb3 hl3
  go_wp2_with fail
  refine (parity_any a3 k c3 (dataL k q ls hs) q w3 HL3.out HDL.out.symm (by unfold maxLen; omega) (fun r hr => by rw [HDR.out r hr]; exact HKC.out)).mono ?_
  rintro e w4 ⟨v4, rfl, ho4, hb4⟩
  have hVD : vc (((dataL k q ls hs).length : Nat) : Int) (q : Int) = true := by rw [HDL.out]; exact HV.out
  have hSD : sameL (dataL k q ls hs) = true := by
    rw [sameL_iff]
    intro r hr
    have h0 : 0 < (dataL k q ls hs).length := by rw [HDL.out]; omega
    rw [HDR.out r hr, cols_first _ h0, HDR.out _ (List.getElem_mem h0)]
  rw [parE_ok hVD hSD]
  rw [parR_ok hVD hSD, Int.toNat_natCast] at ho4
  obtain ⟨a4, c4, rfl, hx4, hc4, hm4, hn4⟩ := ho4.lx
  have HX4 : Hid (Lx w4 w3.heap.size (Value.slice a3 k c3).ownBlock a4 (parL (dataL k q ls hs) q)) := Lib.hid (hx4.other fun g hg => (HO3.out.lt g hg).2)
  have HO4 := Lib.hid (HO3.out.below hb4)
  have HB4 := Lib.hid (HB3.out.trans (hb4.mono HB3.out.size))
  have HN4 := Lib.hid hn4
  have HPL := Lib.hid (parL_length (dataL k q ls hs) q)
  rw [HPL.out]
  have HZ2 : Hid (w2.heap.size ≤ w4.heap.size ∧ w2.heap.size ≤ w3.heap.size ∧ w.heap.size ≤ w2.heap.size) := Lib.hid ⟨Nat.le_trans HS3.out hb4.size, HS3.out, HB2.out.size⟩
  clear hVD hSD ho4 hx4 hb4 hn4 hc4 hm4
  go_wp2_with (at_builtin; refine wpList_append_q rfl (.tmp 49) (.tmp 50) rfl w2.heap.size w2.heap.size w3.heap.size 0 (.slice a3 k c3) (dataL k q ls hs) rfl HO4.out a4 q c4 (parL (dataL k q ls hs) q) HN4.out HX4.out HPL.out.symm rfl (by rw [HDL.out]; omega) HZ2.out.1 (Nat.zero_le _) (Nat.zero_le _) ?_; intro v5 w5 ho5 hg5 _; have HB5 := Lib.hid (HO4.out.grow HB4.out HZ2.out.2.2 hg5); obtain ⟨a5, c5, rfl, hl5, hc5, hm5, -⟩ := ho5.read; have HL5 := Lib.hid hl5; have HC5 := Lib.hid hc5; have HM5 := Lib.hid hm5; clear ho5 hg5 hl5 hc5 hm5)
  go_ret2
  exact RecP.ok HF.out HLK.out HL5.out (by rw [List.length_append]) (by have h := HC5.out; rw [List.length_append] at h; exact h) HM5.out HB5.out
end Go.Proofs.Ytinfjidclkgfnaa
