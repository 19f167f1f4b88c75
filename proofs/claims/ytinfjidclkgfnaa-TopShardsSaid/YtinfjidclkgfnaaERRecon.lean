/-
  All shards out of those that are present, by the specification.
-/
import Derived.Test.YtinfjidclkgfnaaESolve
import Derived.Test.YtinfjidclkgfnaaERecP
import Derived.Test.YtinfjidclkgfnaaERPar
import Derived.Test.YtinfjidclkgfnaaEHeldQ
import Derived.Test.YtinfjidclkgfnaaRInv5
namespace Go.Proofs.Ytinfjidclkgfnaa
open Go.RowKit
attribute [local irreducible] cauL idL encL rowsL knownL prodL combL matL dataL parL recE recR sameL pick
set_option maxRecDepth 100000 in
set_option maxHeartbeats 2000000 in
theorem rrecon_any (ad hd : Option Addr) (n m cap hc : Nat) (ls : List (List UInt8)) (hs : List Bool) (p : Int) (w : World) (hl : Lr w ad ls) (hn : n = ls.length) (hn2 : n ≤ 1000) (hb : LieB w hd hs) (hh : m = hs.length) (h0 : -9223372036854775808 ≤ p) (h1 : p ≤ 9223372036854775807) (hrow : ∀ r ∈ ls, r.length ≤ 1000) :
    Calls Try.prog 18 #[.slice ad n cap, .slice hd m hc, .int .i64 p] w (RecP w ls hs p) := by
  have hvw := vc_wrap n p (by omega) h0 h1
  have HN := Lib.hid hn
  have HL := Lib.hid hl
  have HR := Lib.hid hrow
  have HB := Lib.hid hb
  have HH := Lib.hid hh
  obtain ⟨D, hD⟩ : ∃ D, IntKind.i64.wrap ((n : Int) - p) = D := ⟨_, rfl⟩
  have hD2 := hD
  rw [IntKind.wrap_i64] at hD2
  clear hl hrow hb hh
  rcases hv : vc ((n : Int) - p) p with _ | _
  · have HF : Hid (recE ls hs p = 7) := Lib.hid (recE_range (by rw [← hn]; exact hv))
    rw [hv, hD] at hvw
    clear hD2 hn
    by_cases hp0 : p < 0
    · go_enter Try.func18, Try.ntmps18
      go_wp2
      go_ret2
      exact RecP.no (by decide) HF.out (Below.refl _ _)
    by_cases hp1 : 16 < p
    · go_enter Try.func18, Try.ntmps18
      go_wp2
      go_ret2
      exact RecP.no (by decide) HF.out (Below.refl _ _)
    go_enter Try.func18, Try.ntmps18
    go_wp2_with fail
    refine (rcounts_any D p w).mono ?_
    rintro e w' ⟨rfl, rfl⟩
    rw [hvw]
    go_wp2
    go_ret2
    exact RecP.no (by decide) HF.out (Below.refl _ _)
  have HVL : Hid (vc ((ls.length : Int) - p) p = true) := Lib.hid (by rw [← hn]; exact hv)
  have hq := (vc_iff _ _).1 hv
  obtain ⟨q, rfl⟩ := Int.eq_ofNat_of_zero_le hq.2.1
  obtain ⟨k, hk⟩ := Int.eq_ofNat_of_zero_le (show 0 ≤ (n : Int) - (q : Int) by omega)
  have hDk : D = (k : Int) := by omega
  subst hDk
  rw [hv, hD] at hvw
  have HV := Lib.hid hvw
  have hk1 : 1 ≤ k := by omega
  have hkn : k + q ≤ 16 := by omega
  have hq0 : ¬ (q : Int) < 0 := by omega
  have hq17 : ¬ (16 : Int) < (q : Int) := by omega
  have HNK : Hid (n = k + q) := Lib.hid (by omega)
  have HLK : Hid (ls.length = k + q) := Lib.hid (by omega)
  have hn16 : n ≤ 16 := by omega
  clear hv hq hk hn hD2 hvw
  by_cases hmn : m = n
  rotate_left
  · have HF : Hid (recE ls hs q = 8) := Lib.hid (recE_len HVL.out (by have := HH.out; have := HN.out; omega))
    have hmn2 : ¬ (m : Int) = (n : Int) := by omega
    go_enter Try.func18, Try.ntmps18
    go_wp2_with fail
    refine (rcounts_any (k : Int) q w).mono ?_
    rintro e w' ⟨rfl, rfl⟩
    rw [HV.out]
    go_wp2
    go_ret2
    exact RecP.no (by decide) HF.out (Below.refl _ _)
  subst hmn
  have HHL : Hid (hs.length = ls.length) := Lib.hid (by rw [← HH.out, ← HN.out])
  have HEL := Lib.hid (encL_length k q)
  have HER := Lib.hid (encL_row k q)
  have HPE : Hid (pick ((encL k q).take m) (hs.take m) = pick (encL k q) hs) := Lib.hid (by rw [List.take_of_length_le (l := encL k q) (by rw [encL_length]; have := HNK.out; omega), List.take_of_length_le (l := hs) (by have := HH.out; omega)])
  have HPL : Hid (pick (ls.take m) (hs.take m) = pick ls hs) := Lib.hid (by rw [List.take_of_length_le (l := ls) (by have := HN.out; omega), List.take_of_length_le (l := hs) (by have := HH.out; omega)])
  have HLE : Hid ((pick (encL k q) hs).length = hs.count true) := Lib.hid (pick_length _ _ (by rw [encL_length]; have := HNK.out; have := HH.out; omega))
  have HLL : Hid ((pick ls hs).length = hs.count true) := Lib.hid (pick_length _ _ (by have := HHL.out; omega))
  have HCN : Hid (hs.count true ≤ 16) := Lib.hid (by have := List.count_le_length (a := true) (l := hs); have := HH.out; omega)
  go_enter Try.func18, Try.ntmps18
  go_wp2_with fail
  refine (rcounts_any (k : Int) q w).mono ?_
  rintro e w' ⟨rfl, rfl⟩
  rw [HV.out]
  go_wp2_with fail
  refine (rrows_any k q w hk1 (by omega)).mono ?_
  rintro e w1 ⟨v1, rfl, ho1, hb1⟩
  obtain ⟨a1, c1, rfl, hl1, hc1, hm1, -⟩ := ho1.read
  rw [HEL.out, ← HNK.out] at hc1 ⊢
  have HLR := Lib.hid hl1
  have HB1 := Lib.hid hb1
  unfold maxLen at hm1
  clear ho1 hb1 hl1
  go_wp2_with fail
  go_loopg [10, 11, 12] m (fun gk vk vf vi wx => ∃ i : Nat, vi = .int .i64 i ∧ i + gk = m ∧ Hid (Lo wx w1 w1.heap.size vk (pick (ls.take i) (hs.take i))) ∧ Hid (Lo wx w1 w1.heap.size vf (pick ((encL k q).take i) (hs.take i))) ∧ Hid (∀ g, vk.ownBlock = some g → vf.ownBlock ≠ some g) ∧ Hid (Below w1.heap.size w1 wx))
  case atStart => exact ⟨0, rfl, by omega, Lib.hid (by rw [List.take_zero, List.take_zero, pick_nil]; exact Lo.nil _ _ _), Lib.hid (by rw [List.take_zero, List.take_zero, pick_nil]; exact Lo.nil _ _ _), Lib.hid (fun g h => by cases h), Lib.hid (Below.refl _ _)⟩
  case round =>
    obtain ⟨i, rfl, hi, hK, hF, hne, hB⟩ := hrel
    cases gk with
    | zero =>
      have hlt : ¬ (i : Int) < (m : Int) := by omega
      obtain rfl : i = m := by omega
      have hF1 := hF.out.lq hB.out (Nat.le_refl _)
      have hK1 := hK.out.lq hB.out (Nat.le_refl _)
      rw [HPE.out] at hF1
      rw [HPL.out] at hK1
      obtain ⟨adf, capf, rfl, hlf, hcf, hmf, -⟩ := hF1.read
      obtain ⟨adk, capk, rfl, hlk, hck, hmk, -⟩ := hK1.read
      rw [HLE.out] at hcf ⊢
      have HPC := Lib.hid HLL.out
      rw [HLL.out] at hck ⊢
      have HLF := Lib.hid hlf
      have HLK2 := Lib.hid hlk
      have HB2 := Lib.hid (HB1.out.trans (hB.out.mono HB1.out.size))
      obtain ⟨P, hP⟩ : ∃ P, P = hs.count true := ⟨_, rfl⟩
      rw [← hP] at hcf hck HPC ⊢
      have HP := Lib.hid hP
      have hP16 : P ≤ 16 := by rw [hP]; exact HCN.out
      unfold maxLen at hmf hmk
      clear hF1 hK1 hlf hlk hF hK hne hP
      rcases hsm : sameL (pick ls hs) with _ | _
      · have HF : Hid (recE ls hs q = 8) := Lib.hid (recE_same HVL.out HHL.out hsm)
        go_wp2_with fail
        refine (requal_any adk P capk (pick ls hs) wr HLK2.out HPC.out.symm (by unfold maxLen; omega)).mono ?_
        rintro e w2 ⟨rfl, hb2⟩
        rw [hsm]
        have HB3 := Lib.hid (HB2.out.trans (hb2.mono HB2.out.size))
        clear hb2
        go_wp2
        go_ret2
        exact RecP.no (by decide) HF.out HB3.out
      have HSM := Lib.hid hsm
      by_cases hct : k ≤ P
      rotate_left
      · have HF : Hid (recE ls hs q = 23) := Lib.hid (recE_lost HVL.out HHL.out HSM.out HLK.out (by have := HP.out; omega))
        have hs1 : (P : Int) < (k : Int) := by omega
        go_wp2_with fail
        refine (requal_any adk P capk (pick ls hs) wr HLK2.out HPC.out.symm (by unfold maxLen; omega)).mono ?_
        rintro e w2 ⟨rfl, hb2⟩
        rw [hsm]
        have HB3 := Lib.hid (HB2.out.trans (hb2.mono HB2.out.size))
        clear hb2 hct
        go_wp2
        go_ret2
        exact RecP.no (by decide) HF.out HB3.out
      have HF : Hid (recE ls hs q = 0) := Lib.hid (recE_ok HVL.out HHL.out HSM.out HLK.out (by have := HP.out; omega))
      have hs1 : ¬ (P : Int) < (k : Int) := by omega
      have hct2 : k ≤ hs.count true := by have := HP.out; omega
      have hsl : hs.length = k + q := by rw [HHL.out]; exact HLK.out
      have HRL := Lib.hid (rows_length (k := k) (p := q) (hs := hs) hsl hct2)
      have HKL := Lib.hid (known_length (k := k) (hs := hs) (ls := ls) (by have := HHL.out; omega) hct2)
      have HVR := Lib.hid (rows_valid (k := k) (p := q) (hs := hs) hsl hct2 hk1 (by omega))
      have HCO := Lib.hid (rows_cols (k := k) (p := q) (hs := hs) hsl hct2 hk1)
      have HIN := Lib.hid (rows_inv (k := k) (p := q) (hs := hs) hsl hct2 (by omega))
      have HKR := Lib.hid (known_row (k := k) (ls := ls) HSM.out hk1)
      have HKC : Hid (cols (knownL k ls hs) ≤ 1000) := Lib.hid (cols_le _ _ fun r hr => HR.out r (pick_mem ls hs r (by unfold knownL at hr; exact List.mem_of_mem_take hr)))
      have HDE := Lib.hid (dataL_eq (k := k) (p := q) (hs := hs) (ls := ls))
      have HDL := Lib.hid (dataL_length (k := k) (p := q) (hs := hs) (ls := ls) hsl hct2 (by omega))
      have HDR := Lib.hid (dataL_row (k := k) (p := q) (hs := hs) (ls := ls) hsl hct2 (by omega))
      have HLF3 : Hid (Lr wr adf (rowsL k q hs)) := Lib.hid (by unfold rowsL; exact HLF.out.take k)
      have HLK3 : Hid (Lr wr adk (knownL k ls hs)) := Lib.hid (by unfold knownL; exact HLK2.out.take k)
      have hkf : k ≤ capf := by omega
      have hkk : k ≤ capk := by omega
      clear hct hct2 hsl
      go_wp2_with fail
      refine (requal_any adk P capk (pick ls hs) wr HLK2.out HPC.out.symm (by unfold maxLen; omega)).mono ?_
      rintro e w2 ⟨rfl, hb2⟩
      rw [hsm]
      have HB3 := Lib.hid (HB2.out.trans (hb2.mono HB2.out.size))
      have HLF4 := Lib.hid (HLF3.out.below hb2)
      have HLK4 := Lib.hid (HLK3.out.below hb2)
      clear hb2 hsm
      go_wp2_with fail
      refine (rinvert_any adf k capf (rowsL k q hs) w2 HLF4.out HRL.out.symm (by unfold maxLen; omega)).mono ?_
      rintro e w3 ⟨hb3, ⟨-, -, A, ad3, cap3, hA, rfl, hl3, hc3, hm3⟩ | ⟨hno, -⟩⟩
      rotate_left
      · exact absurd ⟨HVR.out, by rw [HRL.out, HCO.out], by rw [HRL.out]; exact HIN.out⟩ hno
      rw [HRL.out] at hA hl3 hc3 ⊢
      have HA := Lib.hid hA
      have HL3 := Lib.hid hl3
      have HB4 := Lib.hid (HB3.out.trans (hb3.mono HB3.out.size))
      have HLK5 := Lib.hid (HLK4.out.below hb3)
      unfold maxLen at hm3
      clear hA hl3 hb3
      go_wp2_with fail
      go_loopg [15, 16] k (fun gj vo vj wx => ∃ j : Nat, vj = .int .i64 j ∧ j + gj = k ∧ Hid (Lq wx w3.heap.size w3.heap.size vo (prodL ((matL k k A).take j) (knownL k ls hs))) ∧ Hid (Below w3.heap.size w3 wx))
      case atStart => exact ⟨0, rfl, by omega, Lib.hid (by rw [List.take_zero, show prodL [] (knownL k ls hs) = [] by unfold prodL; rfl]; exact Lq.nil _ _ _), Lib.hid (Below.refl _ _)⟩
      case round =>
        obtain ⟨j, rfl, hj, hO, hBj⟩ := hrel
        cases gk with
        | zero =>
          have hltj : ¬ (j : Int) < (k : Int) := by omega
          obtain rfl : j = k := by omega
          have hO1 := hO.out
          rw [List.take_of_length_le (by rw [matL_length]; exact Nat.le_refl _), ← HDE.out A HA.out] at hO1
          obtain ⟨a5, c5, rfl, hl5, hc5, hm5, -⟩ := hO1.read
          have HL5 := Lib.hid hl5
          have HO5 := Lib.hid hO1
          have HB5 := Lib.hid (HB4.out.trans (hBj.out.mono HB4.out.size))
          have HS5 := Lib.hid hBj.out.size
          rw [HDL.out] at HO5 hc5 ⊢
          unfold maxLen at hm5
          clear hO hO1 hl5
          go_wp2_with fail
          refine (rparity_any a5 j c5 (dataL j q ls hs) q wr HL5.out HDL.out.symm (by unfold maxLen; omega) (fun r hr => by rw [HDR.out r hr]; exact HKC.out)).mono ?_
          rintro e w4 ⟨v4, rfl, ho4, hb4⟩
          have hVD : vc (((dataL j q ls hs).length : Nat) : Int) (q : Int) = true := by rw [HDL.out]; exact HV.out
          have hSD : sameL (dataL j q ls hs) = true := by
            rw [sameL_iff]
            intro r hr
            have h0 : 0 < (dataL j q ls hs).length := by rw [HDL.out]; omega
            rw [HDR.out r hr, cols_first _ h0, HDR.out _ (List.getElem_mem h0)]
          rw [parE_ok hVD hSD]
          rw [parR_ok hVD hSD, Int.toNat_natCast] at ho4
          obtain ⟨a4, c4, rfl, hx4, hc4, hm4, hn4⟩ := ho4.lx
          have HX4 : Hid (Lx w4 wr.heap.size (Value.slice a5 j c5).ownBlock a4 (parL (dataL j q ls hs) q)) := Lib.hid (hx4.other fun g hg => (HO5.out.lt g hg).2)
          have HO4 := Lib.hid (HO5.out.below hb4)
          have HB6 := Lib.hid (HB5.out.trans (hb4.mono HB5.out.size))
          have HN4 := Lib.hid hn4
          have HPQ := Lib.hid (parL_length (dataL j q ls hs) q)
          rw [HPQ.out]
          have HZ2 : Hid (w3.heap.size ≤ w4.heap.size ∧ w.heap.size ≤ w3.heap.size) := Lib.hid ⟨Nat.le_trans HS5.out hb4.size, HB4.out.size⟩
          clear hVD hSD ho4 hx4 hb4 hn4 hc4 hm4
          go_wp2_with (at_builtin; refine wpList_append_q rfl (.tmp 103) (.tmp 104) rfl w3.heap.size w3.heap.size wr.heap.size 0 (.slice a5 j c5) (dataL j q ls hs) rfl HO4.out a4 q c4 (parL (dataL j q ls hs) q) HN4.out HX4.out HPQ.out.symm rfl (by rw [HDL.out]; omega) HZ2.out.1 (Nat.zero_le _) (Nat.zero_le _) ?_; intro v5 w5 ho5 hg5 _; have HB7 := Lib.hid (HO4.out.grow HB6.out HZ2.out.2 hg5); obtain ⟨a7, c7, rfl, hl7, hc7, hm7, -⟩ := ho5.read; have HL7 := Lib.hid hl7; have HC7 := Lib.hid hc7; have HM7 := Lib.hid hm7; clear ho5 hg5 hl7 hc7 hm7)
          go_ret2
          exact RecP.ok HF.out HLK.out HL7.out (by rw [List.length_append]) (by have h := HC7.out; rw [List.length_append] at h; exact h) HM7.out HB7.out
        | succ gj0 =>
          have hltj : (j : Int) < (k : Int) := by omega
          have hjk : j < k := by omega
          have hjm : j < (matL k k A).length := by rw [matL_length]; exact hjk
          obtain ⟨b6, off6, rfl, hbl6, a6, c6, f6, l6, g6, m6, -⟩ := HL3.out.row j hjm
          have hrl : ((matL k k A)[j]).length = k := matL_rows k k A _ (List.getElem_mem hjm)
          have HRW := Lib.hid hrl
          rw [hrl] at f6 g6
          obtain ⟨W0, HW0⟩ : ∃ W0 : World, Hid (W0 = wr) := ⟨_, Lib.hid rfl⟩
          have HO0 : Hid (Lq W0 w3.heap.size w3.heap.size u15 (prodL ((matL k k A).take j) (knownL k ls hs))) := Lib.hid (by rw [HW0.out]; exact hO.out)
          have HB0 : Hid (Below w3.heap.size w3 W0) := Lib.hid (by rw [HW0.out]; exact hBj.out)
          have HD0 : Below W0.heap.size W0 wr.drew := by rw [HW0.out]; exact (Below.refl _ _).drew
          have HC6 : Hid (∀ X, Below w3.heap.size w3 X → X.cell? ⟨b6, off6 + j, none⟩ = some (.slice a6 k c6)) := Lib.hid fun X hX => (hX.cell (p := ⟨b6, off6 + j, none⟩) hbl6).trans f6
          have HL6 := Lib.hid l6
          have HX := Lib.hid (prodL_take (matL k k A) (knownL k ls hs) j hjm)
          have HLT : Hid ((prodL ((matL k k A).take j) (knownL k ls hs)).length ≤ 100) := Lib.hid (by rw [prodL_length, List.length_take]; omega)
          generalize (matL k k A)[j] = row at HL6 HX HRW
          unfold maxLen at m6
          clear f6 l6 hrl hjm hO hBj
          go_wp2_with fail
          refine wp_region_noPanic ?_
          refine wp_region_held_drew (S := fun X => Below w3.heap.size w3 X) (by kernel_rfl) (HB0.out.trans (HD0.mono HB0.out.size)) (fun hS0 => ?_)
          refine held_take (i := 0) (v := ?_) rfl (by kernel_rfl) (by kernel_rfl) (by kernel_rfl) (fun _ _ _ h => h) (by rfl) ?_ (by assumption) ?_
          rotate_left
          · intro X hSX
            try dsimp only at hSX
            go_simp <;> with_reducible rfl
          simp only [Act.put, List.setIfInBounds_toArray, List.set_cons_zero, List.set_cons_succ]
          refine held_take (i := 1) (v := ?_) rfl (by kernel_rfl) (by kernel_rfl) (by kernel_rfl) (fun _ _ _ h => h) (by rfl) ?_ (by assumption) ?_
          rotate_left
          · intro X hSX
            try dsimp only at hSX
            go_simp <;> with_reducible rfl
          simp only [Act.put, List.setIfInBounds_toArray, List.set_cons_zero, List.set_cons_succ]
          refine held_take (i := 2) (v := ?_) rfl (by kernel_rfl) (by kernel_rfl) (by kernel_rfl) (fun _ _ _ h => h) (by rfl) ?_ (by assumption) ?_
          rotate_left
          · intro X hSX
            try dsimp only at hSX
            go_simp <;> with_reducible rfl
          simp only [Act.put, List.setIfInBounds_toArray, List.set_cons_zero, List.set_cons_succ]
          refine held_take (i := 3) (v := ?_) rfl (by kernel_rfl) (by kernel_rfl) (by kernel_rfl) (fun _ _ _ h => h) (by rfl) ?_ (by assumption) ?_
          rotate_left
          · intro X hSX
            try dsimp only at hSX
            go_simp <;> with_reducible rfl
          simp only [Act.put, List.setIfInBounds_toArray, List.set_cons_zero, List.set_cons_succ]
          refine held_take (i := 4) (v := ?_) rfl (by kernel_rfl) (by kernel_rfl) (by kernel_rfl) (fun _ _ _ h => h) (by rfl) ?_ (by assumption) ?_
          rotate_left
          · intro X hSX
            try dsimp only at hSX
            have hcell := HC6.out X hSX
            go_simp <;> with_reducible rfl
          simp only [Act.put, List.setIfInBounds_toArray, List.set_cons_zero, List.set_cons_succ]
          refine held_take (i := 5) (v := ?_) rfl (by kernel_rfl) (by kernel_rfl) (by kernel_rfl) (fun _ _ _ h => h) (by rfl) ?_ (by assumption) ?_
          rotate_left
          · intro X hSX
            try dsimp only at hSX
            go_simp <;> with_reducible rfl
          simp only [Act.put, List.setIfInBounds_toArray, List.set_cons_zero, List.set_cons_succ]
          refine held_take (i := 6) (v := ?_) rfl (by kernel_rfl) (by kernel_rfl) (by kernel_rfl) (fun _ _ _ h => h) (by rfl) ?_ (by assumption) ?_
          rotate_left
          · intro X hSX
            try dsimp only at hSX
            go_simp <;> with_reducible rfl
          simp only [Act.put, List.setIfInBounds_toArray, List.set_cons_zero, List.set_cons_succ]
          refine held_take (i := 7) (v := ?_) rfl (by kernel_rfl) (by kernel_rfl) (by kernel_rfl) (fun _ _ _ h => h) (by rfl) ?_ (by assumption) ?_
          rotate_left
          · intro X hSX
            try dsimp only at hSX
            go_simp <;> with_reducible rfl
          simp only [Act.put, List.setIfInBounds_toArray, List.set_cons_zero, List.set_cons_succ]
          refine held_call (i := 8) rfl (by kernel_rfl) (by rfl) (fun K' hK' => ?_)
          go_simp
          refine (times_any a6 adk k k c6 capk row (knownL k ls hs) _ ((HL6.out.below HB0.out rfl).below HD0 rfl) HRW.out.symm ((HLK5.out.below HB0.out).below HD0) HKL.out.symm (by omega) hk1 HKR.out HKC.out (Nat.le_refl _)).mono ?_
          rintro e w6 ⟨v6, rfl, ho6, hb6⟩
          have hb6' : Below W0.heap.size W0 w6 := HD0.trans (hb6.mono HD0.size)
          have HB6 := Lib.hid hb6'
          have HB7 := Lib.hid (hb6'.alloc hb6'.size (.cells #[v6] 33))
          have HX6 := Lib.hid (LieX.of_own (x := u15.ownBlock) (ho6.mono HD0.size) fun g hg => (HO0.out.lt g hg).2)
          obtain ⟨ad6, cap6, e6, -⟩ := ho6.slice
          subst e6
          clear ho6 hb6 hb6'
          refine held_go hK' (HB0.out.trans (HB6.out.mono HB0.out.size)) ?_
          try simp only [Act.put, List.setIfInBounds_toArray, List.set_cons_zero, List.set_cons_succ]
          refine held_call (i := 9) rfl (by kernel_rfl) (by rfl) (fun K' hK' => ?_)
          go_simp
          refine held_go hK' (HB0.out.trans (HB7.out.mono HB0.out.size)) ?_
          try simp only [Act.put, List.setIfInBounds_toArray, List.set_cons_zero, List.set_cons_succ]
          refine held_call (i := 10) rfl (by kernel_rfl) (by rfl) (fun K' hK' => ?_)
          refine wp_append_q1 (.tmp 86) (.tmp 95) rfl w3.heap.size w3.heap.size W0.heap.size w3.heap.size u15 _ rfl (HO0.out.below HB7.out) _ rfl (.slice ad6 (combL row (knownL k ls hs)).length cap6) (combL row (knownL k ls hs)) (cell_one_at _ _ _ _ (by simp)) (by obtain ⟨x1, x2, x3, x4, x5⟩ := HX6.out; exact ⟨x1, x2, x3, x4.below ((Below.refl _ _).alloc (Nat.le_refl _) _), x5⟩) (by have := HLT.out; omega) (Nat.le_trans HB0.out.size HB7.out.size) (Nat.le_refl _) HB0.out.size ?_
          intro v8 w8 ho8 hg8
          rw [← HX.out] at ho8
          have HO8 := Lib.hid ho8
          have HB8 : Hid (Below w3.heap.size w3 w8) := Lib.hid ((HO0.out.below HB7.out).grow (HB0.out.trans (HB7.out.mono HB0.out.size)) (Nat.le_refl _) hg8)
          clear ho8
          refine held_go hK' (HB8.out) ?_
          try simp only [Act.put, List.setIfInBounds_toArray, List.set_cons_zero, List.set_cons_succ]
          refine held_call (i := 11) rfl (by kernel_rfl) (by rfl) (fun K' hK' => ?_)
          try go_simp
          refine held_go hK' (HB8.out) ?_
          try simp only [Act.put, List.setIfInBounds_toArray, List.set_cons_zero, List.set_cons_succ]
          refine wpAnyH_done (by kernel_rfl) ?_ _
          refine NoPanic.normal ?_
          go_wp2
          go_roundg gj0
          case rel => exact ⟨j + 1, by go_num, by omega, HO8, HB8⟩
          case measure => omega
    | succ gk0 =>
      have hlt : (i : Int) < (m : Int) := by omega
      have hiN : i < m := by omega
      have hih : i < hs.length := by have := HH.out; omega
      have hil : i < ls.length := by have := HN.out; omega
      have hie : i < (encL k q).length := by rw [HEL.out]; have := HNK.out; omega
      obtain ⟨b4, off4, rfl, hbl4, f4⟩ := HB.out.at_ i hih
      have f5 : wr.cell? ⟨b4, off4 + i, none⟩ = some (.bool (hs[i])) := ((HB1.out.trans (hB.out.mono HB1.out.size)).cell (p := ⟨b4, off4 + i, none⟩) hbl4).trans f4
      obtain ⟨b2, off2, rfl, hbl2, a2, c2, f2, l2, g2, m2, h2⟩ := HL.out.row i hil
      obtain ⟨b3, off3, rfl, hbl3, a3, c3, f3, l3, g3, m3, h3⟩ := HLR.out.row i hie
      have HC2 : Hid (∀ X, Below w1.heap.size w1 X → X.cell? ⟨b2, off2 + i, none⟩ = some (.slice a2 (ls[i]).length c2)) := Lib.hid fun X hX => ((HB1.out.trans (hX.mono HB1.out.size)).cell (p := ⟨b2, off2 + i, none⟩) hbl2).trans f2
      have hrl : k = ((encL k q)[i]).length := (HER.out _ (List.getElem_mem hie)).symm
      have HRW := Lib.hid hrl
      rw [← hrl] at f3 g3
      have HC3 : Hid (∀ X, Below w1.heap.size w1 X → X.cell? ⟨b3, off3 + i, none⟩ = some (.slice a3 k c3)) := Lib.hid fun X hX => (hX.cell (p := ⟨b3, off3 + i, none⟩) hbl3).trans f3
      have HPK := Lib.hid (pick_take ls hs i hil hih)
      have HPF := Lib.hid (pick_take (encL k q) hs i hie hih)
      rcases hx : hs[i] with _ | _
      · rw [hx] at f5
        rw [hx, if_neg (by simp), List.append_nil] at HPK HPF
        have HK : Hid (Lo wr w1 w1.heap.size u10 (pick (ls.take (i + 1)) (hs.take (i + 1)))) := Lib.hid (by rw [HPK.out]; exact hK.out)
        have HF : Hid (Lo wr w1 w1.heap.size u11 (pick ((encL k q).take (i + 1)) (hs.take (i + 1)))) := Lib.hid (by rw [HPF.out]; exact hF.out)
        clear f2 f3 f4 l2 g2 m2 h2 l3 g3 m3 h3 HC2 HC3 hrl HRW hx hih hil hie hK hF
        go_wp2
        go_roundg gk0
        case rel => exact ⟨i + 1, by go_num, by omega, HK, HF, hne, hB⟩
        case measure => omega
      · rw [hx] at f5
        rw [hx, if_pos rfl] at HPK HPF
        have HG2 : Hid ((ls[i]).length ≤ c2 ∧ c2 ≤ maxLen ∧ (a2 = none → c2 = 0) ∧ Lie w1 a2 (ls[i])) := Lib.hid ⟨g2, m2, h2, l2.below HB1.out rfl⟩
        have HG3 : Hid (k ≤ c3 ∧ c3 ≤ maxLen ∧ (a3 = none → c3 = 0) ∧ Lie w1 a3 ((encL k q)[i])) := Lib.hid ⟨g3, m3, h3, l3⟩
        obtain ⟨N, hN⟩ : ∃ N, N = (ls[i]).length := ⟨_, rfl⟩
        rw [← hN] at HG2 HC2
        have HNN := Lib.hid hN
        have f6 := HC2.out wr hB.out
        generalize ls[i] = sh at HPK HG2 HNN
        generalize (encL k q)[i] = row at HPF HG3 HRW
        have HTK : Hid ((pick (ls.take i) (hs.take i)).length ≤ 100) := Lib.hid (by
          rw [pick_length _ _ (by rw [List.length_take, List.length_take]; have := HHL.out; omega)]
          have := List.count_le_length (a := true) (l := hs.take i)
          rw [List.length_take] at this
          omega)
        have HTF : Hid ((pick ((encL k q).take i) (hs.take i)).length ≤ 100) := Lib.hid (by
          rw [pick_length _ _ (by rw [List.length_take, List.length_take, HEL.out]; have := HNK.out; have := HH.out; omega)]
          have := List.count_le_length (a := true) (l := hs.take i)
          rw [List.length_take] at this
          omega)
        clear f2 f3 f4 l2 g2 m2 h2 l3 g3 m3 h3 hrl hx hih hil hie hN
        obtain ⟨W0, HW0⟩ : ∃ W0 : World, Hid (W0 = wr) := ⟨_, Lib.hid rfl⟩
        have HK0 : Hid (Lo W0 w1 w1.heap.size u10 (pick (ls.take i) (hs.take i))) := Lib.hid (by rw [HW0.out]; exact hK.out)
        have HF0 : Hid (Lo W0 w1 w1.heap.size u11 (pick ((encL k q).take i) (hs.take i))) := Lib.hid (by rw [HW0.out]; exact hF.out)
        have HB0 : Hid (Below w1.heap.size w1 W0) := Lib.hid (by rw [HW0.out]; exact hB.out)
        have HA1 : Hid (Below W0.heap.size W0 (wr.alloc (.cells #[.slice a2 N c2] 33))) := Lib.hid (by rw [HW0.out]; exact (Below.refl wr.heap.size wr).alloc (Nat.le_refl _) _)
        have HK1 := Lib.hid (HK0.out.below HA1.out)
        have HF1 := Lib.hid (HF0.out.below HA1.out)
        have HBA := Lib.hid (HB0.out.trans (HA1.out.mono HB0.out.size))
        have HZ1 := Lib.hid HBA.out.size
        clear hF hK
        go_wp2_with (first
          | (at_builtin; refine wpList_append_o rfl (.tmp 53) (.tmp 58) rfl w1 w1.heap.size u10 _ rfl HK1.out _ rfl a2 N c2 sh HNN.out (cell_one_at _ _ _ _ (by simp)) HG2.out.2.2.2 HG2.out.1 HG2.out.2.1 HG2.out.2.2.1 (by have := HTK.out; omega) HZ1.out ?_; intro v5 w5 ho5 hg5 hat5; rw [← HPK.out] at ho5; have HO5 := Lib.hid ho5; have HB5 := Lib.hid (HK1.out.grow HBA.out (Nat.le_refl _) hg5); have HF5 := Lib.hid (HF1.out.kept hg5 fun g hg e => (hne.out g e) hg); have HN5 : Hid (∀ g, v5.ownBlock = some g → u11.ownBlock ≠ some g) := Lib.hid (fun g hg hg' => (by rcases hat5 with h | h; exact hne.out g (h.symm.trans hg) hg'; rw [h] at hg; cases hg; have := (HF1.out.lt _ hg').2; omega)); have f7 := HC3.out w5 HB5.out; have HA5 := Lib.hid ((Below.refl w5.heap.size w5).alloc (Nat.le_refl _) (.cells #[.slice a3 k c3] 33)); have HO6 := Lib.hid (HO5.out.below HA5.out); have HF6 := Lib.hid (HF5.out.below HA5.out); have HB6 := Lib.hid (HB5.out.alloc HB5.out.size (.cells #[.slice a3 k c3] 33)); have HZ6 := Lib.hid HB6.out.size; clear ho5 hg5 hat5)
          | (at_builtin; refine wpList_append_o rfl (.tmp 60) (.tmp 65) rfl w1 w1.heap.size u11 _ rfl HF6.out _ rfl a3 k c3 row HRW.out (cell_one_at _ _ _ _ (by simp)) HG3.out.2.2.2 HG3.out.1 HG3.out.2.1 HG3.out.2.2.1 (by have := HTF.out; omega) HZ6.out ?_; intro v7 w7 ho7 hg7 hat7; rw [← HPF.out] at ho7; have HO7 := Lib.hid ho7; have HB7 := Lib.hid (HF6.out.grow HB6.out (Nat.le_refl _) hg7); have HK7 := Lib.hid (HO6.out.kept hg7 fun g hg e => (HN5.out g hg) e); have HN7 : Hid (∀ g, v5.ownBlock = some g → v7.ownBlock ≠ some g) := Lib.hid (fun g hg hg' => (by rcases hat7 with h | h; exact HN5.out g hg (h.symm.trans hg'); rw [h] at hg'; cases hg'; have := (HO6.out.lt _ hg).2; omega)); clear ho7 hg7 hat7))
        go_roundg gk0
        case rel => exact ⟨i + 1, by go_num, by omega, HK7, HO7, HN7, HB7⟩
        case measure => omega
end Go.Proofs.Ytinfjidclkgfnaa
