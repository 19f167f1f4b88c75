/-
  ErasureReconstructs: the walk.
-/
import Derived.Test.YtinfjidclkgfnaaEAwake
import Derived.Test.YtinfjidclkgfnaaERRecon
namespace Go.Proofs.Ytinfjidclkgfnaa
open Go.RowKit
theorem recR_small (ls : List (List UInt8)) (hs : List Bool) (p : Int) : (recR ls hs p).length ≤ 1000000 := by
  unfold recR
  split
  · rename_i h
    unfold recE at h
    split at h
    · rename_i hv
      have hv := (vc_iff _ _).1 hv
      split at h
      · rename_i h2
        split at h
        · split at h
          · rename_i h4
            obtain ⟨q, rfl⟩ := Int.eq_ofNat_of_zero_le hv.2.1
            rw [Int.toNat_natCast] at h4 ⊢
            rw [List.length_append, parL_length, dataL_length (k := ls.length - q) (p := q) (by omega) (by omega) (by omega)]
            omega
          · cases h
        · cases h
      · cases h
    · cases h
  · simp
attribute [local irreducible] parL parR parE recR recE chkL fewL
set_option maxRecDepth 100000 in
set_option maxHeartbeats 1000000 in
theorem law_reconstructs (ad hd : Option Addr) (n m cap hc : Nat) (xs : List (List UInt8)) (bs : List Bool) (p : Int) (w : World) (hl : Lr w ad xs) (hn : n = xs.length) (hm : n ≤ maxLen) (hb : LieB w hd bs) (hbn : m = bs.length) (hbc : m ≤ hc) (hbm : hc ≤ maxLen) (hba : hd = none → hc = 0) (h0 : -9223372036854775808 ≤ p) (h1 : p ≤ 9223372036854775807) :
    Calls Try.prog 4 #[.slice ad n cap, .slice hd m hc, .int .i64 p] w fun e w' => e = .returned (.bool true) ∧ Below w.heap.size w w' := by
  go_enter Try.func4, Try.ntmps4
  have HL := Lib.hid hl
  have HN := Lib.hid hn
  have HM := Lib.hid hm
  unfold maxLen at hbm
  clear hl hn hm
  go_wp2_with fail
  refine (few_any ad n cap xs w HL.out HN.out HM.out).mono ?_
  rintro e w1 ⟨a1, c1, rfl, hl1, hc1, hm1, -, hb1⟩
  have HF := Lib.hid (fewL_length xs)
  have HR : Hid (∀ r ∈ fewL xs, r.length ≤ 1000) := Lib.hid fun r hr => Nat.le_trans (fewL_row xs r hr) (by omega)
  obtain ⟨ls, hls⟩ : ∃ ls, ls = fewL xs := ⟨_, rfl⟩
  rw [← hls] at hl1 hc1 HF HR ⊢
  obtain ⟨k, hk⟩ : ∃ k, k = ls.length := ⟨_, rfl⟩
  have HRS : Hid (∀ hs, (recR ls hs p).length ≤ 1000000) := Lib.hid fun hs => recR_small ls hs p
  rw [← hk] at hc1 HF ⊢
  have hk17 : k ≤ 17 := HF.out
  have HK := Lib.hid hk
  have HB1 := Lib.hid hb1
  have HL1 := Lib.hid hl1
  clear hls hl1 hc1 hm1 hk HF
  -- the truth values, cut
  obtain ⟨hs, m', hhs, hmm, hcase⟩ : ∃ (hs : List Bool) (m' : Nat), LieB w hd hs ∧ m' = hs.length ∧ ((18 < m ∧ m' = 18) ∨ (¬ 18 < m ∧ m' = m)) := by
    by_cases h : 18 < m
    · exact ⟨bs.take 18, 18, hb.take 18, by rw [List.length_take]; omega, .inl ⟨h, rfl⟩⟩
    · exact ⟨bs, m, hb, hbn, .inr ⟨h, rfl⟩⟩
  have HHS := Lib.hid (hhs.below hb1)
  have HMM := Lib.hid hmm
  clear hb hbn hhs hmm hb1
  have hrest : ∀ (W : World) (a : Act) (Q : Exit → Act → World → Prop), True := fun _ _ _ => trivial
  clear hrest
  rcases hcase with ⟨h18, rfl⟩ | ⟨h18, rfl⟩
  all_goals
    first
      | (obtain ⟨a, rfl⟩ : ∃ a, hd = some a := by
          cases hd with
          | none => have := hba rfl; omega
          | some a => exact ⟨a, rfl⟩
         have h18c : 18 ≤ hc := by omega
         clear hba hbc)
      | clear hba hbc
    go_wp2_with fail
    refine (recon_any a1 _ k _ c1 hc ls hs p w1 HL1.out HK.out (by omega) HHS.out HMM.out h0 h1 HR.out).mono ?_
    rintro e w2 ⟨a2, c2, rfl, hl2, hc2, hm2, hb2⟩
    have HB2 := Lib.hid (HB1.out.trans (hb2.mono HB1.out.size))
    have HL2 := Lib.hid hl2
    have HLS := Lib.hid (HL1.out.below hb2)
    have HHT := Lib.hid (HHS.out.below hb2)
    clear hl2 hc2 hm2 hb2 HL1 HHS
    go_wp2_with fail
    refine (rrecon_any a1 _ k _ c1 hc ls hs p w2 HLS.out HK.out (by omega) HHT.out HMM.out h0 h1 HR.out).mono ?_
    rintro e w3 ⟨a3, c3, rfl, hl3, hc3, hm3, hb3⟩
    have HB3 := Lib.hid (HB2.out.trans (hb3.mono HB2.out.size))
    have HL3 := Lib.hid hl3
    have HL4 := Lib.hid (HL2.out.below hb3)
    have HPS := Lib.hid (HRS.out hs)
    generalize recE ls hs p = E
    clear hl3 hc3 hm3 hb3 HL2 HLS HHT
    go_wp2_with fail
    refine (rsame_any a2 a3 _ _ c2 c3 (recR ls hs p) (recR ls hs p) w3 HL4.out HL3.out rfl rfl HPS.out).mono ?_
    rintro e w4 ⟨rfl, hb4⟩
    rw [eqL_self]
    have HB4 := Lib.hid (HB3.out.trans (hb4.mono HB3.out.size))
    clear hb4 HL4 HL3
    go_wp2_with fail
    refine (awake_any w4).mono ?_
    rintro e w7 ⟨rfl, hb7⟩
    have HB7 := Lib.hid (HB4.out.trans (hb7.mono HB4.out.size))
    clear hb7
    go_wp2
    go_ret
    exact ⟨rfl, HB7.out⟩
end Go.Proofs.Ytinfjidclkgfnaa
