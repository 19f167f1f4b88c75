/-
  What begins at an offset: the document's own function where a frame without body ends with the bytes; and at large.
-/
import Derived.Test.YtjmlidejbddoeaaDoorFRNext2
namespace Go.Proofs.YtjmlidejbddoeaaDoor
open Go.RowKit
set_option linter.unusedVariables false

set_option maxRecDepth 100000 in
set_option maxHeartbeats 1000000 in
theorem rn_near (b off n cap a N : Nat) (r : List UInt8) (w : World) (h10 : a + 10 ≤ n) (hnc : n ≤ cap) (hcm : cap ≤ maxLen) (hn : n ≤ 1000000)
   (hc0 : w.cell? ⟨b, off + a, none⟩ = some (.int .u8 167)) (hc1 : w.cell? ⟨b, off + a + 1, none⟩ = some (.int .u8 60)) (hl : Lie w (some ⟨b, off + a + 2, none⟩) r) (hr : r.length = n - a - 2) (hN : num4 r = N) (hbig : N ≤ 65536) (hfit : a + N + 10 ≤ n)
   (hca : cap - a = 10) (hN0 : N = 0) (body : List UInt8) (l10 : Lie w (some ⟨b, off + a, none⟩) body) (hbody : body.length = N) (s6 : List UInt8) (l6 : Lie w (some ⟨b, off + a + 6, none⟩) s6) (h6 : s6.length = 4) (yes : Bool) (hyes : (be4 (crc (be4 N ++ body)) = s6) = (yes = true)) :
    Calls Tryd.prog 39 #[.slice (some ⟨b, off, none⟩) n cap, .int .i64 a] w (NrQ w body a yes) := by
  subst hN0
  have HN := Lib.hid hN
  have HR := Lib.hid hr
  have HBO := Lib.hid hbody
  have HL10 := Lib.hid l10
  have HL6 := Lib.hid l6
  have H6 := Lib.hid h6
  have HY := Lib.hid hyes
  clear hN hr hbody l10 l6 h6 hyes
  unfold maxLen at hcm
  have h3 : 10 ≤ n - a := by omega
  have h4 : ¬ n < a := by omega
  go_enter Tryd.func39, Tryd.ntmps39
  go_wp2_with fail
  refine (rnum_any _ _ _ _ r _ hl HR.out.symm (by rw [HR.out]; omega) (by rw [HR.out]; omega)).mono ?_
  rintro e w' ⟨rfl, rfl⟩
  rw [HN.out]
  have h5 : ¬ n - a < 0 + 10 := by omega
  go_wp2_with (at_builtin; (refine wpList_append_u rfl (.tmp 44) (.tmp 48) rfl w.heap.size _ [] rfl (Own.ofNil _ _) (some ⟨b, off + a, none⟩) _ _ body (fun h => by cases h) HL10.out (by have := HBO.out; omega) rfl (by simp) (Nat.le_refl _) ?_; intro v2 w2 hown2 hgrow2))
  rw [List.nil_append] at hown2
  have hb2 : Below w.heap.size w w2 := below_app (Own.ofNil _ _) (Nat.le_refl _) hgrow2
  obtain ⟨ad2, cap2, rfl, hl2, hlc2, hm2, ha2⟩ := hown2.slice
  have HO2 := Lib.hid hown2
  have HL2 := Lib.hid hl2
  have HB2 := Lib.hid hb2
  have HL6' := Lib.hid (HL6.out.below hb2 rfl)
  have HA2 := Lib.hid ha2
  clear hown2 hl2 hb2 hgrow2 ha2
  rw [HBO.out] at hlc2 ⊢
  obtain ⟨S2, hS2⟩ : ∃ S : ByteArray, (⟨s6.toArray⟩ : ByteArray) = S := ⟨_, rfl⟩
  obtain ⟨S1, hS1⟩ : ∃ S : ByteArray, (⟨(be4 (crc (be4 0 ++ body))).toArray⟩ : ByteArray) = S := ⟨_, rfl⟩
  have HS1 := Lib.hid hS1
  have hcA : ∀ W (h : Lie W (some ⟨b, off + a + 6, none⟩) s6), (convert 36 9 (.slice (some ⟨b, off + a + 6, none⟩) 4 4)).run Tryd.prog W = .ok (.string S2) W := fun W h => by
    have := conv_lie 4 h
    rw [H6.out, hS2] at this
    exact this
  have HCA := Lib.hid hcA
  have hcA1 := hcA w2.drew (HL6'.out.drew)
  have hcA2 := fun k => hcA (w2.drewN k) (HL6'.out.drewN k)
  have HSS : Hid ((S1 = S2) = (yes = true)) := Lib.hid (by
    rw [← HY.out, ← hS1, ← hS2]
    simp)
  clear hS1 hS2 hcA
  cases yes with
  | true =>
    have hss : S1 = S2 := by rw [HSS.out]
    subst hss
    clear HSS
    go_region_with ((go_at_call 50; refine (rfsum_any ad2 0 cap2 body _ (by first | exact HL2.out.drew | exact HL2.out.drewN _) HBO.out.symm (by rw [HBO.out]; omega) HA2.out).mono ?_; rintro e w3 ⟨g, rfl, hl3, HB3⟩; have hcB : (convert 36 9 (.slice (some ⟨g, 0, none⟩) 4 4)).run Tryd.prog w3 = .ok (.string S1) w3 := (by rw [HBO.out] at hl3; rw [← HS1.out]; exact conv_lie 4 hl3); have hcC := HCA.out w3 (HL6'.out.drew.below HB3 rfl); clear hl3))
    all_goals
      go_wp2
      go_ret3
      have hb3' : Below w2.heap.size w2 w3 := ⟨HB3.os, HB3.tape, HB3.output, HB3.size, HB3.block⟩
      have hb3 : Below w.heap.size w w3 := HB2.out.trans (hb3'.mono HB2.out.size)
      refine ⟨.slice ad2 0 cap2, ?_, by have h := HO2.out.below hb3'; rw [HBO.out] at h; exact h, hb3⟩
      exact congrArg Ending.returned (tup3 rfl (by have := HBO.out; omega) rfl)
  | false =>
    have hss : S1 ≠ S2 := fun h => by rw [HSS.out] at h; cases h
    have hs2 : (S1.toList == S2.toList) = false := by
      rw [beq_eq_false_iff_ne]
      intro h
      rw [ByteArray.toList_eq, ByteArray.toList_eq] at h
      exact hss (Go.WideShapes.bytes_inj h)
    go_region_with ((go_at_call 50; refine (rfsum_any ad2 0 cap2 body _ (by first | exact HL2.out.drew | exact HL2.out.drewN _) HBO.out.symm (by rw [HBO.out]; omega) HA2.out).mono ?_; rintro e w3 ⟨g, rfl, hl3, HB3⟩; have hcB : (convert 36 9 (.slice (some ⟨g, 0, none⟩) 4 4)).run Tryd.prog w3 = .ok (.string S1) w3 := (by rw [HBO.out] at hl3; rw [← HS1.out]; exact conv_lie 4 hl3); have hcC := HCA.out w3 (HL6'.out.drew.below HB3 rfl); clear hl3))
    all_goals
      go_wp2
      go_ret3
      have hb3' : Below w2.heap.size w2 w3 := ⟨HB3.os, HB3.tape, HB3.output, HB3.size, HB3.block⟩
      have hb3 : Below w.heap.size w w3 := HB2.out.trans (hb3'.mono HB2.out.size)
      exact ⟨_, rfl, .ofNil _ _, hb3⟩

theorem rnext_any (ad : Option Addr) (n cap : Nat) (xs : List UInt8) (at_ : Int) (w : World) (hl : Lie w ad xs) (hn : n = xs.length) (hs : xs.length ≤ 1000000) (hc : n ≤ cap) (hcm : cap ≤ maxLen) (had : ad = none → cap = 0) :
    Calls Tryd.prog 39 #[.slice ad n cap, .int .i64 at_] w (NxP w xs at_) := by
  have key : ∀ {l : List UInt8} {x e : Int}, bodyAt xs at_ = l → chk xs at_ = (x, e) → Calls Tryd.prog 39 #[.slice ad n cap, .int .i64 at_] w (NrP w l x e) →
      Calls Tryd.prog 39 #[.slice ad n cap, .int .i64 at_] w (NxP w xs at_) := by
    intro l x e h1 h2 h
    unfold NxP
    rw [h1, h2]
    exact h
  have bad : ∀ {x e : Int}, chk xs at_ = (x, e) → e ≠ 0 → bodyAt xs at_ = [] := fun h he => (chk_bad (by rw [h]; exact he)).2
  by_cases ho : at_ < 0 ∨ xs.length < at_
  · have e := chk_out xs at_ ho
    exact key (bad e (by decide)) e (rn_range ad n cap at_ w (by omega) (by omega))
  obtain ⟨a, rfl⟩ : ∃ a : Nat, at_ = a := ⟨at_.toNat, by omega⟩
  have ha : a ≤ n := by omega
  have hk := chk_nat xs a (by omega)
  by_cases h10 : n < a + 10
  · have e : chk xs a = (0, 2) := by
      rw [hk]
      have : hd (xs.drop a) = (0, 2) := by unfold hd; rw [if_pos (by rw [List.length_drop]; omega)]
      rw [this]; rfl
    exact key (bad e (by decide)) e (rn_short ad n cap a w ha h10 (by omega) hc hcm had)
  rcases hl.at_ with h0 | ⟨b, off, rfl, hb, hcell⟩
  · subst h0; simp at hn; omega
  have hlr := hl.drop a
  have hrl : (xs.drop a).length = n - a := by rw [List.length_drop]; omega
  have hba : ∀ N, hd (xs.drop a) = (N, 0) → bodyAt xs a = ((xs.drop a).drop 10).take N ∧ chk xs a = ((a : Int) + N + 10, 0) := by
    intro N hN
    rw [hN] at hk
    have hc2 : chk xs a = ((a : Int) + N + 10, 0) := hk
    refine ⟨?_, hc2⟩
    unfold bodyAt
    rw [hc2, if_pos rfl, Int.toNat_natCast, hN, List.drop_drop]
  generalize hr : xs.drop a = r at *
  clear hcell hl
  have hr10 : ¬ r.length < 10 := by omega
  obtain ⟨x0, x1, r2, hR⟩ := two_of r (by omega)
  have h2 := take2_iff r x0 x1 r2 hR
  have g0 : r[0]'(by omega) = x0 := by subst hR; rfl
  have g1 : r[1]'(by omega) = x1 := by subst hR; rfl
  rcases hlr.at_ with h0 | ⟨b', off', h0, _, hcell⟩
  · subst h0; simp at hr10
  cases h0
  have c0 := hcell 0 (by omega)
  have c1 := hcell 1 (by omega)
  rw [g0, Nat.add_zero] at c0
  rw [g1] at c1
  clear hcell g0 g1
  by_cases hmg : x0.toNat = 167 ∧ x1.toNat = 60
  · rw [hmg.1] at c0
    rw [hmg.2] at c1
    have l2 := hlr.drop 2
    have e2 : (r.drop 2).length = n - a - 2 := by rw [List.length_drop]; omega
    by_cases hbig : 65536 < num4 (r.drop 2)
    · have e : hd r = (0, 6) := by unfold hd; rw [if_neg (by omega), if_neg (fun h => h (h2.2 hmg)), if_pos hbig]
      rw [e] at hk
      exact key (bad hk (by decide)) hk (rn_long b off n cap a _ _ w (by omega) hc hcm (by omega) c0 c1 l2 e2 rfl hbig)
    · by_cases hcut : r.length < num4 (r.drop 2) + 10
      · have e : hd r = (0, 2) := by unfold hd; rw [if_neg (by omega), if_neg (fun h => h (h2.2 hmg)), if_neg hbig, if_pos hcut]
        rw [e] at hk
        exact key (bad hk (by decide)) hk (rn_cut b off n cap a _ _ w (by omega) hc hcm (by omega) c0 c1 l2 e2 rfl (by omega) (by omega))
      · have e : hd r = if num4 (r.drop 6) ≠ crc ((r.drop 2).take 4 ++ (r.drop 10).take (num4 (r.drop 2))) then (0, 4) else (num4 (r.drop 2), 0) := by
          unfold hd; rw [if_neg (by omega), if_neg (fun h => h (h2.2 hmg)), if_neg hbig, if_neg hcut]
        have hb4 : be4 (num4 (r.drop 2)) = (r.drop 2).take 4 := be4_num4 _ (by omega)
        have hbl : ((r.drop 10).take (num4 (r.drop 2))).length = num4 (r.drop 2) := by rw [List.length_take, List.length_drop]; omega
        have l6 := (hlr.drop 6).take 4
        have h6 : ((r.drop 6).take 4).length = 4 := by rw [List.length_take, List.length_drop]; omega
        generalize hN : num4 (r.drop 2) = N at *
        have hyes : (be4 (crc (be4 N ++ (r.drop 10).take N)) = (r.drop 6).take 4) = (decide (num4 (r.drop 6) = crc ((r.drop 2).take 4 ++ (r.drop 10).take N)) = true) := by
          rw [hb4, decide_eq_true_eq, be4_eq_iff _ (crc_lt _) _ (by rw [List.length_drop]; omega)]
          exact propext ⟨fun h => h.symm, fun h => h.symm⟩
        have h : Calls Tryd.prog 39 #[.slice (some ⟨b, off, none⟩) n cap, .int .i64 a] w (NrQ w ((r.drop 10).take N) a (decide (num4 (r.drop 6) = crc ((r.drop 2).take 4 ++ (r.drop 10).take N)))) := by
          by_cases hca : cap - a = 10
          · have hN0 : N = 0 := by omega
            exact rn_near b off n cap a N _ w (by omega) hc hcm (by omega) c0 c1 l2 e2 hN (by omega) (by omega) hca hN0 _ (by rw [hN0, List.take_zero]; exact .nil _ _) hbl _ l6 h6 _ hyes
          · exact rn_far b off n cap a N _ w (by omega) hc hcm (by omega) c0 c1 l2 e2 hN (by omega) (by omega) hca _ ((hlr.drop 10).take _) hbl _ l6 h6 _ hyes
        unfold NrQ at h
        by_cases hxy : num4 (r.drop 6) = crc ((r.drop 2).take 4 ++ (r.drop 10).take N)
        · rw [if_neg (fun h => h hxy)] at e
          obtain ⟨h8, h9⟩ := hba N e
          simp only [decide_eq_true hxy, if_true] at h
          rw [hbl] at h
          exact key h8 h9 h
        · rw [if_pos hxy] at e
          rw [e] at hk
          simp only [decide_eq_false hxy] at h
          exact key (bad hk (by decide)) hk h
  · have e : hd r = (0, 1) := by unfold hd; rw [if_neg (by omega), if_pos (fun h => hmg (h2.1 h))]
    rw [e] at hk
    exact key (bad hk (by decide)) hk (rn_magic b off n cap a _ _ w (by omega) hc hcm (by omega) c0 c1 hmg)
end Go.Proofs.YtjmlidejbddoeaaDoor
