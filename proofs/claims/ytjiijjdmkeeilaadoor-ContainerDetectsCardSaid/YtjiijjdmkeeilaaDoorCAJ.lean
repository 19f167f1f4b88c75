/-
  What begins at an offset: the document's own function where a frame without body ends with the bytes; and at large.
  A frame appended: the program's function and the document's own.
-/
import Derived.Test.YtjiijjdmkeeilaaDoorCAI
namespace Go.Proofs.YtjiijjdmkeeilaaDoor
open Go.RowKit
set_option linter.unusedVariables false

set_option maxRecDepth 100000 in
set_option maxHeartbeats 1000000 in
theorem rn_near (b off n cap a N : Nat) (r : List UInt8) (w : World) (h10 : a + 10 ≤ n) (hnc : n ≤ cap) (hcm : cap ≤ maxLen) (hn : n ≤ 1000000)
   (hc0 : w.cell? ⟨b, off + a, none⟩ = some (.int .u8 167)) (hc1 : w.cell? ⟨b, off + a + 1, none⟩ = some (.int .u8 60)) (hl : Lie w (some ⟨b, off + a + 2, none⟩) r) (hr : r.length = n - a - 2) (hN : num4 r = N) (hbig : N ≤ 65536) (hfit : a + N + 10 ≤ n)
   (hca : cap - a = 10) (hN0 : N = 0) (body : List UInt8) (l10 : Lie w (some ⟨b, off + a, none⟩) body) (hbody : body.length = N) (s6 : List UInt8) (l6 : Lie w (some ⟨b, off + a + 6, none⟩) s6) (h6 : s6.length = 4) (yes : Bool) (hyes : (be4 (crc (be4 N ++ body)) = s6) = (yes = true)) :
    Calls Tryd.prog 62 #[.slice (some ⟨b, off, none⟩) n cap, .int .i64 a] w (NrQ w body a yes) := by
  subst hN0
  have HN := Lib.hid hN
  have HR := Lib.hid hr
  have HBO := Lib.hid hbody
  have HL10 := Lib.hid l10
  have HL6 := Lib.hid l6
  have H6 := Lib.hid h6
  have HY := Lib.hid hyes
  clear hN hr hbody l10 l6 h6 hyes
  unfold maxLen at hcm
  have h3 : 10 ≤ n - a := by omega
  have h4 : ¬ n < a := by omega
  go_enter Tryd.func62, Tryd.ntmps62
  go_wp2_with fail
  refine (rnum_any _ _ _ _ r _ hl HR.out.symm (by rw [HR.out]; omega) (by rw [HR.out]; omega)).mono ?_
  rintro e w' ⟨rfl, rfl⟩
  rw [HN.out]
  have h5 : ¬ n - a < 0 + 10 := by omega
  go_wp2_with (at_builtin; (refine wpList_append_u rfl (.tmp 44) (.tmp 48) rfl w.heap.size _ [] rfl (Own.ofNil _ _) (some ⟨b, off + a, none⟩) _ _ body (fun h => by cases h) HL10.out (by have := HBO.out; omega) rfl (by simp) (Nat.le_refl _) ?_; intro v2 w2 hown2 hgrow2))
  rw [List.nil_append] at hown2
  have hb2 : Below w.heap.size w w2 := below_app (Own.ofNil _ _) (Nat.le_refl _) hgrow2
  obtain ⟨ad2, cap2, rfl, hl2, hlc2, hm2, ha2⟩ := hown2.slice
  have HO2 := Lib.hid hown2
  have HL2 := Lib.hid hl2
  have HB2 := Lib.hid hb2
  have HL6' := Lib.hid (HL6.out.below hb2 rfl)
  have HA2 := Lib.hid ha2
  clear hown2 hl2 hb2 hgrow2 ha2
  rw [HBO.out] at hlc2 ⊢
  obtain ⟨S2, hS2⟩ : ∃ S : ByteArray, (⟨s6.toArray⟩ : ByteArray) = S := ⟨_, rfl⟩
  obtain ⟨S1, hS1⟩ : ∃ S : ByteArray, (⟨(be4 (crc (be4 0 ++ body))).toArray⟩ : ByteArray) = S := ⟨_, rfl⟩
  have HS1 := Lib.hid hS1
  have hcA : ∀ W (h : Lie W (some ⟨b, off + a + 6, none⟩) s6), (convert 26 9 (.slice (some ⟨b, off + a + 6, none⟩) 4 4)).run Tryd.prog W = .ok (.string S2) W := fun W h => by
    have := conv_lie 4 h
    rw [H6.out, hS2] at this
    exact this
  have HCA := Lib.hid hcA
  have hcA1 := hcA w2.drew (HL6'.out.drew)
  have hcA2 := fun k => hcA (w2.drewN k) (HL6'.out.drewN k)
  have HSS : Hid ((S1 = S2) = (yes = true)) := Lib.hid (by
    rw [← HY.out, ← hS1, ← hS2]
    simp)
  clear hS1 hS2 hcA
  cases yes with
  | true =>
    have hss : S1 = S2 := by rw [HSS.out]
    subst hss
    clear HSS
    go_region_with ((go_at_call 88; refine (rfsum_any ad2 0 cap2 body _ (by first | exact HL2.out.drew | exact HL2.out.drewN _) HBO.out.symm (by rw [HBO.out]; omega) HA2.out).mono ?_; rintro e w3 ⟨g, rfl, hl3, HB3⟩; have hcB : (convert 26 9 (.slice (some ⟨g, 0, none⟩) 4 4)).run Tryd.prog w3 = .ok (.string S1) w3 := (by rw [HBO.out] at hl3; rw [← HS1.out]; exact conv_lie 4 hl3); have hcC := HCA.out w3 (HL6'.out.drew.below HB3 rfl); clear hl3))
    all_goals
      go_wp2
      go_ret3
      have hb3' : Below w2.heap.size w2 w3 := ⟨HB3.os, HB3.tape, HB3.output, HB3.size, HB3.block⟩
      have hb3 : Below w.heap.size w w3 := HB2.out.trans (hb3'.mono HB2.out.size)
      refine ⟨.slice ad2 0 cap2, ?_, by have h := HO2.out.below hb3'; rw [HBO.out] at h; exact h, hb3⟩
      exact congrArg Ending.returned (tup3 rfl (by have := HBO.out; omega) rfl)
  | false =>
    have hss : S1 ≠ S2 := fun h => by rw [HSS.out] at h; cases h
    have hs2 : (S1.toList == S2.toList) = false := by
      rw [beq_eq_false_iff_ne]
      intro h
      rw [ByteArray.toList_eq, ByteArray.toList_eq] at h
      exact hss (Go.WideShapes.bytes_inj h)
    go_region_with ((go_at_call 88; refine (rfsum_any ad2 0 cap2 body _ (by first | exact HL2.out.drew | exact HL2.out.drewN _) HBO.out.symm (by rw [HBO.out]; omega) HA2.out).mono ?_; rintro e w3 ⟨g, rfl, hl3, HB3⟩; have hcB : (convert 26 9 (.slice (some ⟨g, 0, none⟩) 4 4)).run Tryd.prog w3 = .ok (.string S1) w3 := (by rw [HBO.out] at hl3; rw [← HS1.out]; exact conv_lie 4 hl3); have hcC := HCA.out w3 (HL6'.out.drew.below HB3 rfl); clear hl3))
    all_goals
      go_wp2
      go_ret3
      have hb3' : Below w2.heap.size w2 w3 := ⟨HB3.os, HB3.tape, HB3.output, HB3.size, HB3.block⟩
      have hb3 : Below w.heap.size w w3 := HB2.out.trans (hb3'.mono HB2.out.size)
      exact ⟨_, rfl, .ofNil _ _, hb3⟩

theorem rnext_any (ad : Option Addr) (n cap : Nat) (xs : List UInt8) (at_ : Int) (w : World) (hl : Lie w ad xs) (hn : n = xs.length) (hs : xs.length ≤ 1000000) (hc : n ≤ cap) (hcm : cap ≤ maxLen) (had : ad = none → cap = 0) :
    Calls Tryd.prog 62 #[.slice ad n cap, .int .i64 at_] w (NxP w xs at_) := by
  have key : ∀ {l : List UInt8} {x e : Int}, bodyAt xs at_ = l → chk xs at_ = (x, e) → Calls Tryd.prog 62 #[.slice ad n cap, .int .i64 at_] w (NrP w l x e) →
      Calls Tryd.prog 62 #[.slice ad n cap, .int .i64 at_] w (NxP w xs at_) := by
    intro l x e h1 h2 h
    unfold NxP
    rw [h1, h2]
    exact h
  have bad : ∀ {x e : Int}, chk xs at_ = (x, e) → e ≠ 0 → bodyAt xs at_ = [] := fun h he => (chk_bad (by rw [h]; exact he)).2
  by_cases ho : at_ < 0 ∨ xs.length < at_
  · have e := chk_out xs at_ ho
    exact key (bad e (by decide)) e (rn_range ad n cap at_ w (by omega) (by omega))
  obtain ⟨a, rfl⟩ : ∃ a : Nat, at_ = a := ⟨at_.toNat, by omega⟩
  have ha : a ≤ n := by omega
  have hk := chk_nat xs a (by omega)
  by_cases h10 : n < a + 10
  · have e : chk xs a = (0, 2) := by
      rw [hk]
      have : hd (xs.drop a) = (0, 2) := by unfold hd; rw [if_pos (by rw [List.length_drop]; omega)]
      rw [this]; rfl
    exact key (bad e (by decide)) e (rn_short ad n cap a w ha h10 (by omega) hc hcm had)
  rcases hl.at_ with h0 | ⟨b, off, rfl, hb, hcell⟩
  · subst h0; simp at hn; omega
  have hlr := hl.drop a
  have hrl : (xs.drop a).length = n - a := by rw [List.length_drop]; omega
  have hba : ∀ N, hd (xs.drop a) = (N, 0) → bodyAt xs a = ((xs.drop a).drop 10).take N ∧ chk xs a = ((a : Int) + N + 10, 0) := by
    intro N hN
    rw [hN] at hk
    have hc2 : chk xs a = ((a : Int) + N + 10, 0) := hk
    refine ⟨?_, hc2⟩
    unfold bodyAt
    rw [hc2, if_pos rfl, Int.toNat_natCast, hN, List.drop_drop]
  generalize hr : xs.drop a = r at *
  clear hcell hl
  have hr10 : ¬ r.length < 10 := by omega
  obtain ⟨x0, x1, r2, hR⟩ := two_of r (by omega)
  have h2 := take2_iff r x0 x1 r2 hR
  have g0 : r[0]'(by omega) = x0 := by subst hR; rfl
  have g1 : r[1]'(by omega) = x1 := by subst hR; rfl
  rcases hlr.at_ with h0 | ⟨b', off', h0, _, hcell⟩
  · subst h0; simp at hr10
  cases h0
  have c0 := hcell 0 (by omega)
  have c1 := hcell 1 (by omega)
  rw [g0, Nat.add_zero] at c0
  rw [g1] at c1
  clear hcell g0 g1
  by_cases hmg : x0.toNat = 167 ∧ x1.toNat = 60
  · rw [hmg.1] at c0
    rw [hmg.2] at c1
    have l2 := hlr.drop 2
    have e2 : (r.drop 2).length = n - a - 2 := by rw [List.length_drop]; omega
    by_cases hbig : 65536 < num4 (r.drop 2)
    · have e : hd r = (0, 6) := by unfold hd; rw [if_neg (by omega), if_neg (fun h => h (h2.2 hmg)), if_pos hbig]
      rw [e] at hk
      exact key (bad hk (by decide)) hk (rn_long b off n cap a _ _ w (by omega) hc hcm (by omega) c0 c1 l2 e2 rfl hbig)
    · by_cases hcut : r.length < num4 (r.drop 2) + 10
      · have e : hd r = (0, 2) := by unfold hd; rw [if_neg (by omega), if_neg (fun h => h (h2.2 hmg)), if_neg hbig, if_pos hcut]
        rw [e] at hk
        exact key (bad hk (by decide)) hk (rn_cut b off n cap a _ _ w (by omega) hc hcm (by omega) c0 c1 l2 e2 rfl (by omega) (by omega))
      · have e : hd r = if num4 (r.drop 6) ≠ crc ((r.drop 2).take 4 ++ (r.drop 10).take (num4 (r.drop 2))) then (0, 4) else (num4 (r.drop 2), 0) := by
          unfold hd; rw [if_neg (by omega), if_neg (fun h => h (h2.2 hmg)), if_neg hbig, if_neg hcut]
        have hb4 : be4 (num4 (r.drop 2)) = (r.drop 2).take 4 := be4_num4 _ (by omega)
        have hbl : ((r.drop 10).take (num4 (r.drop 2))).length = num4 (r.drop 2) := by rw [List.length_take, List.length_drop]; omega
        have l6 := (hlr.drop 6).take 4
        have h6 : ((r.drop 6).take 4).length = 4 := by rw [List.length_take, List.length_drop]; omega
        generalize hN : num4 (r.drop 2) = N at *
        have hyes : (be4 (crc (be4 N ++ (r.drop 10).take N)) = (r.drop 6).take 4) = (decide (num4 (r.drop 6) = crc ((r.drop 2).take 4 ++ (r.drop 10).take N)) = true) := by
          rw [hb4, decide_eq_true_eq, be4_eq_iff _ (crc_lt _) _ (by rw [List.length_drop]; omega)]
          exact propext ⟨fun h => h.symm, fun h => h.symm⟩
        have h : Calls Tryd.prog 62 #[.slice (some ⟨b, off, none⟩) n cap, .int .i64 a] w (NrQ w ((r.drop 10).take N) a (decide (num4 (r.drop 6) = crc ((r.drop 2).take 4 ++ (r.drop 10).take N)))) := by
          by_cases hca : cap - a = 10
          · have hN0 : N = 0 := by omega
            exact rn_near b off n cap a N _ w (by omega) hc hcm (by omega) c0 c1 l2 e2 hN (by omega) (by omega) hca hN0 _ (by rw [hN0, List.take_zero]; exact .nil _ _) hbl _ l6 h6 _ hyes
          · exact rn_far b off n cap a N _ w (by omega) hc hcm (by omega) c0 c1 l2 e2 hN (by omega) (by omega) hca _ ((hlr.drop 10).take _) hbl _ l6 h6 _ hyes
        unfold NrQ at h
        by_cases hxy : num4 (r.drop 6) = crc ((r.drop 2).take 4 ++ (r.drop 10).take N)
        · rw [if_neg (fun h => h hxy)] at e
          obtain ⟨h8, h9⟩ := hba N e
          simp only [decide_eq_true hxy, if_true] at h
          rw [hbl] at h
          exact key h8 h9 h
        · rw [if_pos hxy] at e
          rw [e] at hk
          simp only [decide_eq_false hxy] at h
          exact key (bad hk (by decide)) hk h
  · have e : hd r = (0, 1) := by unfold hd; rw [if_neg (by omega), if_pos (fun h => hmg (h2.1 h))]
    rw [e] at hk
    exact key (bad hk (by decide)) hk (rn_magic b off n cap a _ _ w (by omega) hc hcm (by omega) c0 c1 hmg)
end Go.Proofs.YtjiijjdmkeeilaaDoor
namespace Go.Proofs.YtjiijjdmkeeilaaDoor
open Go.RowKit
set_option linter.unusedVariables false
set_option linter.unusedSimpArgs false

/-- A frame appended: a slice of the call's own, and no error. -/
def ApP (w : World) (l : List UInt8) (en : Ending) (w' : World) : Prop := ∃ v, en = .returned (.tuple #[v, .int .i64 0]) ∧ Own w' w.heap.size v l ∧ Below w.heap.size w w'

theorem Lie.pair (w : World) (x y : Nat) (hx : x < 256) (hy : y < 256) : Lie (w.alloc (.cells #[.int .u8 x, .int .u8 y] 5)) (some ⟨w.heap.size, 0, none⟩) [UInt8.ofNat x, UInt8.ofNat y] :=
  Lie.lits w _ _ (by unfold cellsU; simp only [List.map_cons, List.map_nil]; rw [toNat8' _ hx, toNat8' _ hy])

set_option maxRecDepth 100000 in
set_option maxHeartbeats 1000000 in
theorem append_any (ad bd : Option Addr) (n cap m mcap : Nat) (xs body : List UInt8) (w : World) (hl : Lie w ad xs) (hn : n = xs.length) (hs : xs.length ≤ 100000) (had : ad = none → cap = 0)
    (hl2 : Lie w bd body) (hm : m = body.length) (hs2 : body.length ≤ 65536) (hbd : bd = none → mcap = 0) (hmg : Mag w) :
    Calls Tryd.prog 34 #[.slice ad n cap, .slice bd m mcap] w (ApP w (xs ++ frm body)) := by
  have hnl : n ≤ 100000 := by omega
  have hml : m ≤ 65536 := by omega
  have hlen : lenF (m : Int) = (m : Int) + 10 := by unfold lenF; rw [if_neg (by omega)]
  have HLEN := Lib.hid hlen
  have HN := Lib.hid hn
  have HM := Lib.hid hm
  clear hlen hn hm
  go_enter Tryd.func34, Tryd.ntmps34
  go_wp2_with fail
  refine (putn_any _ [] w.heap.size m _ (by omega) (Own.ofNil _ _) (Nat.le_refl _) (by simp)).mono ?_
  rintro e w1 ⟨v1, rfl, ho1, hb1⟩
  rw [List.nil_append] at ho1
  obtain ⟨ad1, cap1, rfl, hl1, hc1, hm1, ha1⟩ := ho1.slice
  have HL1 := Lib.hid hl1
  have HB1 := Lib.hid hb1
  have HA1 := Lib.hid ha1
  have HX := Lib.hid (hl.below hb1 rfl)
  have HY := Lib.hid (hl2.below hb1 rfl)
  have HG := Lib.hid (hmg.step hb1)
  have hsz := hb1.size
  have HSZ := Lib.hid hsz
  rw [be4_length] at hc1 ⊢
  clear ho1 hl1 hb1 ha1 hl hl2 hmg hsz
  go_wp2_with fail
  refine (len_any (m : Int) _ (by omega) (by omega)).mono ?_
  rintro e w' ⟨rfl, rfl⟩
  rw [HLEN.out]
  go_wp2_with (first
    | (at_make; refine wpList_make_u rfl (.const (.int .i64 0)) (.tmp 20) rfl w1.heap.size _ (n + m + 10) rfl rfl (by omega) (by omega) (Nat.le_refl _) ?_; intro v2 w2 ho2 hg2; have HO2 := Lib.hid ho2; have HB2 : Hid (Below w1.heap.size w1 w2) := Lib.hid ((Below.refl _ _).grown hg2 (Nat.le_refl _) (by simp)); have HX2 := Lib.hid (HX.out.below HB2.out rfl); have hsz2 := HB2.out.size; have HSZ2 := Lib.hid hsz2; clear ho2 hg2 hsz2)
    | (at_builtin; refine wpList_append_u rfl (.tmp 21) (.tmp 22) rfl w1.heap.size _ [] rfl HO2.out ad n cap xs had HX2.out HN.out rfl (by simp only [List.length_nil]; omega) HSZ2.out ?_; intro v3 w3 ho3 hg3; rw [List.nil_append] at ho3; have HO3 := Lib.hid ho3; have HB3 : Hid (Below w1.heap.size w1 w3) := Lib.hid (HB2.out.trans (below_app HO2.out HSZ2.out hg3)); have hsz3 := HB3.out.size; have HSZ3 := Lib.hid hsz3; have hmg3 := HG.out.step HB3.out; have hg0 := hmg3.c0; have hg1 := hmg3.c1; have HMG3 := Lib.hid hmg3; clear ho3 hg3 hsz3 hmg3)
    | (at_builtin; refine wpList_append_u rfl (.tmp 24) (.tmp 29) rfl w1.heap.size _ xs rfl (HO3.out.alloc _) _ 2 2 [167, 60] (fun h => by cases h) (Lie.pair w3 167 60 (by decide) (by decide)) rfl rfl (by omega) (by have := HSZ3.out; simp; omega) ?_; intro v4 w4 ho4 hg4; have HO4 := Lib.hid ho4; have HB4 : Hid (Below w1.heap.size w1 w4) := Lib.hid (HB3.out.trans (below_add HO3.out HSZ3.out hg4)); have HL4 := Lib.hid (HL1.out.below HB4.out rfl); have hsz4 := HB4.out.size; have HSZ4 := Lib.hid hsz4; clear ho4 hg4 hsz4 hg0 hg1)
    | (at_builtin; refine wpList_append_u rfl (.tmp 31) (.tmp 32) rfl w1.heap.size _ (xs ++ [167, 60]) rfl HO4.out ad1 4 cap1 (be4 m) HA1.out HL4.out rfl rfl (by simp only [List.length_append, List.length_cons, List.length_nil, be4_length]; omega) HSZ4.out ?_; intro v5 w5 ho5 hg5; have HO5 := Lib.hid ho5; have HB5 : Hid (Below w1.heap.size w1 w5) := Lib.hid (HB4.out.trans (below_app HO4.out HSZ4.out hg5)); have HL5 := Lib.hid (HL1.out.below HB5.out rfl); have HY5 := Lib.hid (HY.out.below HB5.out rfl); clear ho5 hg5))
  go_wp2_with fail
  refine (fsum_any _ _ _ _ _ _ (be4 m) body _ HL5.out HY5.out rfl HM.out (by rw [be4_length]; decide) (by omega)).mono ?_
  rintro e w6 ⟨rfl, hb6⟩
  have HB6 : Hid (Below w1.heap.size w1 w6) := Lib.hid (HB5.out.trans (hb6.mono HB5.out.size))
  have HO6 := Lib.hid (HO5.out.below hb6)
  have hcl := crc_lt (be4 m ++ body)
  obtain ⟨C, hC⟩ : ∃ C, crc (be4 m ++ body) = C := ⟨_, rfl⟩
  rw [hC] at hcl ⊢
  have HC := Lib.hid hC
  clear hb6 hC
  go_wp2_with fail
  refine (putn_any v5 _ w1.heap.size C _ hcl HO6.out HB6.out.size (by simp only [List.length_append, List.length_cons, List.length_nil, be4_length]; omega)).mono ?_
  rintro e w7 ⟨v7, rfl, ho7, hb7⟩
  have HO7 := Lib.hid ho7
  have HB7 : Hid (Below w1.heap.size w1 w7) := Lib.hid (HB6.out.trans hb7)
  have HY7 := Lib.hid (HY.out.below HB7.out rfl)
  have hsz7 := HB7.out.size
  have HSZ7 := Lib.hid hsz7
  clear ho7 hb7 hsz7
  go_wp2_with (at_builtin; refine wpList_append_u rfl (.tmp 39) (.tmp 40) rfl w1.heap.size _ _ rfl HO7.out bd m mcap body hbd HY7.out HM.out rfl (by simp only [List.length_append, List.length_cons, List.length_nil, be4_length]; omega) HSZ7.out ?_; intro v8 w8 ho8 hg8)
  have HO8 := Lib.hid ho8
  have HB8 : Hid (Below w1.heap.size w1 w8) := Lib.hid (HB7.out.trans (below_app HO7.out HSZ7.out hg8))
  clear ho8 hg8
  go_wp2
  go_ret2
  refine ⟨v8, rfl, ?_, HB1.out.trans (HB8.out.mono HB1.out.size)⟩
  have h := HO8.out.mono HB1.out.size
  have e : xs ++ [167, 60] ++ be4 m ++ be4 C ++ body = xs ++ frm body := by
    rw [← HC.out, HM.out]
    simp [frm]
  rw [← e]
  exact h

set_option maxRecDepth 100000 in
set_option maxHeartbeats 1000000 in
theorem rappend_any (ad bd : Option Addr) (n cap m mcap : Nat) (xs body : List UInt8) (w : World) (hl : Lie w ad xs) (hn : n = xs.length) (hs : xs.length ≤ 100000) (had : ad = none → cap = 0)
    (hl2 : Lie w bd body) (hm : m = body.length) (hs2 : body.length ≤ 65536) (hbd : bd = none → mcap = 0) :
    Calls Tryd.prog 76 #[.slice ad n cap, .slice bd m mcap] w (ApP w (xs ++ frm body)) := by
  have hnl : n ≤ 100000 := by omega
  have hml : m ≤ 65536 := by omega
  have HN := Lib.hid hn
  have HM := Lib.hid hm
  have HX := Lib.hid hl
  have HY := Lib.hid hl2
  clear hn hm hl hl2
  go_enter Tryd.func76, Tryd.ntmps76
  go_wp2_with (first
    | (at_builtin; refine wpList_append_u rfl (.tmp 10) (.tmp 11) rfl w.heap.size _ [] rfl (Own.ofNil _ _) ad n cap xs had HX.out HN.out rfl (by simp only [List.length_nil]; omega) (Nat.le_refl _) ?_; intro v1 w1 ho1 hg1; rw [List.nil_append] at ho1; have HO1 := Lib.hid ho1; have HB1 : Hid (Below w.heap.size w w1) := Lib.hid (below_app (Own.ofNil _ _) (Nat.le_refl _) hg1); have hsz1 := HB1.out.size; have HSZ1 := Lib.hid hsz1; clear ho1 hg1 hsz1)
    | (at_builtin; refine wpList_append_u rfl (.tmp 13) (.tmp 14) rfl w.heap.size _ xs rfl (HO1.out.alloc _) _ 2 2 [167, 60] (fun h => by cases h) (Lie.pair w1 167 60 (by decide) (by decide)) rfl rfl (by omega) (by have := HSZ1.out; simp; omega) ?_; intro v2 w2 ho2 hg2; have HO2 := Lib.hid ho2; have HB2 : Hid (Below w.heap.size w w2) := Lib.hid (HB1.out.trans (below_add HO1.out HSZ1.out hg2)); have hsz2 := HB2.out.size; have HSZ2 := Lib.hid hsz2; clear ho2 hg2 hsz2))
  refine (four_any m _ (by omega)).mono ?_
  rintro e w3 ⟨rfl, hl3, _, hb3⟩
  have HO3 := Lib.hid (HO2.out.below hb3)
  have HB3 : Hid (Below w.heap.size w w3) := Lib.hid (HB2.out.trans (hb3.mono HSZ2.out))
  have HL3 := Lib.hid hl3
  have hsz3 := HB3.out.size
  have HSZ3 := Lib.hid hsz3
  clear hl3 hb3 hsz3
  go_wp2_with (at_builtin; refine wpList_append_u rfl (.tmp 16) (.tmp 19) rfl w.heap.size _ _ rfl HO3.out _ 4 4 (be4 m) (fun h => by cases h) HL3.out rfl rfl (by simp only [List.length_append, List.length_cons, List.length_nil, be4_length]; omega) HSZ3.out ?_; intro v4 w4 ho4 hg4; have HO4 := Lib.hid ho4; have HB4 : Hid (Below w.heap.size w w4) := Lib.hid (HB3.out.trans (below_app HO3.out HSZ3.out hg4)); have HY4 := Lib.hid (HY.out.below HB4.out rfl); clear ho4 hg4)
  refine (rfsum_any bd m mcap body _ HY4.out HM.out (by omega) hbd).mono ?_
  rintro e w5 ⟨g, rfl, hl5, hb5⟩
  have HO5 := Lib.hid (HO4.out.below hb5)
  have HB5 : Hid (Below w.heap.size w w5) := Lib.hid (HB4.out.trans (hb5.mono HB4.out.size))
  have HL5 := Lib.hid hl5
  have hsz5 := HB5.out.size
  have HSZ5 := Lib.hid hsz5
  clear hl5 hb5 hsz5
  go_wp2_with (first
    | (at_builtin; refine wpList_append_u rfl (.tmp 21) (.tmp 23) rfl w.heap.size _ _ rfl HO5.out _ 4 4 (be4 (crc (be4 body.length ++ body))) (fun h => by cases h) HL5.out rfl rfl (by simp only [List.length_append, List.length_cons, List.length_nil, be4_length]; omega) HSZ5.out ?_; intro v6 w6 ho6 hg6; have HO6 := Lib.hid ho6; have HB6 : Hid (Below w.heap.size w w6) := Lib.hid (HB5.out.trans (below_app HO5.out HSZ5.out hg6)); have HY6 := Lib.hid (HY.out.below HB6.out rfl); have hsz6 := HB6.out.size; have HSZ6 := Lib.hid hsz6; clear ho6 hg6 hsz6)
    | (at_builtin; refine wpList_append_u rfl (.tmp 25) (.tmp 26) rfl w.heap.size _ _ rfl HO6.out bd m mcap body hbd HY6.out HM.out rfl (by simp only [List.length_append, List.length_cons, List.length_nil, be4_length]; omega) HSZ6.out ?_; intro v7 w7 ho7 hg7; have HO7 := Lib.hid ho7; have HB7 : Hid (Below w.heap.size w w7) := Lib.hid (HB6.out.trans (below_app HO6.out HSZ6.out hg7)); clear ho7 hg7))
  go_ret2
  refine ⟨v7, rfl, ?_, HB7.out⟩
  have h := HO7.out
  have e : xs ++ [167, 60] ++ be4 m ++ be4 (crc (be4 body.length ++ body)) ++ body = xs ++ frm body := by
    rw [HM.out]
    simp [frm]
  rw [← e]
  exact h
end Go.Proofs.YtjiijjdmkeeilaaDoor
