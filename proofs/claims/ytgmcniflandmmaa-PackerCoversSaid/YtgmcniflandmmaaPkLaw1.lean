/-
  PackerFills and PackerFits.
-/
import Derived.Test.YtgmcniflandmmaaPkLawS
import Derived.Test.YtgmcniflandmmaaPkRFF
import Derived.Test.YtgmcniflandmmaaPkAwake
namespace Go.Proofs.Ytgmcniflandmmaa
open Go.RowKit
set_option linter.unusedVariables false
set_option linter.unusedSimpArgs false
theorem fillU_good (l : List Int) (c : Int) : GoodP c (fillU l c).1 := by
  unfold fillU
  split
  · rename_i h
    have hok := (valU_ok h).2
    have key : ∀ (l : List Int) (f : Int) (ll : List (List Pc)), (∀ s ∈ l, 0 ≤ s ∧ s ≤ 4096) → GoodP c ll → GoodP c (fillP c l f ll) := by
      intro l
      induction l with
      | nil => intro f ll _ h; exact h
      | cons s l ih =>
        intro f ll hs h
        rw [fillP]
        have hs0 := hs s (by simp)
        obtain ⟨z, l', -, -, -, hg, h0, h1, -⟩ := add_form (f := f) (o := 0) (left := s) h hok.1.1 hs0.1
        refine ih _ _ (fun x hx => hs x (by simp [hx])) ?_
        unfold fileP
        exact (rest_ind hok.1.1 (fun _ _ => True) (fun _ _ _ _ _ _ => trivial) _ _ _ (Nat.le_refl _) h0 h1 hg trivial).1
    exact key l 0 [] hok.2 (GoodP.nil c)
  · exact GoodP.nil c
theorem ffU_good (l : List Int) (c : Int) (o : List Nat) (ho : ∀ i ∈ o, i < l.length) : GoodF l c (ffU l c o).1 := by
  unfold ffU fitU
  split
  · split
    · exact GoodF.nil l c
    · rename_i h1 h2
      refine (fit_good (fun i hi => ?_) o [] ho (GoodF.nil l c)).1
      rw [Bool.not_eq_true, List.any_eq_false] at h2
      have := h2 _ (List.getElem_mem hi)
      rw [szL_get hi]
      simpa using this
  · exact GoodF.nil l c
theorem fillU_len (l : List Int) (c : Int) : (fillU l c).1.length ≤ 4097 * 512 := by
  unfold fillU
  split
  · rename_i h
    obtain ⟨h512, hok⟩ := valU_ok h
    have key : ∀ (l : List Int) (f : Int) (ll : List (List Pc)), (∀ s ∈ l, 0 ≤ s ∧ s ≤ 4096) → GoodP c ll → (fillP c l f ll).length ≤ ll.length + 4097 * l.length := by
      intro l
      induction l with
      | nil => intro f ll _ h; simp [fillP]
      | cons s l ih =>
        intro f ll hs h
        rw [fillP]
        have hs0 := hs s (by simp)
        obtain ⟨z, l', -, -, -, hg, h0, h1, hp, hl, -⟩ := add_form (f := f) (o := 0) (left := s) h hok.1.1 hs0.1
        have h2 := rest_ind (f := f) hok.1.1 (fun t lz => lz.length ≤ ll.length + 1 + t.toNat) (fun t lz hg2 ht hts hq => by
          obtain ⟨z, l', -, -, -, -, h0, h1, hp, hl, -⟩ := add_form (f := f) (o := t) (left := s - t) hg2 hok.1.1 (by omega)
          have := hp (by omega)
          show (addP c lz f t (s - t)).length ≤ _
          omega) (s - lenP c ll s).toNat (lenP c ll s) (addP c ll f 0 s) (Nat.le_refl _) h0 h1 hg (by show (addP c ll f 0 s).length ≤ _; omega)
        have h3 := ih (f + 1) (fileP c ll f s) (fun x hx => hs x (by simp [hx])) h2.1
        have h4 : (fileP c ll f s).length ≤ ll.length + 1 + s.toNat := h2.2
        rw [List.length_cons]
        omega
    have := key l 0 [] hok.2 (GoodP.nil c)
    simp only [List.length_nil] at this
    show (fillP c l 0 []).length ≤ _
    omega
  · simp
theorem ffU_len (l : List Int) (c : Int) (o : List Nat) : (ffU l c o).1.length ≤ o.length := by
  have key : ∀ (o : List Nat) (ll : List (List Nat)), (fitF l c o ll).length ≤ ll.length + o.length := by
    intro o
    induction o with
    | nil => intro ll; simp [fitF]
    | cons i o ih =>
      intro ll
      rw [fitF, List.length_cons]
      have h1 := ih (placeF l c ll i)
      have h2 : (placeF l c ll i).length ≤ ll.length + 1 := by
        unfold placeF openF
        simp only [List.length_set]
        split <;> simp
      omega
  unfold ffU fitU
  split
  · split
    · simp
    · have := key o []
      simpa using this
  · simp
attribute [local irreducible] fillU ffU
set_option maxRecDepth 100000 in
set_option maxHeartbeats 4000000 in
theorem law_fills (ad : Option Addr) (n cap : Nat) (l : List Int) (c : Int) (w : World) (hl : Lf inC w ad l) (hn : n = l.length) (hs : n ≤ 9223372036854775807) :
    Calls Try.prog 3 #[.slice ad n cap, .int .i64 c] w fun e w' => e = .returned (.bool true) ∧ Below w.heap.size w w' := by
  have HL := Lib.hid hl
  have HN := Lib.hid hn
  have HSS := Lib.hid hs
  have HG := Lib.hid (fillU_good l c)
  have HLN := Lib.hid (fillU_len l c)
  clear hl hn hs
  go_enter Try.func3, Try.ntmps3
  go_wp2_with fail
  refine (light_any ad n cap l c w HL.out HN.out HSS.out).mono ?_
  rintro e w' ⟨⟨b, rfl, -⟩, rfl⟩
  cases b
  · go_wp2_with fail
    refine (awake16_any w).mono ?_
    rintro e w' ⟨rfl, hb⟩
    have HB := Lib.hid hb
    clear hb
    go_wp2_with fail
    go_ret
    exact ⟨rfl, HB.out⟩
  go_wp2_with fail
  refine (fill_any ad n cap l c w HL.out HN.out HSS.out).mono ?_
  rintro e X1 ⟨v1, rfl, hv1, hb1⟩
  have HV1 := Lib.hid hv1
  have HB1 := Lib.hid hb1
  have HL1 := Lib.hid (HL.out.below hb1)
  clear hv1 hb1
  go_wp2_with fail
  refine (rfill_any ad n cap l c X1 HL1.out HN.out HSS.out).mono ?_
  rintro e X2 ⟨v2, rfl, hv2, hb2⟩
  have HV2 := Lib.hid (HV1.out.below hb2)
  have HW2 := Lib.hid hv2
  have HB2 := Lib.hid (HB1.out.trans (hb2.mono HB1.out.size))
  clear hv2 hb2 HV1 HB1 HL1
  obtain ⟨ad1, cap1, rfl, -⟩ := HV2.out.read
  obtain ⟨ad2, cap2, rfl, -⟩ := HW2.out.read
  generalize hfu : (fillU l c).1 = ll at *
  generalize (fillU l c).2 = E at *
  clear hfu
  obtain ⟨M, hM⟩ : ∃ M, M = ll.length := ⟨_, rfl⟩
  rw [← hM] at HV2 HW2 HLN ⊢
  have HM := Lib.hid hM
  have he := ne_f (show E = E from rfl)
  have hmm := ne_f (show (M : Int) = (M : Int) from rfl)
  have hM9 : M ≤ 10000000 := by have := HLN.out; omega
  clear hM
  go_wp2_with fail
  go_loopg [9] M (fun gk v9 wx => ∃ i q : Nat, v9 = .int .i64 i ∧ i + gk = M ∧ wx = X2.drewN q)
  case atStart => exact ⟨0, 0, rfl, by omega, rfl⟩
  case round =>
    obtain ⟨i, q, rfl, hi, rfl⟩ := hrel
    have hv3 := HV2.out.below (drew_below X2 q)
    have hv4 := HW2.out.below (drew_below X2 q)
    have HBX := Lib.hid (HB2.out.trans ((drew_below X2 q).mono HB2.out.size))
    obtain ⟨X, hX⟩ : ∃ X, X = X2.drewN q := ⟨_, rfl⟩
    rw [← hX] at hv3 hv4 HBX ⊢
    have HX := Lib.hid hX
    clear hX
    cases gk with
    | zero =>
      obtain rfl : i = M := by omega
      clear hv3 hv4
      go_wp2_with fail
      refine (awake16_any X).mono ?_
      rintro e w' ⟨rfl, hb⟩
      have HB := Lib.hid (HBX.out.trans (hb.mono HBX.out.size))
      clear hb
      go_wp2_with fail
      go_ret
      exact ⟨rfl, HB.out⟩
    | succ gk0 =>
      have hin : i < M := by omega
      have hil : i < ll.length := by have := HM.out; omega
      obtain ⟨g, c1, a1, n1, e1, -, -, -, q0, o1⟩ := hv3.get i hil
      rw [← HM.out] at e1
      cases e1
      obtain ⟨g', c2, a2, n2, e2, -, -, -, r0, o2⟩ := hv4.get i hil
      rw [← HM.out] at e2
      cases e2
      obtain ⟨_, _, e1, l1, -⟩ := o1.read
      cases e1
      obtain ⟨_, _, e1, l2, -⟩ := o2.read
      cases e1
      have hlen := (HG.out.len _ (List.getElem_mem hil)).1
      have HS := Lib.hid (fun k => samepieces_any a1 n1 a2 n2 (ll[i]).length ll[i] (X.drewN k) (l1.below ⟨rfl, rfl, rfl, Nat.le_refl _, fun _ _ => rfl⟩) (l2.below ⟨rfl, rfl, rfl, Nat.le_refl _, fun _ _ => rfl⟩) rfl (by omega))
      clear o1 o2 l1 l2 hv3 hv4
      generalize ll[i] = x at *
      generalize x.length = L at *
      go_wp2_with fail
      go_quiet ((go_at_call 13; exact (HS.out _).mono (fun e w' h => ⟨h.1, h.2.elim fun k2 hk => ⟨_, hk.trans (drewN_add _ _ _)⟩⟩)))
      go_wp2_with fail
      go_roundg gk0
      case rel => exact ⟨i + 1, _, by go_num, by omega, by rw [HX.out, drewN_add]⟩
      case measure => omega
set_option maxRecDepth 100000 in
set_option maxHeartbeats 4000000 in
theorem law_fits (ad : Option Addr) (n cap : Nat) (l : List Int) (c : Int) (w : World) (hl : Lf inC w ad l) (hn : n = l.length) (hs : n ≤ 9223372036854775807) :
    Calls Try.prog 5 #[.slice ad n cap, .int .i64 c] w fun e w' => e = .returned (.bool true) ∧ Below w.heap.size w w' := by
  have HL := Lib.hid hl
  have HN := Lib.hid hn
  have HSS := Lib.hid hs
  have HG := Lib.hid (ffU_good l c (List.range l.length) (fun i hi => List.mem_range.1 hi))
  have HG2 := Lib.hid (ffU_good l c (ordX l c) (ordX_num l c).1)
  have HLN := Lib.hid (show (ffU l c (List.range l.length)).1.length ≤ n by have := ffU_len l c (List.range l.length); rw [List.length_range] at this; omega)
  have HLN2 := Lib.hid (show (ffU l c (ordX l c)).1.length ≤ n by have := ffU_len l c (ordX l c); rw [(ordX_num l c).2] at this; omega)
  clear hl hn hs
  go_enter Try.func5, Try.ntmps5
  by_cases h6 : 600 < n
  · go_wp2_with fail
    refine (awake16_any w).mono ?_
    rintro e w' ⟨rfl, hb⟩
    have HB := Lib.hid hb
    clear hb
    go_wp2_with fail
    go_ret
    exact ⟨rfl, HB.out⟩
  have HN6 := Lib.hid (show n ≤ 600 by omega)
  go_wp2_with fail
  refine (firstfit_any ad n cap l c w HL.out HN.out HSS.out).mono ?_
  rintro e X1 ⟨v1, rfl, hv1, hb1⟩
  have HV1 := Lib.hid hv1
  have HB1 := Lib.hid hb1
  clear hv1 hb1
  go_wp2_with fail
  refine (rfirstfit_any ad n cap l c X1 (HL.out.below HB1.out) HN.out HSS.out).mono ?_
  rintro e X2 ⟨v2, rfl, hv2, hb2⟩
  have HV2 := Lib.hid (HV1.out.below hb2)
  have HW2 := Lib.hid hv2
  have HB2 := Lib.hid (HB1.out.trans (hb2.mono HB1.out.size))
  clear hv2 hb2 HV1 HB1
  go_wp2_with fail
  refine (decreasing_any ad n cap l c X2 (HL.out.below HB2.out) HN.out HSS.out).mono ?_
  rintro e X3 ⟨v3, rfl, hv3, hb3⟩
  have HV3 := Lib.hid (HV2.out.below hb3)
  have HW3 := Lib.hid (HW2.out.below hb3)
  have HY3 := Lib.hid hv3
  have HB3 := Lib.hid (HB2.out.trans (hb3.mono HB2.out.size))
  clear hv3 hb3 HV2 HW2 HB2
  go_wp2_with fail
  refine (rdecreasing_any ad n cap l c X3 (HL.out.below HB3.out) HN.out HSS.out).mono ?_
  rintro e X4 ⟨v4, rfl, hv4, hb4⟩
  have HV4 := Lib.hid (HV3.out.below hb4)
  have HW4 := Lib.hid (HW3.out.below hb4)
  have HY4 := Lib.hid (HY3.out.below hb4)
  have HZ4 := Lib.hid hv4
  have HB4 := Lib.hid (HB3.out.trans (hb4.mono HB3.out.size))
  clear hv4 hb4 HV3 HW3 HY3 HB3
  generalize (ffU l c (List.range l.length)).1 = ll at *
  generalize (ffU l c (List.range l.length)).2 = E at *
  generalize (ffU l c (ordX l c)).1 = lk at *
  generalize (ffU l c (ordX l c)).2 = E2 at *
  have he := eq_t (show E = E from rfl)
  have he2 := eq_t (show E2 = E2 from rfl)
  have HA := Lib.hid (alike_any v1 v2 _ _ ll X4 HV4.out HW4.out (by have := HLN.out; have := HN6.out; omega) (fun q hq => (HG.out.len q hq).1))
  go_wp2_with fail
  refine HA.out.mono ?_
  rintro e w5 ⟨rfl, q, rfl⟩
  have HA2 := Lib.hid (alike_any v3 v4 _ _ lk (X4.drewN q) (HY4.out.below (drew_below X4 q)) (HZ4.out.below (drew_below X4 q)) (by have := HLN2.out; have := HN6.out; omega) (fun q hq => (HG2.out.len q hq).1))
  have HB5 := Lib.hid (HB4.out.trans ((drew_below X4 q).mono HB4.out.size))
  go_wp2_with fail
  refine HA2.out.mono ?_
  rintro e w6 ⟨rfl, q2, rfl⟩
  have HB6 := Lib.hid (HB5.out.trans ((drew_below _ q2).mono HB5.out.size))
  rw [drewN_add] at HB6
  go_wp2_with fail
  refine (awake16_any _).mono ?_
  rintro e w' ⟨rfl, hb⟩
  have HB := Lib.hid (HB6.out.trans (hb.mono HB6.out.size))
  clear hb
  go_wp2_with fail
  go_ret
  exact ⟨rfl, HB.out⟩
end Go.Proofs.Ytgmcniflandmmaa
