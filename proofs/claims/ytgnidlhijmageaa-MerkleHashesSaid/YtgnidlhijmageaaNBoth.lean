/-
  What results from a link, by the program.
-/
import Derived.Test.YtgnidlhijmageaaNGrowM
namespace Go.Proofs.Ytgnidlhijmageaa
open Go.RowKit
attribute [local irreducible] accU fnv basis byteU beU hashU nodeU spl
set_option maxRecDepth 100000 in
set_option maxHeartbeats 2000000 in
theorem both_go (old : UInt64) (N : Nat) : ∀ (p : List UInt64) (ad : Option Addr) (l cap m n : Nat) (f : Bool) (w : World), l = N → Lin w ad p → l = p.length → l ≤ 1000000 → l ≤ cap → cap ≤ maxLen → 1 ≤ m → m ≤ n → (n : Int) ≤ 9223372036854775807 →
    Calls Try.prog 41 #[.int .u64 (gv old), .int .i64 m, .int .i64 n, .slice ad l cap, .bool f] w (GivesHH w (growU old m n f p)) := by
  induction N with
  | zero =>
    intro p ad l cap m n f w hN hl hll hs hc hcm h1m hmn hn
    subst hN
    by_cases h1 : m = n
    · subst h1
      cases f with
      | true =>
        have HE := Lib.hid (growU_all old m m p rfl)
        rw [← hll] at HE
        clear hl hll
        go_enter Try.func41, Try.ntmps41
        go_wp2
        go_ret3
        exact GivesHH.mk' HE.out (Below.refl _ _)
      | false =>
        have HE := Lib.hid (growU_no old m m p rfl (by omega))
        clear hl hll
        go_enter Try.func41, Try.ntmps41
        go_wp2
        go_ret3
        exact GivesHH.zero HE.out (Below.refl _ _)
    · have HE := Lib.hid (growU_nil old m n f p h1 (by omega) hll.symm)
      have hn1 : ¬ (m : Int) = (n : Int) := by omega
      clear hl hll
      go_enter Try.func41, Try.ntmps41
      go_wp2
      go_ret3
      exact GivesHH.zero HE.out (Below.refl _ _)
  | succ q ih =>
    intro p ad l cap m n f w hN hl hll hs hc hcm h1m hmn hn
    have HCM := Lib.hid hcm
    unfold maxLen at hcm
    have hq : (l : Int) - 1 = (q : Int) := by omega
    have hm0 : ¬ (l : Int) = 0 := by omega
    have hmb : ((l : Int) == 0) = false := by simpa using hm0
    obtain ⟨b, off, rfl, hb, hcell⟩ := hl.get (by omega)
    have hcq := hcell q (by omega)
    have hqc : (q : Int) ≤ (cap : Int) := by omega
    have hqm : (q : Int) < (l : Int) := by omega
    by_cases h1 : m = n
    · subst h1
      cases f with
      | true =>
        have HE := Lib.hid (growU_all old m m p rfl)
        rw [decide_eq_false (by omega : ¬ p.length = 0)] at HE
        clear hl hll ih hN hq hcq hcell
        go_enter Try.func41, Try.ntmps41
        go_wp2
        go_ret3
        exact GivesHH.mk' HE.out (Below.refl _ _)
      | false =>
        by_cases hq0 : q = 0
        · have HE := Lib.hid (growU_yes old m m q p rfl (by omega) hq0)
          have hqi : ((q : Int) == 0) = true := by simpa using (by omega : (q : Int) = 0)
          clear hq0
          generalize p[q] = x at hcq HE
          clear hl hll ih hN hcell
          go_enter Try.func41, Try.ntmps41
          go_wp2_with fail
          go_quiet (fail)
          go_wp2
          go_ret3
          exact GivesHH.mk' HE.out (below_drewN (Below.refl _ _) _)
        · have HE := Lib.hid (growU_no old m m p rfl (by omega))
          have hqi : ((q : Int) == 0) = false := by have : ¬ (q : Int) = 0 := by omega
                                                    simpa using this
          generalize p[q] = x at hcq
          clear hl hll ih hN hcell
          go_enter Try.func41, Try.ntmps41
          go_wp2_with fail
          go_quiet (fail)
          go_wp2
          go_ret3
          exact GivesHH.no HE.out rfl (below_drewN (Below.refl _ _) _)
    · have h2 : 2 ≤ n := by omega
      have hn1 : ¬ (m : Int) = (n : Int) := by omega
      have hk1 := spl_lt h2
      have hk0 := spl_pos n
      have HEL := Lib.hid (growU_left old m n q f p h1 h2 (by omega))
      have HER := Lib.hid (growU_right old m n q f p h1 h2 (by omega))
      have HSP := Lib.hid (fun w => split_any n w h2 hn)
      obtain ⟨k, hk⟩ : ∃ k, k = spl n := ⟨_, rfl⟩
      rw [← hk] at hk1 hk0 HEL HER HSP
      have HL := Lib.hid (hl.take q)
      have HIH : Hid (∀ (W : World) (m n : Nat) (f : Bool), Below w.heap.size w W → 1 ≤ m → m ≤ n → (n : Int) ≤ 9223372036854775807 → Calls Try.prog 41 #[.int .u64 (gv old), .int .i64 m, .int .i64 n, .slice (some ⟨b, off, none⟩) q cap, .bool f] W (GivesHH W (growU old m n f (p.take q)))) := Lib.hid fun W m n f hb h1 h2 h3 => ih (p.take q) _ q cap m n f W rfl (HL.out.below hb rfl) (by rw [List.length_take]; omega) (by omega) (by omega) HCM.out h1 h2 h3
      generalize p[q] = x at hcq HEL HER
      have HX : Hid (∀ W, Below w.heap.size w W → W.cell? ⟨b, off + q, none⟩ = some (.int .u64 (gv x))) := Lib.hid fun W hB => (hB.cell (p := ⟨b, off + q, none⟩) hb).trans hcq
      clear hl hll ih hcell hcq hb hk hN
      by_cases hik : m ≤ k
      · have HE := Lib.hid (HEL.out hik)
        have HP := Lib.hid (fun W hB => HIH.out W m k f hB h1m hik (by omega))
        generalize growU old m k f (p.take q) = r at HP HE
        have hik2 : (m : Int) ≤ (k : Int) := by omega
        clear HEL HER HIH
        go_enter Try.func41, Try.ntmps41
        go_wp2_with fail
        refine (HSP.out _).mono ?_
        rintro e w' ⟨rfl, rfl⟩
        go_wp2_with fail
        refine (HP.out _ (Below.refl _ _)).mono ?_
        rintro e w2 ⟨x1, y1, c1, rfl, hc1, hxy, hb2⟩
        have hx := HX.out w2 hb2
        have HB := Lib.hid hb2
        have HC1 := Lib.hid hc1
        have HXY := Lib.hid hxy
        clear hb2 hc1 hxy
        go_wp2_with fail
        refine (node_any _ _ _).mono ?_
        rintro e w3 ⟨rfl, hb3⟩
        have HB3 := Lib.hid (HB.out.trans (hb3.mono HB.out.size))
        clear hb3
        go_wp2
        go_ret3
        exact GivesHH.of (both_left (nd := nodeU) HE.out HC1.out HXY.out) HB3.out
      · obtain ⟨j, hj⟩ : ∃ j, m = k + j := ⟨m - k, by omega⟩
        obtain ⟨n', hn'⟩ : ∃ n', n = k + n' := ⟨n - k, by omega⟩
        have HE := Lib.hid (HER.out hik)
        rw [show m - k = j by omega, show n - k = n' by omega] at HE
        have HP := Lib.hid (fun W hB => HIH.out W j n' false hB (by omega) (by omega) (by omega))
        generalize growU old j n' false (p.take q) = r at HP HE
        have hik2 : (k : Int) < (m : Int) := by omega
        have hij : (m : Int) - (k : Int) = (j : Int) := by omega
        have hin : (n : Int) - (k : Int) = (n' : Int) := by omega
        have hjw : IntKind.i64.wrap (j : Int) = (j : Int) := by rw [IntKind.wrap_i64]; omega
        have hnw : IntKind.i64.wrap (n' : Int) = (n' : Int) := by rw [IntKind.wrap_i64]; omega
        clear HEL HER HIH hj hn'
        go_enter Try.func41, Try.ntmps41
        go_wp2_with fail
        refine (HSP.out _).mono ?_
        rintro e w' ⟨rfl, rfl⟩
        go_wp2_with fail
        refine (HP.out _ (Below.refl _ _)).mono ?_
        rintro e w2 ⟨x1, y1, c1, rfl, hc1, hxy, hb2⟩
        have hx := HX.out w2.drew hb2.drew
        have HB := Lib.hid hb2.drew
        have HC1 := Lib.hid hc1
        have HXY := Lib.hid hxy
        clear hb2 hc1 hxy
        go_wp2_with fail
        go_region_with (first
          | (go_at_call 13; refine (node_any _ _ _).mono ?_; rintro e w3 ⟨rfl, hb3⟩; replace HB := Lib.hid (HB.out.trans (hb3.mono HB.out.size)); clear hb3; have hx3 := HX.out _ HB.out))
        all_goals (go_wp2; go_ret3)
        all_goals exact GivesHH.of (both_right (nd := nodeU) HE.out HC1.out HXY.out) HB.out
end Go.Proofs.Ytgnidlhijmageaa
