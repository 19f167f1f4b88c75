/-
  What results from a proof, by the specification.
-/
import Derived.Test.YtgnidlhijmageaaNFollow
namespace Go.Proofs.Ytgnidlhijmageaa
open Go.RowKit
attribute [local irreducible] accU fnv basis byteU beU hashU nodeU spl
set_option maxRecDepth 100000 in
set_option maxHeartbeats 1000000 in
theorem reach_go (leaf : UInt64) (N : Nat) : ∀ (p : List UInt64) (ad : Option Addr) (m cap i n : Nat) (w : World), m = N → Lin w ad p → m = p.length → m ≤ 1000000 → m ≤ cap → cap ≤ maxLen → i < n → (n : Int) ≤ 9223372036854775807 →
    Calls Try.prog 38 #[.int .u64 (gv leaf), .int .i64 i, .int .i64 n, .slice ad m cap] w (GivesHB w (reachU leaf i n p)) := by
  induction N with
  | zero =>
    intro p ad m cap i n w hN hl hm hs hc hcm hi hn
    subst hN
    by_cases h1 : n = 1
    · subst h1
      have HE := Lib.hid (reachU_one leaf i p)
      rw [← hm] at HE
      clear hl hm
      go_enter Try.func38, Try.ntmps38
      go_wp2
      go_ret2
      exact GivesHB.one HE.out (Below.refl _ _)
    · have HE := Lib.hid (reachU_nil leaf i n p (by omega) hm.symm)
      have hn1 : ¬ (n : Int) = 1 := by omega
      clear hl hm
      go_enter Try.func38, Try.ntmps38
      go_wp2
      go_ret2
      exact GivesHB.zero HE.out (Below.refl _ _)
  | succ q ih =>
    intro p ad m cap i n w hN hl hm hs hc hcm hi hn
    have HCM := Lib.hid hcm
    unfold maxLen at hcm
    have hq : (m : Int) - 1 = (q : Int) := by omega
    have hm0 : ¬ (m : Int) = 0 := by omega
    by_cases h1 : n = 1
    · subst h1
      have HE := Lib.hid (reachU_one leaf i p)
      rw [decide_eq_false (by omega : ¬ p.length = 0)] at HE
      have hmb : ((m : Int) == 0) = false := by simpa using hm0
      clear hl hm ih hq hN
      go_enter Try.func38, Try.ntmps38
      go_wp2
      go_ret2
      exact GivesHB.one HE.out (Below.refl _ _)
    · have h2 : 2 ≤ n := by omega
      have hn1 : ¬ (n : Int) = 1 := by omega
      obtain ⟨b, off, rfl, hb, hcell⟩ := hl.get (by omega)
      have hcq := hcell q (by omega)
      have hk1 := spl_lt h2
      have hk0 := spl_pos n
      have HEL := Lib.hid (reachU_left leaf i n q p h2 (by omega))
      have HER := Lib.hid (reachU_right leaf i n q p h2 (by omega))
      have HSP := Lib.hid (fun w => rsplit_any n w h2 hn)
      obtain ⟨k, hk⟩ : ∃ k, k = spl n := ⟨_, rfl⟩
      rw [← hk] at hk1 hk0 HEL HER HSP
      have HL := Lib.hid (hl.take q)
      have HIH : Hid (∀ (W : World) (i n : Nat), Below w.heap.size w W → i < n → (n : Int) ≤ 9223372036854775807 → Calls Try.prog 38 #[.int .u64 (gv leaf), .int .i64 i, .int .i64 n, .slice (some ⟨b, off, none⟩) q cap] W (GivesHB W (reachU leaf i n (p.take q)))) := Lib.hid fun W i n hb h1 h2 => ih (p.take q) _ q cap i n W rfl (HL.out.below hb rfl) (by rw [List.length_take]; omega) (by omega) (by omega) HCM.out h1 h2
      generalize p[q] = x at hcq HEL HER
      have hqc : (q : Int) ≤ (cap : Int) := by omega
      have hqm : (q : Int) < (m : Int) := by omega
      have HX : Hid (∀ W, Below w.heap.size w W → W.cell? ⟨b, off + q, none⟩ = some (.int .u64 (gv x))) := Lib.hid fun W hB => (hB.cell (p := ⟨b, off + q, none⟩) hb).trans hcq
      clear hl hm ih hcell hcq hb hk hN
      by_cases hik : i < k
      · have HE := Lib.hid (HEL.out hik)
        have HP := Lib.hid (fun W hB => HIH.out W i k hB hik (by omega))
        generalize reachU leaf i k (p.take q) = r at HP HE
        have hik2 : (i : Int) < (k : Int) := by omega
        clear HEL HER HIH
        have hx := HX.out w (Below.refl _ _)
        go_enter Try.func38, Try.ntmps38
        go_wp2_with fail
        refine (HSP.out _).mono ?_
        rintro e w' ⟨rfl, rfl⟩
        go_wp2_with fail
        refine (HP.out _ (Below.refl _ _)).mono ?_
        rintro e w2 ⟨rfl, hb2⟩
        have HB := Lib.hid hb2
        clear hb2
        go_wp2_with fail
        refine (rnode_any _ _ _).mono ?_
        rintro e w3 ⟨rfl, hb3⟩
        have HB3 := Lib.hid (HB.out.trans (hb3.mono HB.out.size))
        clear hb3
        go_wp2
        go_ret2
        exact ⟨by rw [HE.out]; rfl, HB3.out⟩
      · obtain ⟨j, hj⟩ : ∃ j, i = k + j := ⟨i - k, by omega⟩
        obtain ⟨n', hn'⟩ : ∃ n', n = k + n' := ⟨n - k, by omega⟩
        have HE := Lib.hid (HER.out hik)
        rw [show i - k = j by omega, show n - k = n' by omega] at HE
        have HP := Lib.hid (fun W hB => HIH.out W j n' hB (by omega) (by omega))
        generalize reachU leaf j n' (p.take q) = r at HP HE
        have hik2 : (k : Int) ≤ (i : Int) := by omega
        have hij : (i : Int) - (k : Int) = (j : Int) := by omega
        have hin : (n : Int) - (k : Int) = (n' : Int) := by omega
        have hjw : IntKind.i64.wrap (j : Int) = (j : Int) := by rw [IntKind.wrap_i64]; omega
        have hnw : IntKind.i64.wrap (n' : Int) = (n' : Int) := by rw [IntKind.wrap_i64]; omega
        clear HEL HER HIH hj hn'
        have hx := HX.out w (Below.refl _ _)
        go_enter Try.func38, Try.ntmps38
        go_wp2_with fail
        refine (HSP.out _).mono ?_
        rintro e w' ⟨rfl, rfl⟩
        go_wp2_with fail
        refine (HP.out _ (Below.refl _ _)).mono ?_
        rintro e w2 ⟨rfl, hb2⟩
        have HB := Lib.hid hb2
        clear hb2
        go_wp2_with fail
        refine (rnode_any _ _ _).mono ?_
        rintro e w3 ⟨rfl, hb3⟩
        have HB3 := Lib.hid (HB.out.trans (hb3.mono HB.out.size))
        clear hb3
        go_wp2
        go_ret2
        exact ⟨by rw [HE.out]; rfl, HB3.out⟩
end Go.Proofs.Ytgnidlhijmageaa
