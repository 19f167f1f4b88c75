/-
  What results from a proof, by the program.
-/
import Derived.Test.YtihiccccpjakgaaNNode
import Derived.Test.YtihiccccpjakgaaNRef
import Derived.Test.YtihiccccpjakgaaNSplit
namespace Go.Proofs.Ytihiccccpjakgaa
open Go.RowKit
abbrev reachU (leaf : UInt64) (i n : Nat) (p : List UInt64) : UInt64 × Bool := reachM nodeU 0 leaf i n p
theorem last_take {p : List UInt64} {q : Nat} (h : p.length = q + 1) : p.getLast? = some (p[q]'(by omega)) ∧ p.dropLast = p.take q := by
  constructor
  · exact List.getLast?_eq_getElem?.trans (by rw [show p.length - 1 = q by omega]; exact List.getElem?_eq_getElem _)
  · rw [List.dropLast_eq_take, h]; rfl
theorem reachU_one (leaf : UInt64) (i : Nat) (p : List UInt64) : reachU leaf i 1 p = (leaf, decide (p.length = 0)) := by unfold reachU; rw [reachM, dif_neg (by omega)]
theorem reachU_nil (leaf : UInt64) (i n : Nat) (p : List UInt64) (h : 2 ≤ n) (hp : p.length = 0) : reachU leaf i n p = (0, false) := by
  unfold reachU; rw [List.eq_nil_of_length_eq_zero hp, reachM, dif_pos h]; rfl
theorem reachU_left (leaf : UInt64) (i n q : Nat) (p : List UInt64) (h : 2 ≤ n) (hp : p.length = q + 1) (hi : i < spl n) :
    reachU leaf i n p = (nodeU (reachU leaf i (spl n) (p.take q)).1 (p[q]'(by omega)), (reachU leaf i (spl n) (p.take q)).2) := by
  obtain ⟨h1, h2⟩ := last_take hp
  unfold reachU
  rw [reachM, dif_pos h, h1]
  simp only [h2, if_pos hi]
theorem reachU_right (leaf : UInt64) (i n q : Nat) (p : List UInt64) (h : 2 ≤ n) (hp : p.length = q + 1) (hi : ¬ i < spl n) :
    reachU leaf i n p = (nodeU (p[q]'(by omega)) (reachU leaf (i - spl n) (n - spl n) (p.take q)).1, (reachU leaf (i - spl n) (n - spl n) (p.take q)).2) := by
  obtain ⟨h1, h2⟩ := last_take hp
  unfold reachU
  rw [reachM, dif_pos h, h1]
  simp only [h2, if_neg hi]
theorem gv_zero : gv 0 = 0 := gv_lit' 0 0 rfl
/-- a call gives a hash and a Boolean -/
def GivesHB (w : World) (x : UInt64 × Bool) (e : Ending) (w' : World) : Prop := e = .returned (.tuple #[.int .u64 (gv x.1), .bool x.2]) ∧ Below w.heap.size w w'
theorem GivesHB.one {w w' : World} {leaf : UInt64} {b : Bool} {x : UInt64 × Bool} (h : x = (leaf, b)) (hb : Below w.heap.size w w') : GivesHB w x (.returned (.tuple #[.int .u64 (gv leaf), .bool b])) w' := ⟨by rw [h], hb⟩
theorem GivesHB.zero {w w' : World} {x : UInt64 × Bool} (h : x = (0, false)) (hb : Below w.heap.size w w') : GivesHB w x (.returned (.tuple #[.int .u64 0, .bool false])) w' := ⟨by rw [h, gv_zero], hb⟩
attribute [local irreducible] accU fnv basis byteU beU hashU nodeU spl
set_option maxRecDepth 100000 in
set_option maxHeartbeats 1000000 in
theorem follow_go (leaf : UInt64) (N : Nat) : ∀ (p : List UInt64) (ad : Option Addr) (m cap i n : Nat) (w : World), m = N → Lin w ad p → m = p.length → m ≤ 1000000 → m ≤ cap → cap ≤ maxLen → i < n → (n : Int) ≤ 9223372036854775807 →
    Calls Try.prog 45 #[.int .u64 (gv leaf), .int .i64 i, .int .i64 n, .slice ad m cap] w (GivesHB w (reachU leaf i n p)) := by
  induction N with
  | zero =>
    intro p ad m cap i n w hN hl hm hs hc hcm hi hn
    subst hN
    by_cases h1 : n = 1
    · subst h1
      have HE := Lib.hid (reachU_one leaf i p)
      rw [← hm] at HE
      clear hl hm
      go_enter Try.func45, Try.ntmps45
      go_wp2
      go_ret2
      exact GivesHB.one HE.out (Below.refl _ _)
    · have HE := Lib.hid (reachU_nil leaf i n p (by omega) hm.symm)
      have hn1 : ¬ (n : Int) = 1 := by omega
      clear hl hm
      go_enter Try.func45, Try.ntmps45
      go_wp2
      go_ret2
      exact GivesHB.zero HE.out (Below.refl _ _)
  | succ q ih =>
    intro p ad m cap i n w hN hl hm hs hc hcm hi hn
    have HCM := Lib.hid hcm
    unfold maxLen at hcm
    have hq : (m : Int) - 1 = (q : Int) := by omega
    have hm0 : ¬ (m : Int) = 0 := by omega
    by_cases h1 : n = 1
    · subst h1
      have HE := Lib.hid (reachU_one leaf i p)
      rw [decide_eq_false (by omega : ¬ p.length = 0)] at HE
      have hmb : ((m : Int) == 0) = false := by simpa using hm0
      clear hl hm ih hq hN
      go_enter Try.func45, Try.ntmps45
      go_wp2
      go_ret2
      exact GivesHB.one HE.out (Below.refl _ _)
    · have h2 : 2 ≤ n := by omega
      have hn1 : ¬ (n : Int) = 1 := by omega
      obtain ⟨b, off, rfl, hb, hcell⟩ := hl.get (by omega)
      have hcq := hcell q (by omega)
      have hk1 := spl_lt h2
      have hk0 := spl_pos n
      have HEL := Lib.hid (reachU_left leaf i n q p h2 (by omega))
      have HER := Lib.hid (reachU_right leaf i n q p h2 (by omega))
      have HSP := Lib.hid (fun w => split_any n w h2 hn)
      obtain ⟨k, hk⟩ : ∃ k, k = spl n := ⟨_, rfl⟩
      rw [← hk] at hk1 hk0 HEL HER HSP
      have HL := Lib.hid (hl.take q)
      have HIH : Hid (∀ (W : World) (i n : Nat), Below w.heap.size w W → i < n → (n : Int) ≤ 9223372036854775807 → Calls Try.prog 45 #[.int .u64 (gv leaf), .int .i64 i, .int .i64 n, .slice (some ⟨b, off, none⟩) q cap] W (GivesHB W (reachU leaf i n (p.take q)))) := Lib.hid fun W i n hb h1 h2 => ih (p.take q) _ q cap i n W rfl (HL.out.below hb rfl) (by rw [List.length_take]; omega) (by omega) (by omega) HCM.out h1 h2
      generalize p[q] = x at hcq HEL HER
      have hqc : (q : Int) ≤ (cap : Int) := by omega
      have hqm : (q : Int) < (m : Int) := by omega
      have HX : Hid (∀ W, Below w.heap.size w W → W.cell? ⟨b, off + q, none⟩ = some (.int .u64 (gv x))) := Lib.hid fun W hB => (hB.cell (p := ⟨b, off + q, none⟩) hb).trans hcq
      clear hl hm ih hcell hcq hb hk hN
      by_cases hik : i < k
      · have HE := Lib.hid (HEL.out hik)
        have HP := Lib.hid (fun W hB => HIH.out W i k hB hik (by omega))
        generalize reachU leaf i k (p.take q) = r at HP HE
        have hik2 : (i : Int) < (k : Int) := by omega
        clear HEL HER HIH
        go_enter Try.func45, Try.ntmps45
        go_wp2_with fail
        refine (HSP.out _).mono ?_
        rintro e w' ⟨rfl, rfl⟩
        go_wp2_with fail
        refine (HP.out _ (Below.refl _ _)).mono ?_
        rintro e w2 ⟨rfl, hb2⟩
        have hx := HX.out w2 hb2
        have HB := Lib.hid hb2
        clear hb2
        go_wp2_with fail
        refine (node_any _ _ _).mono ?_
        rintro e w3 ⟨rfl, hb3⟩
        have HB3 := Lib.hid (HB.out.trans (hb3.mono HB.out.size))
        clear hb3
        go_wp2
        go_ret2
        exact ⟨by rw [HE.out]; rfl, HB3.out⟩
      · obtain ⟨j, hj⟩ : ∃ j, i = k + j := ⟨i - k, by omega⟩
        obtain ⟨n', hn'⟩ : ∃ n', n = k + n' := ⟨n - k, by omega⟩
        have HE := Lib.hid (HER.out hik)
        rw [show i - k = j by omega, show n - k = n' by omega] at HE
        have HP := Lib.hid (fun W hB => HIH.out W j n' hB (by omega) (by omega))
        generalize reachU leaf j n' (p.take q) = r at HP HE
        have hik2 : (k : Int) ≤ (i : Int) := by omega
        have hij : (i : Int) - (k : Int) = (j : Int) := by omega
        have hin : (n : Int) - (k : Int) = (n' : Int) := by omega
        have hjw : IntKind.i64.wrap (j : Int) = (j : Int) := by rw [IntKind.wrap_i64]; omega
        have hnw : IntKind.i64.wrap (n' : Int) = (n' : Int) := by rw [IntKind.wrap_i64]; omega
        clear HEL HER HIH hj hn'
        go_enter Try.func45, Try.ntmps45
        go_wp2_with fail
        refine (HSP.out _).mono ?_
        rintro e w' ⟨rfl, rfl⟩
        go_wp2_with fail
        refine (HP.out _ (Below.refl _ _)).mono ?_
        rintro e w2 ⟨rfl, hb2⟩
        have hx := HX.out w2 hb2
        have HB := Lib.hid hb2
        clear hb2
        go_wp2_with fail
        refine (node_any _ _ _).mono ?_
        rintro e w3 ⟨rfl, hb3⟩
        have HB3 := Lib.hid (HB.out.trans (hb3.mono HB.out.size))
        clear hb3
        go_wp2
        go_ret2
        exact ⟨by rw [HE.out]; rfl, HB3.out⟩
end Go.Proofs.Ytihiccccpjakgaa
