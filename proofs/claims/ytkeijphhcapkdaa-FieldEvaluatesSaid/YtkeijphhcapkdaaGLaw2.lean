/-
  The walks of the statements FieldEvaluates and FieldRoots: true, and nothing that was there is written.
-/
import Derived.Test.YtkeijphhcapkdaaGAwake
namespace Go.Proofs.Ytkeijphhcapkdaa
open Go.RowKit

theorem eval_own {w : World} {v : Value} {l : List UInt8} {B : Nat} (ho : Own w B v l) (x : UInt8) (hm : l.length ≤ 1000000) :
    Calls Try.prog 19 #[v, .int .u8 (ev x)] w fun e w' => e = .returned (.int .u8 (ev (evalU l x))) ∧ Below w.heap.size w w' := by
  obtain ⟨ad, cap, rfl, hl, _⟩ := ho.slice
  exact eval_any ad cap l x w hl (by omega)
theorem times_own {w : World} {v : Value} {l ys : List UInt8} {B : Nat} {bd : Option Addr} {n bc : Nat} (ho : Own w B v l) (hm : Lie w bd ys) (hn : n = ys.length) (hs : l.length ≤ 100000) (hs2 : ys.length ≤ 100000) :
    Calls Try.prog 21 #[v, .slice bd n bc] w (Timed w l ys) := by
  subst hn
  obtain ⟨ad, cap, rfl, hl, _⟩ := ho.slice
  exact times_any ad bd cap bc l ys w hl hm hs hs2
/-! A polynomial with given roots. -/
theorem root_next (E r x : UInt8) (am : Bool) (l : List UInt8) (hE : evalU l x = E) (h : (E = 0) ↔ am = true) (l2 : List UInt8) (h2 : ∀ y, evalU l2 y = mulU (evalU l y) (evalU [r, 1] y)) :
    (evalU l2 x = 0) ↔ (am || decide (r = x)) = true := by
  have e1 : evalU [r, 1] x = x ^^^ r := by
    show mulU (evalU [1] x) x ^^^ r = x ^^^ r
    rw [evalU_one, one_mulU]
  rw [h2 x, hE, e1, Bool.or_eq_true, decide_eq_true_iff]
  constructor
  · intro h0
    rcases mul_eq_zero _ _ h0 with h' | h'
    · exact .inl (h.1 h')
    · exact .inr ((UInt8.xor_eq_zero_iff.1 h').symm)
  · rintro (h' | h')
    · rw [h.2 h', zero_mulU]
    · subst h'; rw [UInt8.xor_self, mulU_zero]

attribute [local irreducible] dblU lowU mulU evalU powU

set_option maxRecDepth 100000 in
set_option maxHeartbeats 1000000 in
theorem law_evaluates (ad bd : Option Addr) (cap bc : Nat) (xs ys : List UInt8) (x : UInt8) (w : World) (hl : Lie w ad xs) (hm : Lie w bd ys) :
    Calls Try.prog 7 #[.slice ad xs.length cap, .slice bd ys.length bc, .int .u8 (ev x)] w fun e w' => e = .returned (.bool true) ∧ Below w.heap.size w w' := by
  have HAW := Lib.hid awake_any
  have HL := Lib.hid hl
  have HM := Lib.hid hm
  clear hl hm
  by_cases h1 : 200 < xs.length
  · go_enter Try.func7, Try.ntmps7
    go_wp2_with fail
    refine (HAW.out _).mono ?_
    rintro e w1 ⟨rfl, hb1⟩
    have HB1 := Lib.hid hb1
    clear hb1
    go_wp2
    go_ret
    exact ⟨rfl, HB1.out⟩
  by_cases h2 : 200 < ys.length
  · go_enter Try.func7, Try.ntmps7
    go_wp2_with fail
    refine (HAW.out _).mono ?_
    rintro e w1 ⟨rfl, hb1⟩
    have HB1 := Lib.hid hb1
    clear hb1
    go_wp2
    go_ret
    exact ⟨rfl, HB1.out⟩
  have HE := Lib.hid fun (W : World) (h : Below w.heap.size w W) => eval_any ad cap xs x W (HL.out.below h rfl) (by omega)
  have HE2 := Lib.hid fun (W : World) (h : Below w.heap.size w W) => eval_any bd bc ys x W (HM.out.below h rfl) (by omega)
  have HR := Lib.hid fun (W : World) (h : Below w.heap.size w W) => reval_any ad cap xs x W (HL.out.below h rfl) (by omega)
  have HT := Lib.hid fun (W : World) (h : Below w.heap.size w W) => times_any ad bd cap bc xs ys W (HL.out.below h rfl) (HM.out.below h rfl) (by omega) (by omega)
  have HX := Lib.hid fun W => mul_any (evalU xs x) (evalU ys x) W
  have HPQ : Hid (∀ l : List UInt8, (∀ y, evalU l y = mulU (evalU xs y) (evalU ys y)) → evalU l x = mulU (evalU xs x) (evalU ys x)) := Lib.hid fun l h => h x
  generalize evalU xs x = P at HE HR HX HPQ
  generalize evalU ys x = Q at HE2 HX HPQ
  generalize mulU P Q = M at HX HPQ
  go_enter Try.func7, Try.ntmps7
  go_wp2_with fail
  refine (HE.out _ (Below.refl _ _)).mono ?_
  rintro e w1 ⟨rfl, hb1⟩
  have HB1 := Lib.hid hb1
  clear hb1
  go_wp2_with fail
  refine (HR.out _ HB1.out).mono ?_
  rintro e w2 ⟨rfl, hb2⟩
  have HB2 : Hid (Below w.heap.size w w2) := Lib.hid (HB1.out.trans (hb2.mono HB1.out.size))
  clear hb2
  go_wp2_with fail
  refine (HT.out _ HB2.out).mono ?_
  rintro e w3 ⟨v, l, rfl, ho, hb3, hlen, hq⟩
  have HB3 : Hid (Below w.heap.size w w3) := Lib.hid (HB2.out.trans (hb3.mono HB2.out.size))
  have HO := Lib.hid ho
  have hlx := HPQ.out l hq
  have HEL := Lib.hid (eval_own ho x (by omega))
  rw [hlx] at HEL
  clear hb3 ho hq hlx hlen
  go_wp2_with fail
  refine (HEL.out).mono ?_
  rintro e w4 ⟨rfl, hb4⟩
  have HB4 : Hid (Below w.heap.size w w4) := Lib.hid (HB3.out.trans (hb4.mono HB3.out.size))
  clear hb4
  go_wp2_with fail
  refine (HE.out _ HB4.out).mono ?_
  rintro e w5 ⟨rfl, hb5⟩
  have HB5 : Hid (Below w.heap.size w w5) := Lib.hid (HB4.out.trans (hb5.mono HB4.out.size))
  clear hb5
  go_wp2_with fail
  refine (HE2.out _ HB5.out).mono ?_
  rintro e w6 ⟨rfl, hb6⟩
  have HB6 : Hid (Below w.heap.size w w6) := Lib.hid (HB5.out.trans (hb6.mono HB5.out.size))
  clear hb6
  go_wp2_with fail
  refine (HX.out _).mono ?_
  rintro e w' ⟨rfl, rfl⟩
  go_wp2_with fail
  refine (HAW.out _).mono ?_
  rintro e w7 ⟨rfl, hb7⟩
  have HB7 : Hid (Below w.heap.size w w7) := Lib.hid (HB6.out.trans (hb7.mono HB6.out.size))
  clear hb7
  go_wp2
  go_ret
  exact ⟨rfl, HB7.out⟩

set_option maxRecDepth 100000 in
set_option maxHeartbeats 1000000 in
theorem law_roots (ad : Option Addr) (cap : Nat) (xs : List UInt8) (x : UInt8) (w : World) (hl : Lie w ad xs) :
    Calls Try.prog 8 #[.slice ad xs.length cap, .int .u8 (ev x)] w fun e w' => e = .returned (.bool true) ∧ Below w.heap.size w w' := by
  have HAW := Lib.hid awake_any
  have HL := Lib.hid hl
  clear hl
  by_cases h1 : 40 < xs.length
  · go_enter Try.func8, Try.ntmps8
    go_wp2_with fail
    refine (HAW.out _).mono ?_
    rintro e w1 ⟨rfl, hb1⟩
    have HB1 := Lib.hid hb1
    clear hb1
    go_wp2
    go_ret
    exact ⟨rfl, HB1.out⟩
  have HO : Hid (Own (w.alloc (.cells #[.int .u8 1] 5)) w.heap.size (.slice (some ⟨w.heap.size, 0, none⟩) 1 1) [1]) := Lib.hid (Rowu.own (heap_alloc_last _ _) (Nat.le_refl _) rfl (by decide))
  have HB := Lib.hid ((Below.refl w.heap.size w).alloc (Nat.le_refl _) (.cells #[.int .u8 1] 5))
  go_enter Try.func8, Try.ntmps8
  go_wp2
  go_loopw [5, 6, 7] (fun v va vi wr => ∃ (k : Nat) (am : Bool) (l : List UInt8), k ≤ xs.length ∧ vi = .int .i64 k ∧ va = .bool am ∧ Hid (l.length ≤ 2 * k + 1) ∧ Hid (Own wr w.heap.size v l) ∧ Hid (Below w.heap.size w wr) ∧ Hid ((evalU l x = 0) ↔ am = true)) (fun _ _ i _ => xs.length - (intOf i).toNat)
  case atStart => exact ⟨0, false, [1], by omega, rfl, rfl, Lib.hid (by simp), HO, HB, Lib.hid (by rw [evalU_one]; decide)⟩
  case round =>
    obtain ⟨k, am, l, hk, rfl, rfl, hlen, ho, hb, hq⟩ := hrel
    by_cases hlt : k < xs.length
    · obtain ⟨b, off, rfl, hbs, hc⟩ := (HL.out.below hb.out rfl).ev (by omega)
      have hcr := hc k hlt
      obtain ⟨r, hr⟩ : ∃ r, r = xs[k] := ⟨_, rfl⟩
      rw [← hr] at hcr
      have HL2 : Hid (∀ W, Below w.heap.size w W → W.cell? ⟨b, off + k, none⟩ = some (.int .u8 (ev r))) := Lib.hid fun W h => by
        obtain ⟨b', off', he, _, hc'⟩ := (HL.out.below h rfl).ev (by omega)
        cases he
        rw [hr]
        exact hc' k hlt
      have hj0 : (0 : Int) ≤ (k : Int) := by omega
      have hj1 : (k : Int) < (xs.length : Int) := by omega
      have hln := hlen.out
      have HA := Lib.hid ((Below.refl wr.heap.size wr).alloc (Nat.le_refl _) (.cells #[.int .u8 (ev r), .int .u8 1] 5))
      have HT := Lib.hid (times_own (bd := some ⟨wr.heap.size, 0, none⟩) (n := 2) (bc := 2) (ys := [r, 1]) (ho.out.below HA.out) (lie_new wr [r, 1] _ 5 (by rw [List.map, List.map, List.map, ev_one])) rfl (by omega) (by simp))
      have HN : Hid (∀ l2 : List UInt8, (∀ y, evalU l2 y = mulU (evalU l y) (evalU [r, 1] y)) → ((evalU l2 x = 0) ↔ (am || decide (r = x)) = true)) := Lib.hid fun l2 h2 => root_next _ r x am l rfl hq.out l2 h2
      clear hc hr ho hq
      go_wp2_with fail
      refine (HT.out).mono ?_
      rintro e w1 ⟨v2, l2, rfl, ho2, hb2, hlen2, hq2⟩
      have HQ := Lib.hid (HN.out l2 hq2)
      have HB2 : Hid (Below w.heap.size w w1) := Lib.hid (hb.out.trans ((HA.out.trans (hb2.mono HA.out.size)).mono hb.out.size))
      have HO2 : Hid (Own w1 w.heap.size v2 l2) := Lib.hid (ho2.mono (Nat.le_trans hb.out.size HA.out.size))
      have HL2' : Hid (l2.length ≤ 2 * (k + 1) + 1) := Lib.hid (by simp at hlen2; omega)
      have hc2 := HL2.out w1 HB2.out
      clear ho2 hb2 hlen2 hq2 HN HT HA hcr
      by_cases hrx : r = x
      · have HQ2 : Hid ((evalU l2 x = 0) ↔ true = true) := Lib.hid (HQ.out.trans (by simp [hrx]))
        subst hrx
        cases am
        all_goals
          go_wp2
          go_roundw
          case rel => exact ⟨k + 1, true, l2, by omega, by go_num, rfl, HL2', HO2, HB2, Lib.hid (by simpa using HQ2.out)⟩
          case measure => simp [intOf]; omega
      · have HQ2 : Hid ((evalU l2 x = 0) ↔ am = true) := Lib.hid (HQ.out.trans (by simp [hrx]))
        have hne : (ev r == ev x) = false := beq_eq_false_iff_ne.2 (fun h => hrx (ev_inj h))
        clear hrx
        cases am
        all_goals
          go_wp2
          go_roundw
          case rel => exact ⟨k + 1, _, l2, by omega, by go_num, rfl, HL2', HO2, HB2, Lib.hid (by simpa using HQ2.out)⟩
          case measure => simp [intOf]; omega
    · have hln := hlen.out
      have HEL := Lib.hid (eval_own ho.out x (by omega))
      have HF : Hid ((ev (evalU l x) == 0) = am) := Lib.hid (by
        cases am
        · exact beq_eq_false_iff_ne.2 (fun h => by have := hq.out.1 ((ev_eq0 _).1 h); cases this)
        · rw [hq.out.2 rfl, ev_zero]; rfl)
      clear ho hq
      go_wp2_with fail
      refine (HEL.out).mono ?_
      rintro e w1 ⟨rfl, hb1⟩
      have HB1 : Hid (Below w.heap.size w w1) := Lib.hid (hb.out.trans (hb1.mono hb.out.size))
      have hf := HF.out
      clear hb1
      generalize ev (evalU l x) = E at hf ⊢
      cases am
      all_goals
        go_wp2_with fail
        refine (HAW.out _).mono ?_
        rintro e w2 ⟨rfl, hb2⟩
        have HB2 : Hid (Below w.heap.size w w2) := Lib.hid (HB1.out.trans (hb2.mono HB1.out.size))
        clear hb2
        go_wp2
        go_ret
        exact ⟨rfl, HB2.out⟩
end Go.Proofs.Ytkeijphhcapkdaa
