/-
  The walks of the statements FieldAxioms, FieldProducts, FieldInverses and FieldPowers: true, and nothing that was there is written.
-/
import Derived.Test.YtkeijphhcapkdaaGAwake
namespace Go.Proofs.Ytkeijphhcapkdaa
open Go.RowKit

theorem add_eq (a b c : UInt8) (h : a ^^^ b = c) (w : World) : Calls Try.prog 10 #[.int .u8 (ev a), .int .u8 (ev b)] w fun e w' => e = .returned (.int .u8 (ev c)) ∧ w = w' := by subst h; exact add_any a b w
theorem mul_eq (a b c : UInt8) (h : mulU a b = c) (w : World) : Calls Try.prog 11 #[.int .u8 (ev a), .int .u8 (ev b)] w fun e w' => e = .returned (.int .u8 (ev c)) ∧ w = w' := by subst h; exact mul_any a b w
theorem add_zero' (a : UInt8) (w : World) : Calls Try.prog 10 #[.int .u8 (ev a), .int .u8 0] w fun e w' => e = .returned (.int .u8 (ev a)) ∧ w = w' := by
  have h := add_eq a 0 a UInt8.xor_zero w
  rwa [ev_zero] at h
theorem add_self' (a : UInt8) (w : World) : Calls Try.prog 10 #[.int .u8 (ev a), .int .u8 (ev a)] w fun e w' => e = .returned (.int .u8 0) ∧ w = w' := by
  have h := add_eq a a 0 UInt8.xor_self w
  rwa [ev_zero] at h
theorem mul_one' (a : UInt8) (w : World) : Calls Try.prog 11 #[.int .u8 (ev a), .int .u8 1] w fun e w' => e = .returned (.int .u8 (ev a)) ∧ w = w' := by
  have h := mul_eq a 1 a (mulU_one a) w
  rwa [ev_one] at h
theorem mul_zero' (a : UInt8) (w : World) : Calls Try.prog 11 #[.int .u8 (ev a), .int .u8 0] w fun e w' => e = .returned (.int .u8 0) ∧ w = w' := by
  have h := mul_eq a 0 0 (mulU_zero a) w
  rwa [ev_zero] at h
attribute [local irreducible] dblU lowU mulU evalU powU powI invU nz

set_option maxRecDepth 100000 in
set_option maxHeartbeats 1000000 in
theorem law_axioms (a b c : UInt8) (w : World) :
    Calls Try.prog 3 #[.int .u8 (ev a), .int .u8 (ev b), .int .u8 (ev c)] w fun e w' => e = .returned (.bool true) ∧ Below w.heap.size w w' := by
  obtain ⟨s, hs⟩ : ∃ s, a ^^^ b = s := ⟨_, rfl⟩
  obtain ⟨t, ht⟩ : ∃ t, s ^^^ c = t := ⟨_, rfl⟩
  obtain ⟨u, hu⟩ : ∃ u, b ^^^ c = u := ⟨_, rfl⟩
  obtain ⟨p, hp⟩ : ∃ p, mulU a b = p := ⟨_, rfl⟩
  obtain ⟨q, hq⟩ : ∃ q, mulU p c = q := ⟨_, rfl⟩
  obtain ⟨r, hr⟩ : ∃ r, mulU b c = r := ⟨_, rfl⟩
  obtain ⟨x, hx⟩ : ∃ x, mulU a u = x := ⟨_, rfl⟩
  obtain ⟨y, hy⟩ : ∃ y, mulU a c = y := ⟨_, rfl⟩
  have hs2 : b ^^^ a = s := by rw [UInt8.xor_comm]; exact hs
  have ht2 : a ^^^ u = t := by rw [← hu, ← UInt8.xor_assoc, hs]; exact ht
  have hp2 : mulU b a = p := by rw [mulU_comm]; exact hp
  have hq2 : mulU a r = q := by rw [← hr, ← mulU_assoc, hp]; exact hq
  have hx2 : p ^^^ y = x := by rw [← hp, ← hy, ← mulU_xor, hu]; exact hx
  have H0 := Lib.hid (add_eq a b s hs)
  have H1 := Lib.hid (add_eq b a s hs2)
  have H2 := Lib.hid (add_eq a b s hs)
  have H3 := Lib.hid (add_eq s c t ht)
  have H4 := Lib.hid (add_eq b c u hu)
  have H5 := Lib.hid (add_eq a u t ht2)
  have H6 := Lib.hid (add_zero' a)
  have H7 := Lib.hid (add_self' a)
  have H8 := Lib.hid (mul_eq a b p hp)
  have H9 := Lib.hid (mul_eq b a p hp2)
  have H10 := Lib.hid (mul_eq a b p hp)
  have H11 := Lib.hid (mul_eq p c q hq)
  have H12 := Lib.hid (mul_eq b c r hr)
  have H13 := Lib.hid (mul_eq a r q hq2)
  have H14 := Lib.hid (mul_one' a)
  have H15 := Lib.hid (mul_zero' a)
  have H16 := Lib.hid (add_eq b c u hu)
  have H17 := Lib.hid (mul_eq a u x hx)
  have H18 := Lib.hid (mul_eq a b p hp)
  have H19 := Lib.hid (mul_eq a c y hy)
  have H20 := Lib.hid (add_eq p y x hx2)
  clear hs ht hu hp hq hr hx hy hs2 ht2 hp2 hq2 hx2
  go_enter Try.func3, Try.ntmps3
  go_wp2_with fail
  refine (H0.out _).mono ?_
  rintro e w' ⟨rfl, rfl⟩
  go_wp2_with fail
  refine (H1.out _).mono ?_
  rintro e w' ⟨rfl, rfl⟩
  go_wp2_with fail
  refine (H2.out _).mono ?_
  rintro e w' ⟨rfl, rfl⟩
  go_wp2_with fail
  refine (H3.out _).mono ?_
  rintro e w' ⟨rfl, rfl⟩
  go_wp2_with fail
  refine (H4.out _).mono ?_
  rintro e w' ⟨rfl, rfl⟩
  go_wp2_with fail
  refine (H5.out _).mono ?_
  rintro e w' ⟨rfl, rfl⟩
  go_wp2_with fail
  refine (H6.out _).mono ?_
  rintro e w' ⟨rfl, rfl⟩
  go_wp2_with fail
  refine (H7.out _).mono ?_
  rintro e w' ⟨rfl, rfl⟩
  go_wp2_with fail
  refine (H8.out _).mono ?_
  rintro e w' ⟨rfl, rfl⟩
  go_wp2_with fail
  refine (H9.out _).mono ?_
  rintro e w' ⟨rfl, rfl⟩
  go_wp2_with fail
  refine (H10.out _).mono ?_
  rintro e w' ⟨rfl, rfl⟩
  go_wp2_with fail
  refine (H11.out _).mono ?_
  rintro e w' ⟨rfl, rfl⟩
  go_wp2_with fail
  refine (H12.out _).mono ?_
  rintro e w' ⟨rfl, rfl⟩
  go_wp2_with fail
  refine (H13.out _).mono ?_
  rintro e w' ⟨rfl, rfl⟩
  go_wp2_with fail
  refine (H14.out _).mono ?_
  rintro e w' ⟨rfl, rfl⟩
  go_wp2_with fail
  refine (H15.out _).mono ?_
  rintro e w' ⟨rfl, rfl⟩
  go_wp2_with fail
  refine (H16.out _).mono ?_
  rintro e w' ⟨rfl, rfl⟩
  go_wp2_with fail
  refine (H17.out _).mono ?_
  rintro e w' ⟨rfl, rfl⟩
  go_wp2_with fail
  refine (H18.out _).mono ?_
  rintro e w' ⟨rfl, rfl⟩
  go_wp2_with fail
  refine (H19.out _).mono ?_
  rintro e w' ⟨rfl, rfl⟩
  go_wp2_with fail
  refine (H20.out _).mono ?_
  rintro e w' ⟨rfl, rfl⟩
  go_wp2_with fail
  refine (awake_any _).mono ?_
  rintro e w1 ⟨rfl, hb1⟩
  have HB := Lib.hid hb1
  clear hb1
  go_wp2
  go_ret
  exact ⟨rfl, HB.out⟩

set_option maxRecDepth 100000 in
set_option maxHeartbeats 1000000 in
theorem law_products (a b : UInt8) (w : World) :
    Calls Try.prog 4 #[.int .u8 (ev a), .int .u8 (ev b)] w fun e w' => e = .returned (.bool true) ∧ Below w.heap.size w w' := by
  have hx := bits_xor_ev a b
  obtain ⟨p, hp⟩ : ∃ p, mulU a b = p := ⟨_, rfl⟩
  have H1 := Lib.hid (mul_eq a b p hp)
  have H2 := Lib.hid fun w => rmul_any a b w
  rw [hp] at H2
  clear hp
  go_enter Try.func4, Try.ntmps4
  go_wp2_with fail
  refine (add_any a b _).mono ?_
  rintro e w' ⟨rfl, rfl⟩
  go_wp2_with fail
  refine (H1.out _).mono ?_
  rintro e w' ⟨rfl, rfl⟩
  go_wp2_with fail
  refine (H2.out _).mono ?_
  rintro e w' ⟨rfl, rfl⟩
  go_wp2_with fail
  refine (awake_any _).mono ?_
  rintro e w1 ⟨rfl, hb1⟩
  have HB := Lib.hid hb1
  clear hb1
  go_wp2
  go_ret
  exact ⟨rfl, HB.out⟩

set_option maxRecDepth 100000 in
set_option maxHeartbeats 1000000 in
theorem law_inverses (a b : UInt8) (w : World) :
    Calls Try.prog 5 #[.int .u8 (ev a), .int .u8 (ev b)] w fun e w' => e = .returned (.bool true) ∧ Below w.heap.size w w' := by
  obtain ⟨x, hx⟩ : ∃ x, x = invU a := ⟨_, rfl⟩
  obtain ⟨q, hq⟩ : ∃ q, q = mulU b x := ⟨_, rfl⟩
  have hi := fun w => inv_any a w
  have hr := fun w => rinv_any a w
  have hd := fun w => div_any b a w
  rw [← hx] at hi hr hd
  rw [← hq] at hd
  by_cases ha : a = 0
  · have hz0 : nz a = false := by rw [ha]; exact nz_no
    have hq0 : ev q = 0 := by rw [hq, hx, ha, inv_zero, mulU_zero, ev_zero]
    have ha0 : ev a = 0 := by rw [ha, ev_zero]
    rw [hz0] at hi hr hd
    rw [hq0] at hd
    rw [ha0] at hi hr hd ⊢
    generalize ev x = X at hi hr
    generalize ev b = B at hd ⊢
    have HI := Lib.hid hi
    have HR := Lib.hid hr
    have HD := Lib.hid hd
    clear hi hr hd hx hq hz0 hq0 ha0 ha
    go_enter Try.func5, Try.ntmps5
    go_wp2_with fail
    refine (HI.out _).mono ?_
    rintro e w1 ⟨rfl, hb1⟩
    have HB1 := Lib.hid hb1
    clear hb1
    go_wp2_with fail
    refine (HR.out _).mono ?_
    rintro e w' ⟨rfl, rfl⟩
    go_wp2_with fail
    refine (HD.out _).mono ?_
    rintro e w2 ⟨rfl, hb2⟩
    have HB2 : Hid (Below w.heap.size w w2) := Lib.hid (HB1.out.trans (hb2.mono HB1.out.size))
    clear hb2
    go_wp2_with fail
    refine (awake_any _).mono ?_
    rintro e w3 ⟨rfl, hb3⟩
    have HB3 : Hid (Below w.heap.size w w3) := Lib.hid (HB2.out.trans (hb3.mono HB2.out.size))
    clear hb3
    go_wp2
    go_ret
    exact ⟨rfl, HB3.out⟩
  · have hz1 : nz a = true := nz_yes a ha
    have ha1 : ev a ≠ 0 := fun h => ha ((ev_eq0 a).1 h)
    have m1 := fun w => mul_eq a x 1 (by rw [hx]; exact mul_inv a ha) w
    have m2 := fun w => mul_eq q a b (by rw [hq, mulU_assoc, mulU_comm x, hx, mul_inv a ha, mulU_one]) w
    have m3 := fun w => mul_eq b x q hq.symm w
    rw [ev_one] at m1
    rw [hz1] at hi hr hd
    clear hx hq hz1 ha
    generalize ev a = A at *
    generalize ev x = X at *
    generalize ev q = Q at *
    generalize ev b = B at *
    have HI := Lib.hid hi
    have HR := Lib.hid hr
    have HD := Lib.hid hd
    have M1 := Lib.hid m1
    have M2 := Lib.hid m2
    have M3 := Lib.hid m3
    have ha2 : (A != 0) = true := by simp [ha1]
    clear hi hr hd m1 m2 m3 ha1
    go_enter Try.func5, Try.ntmps5
    go_wp2_with fail
    refine (HI.out _).mono ?_
    rintro e w1 ⟨rfl, hb1⟩
    have HB1 := Lib.hid hb1
    clear hb1
    go_wp2_with fail
    refine (HR.out _).mono ?_
    rintro e w' ⟨rfl, rfl⟩
    go_wp2_with fail
    refine (HD.out _).mono ?_
    rintro e w2 ⟨rfl, hb2⟩
    have HB2 : Hid (Below w.heap.size w w2) := Lib.hid (HB1.out.trans (hb2.mono HB1.out.size))
    clear hb2
    go_wp2_with fail
    refine (M1.out _).mono ?_
    rintro e w' ⟨rfl, rfl⟩
    go_wp2_with fail
    refine (M2.out _).mono ?_
    rintro e w' ⟨rfl, rfl⟩
    go_wp2_with fail
    refine (M3.out _).mono ?_
    rintro e w' ⟨rfl, rfl⟩
    go_wp2_with fail
    refine (awake_any _).mono ?_
    rintro e w3 ⟨rfl, hb3⟩
    have HB3 : Hid (Below w.heap.size w w3) := Lib.hid (HB2.out.trans (hb3.mono HB2.out.size))
    clear hb3
    go_wp2
    go_ret
    exact ⟨rfl, HB3.out⟩

/-! Powers. -/
theorem powI_255 (a : UInt8) (h : a ≠ 0) : powI a 255 = 1 := (powI_nat a 255).trans (powU_255 a h)
theorem powI_add (a : UInt8) (n m : Nat) : powI a ((n : Int) + (m : Int)) = mulU (powI a n) (powI a m) := by
  rw [show (n : Int) + (m : Int) = ((n + m : Nat) : Int) by omega, powI_nat, powI_nat, powI_nat, powU_add]

set_option maxRecDepth 100000 in
set_option maxHeartbeats 2000000 in
theorem law_powers (a : UInt8) (n m : Int) (w : World) (n0 : -9223372036854775808 ≤ n) (n1 : n ≤ 9223372036854775807) (m0 : -9223372036854775808 ≤ m) (m1 : m ≤ 9223372036854775807) :
    Calls Try.prog 6 #[.int .u8 (ev a), .int .i64 n, .int .i64 m] w fun e w' => e = .returned (.bool true) ∧ Below w.heap.size w w' := by
  have hp := fun W => pow_any a n W n0 n1
  have hr := fun W => rpow_any a n W n0 n1
  have hf : a ≠ 0 → ∀ W, Calls Try.prog 17 #[.int .u8 (ev a), .int .i64 255] W fun e w' => e = .returned (.int .u8 1) ∧ Below W.heap.size W w' := fun ha W => by
    have h := pow_any a 255 W (by decide) (by decide)
    rwa [powI_255 a ha, ev_one] at h
  have hs : 0 ≤ n → 0 ≤ m → n ≤ 1099511627776 → m ≤ 1099511627776 → ∀ W, Calls Try.prog 17 #[.int .u8 (ev a), .int .i64 (n + m)] W fun e w' => e = .returned (.int .u8 (ev (powI a (n + m)))) ∧ Below W.heap.size W w' := fun _ _ _ _ W => pow_any a (n + m) W (by omega) (by omega)
  have hm := fun W => pow_any a m W m0 m1
  have hx : 0 ≤ n → 0 ≤ m → ∀ W, Calls Try.prog 11 #[.int .u8 (ev (powI a n)), .int .u8 (ev (powI a m))] W fun e w' => e = .returned (.int .u8 (ev (powI a (n + m)))) ∧ W = w' := fun h1 h2 W => by
    obtain ⟨N, rfl⟩ := Int.eq_ofNat_of_zero_le h1
    obtain ⟨M, rfl⟩ := Int.eq_ofNat_of_zero_le h2
    rw [powI_add]
    exact mul_any _ _ W
  have HAW := Lib.hid awake_any
  generalize ev (powI a n) = P at *
  generalize ev (powI a m) = P2 at *
  generalize ev (powI a (n + m)) = P3 at *
  have HP := Lib.hid hp
  have HR := Lib.hid hr
  have HM := Lib.hid hm
  have HS0 := Lib.hid hs
  have HX0 := Lib.hid hx
  clear hp hr hm hs hx
  by_cases ha : a = 0
  · have ha0 : ev a = 0 := by rw [ha, ev_zero]
    clear hf ha
    rw [ha0] at HP HR HM HS0 ⊢
    clear ha0
    by_cases hn : n < 0
    · skip
      go_enter Try.func6, Try.ntmps6
      go_wp2_with fail
      refine (HP.out _).mono ?_
      rintro e w1 ⟨rfl, hb1⟩
      have HB1 := Lib.hid hb1
      clear hb1
      go_wp2_with fail
      refine (HR.out _).mono ?_
      rintro e w' ⟨rfl, rfl⟩
      go_wp2_with fail
      refine (HAW.out _).mono ?_
      rintro e w2 ⟨rfl, hb2⟩
      have HB2 : Hid (Below w.heap.size w w2) := Lib.hid (HB1.out.trans (hb2.mono HB1.out.size))
      clear hb2
      go_wp2
      go_ret
      exact ⟨rfl, HB2.out⟩
    by_cases hm : m < 0
    · skip
      go_enter Try.func6, Try.ntmps6
      go_wp2_with fail
      refine (HP.out _).mono ?_
      rintro e w1 ⟨rfl, hb1⟩
      have HB1 := Lib.hid hb1
      clear hb1
      go_wp2_with fail
      refine (HR.out _).mono ?_
      rintro e w' ⟨rfl, rfl⟩
      go_wp2_with fail
      refine (HAW.out _).mono ?_
      rintro e w2 ⟨rfl, hb2⟩
      have HB2 : Hid (Below w.heap.size w w2) := Lib.hid (HB1.out.trans (hb2.mono HB1.out.size))
      clear hb2
      go_wp2
      go_ret
      exact ⟨rfl, HB2.out⟩
    by_cases hn2 : 1099511627776 < n
    · skip
      go_enter Try.func6, Try.ntmps6
      go_wp2_with fail
      refine (HP.out _).mono ?_
      rintro e w1 ⟨rfl, hb1⟩
      have HB1 := Lib.hid hb1
      clear hb1
      go_wp2_with fail
      refine (HR.out _).mono ?_
      rintro e w' ⟨rfl, rfl⟩
      go_wp2_with fail
      refine (HAW.out _).mono ?_
      rintro e w2 ⟨rfl, hb2⟩
      have HB2 : Hid (Below w.heap.size w w2) := Lib.hid (HB1.out.trans (hb2.mono HB1.out.size))
      clear hb2
      go_wp2
      go_ret
      exact ⟨rfl, HB2.out⟩
    by_cases hm2 : 1099511627776 < m
    · skip
      go_enter Try.func6, Try.ntmps6
      go_wp2_with fail
      refine (HP.out _).mono ?_
      rintro e w1 ⟨rfl, hb1⟩
      have HB1 := Lib.hid hb1
      clear hb1
      go_wp2_with fail
      refine (HR.out _).mono ?_
      rintro e w' ⟨rfl, rfl⟩
      go_wp2_with fail
      refine (HAW.out _).mono ?_
      rintro e w2 ⟨rfl, hb2⟩
      have HB2 : Hid (Below w.heap.size w w2) := Lib.hid (HB1.out.trans (hb2.mono HB1.out.size))
      clear hb2
      go_wp2
      go_ret
      exact ⟨rfl, HB2.out⟩
    have HS := Lib.hid (HS0.out (by omega) (by omega) (by omega) (by omega))
    have HX := Lib.hid (HX0.out (by omega) (by omega))
    have hw : IntKind.i64.wrap (n + m) = n + m := by rw [IntKind.wrap_i64]; omega
    go_enter Try.func6, Try.ntmps6
    go_wp2_with fail
    refine (HP.out _).mono ?_
    rintro e w1 ⟨rfl, hb1⟩
    have HB1 := Lib.hid hb1
    clear hb1
    go_wp2_with fail
    refine (HR.out _).mono ?_
    rintro e w' ⟨rfl, rfl⟩
    go_wp2_with fail
    refine (HS.out _).mono ?_
    rintro e w2 ⟨rfl, hb2⟩
    have HB2 : Hid (Below w.heap.size w w2) := Lib.hid (HB1.out.trans (hb2.mono HB1.out.size))
    clear hb2
    go_wp2_with fail
    refine (HP.out _).mono ?_
    rintro e w3 ⟨rfl, hb3⟩
    have HB3 : Hid (Below w.heap.size w w3) := Lib.hid (HB2.out.trans (hb3.mono HB2.out.size))
    clear hb3
    go_wp2_with fail
    refine (HM.out _).mono ?_
    rintro e w4 ⟨rfl, hb4⟩
    have HB4 : Hid (Below w.heap.size w w4) := Lib.hid (HB3.out.trans (hb4.mono HB3.out.size))
    clear hb4
    go_wp2_with fail
    refine (HX.out _).mono ?_
    rintro e w' ⟨rfl, rfl⟩
    go_wp2_with fail
    refine (HAW.out _).mono ?_
    rintro e w5 ⟨rfl, hb5⟩
    have HB5 : Hid (Below w.heap.size w w5) := Lib.hid (HB4.out.trans (hb5.mono HB4.out.size))
    clear hb5
    go_wp2
    go_ret
    exact ⟨rfl, HB5.out⟩
  · have HF := Lib.hid (hf ha)
    have ha1 : ev a ≠ 0 := fun h => ha ((ev_eq0 a).1 h)
    clear hf ha
    generalize ev a = A at *
    have ha2 : (A != 0) = true := by simp [ha1]
    clear ha1
    by_cases hn : n < 0
    · skip
      go_enter Try.func6, Try.ntmps6
      go_wp2_with fail
      refine (HP.out _).mono ?_
      rintro e w1 ⟨rfl, hb1⟩
      have HB1 := Lib.hid hb1
      clear hb1
      go_wp2_with fail
      refine (HR.out _).mono ?_
      rintro e w' ⟨rfl, rfl⟩
      go_wp2_with fail
      refine (HF.out _).mono ?_
      rintro e w2 ⟨rfl, hb2⟩
      have HB2 : Hid (Below w.heap.size w w2) := Lib.hid (HB1.out.trans (hb2.mono HB1.out.size))
      clear hb2
      go_wp2_with fail
      refine (HAW.out _).mono ?_
      rintro e w3 ⟨rfl, hb3⟩
      have HB3 : Hid (Below w.heap.size w w3) := Lib.hid (HB2.out.trans (hb3.mono HB2.out.size))
      clear hb3
      go_wp2
      go_ret
      exact ⟨rfl, HB3.out⟩
    by_cases hm : m < 0
    · skip
      go_enter Try.func6, Try.ntmps6
      go_wp2_with fail
      refine (HP.out _).mono ?_
      rintro e w1 ⟨rfl, hb1⟩
      have HB1 := Lib.hid hb1
      clear hb1
      go_wp2_with fail
      refine (HR.out _).mono ?_
      rintro e w' ⟨rfl, rfl⟩
      go_wp2_with fail
      refine (HF.out _).mono ?_
      rintro e w2 ⟨rfl, hb2⟩
      have HB2 : Hid (Below w.heap.size w w2) := Lib.hid (HB1.out.trans (hb2.mono HB1.out.size))
      clear hb2
      go_wp2_with fail
      refine (HAW.out _).mono ?_
      rintro e w3 ⟨rfl, hb3⟩
      have HB3 : Hid (Below w.heap.size w w3) := Lib.hid (HB2.out.trans (hb3.mono HB2.out.size))
      clear hb3
      go_wp2
      go_ret
      exact ⟨rfl, HB3.out⟩
    by_cases hn2 : 1099511627776 < n
    · skip
      go_enter Try.func6, Try.ntmps6
      go_wp2_with fail
      refine (HP.out _).mono ?_
      rintro e w1 ⟨rfl, hb1⟩
      have HB1 := Lib.hid hb1
      clear hb1
      go_wp2_with fail
      refine (HR.out _).mono ?_
      rintro e w' ⟨rfl, rfl⟩
      go_wp2_with fail
      refine (HF.out _).mono ?_
      rintro e w2 ⟨rfl, hb2⟩
      have HB2 : Hid (Below w.heap.size w w2) := Lib.hid (HB1.out.trans (hb2.mono HB1.out.size))
      clear hb2
      go_wp2_with fail
      refine (HAW.out _).mono ?_
      rintro e w3 ⟨rfl, hb3⟩
      have HB3 : Hid (Below w.heap.size w w3) := Lib.hid (HB2.out.trans (hb3.mono HB2.out.size))
      clear hb3
      go_wp2
      go_ret
      exact ⟨rfl, HB3.out⟩
    by_cases hm2 : 1099511627776 < m
    · skip
      go_enter Try.func6, Try.ntmps6
      go_wp2_with fail
      refine (HP.out _).mono ?_
      rintro e w1 ⟨rfl, hb1⟩
      have HB1 := Lib.hid hb1
      clear hb1
      go_wp2_with fail
      refine (HR.out _).mono ?_
      rintro e w' ⟨rfl, rfl⟩
      go_wp2_with fail
      refine (HF.out _).mono ?_
      rintro e w2 ⟨rfl, hb2⟩
      have HB2 : Hid (Below w.heap.size w w2) := Lib.hid (HB1.out.trans (hb2.mono HB1.out.size))
      clear hb2
      go_wp2_with fail
      refine (HAW.out _).mono ?_
      rintro e w3 ⟨rfl, hb3⟩
      have HB3 : Hid (Below w.heap.size w w3) := Lib.hid (HB2.out.trans (hb3.mono HB2.out.size))
      clear hb3
      go_wp2
      go_ret
      exact ⟨rfl, HB3.out⟩
    have HS := Lib.hid (HS0.out (by omega) (by omega) (by omega) (by omega))
    have HX := Lib.hid (HX0.out (by omega) (by omega))
    have hw : IntKind.i64.wrap (n + m) = n + m := by rw [IntKind.wrap_i64]; omega
    go_enter Try.func6, Try.ntmps6
    go_wp2_with fail
    refine (HP.out _).mono ?_
    rintro e w1 ⟨rfl, hb1⟩
    have HB1 := Lib.hid hb1
    clear hb1
    go_wp2_with fail
    refine (HR.out _).mono ?_
    rintro e w' ⟨rfl, rfl⟩
    go_wp2_with fail
    refine (HF.out _).mono ?_
    rintro e w2 ⟨rfl, hb2⟩
    have HB2 : Hid (Below w.heap.size w w2) := Lib.hid (HB1.out.trans (hb2.mono HB1.out.size))
    clear hb2
    go_wp2_with fail
    refine (HS.out _).mono ?_
    rintro e w3 ⟨rfl, hb3⟩
    have HB3 : Hid (Below w.heap.size w w3) := Lib.hid (HB2.out.trans (hb3.mono HB2.out.size))
    clear hb3
    go_wp2_with fail
    refine (HP.out _).mono ?_
    rintro e w4 ⟨rfl, hb4⟩
    have HB4 : Hid (Below w.heap.size w w4) := Lib.hid (HB3.out.trans (hb4.mono HB3.out.size))
    clear hb4
    go_wp2_with fail
    refine (HM.out _).mono ?_
    rintro e w5 ⟨rfl, hb5⟩
    have HB5 : Hid (Below w.heap.size w w5) := Lib.hid (HB4.out.trans (hb5.mono HB4.out.size))
    clear hb5
    go_wp2_with fail
    refine (HX.out _).mono ?_
    rintro e w' ⟨rfl, rfl⟩
    go_wp2_with fail
    refine (HAW.out _).mono ?_
    rintro e w6 ⟨rfl, hb6⟩
    have HB6 : Hid (Below w.heap.size w w6) := Lib.hid (HB5.out.trans (hb6.mono HB5.out.size))
    clear hb6
    go_wp2
    go_ret
    exact ⟨rfl, HB6.out⟩
end Go.Proofs.Ytkeijphhcapkdaa
