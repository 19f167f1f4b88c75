/-
  The walk of the statement CodecOneForm: bytes that are read are those that are written for the value.
-/
import Derived.Test.YtckbgefeamkjnaaCLives
import Derived.Test.YtckbgefeamkjnaaCLawMath
import Derived.Deep.RegionWith
import Derived.Test.YtckbgefeamkjnaaHeld
import Derived.Deep.QuietTactic
import Derived.BigQuiet
import Derived.Deep.DeepCutAuto
import Derived.Deep.DrawnRows
namespace Go.Proofs.Ytckbgefeamkjnaa
open Go.RowKit
attribute [local go_sem ↓] Go.wp_at_zero Go.wp_at_succ

/-- Where a value was read: from a on, m bytes, which are l. -/
def Form (xs : List UInt8) (at_ p : Int) (l : List UInt8) : Prop := ∃ a m : Nat, at_ = a ∧ p = (a : Int) + (m : Int) ∧ 0 < m ∧ a + m ≤ xs.length ∧ l = (xs.drop a).take m
theorem form_of {xs l : List UInt8} {at_ p : Int} {a q : Nat} (h1 : at_ = a) (h2 : p = q) (h3 : a < q) (h4 : q ≤ xs.length) (h5 : l = (xs.drop a).take (q - a)) : Form xs at_ p l :=
  ⟨a, q - a, h1, by omega, by omega, by omega, h5⟩
theorem puint_nil (n : Nat) (w : World) (hn : n < 18446744073709551616) : Calls Try.prog 22 #[.slice none 0 0, .int .u64 n] w (Gives w (enc n)) := by
  have := puint_any none 0 [] n w (.nil _ _) (fun _ => rfl) (by simp) hn
  rwa [List.nil_append] at this
theorem pint_nil (n : Int) (w : World) (h0 : -9223372036854775808 ≤ n) (h1 : n ≤ 9223372036854775807) : Calls Try.prog 23 #[.slice none 0 0, .int .i64 n] w (Gives w (enc (cod n))) := by
  have := pint_any none 0 [] n w (.nil _ _) (fun _ => rfl) (by simp) h0 h1
  rwa [List.nil_append] at this
theorem ptext_nil (s : ByteArray) (w : World) (hs : s.size ≤ 100000) : Calls Try.prog 24 #[.slice none 0 0, .string s] w (Gives w (encT s)) := by
  have := ptext_any none 0 [] s w (.nil _ _) (fun _ => rfl) (by simp) hs
  rwa [List.nil_append] at this
theorem pbool_nil (v : Bool) (w : World) : Calls Try.prog 25 #[.slice none 0 0, .bool v] w (Gives w (encB v)) := by
  have := pbool_any none 0 [] v w (.nil _ _) (fun _ => rfl) (by simp)
  rwa [List.nil_append] at this
/-- The bytes that were read, as a string. -/
theorem conv_part {w : World} {b off : Nat} {xs : List UInt8} (h : Lie w (some ⟨b, off, none⟩) xs) (a m c : Nat) (hm : a + m ≤ xs.length) :
    (convert 22 9 (.slice (some ⟨b, off + a, none⟩) m c)).run Try.prog w = .ok (.string ⟨((xs.drop a).take m).toArray⟩) w := by
  have := conv_lie c (h.part a m)
  rwa [show ((xs.drop a).take m).length = m by simp; omega] at this

theorem below_quiet' {B : Nat} {a w : World} (h : Below B a w) (n : Nat) : Below B a (w.drewN n) := ⟨h.os, h.tape, h.output, h.size, h.block⟩

set_option maxRecDepth 100000 in
set_option maxHeartbeats 1000000 in
theorem law_oneform (ad : Option Addr) (cap : Nat) (xs : List UInt8) (at_ : Int) (w : World) (hl : Lie w ad xs) (hn : xs.length ≤ cap) (ha : ad = none → cap = 0) :
    Calls Try.prog 6 #[.slice ad xs.length cap, .int .i64 at_] w fun e w' => e = .returned (.bool true) ∧ Below w.heap.size w w' := by
  by_cases hs : 4096 < xs.length
  · go_enter Try.func6, Try.ntmps6
    go_wp2_with fail
    refine (lives_any _).mono ?_
    rintro e w1 ⟨rfl, hb⟩
    have HB := Lib.hid hb
    clear hb
    go_wp2
    go_ret
    exact ⟨rfl, HB.out⟩
  have hs6 : xs.length ≤ 1000000 := by omega
  have c1 := fun W hl => uint_any ad cap xs at_ W hl hn hs6 ha
  have c3 := fun W hl => int_any ad cap xs at_ W hl hn hs6 ha
  have c5 := fun W hl => text_any ad cap xs at_ xs.length W hl hn hs6 ha (by omega)
  have c7 := fun W hl => bool_any ad cap xs at_ W hl hs6
  rcases hr1 : uR xs at_ with ⟨a1, b1, e1⟩
  rcases hr2 : iR xs at_ with ⟨a2, b2, e2⟩
  rcases hr3 : tR xs at_ xs.length with ⟨a3, b3, e3⟩
  rcases hr4 : bR xs at_ with ⟨a4, b4, e4⟩
  rw [hr1] at c1
  rw [hr2] at c3
  rw [hr3] at c5
  rw [hr4] at c7
  dsimp only at c1 c3 c5 c7
  have F1 : Hid (e1 = 0 → Form xs at_ b1 (enc a1) ∧ a1 < 18446744073709551616) := Lib.hid fun he => by
    subst he
    obtain ⟨a, q, h1, h2, h3, h4, h5, h6⟩ := uR_form hr1
    exact ⟨form_of h1 h2 h3 h4 h6, h5⟩
  have F2 : Hid (e2 = 0 → Form xs at_ b2 (enc (cod a2)) ∧ -9223372036854775808 ≤ a2 ∧ a2 ≤ 9223372036854775807) := Lib.hid fun he => by
    subst he
    obtain ⟨a, q, h1, h2, h3, h4, h5, h6⟩ := iR_form hr2
    exact ⟨form_of h1 h2 h3 h4 h6, h5⟩
  have F3 : Hid (e3 = 0 → Form xs at_ b3 (encT a3) ∧ a3.size ≤ 100000) := Lib.hid fun he => by
    subst he
    obtain ⟨a, q, h1, h2, h3, h4, h5, h6⟩ := tR_form hr3
    exact ⟨form_of h1 h2 h3 h4 h6, by omega⟩
  have F4 : Hid (e4 = 0 → ∃ a : Nat, at_ = a ∧ b4 = (a : Int) + 1 ∧ a + 1 ≤ xs.length ∧ encB a4 = (xs.drop a).take 1) := Lib.hid fun he => by
    subst he
    obtain ⟨a, h1, h2, h3, h4⟩ := bR_form hr4
    exact ⟨a, h1, by omega, h3, h4⟩
  have C1 := Lib.hid c1
  have C3 := Lib.hid c3
  have C5 := Lib.hid c5
  have C7 := Lib.hid c7
  have HL := Lib.hid hl
  have HA := Lib.hid ha
  clear c1 c3 c5 c7 ha hr1 hr2 hr3 hr4 hl
  go_enter Try.func6, Try.ntmps6
  go_wp2_with fail
  refine (lives_any _).mono ?_
  rintro e w1 ⟨rfl, hb⟩
  have HB := Lib.hid hb
  clear hb
  go_wp2_with fail
  refine (C1.out _ (HL.out.below HB.out rfl)).mono ?_
  rintro e w' ⟨rfl, rfl⟩
  go_upto_region 6 with fail
  go_cut [46] (fun s wx => s = .bool false ∧ Below w.heap.size w wx)
  case first =>
    by_cases he : e1 = 0
    · obtain ⟨⟨a, m, rfl, rfl, hm0, hm, hf⟩, hside⟩ := F1.out he
      subst he
      rcases HL.out.at_ with h0 | ⟨b, off, rfl, _, _⟩
      · subst h0; simp at hm; omega
      have hL := HL.out.below HB.out rfl
      have hcd := conv_part hL.drew a m (cap - a) hm
      rw [← hf] at hcd
      have HF := Lib.hid hf
      have HLr := Lib.hid hL
      have HS := Lib.hid hside
      have hca : ¬ cap = a := by omega
      have i0 : (0 : Int) ≤ (a : Int) := by omega
      have i1 : (a : Int) ≤ (a : Int) + (m : Int) := by omega
      have i2 : (a : Int) + (m : Int) ≤ (xs.length : Int) := by omega
      have i3 : (a : Int) + (m : Int) ≤ (cap : Int) := by omega
      have i4 : ((a : Int) + (m : Int)).toNat = a + m := by omega
      have i5 : a + m - a = m := by omega
      have g1 : decide ((a : Int) + (m : Int) ≤ (a : Int)) = false := by simp; omega
      have g2 : decide ((xs.length : Int) < (a : Int) + (m : Int)) = false := by simp; omega
      clear hf hL hside
      refine wp_region_noPanic ?_
      refine wp_region_held_drew (S := fun w' => (convert 22 9 (.slice (some ⟨b, off + a, none⟩) m (cap - a))).run Try.prog w' = .ok (.string ⟨(enc a1).toArray⟩) w') (by kernel_rfl) hcd (fun hHeld => ?_)
      refine held_take (i := 0) (v := ?_) rfl (by kernel_rfl) (by kernel_rfl) (by kernel_rfl) (fun _ _ _ h => h) (by rfl) ?_ (by assumption) ?_
      rotate_left
      · intro W hSW
        try dsimp only at hSW
        go_simp <;> with_reducible rfl
      simp only [Act.put, List.setIfInBounds_toArray, List.set_cons_zero, List.set_cons_succ]
      refine held_take (i := 1) (v := ?_) rfl (by kernel_rfl) (by kernel_rfl) (by kernel_rfl) (fun _ _ _ h => h) (by rfl) ?_ (by assumption) ?_
      rotate_left
      · intro W hSW
        try dsimp only at hSW
        go_simp <;> with_reducible rfl
      simp only [Act.put, List.setIfInBounds_toArray, List.set_cons_zero, List.set_cons_succ]
      refine held_take (i := 2) (v := ?_) rfl (by kernel_rfl) (by kernel_rfl) (by kernel_rfl) (fun _ _ _ h => h) (by rfl) ?_ (by assumption) ?_
      rotate_left
      · intro W hSW
        try dsimp only at hSW
        go_simp <;> with_reducible rfl
      simp only [Act.put, List.setIfInBounds_toArray, List.set_cons_zero, List.set_cons_succ]
      refine held_take (i := 3) (v := ?_) rfl (by kernel_rfl) (by kernel_rfl) (by kernel_rfl) (fun _ _ _ h => h) (by rfl) ?_ (by assumption) ?_
      rotate_left
      · intro W hSW
        try dsimp only at hSW
        go_simp <;> with_reducible rfl
      simp only [Act.put, List.setIfInBounds_toArray, List.set_cons_zero, List.set_cons_succ]
      refine held_take (i := 4) (v := ?_) rfl (by kernel_rfl) (by kernel_rfl) (by kernel_rfl) (fun _ _ _ h => h) (by rfl) ?_ (by assumption) ?_
      rotate_left
      · intro W hSW
        try dsimp only at hSW
        go_simp <;> with_reducible rfl
      simp only [Act.put, List.setIfInBounds_toArray, List.set_cons_zero, List.set_cons_succ]
      refine held_take (i := 5) (v := ?_) rfl (by kernel_rfl) (by kernel_rfl) (by kernel_rfl) (fun _ _ _ h => h) (by rfl) ?_ (by assumption) ?_
      rotate_left
      · intro W hSW
        try dsimp only at hSW
        go_simp <;> with_reducible rfl
      simp only [Act.put, List.setIfInBounds_toArray, List.set_cons_zero, List.set_cons_succ]
      refine held_take (i := 6) (v := ?_) rfl (by kernel_rfl) (by kernel_rfl) (by kernel_rfl) (fun _ _ _ h => h) (by rfl) ?_ (by assumption) ?_
      rotate_left
      · intro W hSW
        try dsimp only at hSW
        go_simp <;> with_reducible rfl
      simp only [Act.put, List.setIfInBounds_toArray, List.set_cons_zero, List.set_cons_succ]
      refine held_take (i := 7) (v := ?_) rfl (by kernel_rfl) (by kernel_rfl) (by kernel_rfl) (fun _ _ _ h => h) (by rfl) ?_ (by assumption) ?_
      rotate_left
      · intro W hSW
        try dsimp only at hSW
        go_simp <;> with_reducible rfl
      simp only [Act.put, List.setIfInBounds_toArray, List.set_cons_zero, List.set_cons_succ]
      refine held_take (i := 8) (v := ?_) rfl (by kernel_rfl) (by kernel_rfl) (by kernel_rfl) (fun _ _ _ h => h) (by rfl) ?_ (by assumption) ?_
      rotate_left
      · intro W hSW
        try dsimp only at hSW
        go_simp <;> with_reducible rfl
      simp only [Act.put, List.setIfInBounds_toArray, List.set_cons_zero, List.set_cons_succ]
      refine held_take (i := 9) (v := ?_) rfl (by kernel_rfl) (by kernel_rfl) (by kernel_rfl) (fun _ _ _ h => h) (by rfl) ?_ (by assumption) ?_
      rotate_left
      · intro W hSW
        try dsimp only at hSW
        go_simp <;> with_reducible rfl
      simp only [Act.put, List.setIfInBounds_toArray, List.set_cons_zero, List.set_cons_succ]
      refine held_take (i := 10) (v := ?_) rfl (by kernel_rfl) (by kernel_rfl) (by kernel_rfl) (fun _ _ _ h => h) (by rfl) ?_ (by assumption) ?_
      rotate_left
      · intro W hSW
        try dsimp only at hSW
        go_simp <;> with_reducible rfl
      simp only [Act.put, List.setIfInBounds_toArray, List.set_cons_zero, List.set_cons_succ]
      refine held_take (i := 11) (v := ?_) rfl (by kernel_rfl) (by kernel_rfl) (by kernel_rfl) (fun _ _ _ h => h) (by rfl) ?_ (by assumption) ?_
      rotate_left
      · intro W hSW
        try dsimp only at hSW
        go_simp <;> with_reducible rfl
      simp only [Act.put, List.setIfInBounds_toArray, List.set_cons_zero, List.set_cons_succ]
      refine held_take (i := 12) (v := ?_) rfl (by kernel_rfl) (by kernel_rfl) (by kernel_rfl) (fun _ _ _ h => h) (by rfl) ?_ (by assumption) ?_
      rotate_left
      · intro W hSW
        try dsimp only at hSW
        go_simp <;> with_reducible rfl
      simp only [Act.put, List.setIfInBounds_toArray, List.set_cons_zero, List.set_cons_succ]
      refine held_take (i := 13) (v := ?_) rfl (by kernel_rfl) (by kernel_rfl) (by kernel_rfl) (fun _ _ _ h => h) (by rfl) ?_ (by assumption) ?_
      rotate_left
      · intro W hSW
        try dsimp only at hSW
        go_simp <;> with_reducible rfl
      simp only [Act.put, List.setIfInBounds_toArray, List.set_cons_zero, List.set_cons_succ]
      refine held_take (i := 16) (v := ?_) rfl (by kernel_rfl) (by kernel_rfl) (by kernel_rfl) (fun _ _ _ h => h) (by rfl) ?_ (by assumption) ?_
      rotate_left
      · intro W hSW
        try dsimp only at hSW
        go_simp <;> with_reducible rfl
      simp only [Act.put, List.setIfInBounds_toArray, List.set_cons_zero, List.set_cons_succ]
      refine held_take (i := 17) (v := ?_) rfl (by kernel_rfl) (by kernel_rfl) (by kernel_rfl) (fun _ _ _ h => h) (by rfl) ?_ (by assumption) ?_
      rotate_left
      · intro W hSW
        try dsimp only at hSW
        go_simp <;> with_reducible rfl
      simp only [Act.put, List.setIfInBounds_toArray, List.set_cons_zero, List.set_cons_succ]
      refine held_take (i := 18) (v := ?_) rfl (by kernel_rfl) (by kernel_rfl) (by kernel_rfl) (fun _ _ _ h => h) (by rfl) ?_ (by assumption) ?_
      rotate_left
      · intro W hSW
        try dsimp only at hSW
        go_simp <;> with_reducible rfl
      simp only [Act.put, List.setIfInBounds_toArray, List.set_cons_zero, List.set_cons_succ]
      refine held_take (i := 19) (v := ?_) rfl (by kernel_rfl) (by kernel_rfl) (by kernel_rfl) (fun _ _ _ h => h) (by rfl) ?_ (by assumption) ?_
      rotate_left
      · intro W hSW
        try dsimp only at hSW
        go_simp <;> with_reducible rfl
      simp only [Act.put, List.setIfInBounds_toArray, List.set_cons_zero, List.set_cons_succ]
      refine held_take (i := 20) (v := ?_) rfl (by kernel_rfl) (by kernel_rfl) (by kernel_rfl) (fun _ _ _ h => h) (by rfl) ?_ (by assumption) ?_
      rotate_left
      · intro W hSW
        try dsimp only at hSW
        go_simp <;> with_reducible rfl
      simp only [Act.put, List.setIfInBounds_toArray, List.set_cons_zero, List.set_cons_succ]
      refine held_call (i := 14) rfl (by kernel_rfl) (by rfl) (fun K hK => ?_)
      go_simp
      refine (puint_nil a1 _ HS.out).mono ?_
      rintro e wn ⟨v, rfl, ho, hbn⟩
      obtain ⟨nd, nc, rfl, hp, _, _, _⟩ := ho.slice
      have hcv := conv_lie nc hp
      have hBn : Below w1.heap.size w1 wn := ⟨hbn.os, hbn.tape, hbn.output, hbn.size, hbn.block⟩
      have hcw := conv_part (HLr.out.below hBn rfl) a m (cap - a) hm
      rw [← HF.out] at hcw
      have HBn := Lib.hid hBn
      clear ho hbn hp hBn hHeld hcd
      refine hK.out _ _ hcw (fun _ => ?_)
      clear hK K
      try simp only [Act.put, List.setIfInBounds_toArray, List.set_cons_zero, List.set_cons_succ]
      refine held_imp (S' := fun w' => w' = wn) (fun W hW => by rw [hW]; exact hcw) _ _ _ _ ?_
      have hHeld : (fun w' => w' = wn) wn := rfl
      refine held_take (i := 15) (v := ?_) rfl (by kernel_rfl) (by kernel_rfl) (by kernel_rfl) (fun _ _ _ h => h) (by rfl) ?_ (by assumption) ?_
      rotate_left
      · intro W hSW
        try dsimp only at hSW
        subst hSW
        go_simp <;> with_reducible rfl
      simp only [Act.put, List.setIfInBounds_toArray, List.set_cons_zero, List.set_cons_succ]
      refine held_take (i := 21) (v := ?_) rfl (by kernel_rfl) (by kernel_rfl) (by kernel_rfl) (fun _ _ _ h => h) (by rfl) ?_ (by assumption) ?_
      rotate_left
      · intro W hSW
        try dsimp only at hSW
        subst hSW
        go_simp <;> with_reducible rfl
      simp only [Act.put, List.setIfInBounds_toArray, List.set_cons_zero, List.set_cons_succ]
      refine held_take (i := 22) (v := ?_) rfl (by kernel_rfl) (by kernel_rfl) (by kernel_rfl) (fun _ _ _ h => h) (by rfl) ?_ (by assumption) ?_
      rotate_left
      · intro W hSW
        try dsimp only at hSW
        subst hSW
        go_simp <;> with_reducible rfl
      simp only [Act.put, List.setIfInBounds_toArray, List.set_cons_zero, List.set_cons_succ]
      refine held_take (i := 23) (v := ?_) rfl (by kernel_rfl) (by kernel_rfl) (by kernel_rfl) (fun _ _ _ h => h) (by rfl) ?_ (by assumption) ?_
      rotate_left
      · intro W hSW
        try dsimp only at hSW
        subst hSW
        go_simp <;> with_reducible rfl
      simp only [Act.put, List.setIfInBounds_toArray, List.set_cons_zero, List.set_cons_succ]
      refine wpAnyH_done (by kernel_rfl) ?_ _
      refine NoPanic.normal ?_
      go_wp2_with fail
      go_meet
      exact ⟨rfl, HB.out.trans (HBn.out.mono HB.out.size)⟩
    · have he1 : (e1 == 0) = false := by simpa using he
      go_quiet (fail)
      all_goals (go_wp2_with fail; go_meet; exact ⟨rfl, below_quiet' HB.out _⟩)
  case rest =>
  obtain ⟨rfl, hb2⟩ := hcut
  obtain ⟨w2, hw2⟩ : ∃ w2, w2 = wc := ⟨_, rfl⟩
  subst hw2
  have HB2 := Lib.hid hb2
  clear hb2
  go_wp2_with fail
  refine (C3.out _ (HL.out.below HB2.out rfl)).mono ?_
  rintro e w' ⟨rfl, rfl⟩
  go_upto_region 9 with fail
  go_cut [77] (fun s wx => s = .bool false ∧ Below w.heap.size w wx)
  case first =>
    by_cases he : e2 = 0
    · obtain ⟨⟨a, m, rfl, rfl, hm0, hm, hf⟩, hside⟩ := F2.out he
      subst he
      rcases HL.out.at_ with h0 | ⟨b, off, rfl, _, _⟩
      · subst h0; simp at hm; omega
      have hL := HL.out.below HB2.out rfl
      have hcd := conv_part hL.drew a m (cap - a) hm
      rw [← hf] at hcd
      have HF := Lib.hid hf
      have HLr := Lib.hid hL
      have HS := Lib.hid hside
      have hca : ¬ cap = a := by omega
      have i0 : (0 : Int) ≤ (a : Int) := by omega
      have i1 : (a : Int) ≤ (a : Int) + (m : Int) := by omega
      have i2 : (a : Int) + (m : Int) ≤ (xs.length : Int) := by omega
      have i3 : (a : Int) + (m : Int) ≤ (cap : Int) := by omega
      have i4 : ((a : Int) + (m : Int)).toNat = a + m := by omega
      have i5 : a + m - a = m := by omega
      have g1 : decide ((a : Int) + (m : Int) ≤ (a : Int)) = false := by simp; omega
      have g2 : decide ((xs.length : Int) < (a : Int) + (m : Int)) = false := by simp; omega
      clear hf hL hside
      refine wp_region_noPanic ?_
      refine wp_region_held_drew (S := fun w' => (convert 22 9 (.slice (some ⟨b, off + a, none⟩) m (cap - a))).run Try.prog w' = .ok (.string ⟨(enc (cod a2)).toArray⟩) w') (by kernel_rfl) hcd (fun hHeld => ?_)
      refine held_take (i := 0) (v := ?_) rfl (by kernel_rfl) (by kernel_rfl) (by kernel_rfl) (fun _ _ _ h => h) (by rfl) ?_ (by assumption) ?_
      rotate_left
      · intro W hSW
        try dsimp only at hSW
        go_simp <;> with_reducible rfl
      simp only [Act.put, List.setIfInBounds_toArray, List.set_cons_zero, List.set_cons_succ]
      refine held_take (i := 1) (v := ?_) rfl (by kernel_rfl) (by kernel_rfl) (by kernel_rfl) (fun _ _ _ h => h) (by rfl) ?_ (by assumption) ?_
      rotate_left
      · intro W hSW
        try dsimp only at hSW
        go_simp <;> with_reducible rfl
      simp only [Act.put, List.setIfInBounds_toArray, List.set_cons_zero, List.set_cons_succ]
      refine held_take (i := 2) (v := ?_) rfl (by kernel_rfl) (by kernel_rfl) (by kernel_rfl) (fun _ _ _ h => h) (by rfl) ?_ (by assumption) ?_
      rotate_left
      · intro W hSW
        try dsimp only at hSW
        go_simp <;> with_reducible rfl
      simp only [Act.put, List.setIfInBounds_toArray, List.set_cons_zero, List.set_cons_succ]
      refine held_take (i := 3) (v := ?_) rfl (by kernel_rfl) (by kernel_rfl) (by kernel_rfl) (fun _ _ _ h => h) (by rfl) ?_ (by assumption) ?_
      rotate_left
      · intro W hSW
        try dsimp only at hSW
        go_simp <;> with_reducible rfl
      simp only [Act.put, List.setIfInBounds_toArray, List.set_cons_zero, List.set_cons_succ]
      refine held_take (i := 4) (v := ?_) rfl (by kernel_rfl) (by kernel_rfl) (by kernel_rfl) (fun _ _ _ h => h) (by rfl) ?_ (by assumption) ?_
      rotate_left
      · intro W hSW
        try dsimp only at hSW
        go_simp <;> with_reducible rfl
      simp only [Act.put, List.setIfInBounds_toArray, List.set_cons_zero, List.set_cons_succ]
      refine held_take (i := 5) (v := ?_) rfl (by kernel_rfl) (by kernel_rfl) (by kernel_rfl) (fun _ _ _ h => h) (by rfl) ?_ (by assumption) ?_
      rotate_left
      · intro W hSW
        try dsimp only at hSW
        go_simp <;> with_reducible rfl
      simp only [Act.put, List.setIfInBounds_toArray, List.set_cons_zero, List.set_cons_succ]
      refine held_take (i := 6) (v := ?_) rfl (by kernel_rfl) (by kernel_rfl) (by kernel_rfl) (fun _ _ _ h => h) (by rfl) ?_ (by assumption) ?_
      rotate_left
      · intro W hSW
        try dsimp only at hSW
        go_simp <;> with_reducible rfl
      simp only [Act.put, List.setIfInBounds_toArray, List.set_cons_zero, List.set_cons_succ]
      refine held_take (i := 7) (v := ?_) rfl (by kernel_rfl) (by kernel_rfl) (by kernel_rfl) (fun _ _ _ h => h) (by rfl) ?_ (by assumption) ?_
      rotate_left
      · intro W hSW
        try dsimp only at hSW
        go_simp <;> with_reducible rfl
      simp only [Act.put, List.setIfInBounds_toArray, List.set_cons_zero, List.set_cons_succ]
      refine held_take (i := 8) (v := ?_) rfl (by kernel_rfl) (by kernel_rfl) (by kernel_rfl) (fun _ _ _ h => h) (by rfl) ?_ (by assumption) ?_
      rotate_left
      · intro W hSW
        try dsimp only at hSW
        go_simp <;> with_reducible rfl
      simp only [Act.put, List.setIfInBounds_toArray, List.set_cons_zero, List.set_cons_succ]
      refine held_take (i := 9) (v := ?_) rfl (by kernel_rfl) (by kernel_rfl) (by kernel_rfl) (fun _ _ _ h => h) (by rfl) ?_ (by assumption) ?_
      rotate_left
      · intro W hSW
        try dsimp only at hSW
        go_simp <;> with_reducible rfl
      simp only [Act.put, List.setIfInBounds_toArray, List.set_cons_zero, List.set_cons_succ]
      refine held_take (i := 10) (v := ?_) rfl (by kernel_rfl) (by kernel_rfl) (by kernel_rfl) (fun _ _ _ h => h) (by rfl) ?_ (by assumption) ?_
      rotate_left
      · intro W hSW
        try dsimp only at hSW
        go_simp <;> with_reducible rfl
      simp only [Act.put, List.setIfInBounds_toArray, List.set_cons_zero, List.set_cons_succ]
      refine held_take (i := 11) (v := ?_) rfl (by kernel_rfl) (by kernel_rfl) (by kernel_rfl) (fun _ _ _ h => h) (by rfl) ?_ (by assumption) ?_
      rotate_left
      · intro W hSW
        try dsimp only at hSW
        go_simp <;> with_reducible rfl
      simp only [Act.put, List.setIfInBounds_toArray, List.set_cons_zero, List.set_cons_succ]
      refine held_take (i := 12) (v := ?_) rfl (by kernel_rfl) (by kernel_rfl) (by kernel_rfl) (fun _ _ _ h => h) (by rfl) ?_ (by assumption) ?_
      rotate_left
      · intro W hSW
        try dsimp only at hSW
        go_simp <;> with_reducible rfl
      simp only [Act.put, List.setIfInBounds_toArray, List.set_cons_zero, List.set_cons_succ]
      refine held_take (i := 13) (v := ?_) rfl (by kernel_rfl) (by kernel_rfl) (by kernel_rfl) (fun _ _ _ h => h) (by rfl) ?_ (by assumption) ?_
      rotate_left
      · intro W hSW
        try dsimp only at hSW
        go_simp <;> with_reducible rfl
      simp only [Act.put, List.setIfInBounds_toArray, List.set_cons_zero, List.set_cons_succ]
      refine held_take (i := 16) (v := ?_) rfl (by kernel_rfl) (by kernel_rfl) (by kernel_rfl) (fun _ _ _ h => h) (by rfl) ?_ (by assumption) ?_
      rotate_left
      · intro W hSW
        try dsimp only at hSW
        go_simp <;> with_reducible rfl
      simp only [Act.put, List.setIfInBounds_toArray, List.set_cons_zero, List.set_cons_succ]
      refine held_take (i := 17) (v := ?_) rfl (by kernel_rfl) (by kernel_rfl) (by kernel_rfl) (fun _ _ _ h => h) (by rfl) ?_ (by assumption) ?_
      rotate_left
      · intro W hSW
        try dsimp only at hSW
        go_simp <;> with_reducible rfl
      simp only [Act.put, List.setIfInBounds_toArray, List.set_cons_zero, List.set_cons_succ]
      refine held_take (i := 18) (v := ?_) rfl (by kernel_rfl) (by kernel_rfl) (by kernel_rfl) (fun _ _ _ h => h) (by rfl) ?_ (by assumption) ?_
      rotate_left
      · intro W hSW
        try dsimp only at hSW
        go_simp <;> with_reducible rfl
      simp only [Act.put, List.setIfInBounds_toArray, List.set_cons_zero, List.set_cons_succ]
      refine held_take (i := 19) (v := ?_) rfl (by kernel_rfl) (by kernel_rfl) (by kernel_rfl) (fun _ _ _ h => h) (by rfl) ?_ (by assumption) ?_
      rotate_left
      · intro W hSW
        try dsimp only at hSW
        go_simp <;> with_reducible rfl
      simp only [Act.put, List.setIfInBounds_toArray, List.set_cons_zero, List.set_cons_succ]
      refine held_take (i := 20) (v := ?_) rfl (by kernel_rfl) (by kernel_rfl) (by kernel_rfl) (fun _ _ _ h => h) (by rfl) ?_ (by assumption) ?_
      rotate_left
      · intro W hSW
        try dsimp only at hSW
        go_simp <;> with_reducible rfl
      simp only [Act.put, List.setIfInBounds_toArray, List.set_cons_zero, List.set_cons_succ]
      refine held_call (i := 14) rfl (by kernel_rfl) (by rfl) (fun K hK => ?_)
      go_simp
      refine (pint_nil a2 _ HS.out.1 HS.out.2).mono ?_
      rintro e wn ⟨v, rfl, ho, hbn⟩
      obtain ⟨nd, nc, rfl, hp, _, _, _⟩ := ho.slice
      have hcv := conv_lie nc hp
      have hBn : Below w2.heap.size w2 wn := ⟨hbn.os, hbn.tape, hbn.output, hbn.size, hbn.block⟩
      have hcw := conv_part (HLr.out.below hBn rfl) a m (cap - a) hm
      rw [← HF.out] at hcw
      have HBn := Lib.hid hBn
      clear ho hbn hp hBn hHeld hcd
      refine hK.out _ _ hcw (fun _ => ?_)
      clear hK K
      try simp only [Act.put, List.setIfInBounds_toArray, List.set_cons_zero, List.set_cons_succ]
      refine held_imp (S' := fun w' => w' = wn) (fun W hW => by rw [hW]; exact hcw) _ _ _ _ ?_
      have hHeld : (fun w' => w' = wn) wn := rfl
      refine held_take (i := 15) (v := ?_) rfl (by kernel_rfl) (by kernel_rfl) (by kernel_rfl) (fun _ _ _ h => h) (by rfl) ?_ (by assumption) ?_
      rotate_left
      · intro W hSW
        try dsimp only at hSW
        subst hSW
        go_simp <;> with_reducible rfl
      simp only [Act.put, List.setIfInBounds_toArray, List.set_cons_zero, List.set_cons_succ]
      refine held_take (i := 21) (v := ?_) rfl (by kernel_rfl) (by kernel_rfl) (by kernel_rfl) (fun _ _ _ h => h) (by rfl) ?_ (by assumption) ?_
      rotate_left
      · intro W hSW
        try dsimp only at hSW
        subst hSW
        go_simp <;> with_reducible rfl
      simp only [Act.put, List.setIfInBounds_toArray, List.set_cons_zero, List.set_cons_succ]
      refine held_take (i := 22) (v := ?_) rfl (by kernel_rfl) (by kernel_rfl) (by kernel_rfl) (fun _ _ _ h => h) (by rfl) ?_ (by assumption) ?_
      rotate_left
      · intro W hSW
        try dsimp only at hSW
        subst hSW
        go_simp <;> with_reducible rfl
      simp only [Act.put, List.setIfInBounds_toArray, List.set_cons_zero, List.set_cons_succ]
      refine held_take (i := 23) (v := ?_) rfl (by kernel_rfl) (by kernel_rfl) (by kernel_rfl) (fun _ _ _ h => h) (by rfl) ?_ (by assumption) ?_
      rotate_left
      · intro W hSW
        try dsimp only at hSW
        subst hSW
        go_simp <;> with_reducible rfl
      simp only [Act.put, List.setIfInBounds_toArray, List.set_cons_zero, List.set_cons_succ]
      refine wpAnyH_done (by kernel_rfl) ?_ _
      refine NoPanic.normal ?_
      go_wp2_with fail
      go_meet
      exact ⟨rfl, HB2.out.trans (HBn.out.mono HB2.out.size)⟩
    · have he1 : (e2 == 0) = false := by simpa using he
      go_quiet (fail)
      all_goals (go_wp2_with fail; go_meet; exact ⟨rfl, below_quiet' HB2.out _⟩)
  case rest =>
  obtain ⟨rfl, hb3⟩ := hcut
  obtain ⟨w3, hw3⟩ : ∃ w3, w3 = wc := ⟨_, rfl⟩
  subst hw3
  have HB3 := Lib.hid hb3
  clear hb3
  go_wp2_with fail
  refine (C5.out _ (HL.out.below HB3.out rfl)).mono ?_
  rintro e w' ⟨rfl, rfl⟩
  go_upto_region 12 with fail
  go_cut [110] (fun s wx => s = .bool false ∧ Below w.heap.size w wx)
  case first =>
    by_cases he : e3 = 0
    · obtain ⟨⟨a, m, rfl, rfl, hm0, hm, hf⟩, hside⟩ := F3.out he
      subst he
      rcases HL.out.at_ with h0 | ⟨b, off, rfl, _, _⟩
      · subst h0; simp at hm; omega
      have hL := HL.out.below HB3.out rfl
      have hcd := conv_part hL.drew a m (cap - a) hm
      rw [← hf] at hcd
      have HF := Lib.hid hf
      have HLr := Lib.hid hL
      have HS := Lib.hid hside
      have hca : ¬ cap = a := by omega
      have i0 : (0 : Int) ≤ (a : Int) := by omega
      have i1 : (a : Int) ≤ (a : Int) + (m : Int) := by omega
      have i2 : (a : Int) + (m : Int) ≤ (xs.length : Int) := by omega
      have i3 : (a : Int) + (m : Int) ≤ (cap : Int) := by omega
      have i4 : ((a : Int) + (m : Int)).toNat = a + m := by omega
      have i5 : a + m - a = m := by omega
      have g1 : decide ((a : Int) + (m : Int) ≤ (a : Int)) = false := by simp; omega
      have g2 : decide ((xs.length : Int) < (a : Int) + (m : Int)) = false := by simp; omega
      clear hf hL hside
      refine wp_region_noPanic ?_
      refine wp_region_held_drew (S := fun w' => (convert 22 9 (.slice (some ⟨b, off + a, none⟩) m (cap - a))).run Try.prog w' = .ok (.string ⟨(encT a3).toArray⟩) w') (by kernel_rfl) hcd (fun hHeld => ?_)
      refine held_take (i := 0) (v := ?_) rfl (by kernel_rfl) (by kernel_rfl) (by kernel_rfl) (fun _ _ _ h => h) (by rfl) ?_ (by assumption) ?_
      rotate_left
      · intro W hSW
        try dsimp only at hSW
        go_simp <;> with_reducible rfl
      simp only [Act.put, List.setIfInBounds_toArray, List.set_cons_zero, List.set_cons_succ]
      refine held_take (i := 1) (v := ?_) rfl (by kernel_rfl) (by kernel_rfl) (by kernel_rfl) (fun _ _ _ h => h) (by rfl) ?_ (by assumption) ?_
      rotate_left
      · intro W hSW
        try dsimp only at hSW
        go_simp <;> with_reducible rfl
      simp only [Act.put, List.setIfInBounds_toArray, List.set_cons_zero, List.set_cons_succ]
      refine held_take (i := 2) (v := ?_) rfl (by kernel_rfl) (by kernel_rfl) (by kernel_rfl) (fun _ _ _ h => h) (by rfl) ?_ (by assumption) ?_
      rotate_left
      · intro W hSW
        try dsimp only at hSW
        go_simp <;> with_reducible rfl
      simp only [Act.put, List.setIfInBounds_toArray, List.set_cons_zero, List.set_cons_succ]
      refine held_take (i := 3) (v := ?_) rfl (by kernel_rfl) (by kernel_rfl) (by kernel_rfl) (fun _ _ _ h => h) (by rfl) ?_ (by assumption) ?_
      rotate_left
      · intro W hSW
        try dsimp only at hSW
        go_simp <;> with_reducible rfl
      simp only [Act.put, List.setIfInBounds_toArray, List.set_cons_zero, List.set_cons_succ]
      refine held_take (i := 4) (v := ?_) rfl (by kernel_rfl) (by kernel_rfl) (by kernel_rfl) (fun _ _ _ h => h) (by rfl) ?_ (by assumption) ?_
      rotate_left
      · intro W hSW
        try dsimp only at hSW
        go_simp <;> with_reducible rfl
      simp only [Act.put, List.setIfInBounds_toArray, List.set_cons_zero, List.set_cons_succ]
      refine held_take (i := 5) (v := ?_) rfl (by kernel_rfl) (by kernel_rfl) (by kernel_rfl) (fun _ _ _ h => h) (by rfl) ?_ (by assumption) ?_
      rotate_left
      · intro W hSW
        try dsimp only at hSW
        go_simp <;> with_reducible rfl
      simp only [Act.put, List.setIfInBounds_toArray, List.set_cons_zero, List.set_cons_succ]
      refine held_take (i := 6) (v := ?_) rfl (by kernel_rfl) (by kernel_rfl) (by kernel_rfl) (fun _ _ _ h => h) (by rfl) ?_ (by assumption) ?_
      rotate_left
      · intro W hSW
        try dsimp only at hSW
        go_simp <;> with_reducible rfl
      simp only [Act.put, List.setIfInBounds_toArray, List.set_cons_zero, List.set_cons_succ]
      refine held_take (i := 7) (v := ?_) rfl (by kernel_rfl) (by kernel_rfl) (by kernel_rfl) (fun _ _ _ h => h) (by rfl) ?_ (by assumption) ?_
      rotate_left
      · intro W hSW
        try dsimp only at hSW
        go_simp <;> with_reducible rfl
      simp only [Act.put, List.setIfInBounds_toArray, List.set_cons_zero, List.set_cons_succ]
      refine held_take (i := 8) (v := ?_) rfl (by kernel_rfl) (by kernel_rfl) (by kernel_rfl) (fun _ _ _ h => h) (by rfl) ?_ (by assumption) ?_
      rotate_left
      · intro W hSW
        try dsimp only at hSW
        go_simp <;> with_reducible rfl
      simp only [Act.put, List.setIfInBounds_toArray, List.set_cons_zero, List.set_cons_succ]
      refine held_take (i := 9) (v := ?_) rfl (by kernel_rfl) (by kernel_rfl) (by kernel_rfl) (fun _ _ _ h => h) (by rfl) ?_ (by assumption) ?_
      rotate_left
      · intro W hSW
        try dsimp only at hSW
        go_simp <;> with_reducible rfl
      simp only [Act.put, List.setIfInBounds_toArray, List.set_cons_zero, List.set_cons_succ]
      refine held_take (i := 10) (v := ?_) rfl (by kernel_rfl) (by kernel_rfl) (by kernel_rfl) (fun _ _ _ h => h) (by rfl) ?_ (by assumption) ?_
      rotate_left
      · intro W hSW
        try dsimp only at hSW
        go_simp <;> with_reducible rfl
      simp only [Act.put, List.setIfInBounds_toArray, List.set_cons_zero, List.set_cons_succ]
      refine held_take (i := 11) (v := ?_) rfl (by kernel_rfl) (by kernel_rfl) (by kernel_rfl) (fun _ _ _ h => h) (by rfl) ?_ (by assumption) ?_
      rotate_left
      · intro W hSW
        try dsimp only at hSW
        go_simp <;> with_reducible rfl
      simp only [Act.put, List.setIfInBounds_toArray, List.set_cons_zero, List.set_cons_succ]
      refine held_take (i := 12) (v := ?_) rfl (by kernel_rfl) (by kernel_rfl) (by kernel_rfl) (fun _ _ _ h => h) (by rfl) ?_ (by assumption) ?_
      rotate_left
      · intro W hSW
        try dsimp only at hSW
        go_simp <;> with_reducible rfl
      simp only [Act.put, List.setIfInBounds_toArray, List.set_cons_zero, List.set_cons_succ]
      refine held_take (i := 13) (v := ?_) rfl (by kernel_rfl) (by kernel_rfl) (by kernel_rfl) (fun _ _ _ h => h) (by rfl) ?_ (by assumption) ?_
      rotate_left
      · intro W hSW
        try dsimp only at hSW
        go_simp <;> with_reducible rfl
      simp only [Act.put, List.setIfInBounds_toArray, List.set_cons_zero, List.set_cons_succ]
      refine held_take (i := 16) (v := ?_) rfl (by kernel_rfl) (by kernel_rfl) (by kernel_rfl) (fun _ _ _ h => h) (by rfl) ?_ (by assumption) ?_
      rotate_left
      · intro W hSW
        try dsimp only at hSW
        go_simp <;> with_reducible rfl
      simp only [Act.put, List.setIfInBounds_toArray, List.set_cons_zero, List.set_cons_succ]
      refine held_take (i := 17) (v := ?_) rfl (by kernel_rfl) (by kernel_rfl) (by kernel_rfl) (fun _ _ _ h => h) (by rfl) ?_ (by assumption) ?_
      rotate_left
      · intro W hSW
        try dsimp only at hSW
        go_simp <;> with_reducible rfl
      simp only [Act.put, List.setIfInBounds_toArray, List.set_cons_zero, List.set_cons_succ]
      refine held_take (i := 18) (v := ?_) rfl (by kernel_rfl) (by kernel_rfl) (by kernel_rfl) (fun _ _ _ h => h) (by rfl) ?_ (by assumption) ?_
      rotate_left
      · intro W hSW
        try dsimp only at hSW
        go_simp <;> with_reducible rfl
      simp only [Act.put, List.setIfInBounds_toArray, List.set_cons_zero, List.set_cons_succ]
      refine held_take (i := 19) (v := ?_) rfl (by kernel_rfl) (by kernel_rfl) (by kernel_rfl) (fun _ _ _ h => h) (by rfl) ?_ (by assumption) ?_
      rotate_left
      · intro W hSW
        try dsimp only at hSW
        go_simp <;> with_reducible rfl
      simp only [Act.put, List.setIfInBounds_toArray, List.set_cons_zero, List.set_cons_succ]
      refine held_take (i := 20) (v := ?_) rfl (by kernel_rfl) (by kernel_rfl) (by kernel_rfl) (fun _ _ _ h => h) (by rfl) ?_ (by assumption) ?_
      rotate_left
      · intro W hSW
        try dsimp only at hSW
        go_simp <;> with_reducible rfl
      simp only [Act.put, List.setIfInBounds_toArray, List.set_cons_zero, List.set_cons_succ]
      refine held_call (i := 14) rfl (by kernel_rfl) (by rfl) (fun K hK => ?_)
      go_simp
      refine (ptext_nil a3 _ HS.out).mono ?_
      rintro e wn ⟨v, rfl, ho, hbn⟩
      obtain ⟨nd, nc, rfl, hp, _, _, _⟩ := ho.slice
      have hcv := conv_lie nc hp
      have hBn : Below w3.heap.size w3 wn := ⟨hbn.os, hbn.tape, hbn.output, hbn.size, hbn.block⟩
      have hcw := conv_part (HLr.out.below hBn rfl) a m (cap - a) hm
      rw [← HF.out] at hcw
      have HBn := Lib.hid hBn
      clear ho hbn hp hBn hHeld hcd
      refine hK.out _ _ hcw (fun _ => ?_)
      clear hK K
      try simp only [Act.put, List.setIfInBounds_toArray, List.set_cons_zero, List.set_cons_succ]
      refine held_imp (S' := fun w' => w' = wn) (fun W hW => by rw [hW]; exact hcw) _ _ _ _ ?_
      have hHeld : (fun w' => w' = wn) wn := rfl
      refine held_take (i := 15) (v := ?_) rfl (by kernel_rfl) (by kernel_rfl) (by kernel_rfl) (fun _ _ _ h => h) (by rfl) ?_ (by assumption) ?_
      rotate_left
      · intro W hSW
        try dsimp only at hSW
        subst hSW
        go_simp <;> with_reducible rfl
      simp only [Act.put, List.setIfInBounds_toArray, List.set_cons_zero, List.set_cons_succ]
      refine held_take (i := 21) (v := ?_) rfl (by kernel_rfl) (by kernel_rfl) (by kernel_rfl) (fun _ _ _ h => h) (by rfl) ?_ (by assumption) ?_
      rotate_left
      · intro W hSW
        try dsimp only at hSW
        subst hSW
        go_simp <;> with_reducible rfl
      simp only [Act.put, List.setIfInBounds_toArray, List.set_cons_zero, List.set_cons_succ]
      refine held_take (i := 22) (v := ?_) rfl (by kernel_rfl) (by kernel_rfl) (by kernel_rfl) (fun _ _ _ h => h) (by rfl) ?_ (by assumption) ?_
      rotate_left
      · intro W hSW
        try dsimp only at hSW
        subst hSW
        go_simp <;> with_reducible rfl
      simp only [Act.put, List.setIfInBounds_toArray, List.set_cons_zero, List.set_cons_succ]
      refine held_take (i := 23) (v := ?_) rfl (by kernel_rfl) (by kernel_rfl) (by kernel_rfl) (fun _ _ _ h => h) (by rfl) ?_ (by assumption) ?_
      rotate_left
      · intro W hSW
        try dsimp only at hSW
        subst hSW
        go_simp <;> with_reducible rfl
      simp only [Act.put, List.setIfInBounds_toArray, List.set_cons_zero, List.set_cons_succ]
      refine wpAnyH_done (by kernel_rfl) ?_ _
      refine NoPanic.normal ?_
      go_wp2_with fail
      go_meet
      exact ⟨rfl, HB3.out.trans (HBn.out.mono HB3.out.size)⟩
    · have he1 : (e3 == 0) = false := by simpa using he
      go_quiet (fail)
      all_goals (go_wp2_with fail; go_meet; exact ⟨rfl, below_quiet' HB3.out _⟩)
  case rest =>
  obtain ⟨rfl, hb4⟩ := hcut
  obtain ⟨w4, hw4⟩ : ∃ w4, w4 = wc := ⟨_, rfl⟩
  subst hw4
  have HB4 := Lib.hid hb4
  clear hb4
  go_wp2_with fail
  refine (C7.out _ (HL.out.below HB4.out rfl)).mono ?_
  rintro e w' ⟨rfl, rfl⟩
  go_upto_region 15 with fail
  by_cases he : e4 = 0
  · obtain ⟨a, rfl, rfl, hm, hf⟩ := F4.out he
    subst he
    rcases HL.out.at_ with h0 | ⟨b, off, rfl, _, _⟩
    · subst h0; simp at hm
    have hL := HL.out.below HB4.out rfl
    have hcd := conv_part hL.drew a 1 (cap - a) hm
    rw [← hf] at hcd
    have HF := Lib.hid hf
    have HLr := Lib.hid hL
    have hca : ¬ cap = a := by omega
    have i0 : (0 : Int) ≤ (a : Int) := by omega
    have i1 : (a : Int) ≤ (a : Int) + 1 := by omega
    have i2 : (a : Int) + 1 ≤ (xs.length : Int) := by omega
    have i3 : (a : Int) + 1 ≤ (cap : Int) := by omega
    have i4 : ((a : Int) + 1).toNat = a + 1 := by omega
    have i5 : a + 1 - a = 1 := by omega
    have i6 : IntKind.i64.wrap ((a : Int) + 1) = (a : Int) + 1 := IntWalk.i64_in _ (by omega)
    have g2 : decide ((a : Int) + 1 ≤ (xs.length : Int)) = true := by simp; omega
    clear hf hL
    refine wp_region_noPanic ?_
    refine wp_region_held_drew (S := fun w' => (convert 22 9 (.slice (some ⟨b, off + a, none⟩) 1 (cap - a))).run Try.prog w' = .ok (.string ⟨(encB a4).toArray⟩) w') (by kernel_rfl) hcd (fun hHeld => ?_)
    refine held_take (i := 0) (v := ?_) rfl (by kernel_rfl) (by kernel_rfl) (by kernel_rfl) (fun _ _ _ h => h) (by rfl) ?_ (by assumption) ?_
    rotate_left
    · intro W hSW
      try dsimp only at hSW
      go_simp <;> with_reducible rfl
    simp only [Act.put, List.setIfInBounds_toArray, List.set_cons_zero, List.set_cons_succ]
    refine held_take (i := 1) (v := ?_) rfl (by kernel_rfl) (by kernel_rfl) (by kernel_rfl) (fun _ _ _ h => h) (by rfl) ?_ (by assumption) ?_
    rotate_left
    · intro W hSW
      try dsimp only at hSW
      go_simp <;> with_reducible rfl
    simp only [Act.put, List.setIfInBounds_toArray, List.set_cons_zero, List.set_cons_succ]
    refine held_take (i := 2) (v := ?_) rfl (by kernel_rfl) (by kernel_rfl) (by kernel_rfl) (fun _ _ _ h => h) (by rfl) ?_ (by assumption) ?_
    rotate_left
    · intro W hSW
      try dsimp only at hSW
      go_simp <;> with_reducible rfl
    simp only [Act.put, List.setIfInBounds_toArray, List.set_cons_zero, List.set_cons_succ]
    refine held_take (i := 3) (v := ?_) rfl (by kernel_rfl) (by kernel_rfl) (by kernel_rfl) (fun _ _ _ h => h) (by rfl) ?_ (by assumption) ?_
    rotate_left
    · intro W hSW
      try dsimp only at hSW
      go_simp <;> with_reducible rfl
    simp only [Act.put, List.setIfInBounds_toArray, List.set_cons_zero, List.set_cons_succ]
    refine held_take (i := 4) (v := ?_) rfl (by kernel_rfl) (by kernel_rfl) (by kernel_rfl) (fun _ _ _ h => h) (by rfl) ?_ (by assumption) ?_
    rotate_left
    · intro W hSW
      try dsimp only at hSW
      go_simp <;> with_reducible rfl
    simp only [Act.put, List.setIfInBounds_toArray, List.set_cons_zero, List.set_cons_succ]
    refine held_take (i := 5) (v := ?_) rfl (by kernel_rfl) (by kernel_rfl) (by kernel_rfl) (fun _ _ _ h => h) (by rfl) ?_ (by assumption) ?_
    rotate_left
    · intro W hSW
      try dsimp only at hSW
      go_simp <;> with_reducible rfl
    simp only [Act.put, List.setIfInBounds_toArray, List.set_cons_zero, List.set_cons_succ]
    refine held_take (i := 6) (v := ?_) rfl (by kernel_rfl) (by kernel_rfl) (by kernel_rfl) (fun _ _ _ h => h) (by rfl) ?_ (by assumption) ?_
    rotate_left
    · intro W hSW
      try dsimp only at hSW
      go_simp <;> with_reducible rfl
    simp only [Act.put, List.setIfInBounds_toArray, List.set_cons_zero, List.set_cons_succ]
    refine held_take (i := 7) (v := ?_) rfl (by kernel_rfl) (by kernel_rfl) (by kernel_rfl) (fun _ _ _ h => h) (by rfl) ?_ (by assumption) ?_
    rotate_left
    · intro W hSW
      try dsimp only at hSW
      go_simp <;> with_reducible rfl
    simp only [Act.put, List.setIfInBounds_toArray, List.set_cons_zero, List.set_cons_succ]
    refine held_take (i := 8) (v := ?_) rfl (by kernel_rfl) (by kernel_rfl) (by kernel_rfl) (fun _ _ _ h => h) (by rfl) ?_ (by assumption) ?_
    rotate_left
    · intro W hSW
      try dsimp only at hSW
      go_simp <;> with_reducible rfl
    simp only [Act.put, List.setIfInBounds_toArray, List.set_cons_zero, List.set_cons_succ]
    refine held_take (i := 9) (v := ?_) rfl (by kernel_rfl) (by kernel_rfl) (by kernel_rfl) (fun _ _ _ h => h) (by rfl) ?_ (by assumption) ?_
    rotate_left
    · intro W hSW
      try dsimp only at hSW
      go_simp <;> with_reducible rfl
    simp only [Act.put, List.setIfInBounds_toArray, List.set_cons_zero, List.set_cons_succ]
    refine held_take (i := 10) (v := ?_) rfl (by kernel_rfl) (by kernel_rfl) (by kernel_rfl) (fun _ _ _ h => h) (by rfl) ?_ (by assumption) ?_
    rotate_left
    · intro W hSW
      try dsimp only at hSW
      go_simp <;> with_reducible rfl
    simp only [Act.put, List.setIfInBounds_toArray, List.set_cons_zero, List.set_cons_succ]
    refine held_take (i := 11) (v := ?_) rfl (by kernel_rfl) (by kernel_rfl) (by kernel_rfl) (fun _ _ _ h => h) (by rfl) ?_ (by assumption) ?_
    rotate_left
    · intro W hSW
      try dsimp only at hSW
      go_simp <;> with_reducible rfl
    simp only [Act.put, List.setIfInBounds_toArray, List.set_cons_zero, List.set_cons_succ]
    refine held_take (i := 12) (v := ?_) rfl (by kernel_rfl) (by kernel_rfl) (by kernel_rfl) (fun _ _ _ h => h) (by rfl) ?_ (by assumption) ?_
    rotate_left
    · intro W hSW
      try dsimp only at hSW
      go_simp <;> with_reducible rfl
    simp only [Act.put, List.setIfInBounds_toArray, List.set_cons_zero, List.set_cons_succ]
    refine held_take (i := 13) (v := ?_) rfl (by kernel_rfl) (by kernel_rfl) (by kernel_rfl) (fun _ _ _ h => h) (by rfl) ?_ (by assumption) ?_
    rotate_left
    · intro W hSW
      try dsimp only at hSW
      go_simp <;> with_reducible rfl
    simp only [Act.put, List.setIfInBounds_toArray, List.set_cons_zero, List.set_cons_succ]
    refine held_take (i := 14) (v := ?_) rfl (by kernel_rfl) (by kernel_rfl) (by kernel_rfl) (fun _ _ _ h => h) (by rfl) ?_ (by assumption) ?_
    rotate_left
    · intro W hSW
      try dsimp only at hSW
      go_simp <;> with_reducible rfl
    simp only [Act.put, List.setIfInBounds_toArray, List.set_cons_zero, List.set_cons_succ]
    refine held_take (i := 17) (v := ?_) rfl (by kernel_rfl) (by kernel_rfl) (by kernel_rfl) (fun _ _ _ h => h) (by rfl) ?_ (by assumption) ?_
    rotate_left
    · intro W hSW
      try dsimp only at hSW
      go_simp <;> with_reducible rfl
    simp only [Act.put, List.setIfInBounds_toArray, List.set_cons_zero, List.set_cons_succ]
    refine held_take (i := 18) (v := ?_) rfl (by kernel_rfl) (by kernel_rfl) (by kernel_rfl) (fun _ _ _ h => h) (by rfl) ?_ (by assumption) ?_
    rotate_left
    · intro W hSW
      try dsimp only at hSW
      go_simp <;> with_reducible rfl
    simp only [Act.put, List.setIfInBounds_toArray, List.set_cons_zero, List.set_cons_succ]
    refine held_take (i := 19) (v := ?_) rfl (by kernel_rfl) (by kernel_rfl) (by kernel_rfl) (fun _ _ _ h => h) (by rfl) ?_ (by assumption) ?_
    rotate_left
    · intro W hSW
      try dsimp only at hSW
      go_simp <;> with_reducible rfl
    simp only [Act.put, List.setIfInBounds_toArray, List.set_cons_zero, List.set_cons_succ]
    refine held_take (i := 20) (v := ?_) rfl (by kernel_rfl) (by kernel_rfl) (by kernel_rfl) (fun _ _ _ h => h) (by rfl) ?_ (by assumption) ?_
    rotate_left
    · intro W hSW
      try dsimp only at hSW
      go_simp <;> with_reducible rfl
    simp only [Act.put, List.setIfInBounds_toArray, List.set_cons_zero, List.set_cons_succ]
    refine held_take (i := 21) (v := ?_) rfl (by kernel_rfl) (by kernel_rfl) (by kernel_rfl) (fun _ _ _ h => h) (by rfl) ?_ (by assumption) ?_
    rotate_left
    · intro W hSW
      try dsimp only at hSW
      go_simp <;> with_reducible rfl
    simp only [Act.put, List.setIfInBounds_toArray, List.set_cons_zero, List.set_cons_succ]
    refine held_call (i := 15) rfl (by kernel_rfl) (by rfl) (fun K hK => ?_)
    go_simp
    refine (pbool_nil a4 _).mono ?_
    rintro e wn ⟨v, rfl, ho, hbn⟩
    obtain ⟨nd, nc, rfl, hp, _, _, _⟩ := ho.slice
    have hcv := conv_lie nc hp
    have hBn : Below w4.heap.size w4 wn := ⟨hbn.os, hbn.tape, hbn.output, hbn.size, hbn.block⟩
    have hcw := conv_part (HLr.out.below hBn rfl) a 1 (cap - a) hm
    rw [← HF.out] at hcw
    have HBn := Lib.hid hBn
    clear ho hbn hp hBn hHeld hcd
    refine hK.out _ _ hcw (fun _ => ?_)
    clear hK K
    try simp only [Act.put, List.setIfInBounds_toArray, List.set_cons_zero, List.set_cons_succ]
    refine held_imp (S' := fun w' => w' = wn) (fun W hW => by rw [hW]; exact hcw) _ _ _ _ ?_
    have hHeld : (fun w' => w' = wn) wn := rfl
    refine held_take (i := 16) (v := ?_) rfl (by kernel_rfl) (by kernel_rfl) (by kernel_rfl) (fun _ _ _ h => h) (by rfl) ?_ (by assumption) ?_
    rotate_left
    · intro W hSW
      try dsimp only at hSW
      subst hSW
      go_simp <;> with_reducible rfl
    simp only [Act.put, List.setIfInBounds_toArray, List.set_cons_zero, List.set_cons_succ]
    refine held_take (i := 22) (v := ?_) rfl (by kernel_rfl) (by kernel_rfl) (by kernel_rfl) (fun _ _ _ h => h) (by rfl) ?_ (by assumption) ?_
    rotate_left
    · intro W hSW
      try dsimp only at hSW
      subst hSW
      go_simp <;> with_reducible rfl
    simp only [Act.put, List.setIfInBounds_toArray, List.set_cons_zero, List.set_cons_succ]
    refine held_take (i := 23) (v := ?_) rfl (by kernel_rfl) (by kernel_rfl) (by kernel_rfl) (fun _ _ _ h => h) (by rfl) ?_ (by assumption) ?_
    rotate_left
    · intro W hSW
      try dsimp only at hSW
      subst hSW
      go_simp <;> with_reducible rfl
    simp only [Act.put, List.setIfInBounds_toArray, List.set_cons_zero, List.set_cons_succ]
    refine held_take (i := 24) (v := ?_) rfl (by kernel_rfl) (by kernel_rfl) (by kernel_rfl) (fun _ _ _ h => h) (by rfl) ?_ (by assumption) ?_
    rotate_left
    · intro W hSW
      try dsimp only at hSW
      subst hSW
      go_simp <;> with_reducible rfl
    simp only [Act.put, List.setIfInBounds_toArray, List.set_cons_zero, List.set_cons_succ]
    refine held_take (i := 25) (v := ?_) rfl (by kernel_rfl) (by kernel_rfl) (by kernel_rfl) (fun _ _ _ h => h) (by rfl) ?_ (by assumption) ?_
    rotate_left
    · intro W hSW
      try dsimp only at hSW
      subst hSW
      go_simp <;> with_reducible rfl
    simp only [Act.put, List.setIfInBounds_toArray, List.set_cons_zero, List.set_cons_succ]
    refine wpAnyH_done (by kernel_rfl) ?_ _
    refine NoPanic.normal ?_
    go_wp2
    go_ret
    exact ⟨rfl, HB4.out.trans (HBn.out.mono HB4.out.size)⟩
  · have he1 : (e4 != 0) = true := by simpa using he
    go_quiet (fail)
    go_wp2
    go_ret
    exact ⟨rfl, below_quiet' HB4.out _⟩
end Go.Proofs.Ytckbgefeamkjnaa
