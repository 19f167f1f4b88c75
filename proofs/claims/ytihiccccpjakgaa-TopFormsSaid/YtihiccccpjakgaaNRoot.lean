/-
  The root of a tree, by the program and by the specification.
-/
import Derived.Test.YtihiccccpjakgaaNSplit
import Derived.Test.YtihiccccpjakgaaNNode
import Derived.Test.YtihiccccpjakgaaNRef
namespace Go.Proofs.Ytihiccccpjakgaa
open Go.RowKit
theorem rootU_nil : rootU [] = basis := by unfold rootU; rw [rootM_one (by simp)]; rfl
theorem rootU_one (xs : List UInt64) (h : xs.length = 1) : rootU xs = xs[0] := by
  unfold rootU; rw [rootM_one (by omega)]
  obtain ⟨y, rfl⟩ := List.length_eq_one_iff.1 h
  rfl
theorem rootU_two (xs : List UInt64) (n : Nat) (hn : n = xs.length) (h : 2 ≤ n) : rootU xs = nodeU (rootU (xs.take (spl n))) (rootU (xs.drop (spl n))) := by
  subst hn; exact rootM_two h
/-- a call gives a hash -/
def GivesH (w : World) (x : UInt64) (e : Ending) (w' : World) : Prop := e = .returned (.int .u64 (gv x)) ∧ Below w.heap.size w w'
attribute [local irreducible] accU fnv basis byteU beU hashU nodeU spl
set_option maxRecDepth 100000 in
set_option maxHeartbeats 1000000 in
theorem root_go (N : Nat) : ∀ (xs : List UInt64) (ad : Option Addr) (n cap : Nat) (w : World), xs.length ≤ N → Lin w ad xs → n = xs.length → n ≤ 1000000 → n ≤ cap → cap ≤ maxLen →
    Calls Try.prog 22 #[.slice ad n cap] w (GivesH w (rootU xs)) := by
  induction N with
  | zero =>
    intro xs ad n cap w hN hl hn hs hc hm
    have h0 : n = 0 := by omega
    subst h0
    have hx : xs = [] := List.eq_nil_of_length_eq_zero hn.symm
    subst hx
    have HE := Lib.hid (show gv (rootU []) = 14695981039346656037 by rw [rootU_nil, gv_basis])
    clear hl hn hN hs
    go_enter Try.func22, Try.ntmps22
    go_wp2
    go_ret
    exact ⟨by rw [HE.out]; rfl, Below.refl _ _⟩
  | succ N ih =>
    intro xs ad n cap w hN hl hn hs hc hm
    unfold maxLen at hm
    have HN := Lib.hid hn
    by_cases h0 : n = 0
    · subst h0
      have hx : xs = [] := List.eq_nil_of_length_eq_zero hn.symm
      subst hx
      have HE := Lib.hid (show gv (rootU []) = 14695981039346656037 by rw [rootU_nil, gv_basis])
      clear hl hn hN hs ih HN
      go_enter Try.func22, Try.ntmps22
      go_wp2
      go_ret
      exact ⟨by rw [HE.out]; rfl, Below.refl _ _⟩
    · obtain ⟨b, off, rfl, hb, hcell⟩ := hl.get (by omega)
      by_cases h1 : n = 1
      · subst h1
        have hc0 := hcell 0 (by omega)
        have HE := Lib.hid (rootU_one xs hn.symm)
        generalize xs[0] = x at hc0 HE
        rw [Nat.add_zero] at hc0
        clear hl hn hN hs ih hcell HN
        go_enter Try.func22, Try.ntmps22
        go_wp2
        go_ret
        exact ⟨by rw [HE.out]; rfl, Below.refl _ _⟩
      · have h2 : 2 ≤ n := by omega
        have hk1 := spl_lt h2
        have hk0 := spl_pos n
        have HE := Lib.hid (rootU_two xs n hn h2)
        have HSP := Lib.hid (fun w => split_any n w h2 (by omega))
        obtain ⟨k, hk⟩ : ∃ k, k = spl n := ⟨_, rfl⟩
        rw [← hk] at hk1 hk0 HE HSP
        have HL1 := Lib.hid (hl.take k)
        have HL2 := Lib.hid (hl.drop k)
        have HI1 : Hid (∀ W, Below w.heap.size w W → Calls Try.prog 22 #[.slice (some ⟨b, off, none⟩) k cap] W (GivesH W (rootU (xs.take k)))) := Lib.hid fun W hb => ih (xs.take k) _ k cap W (by rw [List.length_take]; omega) (HL1.out.below hb rfl) (by rw [List.length_take]; omega) (by omega) (by omega) (by unfold maxLen; omega)
        have HI2 : Hid (∀ W, Below w.heap.size w W → Calls Try.prog 22 #[.slice (some ⟨b, off + k, none⟩) (n - k) (cap - k)] W (GivesH W (rootU (xs.drop k)))) := Lib.hid fun W hb => ih (xs.drop k) _ (n - k) (cap - k) W (by rw [List.length_drop]; omega) (HL2.out.below hb rfl) (by rw [List.length_drop]; omega) (by omega) (by omega) (by unfold maxLen; omega)
        have hck : ¬ cap = k := by omega
        have hck2 : cap - k ≠ 0 := by omega
        have hk3 : (k : Int) ≤ (n : Int) := by omega
        have hk4 : (k : Int) ≤ (cap : Int) := by omega
        have HB := Lib.hid (Below.refl w.heap.size w).drew
        have hn0 : ¬ (n : Int) = 0 := by omega
        have hn1 : ¬ (n : Int) = 1 := by omega
        clear hl hn hN hs ih hcell HN hb hk
        go_enter Try.func22, Try.ntmps22
        go_wp2_with fail
        refine (HSP.out _).mono ?_
        rintro e w' ⟨rfl, rfl⟩
        go_wp2_with fail
        go_region_with (first
          | (go_at_call 22; (with_reducible refine (HI1.out _ HB.out).mono ?_); rintro e w2 ⟨rfl, hb2⟩; replace HB := Lib.hid (HB.out.trans (hb2.mono HB.out.size)); clear hb2)
          | (go_at_call 22; (with_reducible refine (HI2.out _ HB.out).mono ?_); rintro e w2 ⟨rfl, hb2⟩; replace HB := Lib.hid (HB.out.trans (hb2.mono HB.out.size)); clear hb2)
          | (go_at_call 42; refine (node_any _ _ _).mono ?_; rintro e w2 ⟨rfl, hb2⟩; replace HB := Lib.hid (HB.out.trans (hb2.mono HB.out.size)); clear hb2))
        all_goals (go_wp2; go_ret)
        all_goals exact ⟨by rw [HE.out]; rfl, HB.out⟩
end Go.Proofs.Ytihiccccpjakgaa
