/-
  The path to a leaf, by the program.
-/
import Derived.Test.YtihiccccpjakgaaNRoot
namespace Go.Proofs.Ytihiccccpjakgaa
open Go.RowKit
theorem pathU_one (xs : List UInt64) (i : Nat) (h : xs.length = 1) : pathU xs i = [] := by unfold pathU; rw [pathM, dif_neg (by omega)]
theorem pathU_left (xs : List UInt64) (n i : Nat) (hn : n = xs.length) (h : 2 ≤ n) (hi : i < spl n) : pathU xs i = pathU (xs.take (spl n)) i ++ [rootU (xs.drop (spl n))] := by
  subst hn; unfold pathU; rw [pathM, dif_pos h, if_pos hi]
theorem pathU_right (xs : List UInt64) (n i : Nat) (hn : n = xs.length) (h : 2 ≤ n) (hi : ¬ i < spl n) : pathU xs i = pathU (xs.drop (spl n)) (i - spl n) ++ [rootU (xs.take (spl n))] := by
  subst hn; unfold pathU; rw [pathM, dif_pos h, if_neg hi]
theorem pathU_len (xs : List UInt64) (i : Nat) (h : xs.length ≤ 1000000) : (pathU xs i).length ≤ 1000000 :=
  Nat.le_trans (path_length 20 xs i (Nat.le_trans h (by decide))) (by decide)
attribute [local irreducible] accU fnv basis byteU beU hashU nodeU spl
set_option maxRecDepth 100000 in
set_option maxHeartbeats 1000000 in
theorem path_go (N : Nat) : ∀ (xs : List UInt64) (ad : Option Addr) (n cap i : Nat) (w : World), xs.length ≤ N → Lin w ad xs → n = xs.length → n ≤ 1000000 → n ≤ cap → cap ≤ maxLen → i < n →
    Calls Try.prog 44 #[.slice ad n cap, .int .i64 i] w (GivesN w (pathU xs i)) := by
  induction N with
  | zero => intro xs ad n cap i w hN hl hn hs hc hm hi; omega
  | succ N ih =>
    intro xs ad n cap i w hN hl hn hs hc hm hi
    unfold maxLen at hm
    have HN := Lib.hid hn
    by_cases h1 : n = 1
    · subst h1
      have HE := Lib.hid (pathU_one xs i hn.symm)
      clear hl hn hN hs ih HN
      go_enter Try.func44, Try.ntmps44
      go_wp2
      go_ret
      exact ⟨_, rfl, by rw [HE.out]; exact Onu.ofNil _ _, Below.refl _ _⟩
    · obtain ⟨b, off, rfl, hb, hcell⟩ := hl.get (by omega)
      have h2 : 2 ≤ n := by omega
      have hk1 := spl_lt h2
      have hk0 := spl_pos n
      have HEL := Lib.hid (pathU_left xs n i hn h2)
      have HER := Lib.hid (pathU_right xs n i hn h2)
      have HSP := Lib.hid (fun w => split_any n w h2 (by omega))
      obtain ⟨k, hk⟩ : ∃ k, k = spl n := ⟨_, rfl⟩
      rw [← hk] at hk1 hk0 HEL HER HSP
      have HL1 := Lib.hid (hl.take k)
      have HL2 := Lib.hid (hl.drop k)
      have HR1 : Hid (∀ W, Below w.heap.size w W → Calls Try.prog 22 #[.slice (some ⟨b, off, none⟩) k cap] W (GivesH W (rootU (xs.take k)))) := Lib.hid fun W hb => root_go _ (xs.take k) _ k cap W (Nat.le_refl _) (HL1.out.below hb rfl) (by rw [List.length_take]; omega) (by omega) (by omega) (by unfold maxLen; omega)
      have HR2 : Hid (∀ W, Below w.heap.size w W → Calls Try.prog 22 #[.slice (some ⟨b, off + k, none⟩) (n - k) (cap - k)] W (GivesH W (rootU (xs.drop k)))) := Lib.hid fun W hb => root_go _ (xs.drop k) _ (n - k) (cap - k) W (Nat.le_refl _) (HL2.out.below hb rfl) (by rw [List.length_drop]; omega) (by omega) (by omega) (by unfold maxLen; omega)
      have hck : ¬ cap = k := by omega
      have hck2 : cap - k ≠ 0 := by omega
      have hk3 : (k : Int) ≤ (n : Int) := by omega
      have hk4 : (k : Int) ≤ (cap : Int) := by omega
      have HB := Lib.hid (Below.refl w.heap.size w).drew
      have HW := Lib.hid (Nat.le_refl w.heap.size)
      have hn1 : ¬ (n : Int) = 1 := by omega
      by_cases hik : i < k
      · have HP : Hid (∀ W, Below w.heap.size w W → Calls Try.prog 44 #[.slice (some ⟨b, off, none⟩) k cap, .int .i64 i] W (GivesN W (pathU (xs.take k) i))) := Lib.hid fun W hb => ih (xs.take k) _ k cap i W (by rw [List.length_take]; omega) (HL1.out.below hb rfl) (by rw [List.length_take]; omega) (by omega) (by omega) (by unfold maxLen; omega) hik
        have HE := Lib.hid (HEL.out hik)
        have HLEN := Lib.hid (pathU_len (xs.take k) i (by rw [List.length_take]; omega))
        have hik2 : (i : Int) < (k : Int) := by omega
        generalize pathU (xs.take k) i = ps at HP HE HLEN
        generalize rootU (xs.drop k) = r at HR2 HE
        clear hl hn hN hs ih hcell HN hb hk HEL HER HR1 HL1 HL2
        go_enter Try.func44, Try.ntmps44
        go_wp2_with fail
        refine (HSP.out _).mono ?_
        rintro e w' ⟨rfl, rfl⟩
        go_wp2_with fail
        go_region_law (first
          | (refine step_append_n rfl (.tmp 19) (.tmp 24) rfl w.heap.size _ _ rfl (HO.out.alloc _) r _ _ rfl (cell_newN _ _) HLEN.out ?_ ?_; (simp; exact Nat.le_succ_of_le HB.out.size); intro v1 w1 ho1 hg1; have HB1 := Lib.hid ((HB.out.alloc HB.out.size _).grown hg1 (by simp; exact Nat.le_succ_of_le HB.out.size) (fun k hk => (HO.out.lt k hk).1)))
          | (refine step_append_n rfl (.tmp 19) (.tmp 24) rfl w.heap.size _ _ rfl HO.out r _ _ rfl HC.out HLEN.out HB.out.size ?_; intro v1 w1 ho1 hg1; have HB1 := Lib.hid (HB.out.grown hg1 HB.out.size (fun k hk => (HO.out.lt k hk).1)))
          | (go_simp; go_at_call 44; (with_reducible refine (HP.out _ HB.out).mono ?_); rintro e w2 ⟨v, rfl, ho, hb2⟩; have HO := Lib.hid (ho.mono HB.out.size); replace HB := Lib.hid (HB.out.trans (hb2.mono HB.out.size)); clear ho hb2)
          | (go_simp; go_at_call 44; (with_reducible refine (HP.out _ (HB.out.alloc HB.out.size _)).mono ?_); rintro e w2 ⟨v, rfl, ho, hb2⟩; have HO : Hid (Onu w2 w.heap.size v ps) := Lib.hid (ho.mono (HB.out.alloc HB.out.size _).size); have HC := Lib.hid ((hb2.cell (by simp)).trans (cell_newN _ r)); replace HB := Lib.hid ((HB.out.alloc HB.out.size _).trans (hb2.mono (HB.out.alloc HB.out.size _).size)); clear ho hb2)
          | (go_simp; go_at_call 22; (with_reducible refine (HR2.out _ HB.out).mono ?_); rintro e w2 ⟨rfl, hb2⟩; replace HO := Lib.hid (HO.out.below hb2); replace HB := Lib.hid (HB.out.trans (hb2.mono HB.out.size)); clear hb2)
          | (go_simp; go_at_call 22; (with_reducible refine (HR2.out _ HB.out).mono ?_); rintro e w2 ⟨rfl, hb2⟩; replace HB := Lib.hid (HB.out.trans (hb2.mono HB.out.size)); clear hb2))
        all_goals (go_wp2; go_ret)
        all_goals exact ⟨v1, rfl, by rw [HE.out]; exact ho1, HB1.out⟩
      · obtain ⟨j, hj⟩ : ∃ j, i = k + j := ⟨i - k, by omega⟩
        have HP : Hid (∀ W, Below w.heap.size w W → Calls Try.prog 44 #[.slice (some ⟨b, off + k, none⟩) (n - k) (cap - k), .int .i64 j] W (GivesN W (pathU (xs.drop k) j))) := Lib.hid fun W hb => ih (xs.drop k) _ (n - k) (cap - k) j W (by rw [List.length_drop]; omega) (HL2.out.below hb rfl) (by rw [List.length_drop]; omega) (by omega) (by omega) (by unfold maxLen; omega) (by omega)
        have HE := Lib.hid (HER.out hik)
        have HLEN := Lib.hid (pathU_len (xs.drop k) j (by rw [List.length_drop]; omega))
        have hik2 : (k : Int) ≤ (i : Int) := by omega
        have hij : (i : Int) - (k : Int) = (j : Int) := by omega
        have hjw : IntKind.i64.wrap (j : Int) = (j : Int) := by rw [IntKind.wrap_i64]; omega
        rw [show i - k = j by omega] at HE
        generalize pathU (xs.drop k) j = ps at HP HE HLEN
        generalize rootU (xs.take k) = r at HR1 HE
        clear hl hn hN hs ih hcell HN hb hk HEL HER HR2 HL1 HL2 hj
        go_enter Try.func44, Try.ntmps44
        go_wp2_with fail
        refine (HSP.out _).mono ?_
        rintro e w' ⟨rfl, rfl⟩
        go_wp2_with fail
        go_region_law (first
          | (refine step_append_n rfl (.tmp 32) (.tmp 37) rfl w.heap.size _ _ rfl (HO.out.alloc _) r _ _ rfl (cell_newN _ _) HLEN.out ?_ ?_; (simp; exact Nat.le_succ_of_le HB.out.size); intro v1 w1 ho1 hg1; have HB1 := Lib.hid ((HB.out.alloc HB.out.size _).grown hg1 (by simp; exact Nat.le_succ_of_le HB.out.size) (fun k hk => (HO.out.lt k hk).1)))
          | (refine step_append_n rfl (.tmp 32) (.tmp 37) rfl w.heap.size _ _ rfl HO.out r _ _ rfl HC.out HLEN.out HB.out.size ?_; intro v1 w1 ho1 hg1; have HB1 := Lib.hid (HB.out.grown hg1 HB.out.size (fun k hk => (HO.out.lt k hk).1)))
          | (go_simp; go_at_call 44; (with_reducible refine (HP.out _ HB.out).mono ?_); rintro e w2 ⟨v, rfl, ho, hb2⟩; have HO := Lib.hid (ho.mono HB.out.size); replace HB := Lib.hid (HB.out.trans (hb2.mono HB.out.size)); clear ho hb2)
          | (go_simp; go_at_call 44; (with_reducible refine (HP.out _ (HB.out.alloc HB.out.size _)).mono ?_); rintro e w2 ⟨v, rfl, ho, hb2⟩; have HO : Hid (Onu w2 w.heap.size v ps) := Lib.hid (ho.mono (HB.out.alloc HB.out.size _).size); have HC := Lib.hid ((hb2.cell (by simp)).trans (cell_newN _ r)); replace HB := Lib.hid ((HB.out.alloc HB.out.size _).trans (hb2.mono (HB.out.alloc HB.out.size _).size)); clear ho hb2)
          | (go_simp; go_at_call 22; (with_reducible refine (HR1.out _ HB.out).mono ?_); rintro e w2 ⟨rfl, hb2⟩; replace HO := Lib.hid (HO.out.below hb2); replace HB := Lib.hid (HB.out.trans (hb2.mono HB.out.size)); clear hb2)
          | (go_simp; go_at_call 22; (with_reducible refine (HR1.out _ HB.out).mono ?_); rintro e w2 ⟨rfl, hb2⟩; replace HB := Lib.hid (HB.out.trans (hb2.mono HB.out.size)); clear hb2))
        all_goals (go_wp2; go_ret)
        all_goals exact ⟨v1, rfl, by rw [HE.out]; exact ho1, HB1.out⟩
end Go.Proofs.Ytihiccccpjakgaa
