/-
  The link of a beginning, by the program.
-/
import Derived.Test.YtgnidlhijmageaaNRoot
namespace Go.Proofs.Ytgnidlhijmageaa
open Go.RowKit
theorem linkU_all (xs : List UInt64) (n m : Nat) (hn : n = xs.length) (h : m = n) : linkU xs m true = [] := by subst hn; unfold linkU; rw [linkM, if_pos h]; rfl
theorem linkU_root (xs : List UInt64) (n m : Nat) (hn : n = xs.length) (h : m = n) : linkU xs m false = [rootU xs] := by subst hn; unfold linkU; rw [linkM, if_pos h]; rfl
theorem linkU_left (xs : List UInt64) (n m : Nat) (f : Bool) (hn : n = xs.length) (h : 2 ≤ n) (hm : m ≠ n) (hi : m ≤ spl n) : linkU xs m f = linkU (xs.take (spl n)) m f ++ [rootU (xs.drop (spl n))] := by
  subst hn; unfold linkU; rw [linkM, if_neg hm, dif_pos h, if_pos hi]
theorem linkU_right (xs : List UInt64) (n m : Nat) (f : Bool) (hn : n = xs.length) (h : 2 ≤ n) (hm : m ≠ n) (hi : ¬ m ≤ spl n) : linkU xs m f = linkU (xs.drop (spl n)) (m - spl n) false ++ [rootU (xs.take (spl n))] := by
  subst hn; unfold linkU; rw [linkM, if_neg hm, dif_pos h, if_neg hi]
theorem link_length {α : Type} {nd : α → α → α} {e : α} (d : Nat) : ∀ (l : List α) (m : Nat) (f : Bool), l.length ≤ 2 ^ d → (linkM nd e l m f).length ≤ d + 1 := by
  induction d with
  | zero =>
    intro l m f h
    rw [linkM]
    split
    · split <;> simp
    · rw [dif_neg (by omega)]; simp
  | succ d ih =>
    intro l m f hl
    rw [linkM]
    split
    · split <;> simp
    · by_cases h : 2 ≤ l.length
      · rw [dif_pos h]
        have hs := spl_lt h
        have hh := spl_half h
        have hk : spl l.length ≤ 2 ^ d := by
          have h2 : 2 ^ Nat.log2 (l.length - 1) < 2 ^ (d + 1) := by unfold spl at hs; omega
          have h3 := (Nat.pow_lt_pow_iff_right (by omega : 1 < 2)).1 h2
          exact Nat.pow_le_pow_right (by omega) (by omega)
        split
        · have := ih (l.take (spl l.length)) m f (by rw [List.length_take]; omega)
          rw [List.length_append, List.length_singleton]; omega
        · have := ih (l.drop (spl l.length)) (m - spl l.length) false (by rw [List.length_drop]; omega)
          rw [List.length_append, List.length_singleton]; omega
      · rw [dif_neg h]; simp
theorem linkU_len (xs : List UInt64) (m : Nat) (f : Bool) (h : xs.length ≤ 1000000) : (linkU xs m f).length ≤ 1000000 :=
  Nat.le_trans (link_length 20 xs m f (Nat.le_trans h (by decide))) (by decide)
theorem onu_one (W : World) (y : UInt64) : Onu (W.alloc (.cells #[.int .u64 (gv y)] 23)) W.heap.size (.slice (some ⟨W.heap.size, 0, none⟩) 1 1) [y] := by
  refine ⟨rfl, .inr ⟨W.heap.size, 1, #[.int .u64 (gv y)], rfl, Nat.le_refl _, ?_, Nat.le_refl _, by decide, rfl, rfl⟩⟩
  show (W.heap.push _)[W.heap.size]? = _
  simp
attribute [local irreducible] accU fnv basis byteU beU hashU nodeU spl
set_option maxRecDepth 100000 in
set_option maxHeartbeats 2000000 in
theorem link_go (N : Nat) : ∀ (xs : List UInt64) (ad : Option Addr) (n cap m : Nat) (f : Bool) (w : World), xs.length ≤ N → Lin w ad xs → n = xs.length → n ≤ 1000000 → n ≤ cap → cap ≤ maxLen → 1 ≤ m → m ≤ n →
    Calls Try.prog 39 #[.slice ad n cap, .int .i64 m, .bool f] w (GivesN w (linkU xs m f)) := by
  induction N with
  | zero => intro xs ad n cap m f w hN hl hn hs hc hm hm1 hm2; omega
  | succ N ih =>
    intro xs ad n cap m f w hN hl hn hs hc hm hm1 hm2
    have HM := Lib.hid hm
    unfold maxLen at hm
    have HN := Lib.hid hn
    by_cases h1 : m = n
    · subst h1
      cases f with
      | true =>
        have HE := Lib.hid (linkU_all xs m m hn rfl)
        clear hl hn hN hs ih HN
        go_enter Try.func39, Try.ntmps39
        go_wp2
        go_ret
        exact ⟨_, rfl, by rw [HE.out]; exact Onu.ofNil _ _, Below.refl _ _⟩
      | false =>
        have HE := Lib.hid (linkU_root xs m m hn rfl)
        have HL := Lib.hid hl
        clear hl hn hN ih
        go_enter Try.func39, Try.ntmps39
        go_wp2_with fail
        refine (root_go _ xs ad m cap _ (Nat.le_refl _) HL.out HN.out hs hc HM.out).mono ?_
        rintro e w2 ⟨rfl, hb2⟩
        have HB := Lib.hid hb2
        generalize rootU xs = r at HE ⊢
        clear hb2
        go_wp2
        go_ret
        exact ⟨_, rfl, by rw [HE.out]; exact (onu_one _ r).mono HB.out.size, HB.out.alloc HB.out.size _⟩
    · obtain ⟨b, off, rfl, hb, hcell⟩ := hl.get (by omega)
      have h2 : 2 ≤ n := by omega
      have hk1 := spl_lt h2
      have hk0 := spl_pos n
      have HEL := Lib.hid (linkU_left xs n m f hn h2 h1)
      have HER := Lib.hid (linkU_right xs n m f hn h2 h1)
      have HSP := Lib.hid (fun w => split_any n w h2 (by omega))
      obtain ⟨k, hk⟩ : ∃ k, k = spl n := ⟨_, rfl⟩
      rw [← hk] at hk1 hk0 HEL HER HSP
      have HL1 := Lib.hid (hl.take k)
      have HL2 := Lib.hid (hl.drop k)
      have HR1 : Hid (∀ W, Below w.heap.size w W → Calls Try.prog 18 #[.slice (some ⟨b, off, none⟩) k cap] W (GivesH W (rootU (xs.take k)))) := Lib.hid fun W hb => root_go _ (xs.take k) _ k cap W (Nat.le_refl _) (HL1.out.below hb rfl) (by rw [List.length_take]; omega) (by omega) (by omega) (by unfold maxLen; omega)
      have HR2 : Hid (∀ W, Below w.heap.size w W → Calls Try.prog 18 #[.slice (some ⟨b, off + k, none⟩) (n - k) (cap - k)] W (GivesH W (rootU (xs.drop k)))) := Lib.hid fun W hb => root_go _ (xs.drop k) _ (n - k) (cap - k) W (Nat.le_refl _) (HL2.out.below hb rfl) (by rw [List.length_drop]; omega) (by omega) (by omega) (by unfold maxLen; omega)
      have hck : ¬ cap = k := by omega
      have hck2 : cap - k ≠ 0 := by omega
      have hk3 : (k : Int) ≤ (n : Int) := by omega
      have hk4 : (k : Int) ≤ (cap : Int) := by omega
      have HB := Lib.hid (Below.refl w.heap.size w).drew
      have HW := Lib.hid (Nat.le_refl w.heap.size)
      have hn1 : ¬ (m : Int) = (n : Int) := by omega
      by_cases hik : m ≤ k
      · have HP : Hid (∀ W, Below w.heap.size w W → Calls Try.prog 39 #[.slice (some ⟨b, off, none⟩) k cap, .int .i64 m, .bool f] W (GivesN W (linkU (xs.take k) m f))) := Lib.hid fun W hb => ih (xs.take k) _ k cap m f W (by rw [List.length_take]; omega) (HL1.out.below hb rfl) (by rw [List.length_take]; omega) (by omega) (by omega) (by unfold maxLen; omega) hm1 hik
        have HE := Lib.hid (HEL.out hik)
        have HLEN := Lib.hid (linkU_len (xs.take k) m f (by rw [List.length_take]; omega))
        have hik2 : (m : Int) ≤ (k : Int) := by omega
        generalize linkU (xs.take k) m f = ps at HP HE HLEN
        generalize rootU (xs.drop k) = r at HR2 HE
        clear hl hn hN hs ih hcell HN hb hk HEL HER HR1 HL1 HL2
        go_enter Try.func39, Try.ntmps39
        go_wp2_with fail
        refine (HSP.out _).mono ?_
        rintro e w' ⟨rfl, rfl⟩
        go_wp2_with fail
        go_region_law (first
          | (refine step_append_n rfl (.tmp 27) (.tmp 32) rfl w.heap.size _ _ rfl (HO.out.alloc _) r _ _ rfl (cell_newN _ _) HLEN.out ?_ ?_; (simp; exact Nat.le_succ_of_le HB.out.size); intro v1 w1 ho1 hg1; have HB1 := Lib.hid ((HB.out.alloc HB.out.size _).grown hg1 (by simp; exact Nat.le_succ_of_le HB.out.size) (fun k hk => (HO.out.lt k hk).1)))
          | (refine step_append_n rfl (.tmp 27) (.tmp 32) rfl w.heap.size _ _ rfl HO.out r _ _ rfl HC.out HLEN.out HB.out.size ?_; intro v1 w1 ho1 hg1; have HB1 := Lib.hid (HB.out.grown hg1 HB.out.size (fun k hk => (HO.out.lt k hk).1)))
          | (go_simp; go_at_call 39; (with_reducible refine (HP.out _ HB.out).mono ?_); rintro e w2 ⟨v, rfl, ho, hb2⟩; have HO := Lib.hid (ho.mono HB.out.size); replace HB := Lib.hid (HB.out.trans (hb2.mono HB.out.size)); clear ho hb2)
          | (go_simp; go_at_call 39; (with_reducible refine (HP.out _ (HB.out.alloc HB.out.size _)).mono ?_); rintro e w2 ⟨v, rfl, ho, hb2⟩; have HO : Hid (Onu w2 w.heap.size v ps) := Lib.hid (ho.mono (HB.out.alloc HB.out.size _).size); have HC := Lib.hid ((hb2.cell (by simp)).trans (cell_newN _ r)); replace HB := Lib.hid ((HB.out.alloc HB.out.size _).trans (hb2.mono (HB.out.alloc HB.out.size _).size)); clear ho hb2)
          | (go_simp; go_at_call 18; (with_reducible refine (HR2.out _ HB.out).mono ?_); rintro e w2 ⟨rfl, hb2⟩; replace HO := Lib.hid (HO.out.below hb2); replace HB := Lib.hid (HB.out.trans (hb2.mono HB.out.size)); clear hb2)
          | (go_simp; go_at_call 18; (with_reducible refine (HR2.out _ HB.out).mono ?_); rintro e w2 ⟨rfl, hb2⟩; replace HB := Lib.hid (HB.out.trans (hb2.mono HB.out.size)); clear hb2))
        all_goals (go_wp2; go_ret)
        all_goals exact ⟨v1, rfl, by rw [HE.out]; exact ho1, HB1.out⟩
      · obtain ⟨j, hj⟩ : ∃ j, m = k + j := ⟨m - k, by omega⟩
        have HP : Hid (∀ W, Below w.heap.size w W → Calls Try.prog 39 #[.slice (some ⟨b, off + k, none⟩) (n - k) (cap - k), .int .i64 j, .bool false] W (GivesN W (linkU (xs.drop k) j false))) := Lib.hid fun W hb => ih (xs.drop k) _ (n - k) (cap - k) j false W (by rw [List.length_drop]; omega) (HL2.out.below hb rfl) (by rw [List.length_drop]; omega) (by omega) (by omega) (by unfold maxLen; omega) (by omega) (by omega)
        have HE := Lib.hid (HER.out hik)
        have HLEN := Lib.hid (linkU_len (xs.drop k) j false (by rw [List.length_drop]; omega))
        have hik2 : (k : Int) < (m : Int) := by omega
        have hij : (m : Int) - (k : Int) = (j : Int) := by omega
        have hjw : IntKind.i64.wrap (j : Int) = (j : Int) := by rw [IntKind.wrap_i64]; omega
        rw [show m - k = j by omega] at HE
        generalize linkU (xs.drop k) j false = ps at HP HE HLEN
        generalize rootU (xs.take k) = r at HR1 HE
        clear hl hn hN hs ih hcell HN hb hk HEL HER HR2 HL1 HL2 hj
        go_enter Try.func39, Try.ntmps39
        go_wp2_with fail
        refine (HSP.out _).mono ?_
        rintro e w' ⟨rfl, rfl⟩
        go_wp2_with fail
        go_region_law (first
          | (refine step_append_n rfl (.tmp 40) (.tmp 45) rfl w.heap.size _ _ rfl (HO.out.alloc _) r _ _ rfl (cell_newN _ _) HLEN.out ?_ ?_; (simp; exact Nat.le_succ_of_le HB.out.size); intro v1 w1 ho1 hg1; have HB1 := Lib.hid ((HB.out.alloc HB.out.size _).grown hg1 (by simp; exact Nat.le_succ_of_le HB.out.size) (fun k hk => (HO.out.lt k hk).1)))
          | (refine step_append_n rfl (.tmp 40) (.tmp 45) rfl w.heap.size _ _ rfl HO.out r _ _ rfl HC.out HLEN.out HB.out.size ?_; intro v1 w1 ho1 hg1; have HB1 := Lib.hid (HB.out.grown hg1 HB.out.size (fun k hk => (HO.out.lt k hk).1)))
          | (go_simp; go_at_call 39; (with_reducible refine (HP.out _ HB.out).mono ?_); rintro e w2 ⟨v, rfl, ho, hb2⟩; have HO := Lib.hid (ho.mono HB.out.size); replace HB := Lib.hid (HB.out.trans (hb2.mono HB.out.size)); clear ho hb2)
          | (go_simp; go_at_call 39; (with_reducible refine (HP.out _ (HB.out.alloc HB.out.size _)).mono ?_); rintro e w2 ⟨v, rfl, ho, hb2⟩; have HO : Hid (Onu w2 w.heap.size v ps) := Lib.hid (ho.mono (HB.out.alloc HB.out.size _).size); have HC := Lib.hid ((hb2.cell (by simp)).trans (cell_newN _ r)); replace HB := Lib.hid ((HB.out.alloc HB.out.size _).trans (hb2.mono (HB.out.alloc HB.out.size _).size)); clear ho hb2)
          | (go_simp; go_at_call 18; (with_reducible refine (HR1.out _ HB.out).mono ?_); rintro e w2 ⟨rfl, hb2⟩; replace HO := Lib.hid (HO.out.below hb2); replace HB := Lib.hid (HB.out.trans (hb2.mono HB.out.size)); clear hb2)
          | (go_simp; go_at_call 18; (with_reducible refine (HR1.out _ HB.out).mono ?_); rintro e w2 ⟨rfl, hb2⟩; replace HB := Lib.hid (HB.out.trans (hb2.mono HB.out.size)); clear hb2))
        all_goals (go_wp2; go_ret)
        all_goals exact ⟨v1, rfl, by rw [HE.out]; exact ho1, HB1.out⟩
end Go.Proofs.Ytgnidlhijmageaa
