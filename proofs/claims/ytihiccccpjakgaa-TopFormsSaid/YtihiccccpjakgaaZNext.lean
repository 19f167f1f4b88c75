/-
  The program's next: a token at an offset.
-/
import Derived.Test.YtihiccccpjakgaaZNextC
namespace Go.Proofs.Ytihiccccpjakgaa
open Go.RowKit
set_option linter.unusedVariables false
set_option linter.unusedSimpArgs false
set_option maxRecDepth 100000 in
set_option maxHeartbeats 1000000 in
theorem lznext_any (ad : Option Addr) (cap : Nat) (xs : List UInt8) (k before room : Nat) (w : World) (hl : Lie w ad xs) (hn : xs.length ≤ cap) (hs : xs.length ≤ 1000000) (ha : ad = none → cap = 0) (hk : k ≤ xs.length) (hb : before ≤ 1000000) (hr : room ≤ 1000000) :
    Calls Try.prog 47 #[.slice ad xs.length cap, .int .i64 k, .int .i64 before, .int .i64 room] w fun e w' => NxV ad xs k (nx (xs.drop k) before room) e ∧ Below w.heap.size w w' := by
  unfold nx
  have hu := uR_in xs k hk
  have hbd := dec_bounds (xs.drop k)
  have hc := fun W (h : Lie W ad xs) => uint_any ad cap xs k W h hn hs ha
  have hnl := fun (W : World) (hd n : Nat) (h : Lie W ad xs) (h1 : k + hd ≤ xs.length) (h2 : 0 < n) => nextl_any ad cap xs k hd n room W h hn hs ha h1 h2 hr
  have hnc := fun (W : World) (hd n : Nat) (h : Lie W ad xs) (h1 : k + hd ≤ xs.length) (h2 : n < 9223372036854775808) => nextc_any ad cap xs k hd n before room W h hn hs ha h1 hb hr h2
  obtain ⟨q, hq⟩ : ∃ q, q = dec 0 0 (xs.drop k) := ⟨_, rfl⟩
  rw [← hq] at hu hbd ⊢
  obtain ⟨v, m, er⟩ := q
  rw [hu] at hc
  dsimp only at hbd hc ⊢
  have hl0 : Lie (w.alloc (.cells #[.int .i64 0, .int .i64 0, .slice none 0 0] 55)) ad xs := hl.below ((Below.refl _ _).alloc (Nat.le_refl _) _) rfl
  have HL := Lib.hid hl0
  have HC := Lib.hid hc
  have HQ := Lib.hid hq
  have HBD := Lib.hid hbd
  have HNL := Lib.hid hnl
  have HNC := Lib.hid hnc
  clear hq hc hl hl0 hu hbd ha hnl hnc
  by_cases h1 : er ≠ 0
  · rw [if_pos h1]
    have h1' : ((er : Int) == 0) = false := by rw [beq_eq_false_iff_ne]; omega
    have h1'' : endOf k (v, m, er) = 0 := if_neg h1
    have HE := Lib.hid h1
    clear h1
    go_enter Try.func47, Try.ntmps47
    go_wp2_with fail
    refine (HC.out _ HL.out).mono ?_
    rintro e w' ⟨rfl, rfl⟩
    go_wp2
    refine post_cell3 rfl rfl (heap_new _ _) Try.underlying55 rfl sizeTok rfl rfl rfl ⟨NxV.err HE.out, (Below.refl _ _).alloc (Nat.le_refl _) _⟩
  rw [if_neg h1]
  obtain rfl : er = 0 := by omega
  obtain ⟨hm0, hm, hd64⟩ := HBD.out rfl
  rw [List.length_drop] at hm
  have hend : endOf k (v, m, 0) = (k : Int) + m := by unfold endOf; rw [if_pos rfl]; push_cast; rfl
  rw [hend] at HC
  clear hend h1
  have hdiv : (v : Int) / 2 = ((v / 2 : Nat) : Int) := by omega
  have hmod : (v : Int) % 2 = ((v % 2 : Nat) : Int) := by omega
  obtain ⟨n, hnv⟩ : ∃ n, v / 2 = n := ⟨_, rfl⟩
  obtain ⟨p, hpv⟩ : ∃ p, v % 2 = p := ⟨_, rfl⟩
  have hn63 : n < 9223372036854775808 := by omega
  have hp2 : p < 2 := by omega
  rw [hnv] at hdiv ⊢
  rw [hpv] at hmod ⊢
  clear hnv hpv
  by_cases h2 : n = 0
  · rw [if_pos h2]
    subst h2
    go_enter Try.func47, Try.ntmps47
    go_wp2_with fail
    refine (HC.out _ HL.out).mono ?_
    rintro e w' ⟨rfl, rfl⟩
    go_wp2
    refine post_cell3 rfl rfl (heap_new _ _) Try.underlying55 rfl sizeTok rfl rfl rfl ⟨NxV.err (by decide), (Below.refl _ _).alloc (Nat.le_refl _) _⟩
  rw [if_neg h2]
  have h5 : ((n : Int) == 0) = false := by rw [beq_eq_false_iff_ne]; omega
  by_cases h3 : p = 0
  · rw [if_pos h3]
    subst h3
    go_enter Try.func47, Try.ntmps47
    go_wp2_with fail
    refine (HC.out _ HL.out).mono ?_
    rintro e w' ⟨rfl, rfl⟩
    go_wp2_with fail
    refine (HNL.out _ m n HL.out (by omega) (by omega)).mono ?_
    rintro e w2 ⟨hv, hb2⟩
    obtain ⟨X, hX⟩ : ∃ X, nxl (xs.drop k) m n room = X := ⟨_, rfl⟩
    rw [hX] at hv
    have HX := Lib.hid hX
    clear hX
    obtain ⟨lad, ln, lc, rfl, hv1, hv2⟩ := hv
    have hg : w2.heap[w.heap.size]? = some (.cells #[.int .i64 0, .int .i64 0, .slice none 0 0] 55 (0, 0)) := (hb2.block _ (by simp)).trans (heap_new _ _)
    have HV1 := Lib.hid hv1
    have HV2 := Lib.hid hv2
    have HB2 := Lib.hid (Below.trans ((Below.refl _ w).alloc (Nat.le_refl _) _) (hb2.mono (Nat.le_of_lt (by simp))))
    clear hv1 hv2 hb2
    go_wp2_with (with_reducible refine wpList_store_tok rfl (.tmp 8) (.tmp 40) rfl w.heap.size rfl X.n X.d lad ln lc rfl _ _ _ hg ?_)
    refine post_cell3 (cs := #[.int .i64 X.n, .int .i64 X.d, .slice lad ln lc]) rfl rfl (setRow_heap _ _ _ _ _ _ hg) Try.underlying55 rfl sizeTok rfl rfl rfl ⟨?_, below_set HB2.out (Nat.le_refl _) _⟩
    rw [HX.out]
    exact ⟨lad, ln, lc, rfl, HV1.out, HV2.out⟩
  · rw [if_neg h3]
    obtain rfl : p = 1 := by omega
    clear h3
    go_enter Try.func47, Try.ntmps47
    go_wp2_with fail
    refine (HC.out _ HL.out).mono ?_
    rintro e w' ⟨rfl, rfl⟩
    go_wp2_with fail
    refine (HNC.out _ m n HL.out (by omega) hn63).mono ?_
    rintro e w2 ⟨hv, hb2⟩
    obtain ⟨X, hX⟩ : ∃ X, nxc (xs.drop k) m n before room = X := ⟨_, rfl⟩
    rw [hX] at hv
    have HX := Lib.hid hX
    clear hX
    obtain ⟨lad, ln, lc, rfl, hv1, hv2⟩ := hv
    have hg : w2.heap[w.heap.size]? = some (.cells #[.int .i64 0, .int .i64 0, .slice none 0 0] 55 (0, 0)) := (hb2.block _ (by simp)).trans (heap_new _ _)
    have HV1 := Lib.hid hv1
    have HV2 := Lib.hid hv2
    have HB2 := Lib.hid (Below.trans ((Below.refl _ w).alloc (Nat.le_refl _) _) (hb2.mono (Nat.le_of_lt (by simp))))
    clear hv1 hv2 hb2
    go_wp2_with (with_reducible refine wpList_store_tok rfl (.tmp 8) (.tmp 49) rfl w.heap.size rfl X.n X.d lad ln lc rfl _ _ _ hg ?_)
    refine post_cell3 (cs := #[.int .i64 X.n, .int .i64 X.d, .slice lad ln lc]) rfl rfl (setRow_heap _ _ _ _ _ _ hg) Try.underlying55 rfl sizeTok rfl rfl rfl ⟨?_, below_set HB2.out (Nat.le_refl _) _⟩
    rw [HX.out]
    exact ⟨lad, ln, lc, rfl, HV1.out, HV2.out⟩
end Go.Proofs.Ytihiccccpjakgaa
