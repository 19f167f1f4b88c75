/-
  The rows of the generator matrix of the chosen shards, by the law.
-/
import Derived.Test.YtinfjidclkgfnaaETop
import Derived.Test.YtinfjidclkgfnaaHCau
namespace Go.Proofs.Ytinfjidclkgfnaa
open Go.RowKit
attribute [local irreducible] cauL idL encL rowsL knownL matL
theorem encL_low (k p i : Nat) (h : i < (encL k p).length) (h2 : i < (idL k).length) : (encL k p)[i] = (idL k)[i] := by
  have gen : ∀ (l : List (List UInt8)) (h : i < l.length), l = idL k ++ cauL p k → l[i] = (idL k)[i] := fun l h e => by
    subst e
    exact List.getElem_append_left h2
  exact gen _ h (by unfold encL; rfl)
theorem encL_high (k p i t : Nat) (h : i < (encL k p).length) (h2 : t < (cauL p k).length) (hi : i = (idL k).length + t) : (encL k p)[i] = (cauL p k)[t] := by
  have gen : ∀ (l : List (List UInt8)) (h : i < l.length), l = idL k ++ cauL p k → l[i] = (cauL p k)[t] := fun l h e => by
    subst e
    rw [List.getElem_append_right (by omega)]
    congr 1
    omega
  exact gen _ h (by unfold encL; rfl)
set_option maxRecDepth 100000 in
set_option maxHeartbeats 2000000 in
theorem generator_any (ad hd : Option Addr) (n cap hc k q : Nat) (ls : List (List UInt8)) (hs : List Bool) (w : World) (hl : Lr w ad ls) (hn : n = ls.length) (hb : LieB w hd hs) (hh : n = hs.length) (hk : 1 ≤ k) (hk8 : k ≤ 8) (hq : 1 ≤ q) (hq8 : q ≤ 8) (hnk : n = k + q) :
    Calls Try.prog 28 #[.slice ad n cap, .slice hd n hc, .int .i64 k, .int .i64 q] w fun e w' => ∃ v1 v2, e = .returned (.tuple #[v1, v2]) ∧ Lq w' w.heap.size 0 v1 (rowsL k q hs) ∧ Lq w' w.heap.size 0 v2 (knownL k ls hs) ∧ Below w.heap.size w w' := by
  have hn16 : n ≤ 16 := by omega
  have HL := Lib.hid hl
  have HN := Lib.hid hn
  have HH := Lib.hid hh
  have HB := Lib.hid hb
  have HEL : Hid ((encL k q).length = n) := Lib.hid (by rw [encL_length]; omega)
  have HER := Lib.hid (encL_row k q)
  have HIL : Hid ((idL k).length = k) := Lib.hid (idL_length k)
  have HCL : Hid ((cauL q k).length = q) := Lib.hid (cauL_length q k)
  have HRE : Hid (∀ i, i ≤ n → (i = n ∨ k ≤ ((pick ((encL k q).take i) (hs.take i)).take k).length) → (pick ((encL k q).take i) (hs.take i)).take k = rowsL k q hs) := Lib.hid fun i hi h => by
    rw [pick_all (encL k q) hs k i (by rw [HEL.out]; exact hh) (by omega) (by rcases h with h | h <;> omega)]
    unfold rowsL; rfl
  have HKE : Hid (∀ i, i ≤ n → (i = n ∨ k ≤ ((pick ((encL k q).take i) (hs.take i)).take k).length) → (pick (ls.take i) (hs.take i)).take k = knownL k ls hs) := Lib.hid fun i hi h => by
    have hlen : ((pick ((encL k q).take i) (hs.take i)).take k).length = ((pick (ls.take i) (hs.take i)).take k).length := by rw [pick_len _ _ _ _ (by rw [HEL.out]; exact hh), pick_len _ _ _ _ (by omega)]
    rw [pick_all ls hs k i (by omega) (by omega) (by rcases h with h | h <;> omega)]
    unfold knownL; rfl
  have HCN : Hid (∀ i, ((pick ((encL k q).take i) (hs.take i)).take k).length = min k ((hs.take i).count true)) := Lib.hid fun i => pick_len _ _ _ _ (by rw [HEL.out]; exact hh)
  clear hl hn hb hh
  go_enter Try.func28, Try.ntmps28
  go_wp2_with fail
  refine (ident_any (k : Int) w (by omega) (by omega)).mono ?_
  rintro e w1 ⟨-, hI⟩
  obtain ⟨g1, rfl, hO1, hb1⟩ := hI ⟨by omega, by omega⟩
  rw [Int.toNat_natCast] at hO1 ⊢
  have HI1 := Lib.hid hO1.lr
  have HB1 := Lib.hid hb1
  clear hI hO1 hb1
  go_wp2_with fail
  refine (cauchy_any (q : Int) (k : Int) w1 (by omega) (by omega) (by omega) (by omega)).mono ?_
  rintro e w2 ⟨-, hC⟩
  obtain ⟨g2, rfl, hO2, hb2⟩ := hC ⟨by omega, by omega, by omega⟩
  rw [Int.toNat_natCast, Int.toNat_natCast] at hO2
  rw [Int.toNat_natCast]
  have HC2 := Lib.hid hO2.lr
  have HI2 := Lib.hid (HI1.out.below hb2)
  have HB2 := Lib.hid (HB1.out.trans (hb2.mono HB1.out.size))
  have HL2 := Lib.hid (HL.out.below HB2.out)
  have HH2 := Lib.hid (HB.out.below HB2.out)
  clear hC hO2 hb2 HI1 HB1 HL HB
  go_wp2_with fail
  go_loopg [13, 14, 15] n (fun gk vf vk vi wx => ∃ i : Nat, vi = .int .i64 i ∧ i + gk = n ∧ Hid (Lo wx w2 w2.heap.size vf ((pick ((encL k q).take i) (hs.take i)).take k)) ∧ Hid (Lo wx w2 w2.heap.size vk ((pick (ls.take i) (hs.take i)).take k)) ∧ Hid (∀ g, vf.ownBlock = some g → vk.ownBlock ≠ some g) ∧ Hid (Below w2.heap.size w2 wx))
  case atStart => exact ⟨0, rfl, by omega, Lib.hid (by rw [List.take_zero, List.take_zero, pick_nil, List.take_nil]; exact Lo.nil _ _ _), Lib.hid (by rw [List.take_zero, List.take_zero, pick_nil, List.take_nil]; exact Lo.nil _ _ _), Lib.hid (fun g h => by cases h), Lib.hid (Below.refl _ _)⟩
  case round =>
    obtain ⟨i, rfl, hi, hF, hK, hne, hB⟩ := hrel
    have hend : (i = n ∨ k ≤ ((pick ((encL k q).take i) (hs.take i)).take k).length) → ∃ v1 v2, Value.tuple #[u13, u14] = .tuple #[v1, v2] ∧ Lq wr w.heap.size 0 v1 (rowsL k q hs) ∧ Lq wr w.heap.size 0 v2 (knownL k ls hs) ∧ Below w.heap.size w wr := fun h => by
      have hF1 := hF.out.lq hB.out (Nat.le_refl _)
      have hK1 := hK.out.lq hB.out (Nat.le_refl _)
      rw [HRE.out i (by omega) h] at hF1
      rw [HKE.out i (by omega) h] at hK1
      exact ⟨_, _, rfl, hF1.mono HB2.out.size (Nat.le_refl _), hK1.mono HB2.out.size (Nat.le_refl _), HB2.out.trans (hB.out.mono HB2.out.size)⟩
    have HEND := Lib.hid hend
    clear hend
    obtain ⟨adf, capf, e13⟩ := hF.out.slice
    have HCI := Lib.hid (HCN.out i)
    obtain ⟨C, hC⟩ : ∃ C, C = ((pick ((encL k q).take i) (hs.take i)).take k).length := ⟨_, rfl⟩
    rw [← hC] at e13 HEND HCI
    subst e13
    have hC8 : C ≤ k := by rw [HCI.out]; exact Nat.min_le_left _ _
    clear hC
    cases gk with
    | zero =>
      have hlt : ¬ (i : Int) < (n : Int) := by omega
      have HR := Lib.hid (HEND.out (.inl (by omega)))
      go_wp2
      go_ret2
      obtain ⟨v1, v2, e, h⟩ := HR.out
      exact ⟨v1, v2, congrArg Ending.returned e, h⟩
    | succ gk0 =>
      have hlt : (i : Int) < (n : Int) := by omega
      by_cases hCk : C < k
      rotate_left
      · have hlt2 : ¬ (C : Int) < (k : Int) := by omega
        have HR := Lib.hid (HEND.out (.inr (by omega)))
        go_wp2
        go_ret2
        obtain ⟨v1, v2, e, h⟩ := HR.out
        exact ⟨v1, v2, congrArg Ending.returned e, h⟩
      have hlt2 : (C : Int) < (k : Int) := by omega
      have hcc : (hs.take i).count true < k := by have := HCI.out; omega
      have hiN : i < n := by omega
      have hih : i < hs.length := by have := HH.out; omega
      have hil : i < ls.length := by have := HN.out; omega
      have hie : i < (encL k q).length := by rw [HEL.out]; exact hiN
      obtain ⟨b0, off0, rfl, hb0, f0⟩ := HH2.out.at_ i hih
      have f1 : wr.cell? ⟨b0, off0 + i, none⟩ = some (.bool (hs[i])) := (hB.out.cell (p := ⟨b0, off0 + i, none⟩) hb0).trans f0
      obtain ⟨b1, off1, rfl, hbl1, a1, c1, f2, l1, gg1, m1, h1⟩ := HL2.out.row i hil
      rcases hx : hs[i] with _ | _
      · rw [hx] at f1
        have HF : Hid (Lo wr w2 w2.heap.size (.slice adf C capf) ((pick ((encL k q).take (i + 1)) (hs.take (i + 1))).take k)) := Lib.hid (by rw [take_pick_pass (encL k q) hs k i hie hih (.inl hx)]; exact hF.out)
        have HK : Hid (Lo wr w2 w2.heap.size u14 ((pick (ls.take (i + 1)) (hs.take (i + 1))).take k)) := Lib.hid (by rw [take_pick_pass ls hs k i hil hih (.inl hx)]; exact hK.out)
        clear f0 f2 l1 gg1 m1 h1 hx hih hil hie hF hK HEND HCI hcc
        go_wp2
        go_roundg gk0
        case rel => exact ⟨i + 1, by go_num, by omega, HF, HK, hne, hB⟩
        case measure => omega
      · rw [hx] at f1
        have HPF := Lib.hid (take_pick_put (encL k q) hs k i hie hih hx hcc)
        have HPK := Lib.hid (take_pick_put ls hs k i hil hih hx hcc)
        have HG1 : Hid ((ls[i]).length ≤ c1 ∧ c1 ≤ maxLen ∧ (a1 = none → c1 = 0) ∧ Lie w2 a1 (ls[i])) := Lib.hid ⟨gg1, m1, h1, l1⟩
        have HBF : Hid (∀ wx, Below w2.heap.size w2 wx → wx.cell? ⟨b1, off1 + i, none⟩ = some (.slice a1 (ls[i]).length c1)) := Lib.hid fun wx hb => (hb.cell (p := ⟨b1, off1 + i, none⟩) hbl1).trans f2
        obtain ⟨N, hN⟩ : ∃ N, N = (ls[i]).length := ⟨_, rfl⟩
        rw [← hN] at HBF HG1
        have HNN := Lib.hid hN
        have HTF := Lib.hid (take_pick_len (encL k q) hs k i)
        have HTK := Lib.hid (take_pick_len ls hs k i)
        -- the row of the generator matrix
        have hrow : ∃ bb oo aa cc, (if i < k then (bb = g1 ∧ oo = i) else (bb = g2 ∧ oo = i - k)) ∧ bb < w2.heap.size ∧ w2.cell? ⟨bb, oo, none⟩ = some (.slice aa k cc) ∧ Lie w2 aa ((encL k q)[i]) ∧ k ≤ cc ∧ cc ≤ maxLen ∧ (aa = none → cc = 0) := by
          have hrl : ((encL k q)[i]).length = k := HER.out _ (List.getElem_mem hie)
          by_cases hik : i < k
          · have h2 : i < (idL k).length := by rw [HIL.out]; exact hik
            obtain ⟨bb, oo, e, hb, aa, cc, f, l, g, m, h⟩ := HI2.out.row i h2
            cases e
            rw [← encL_low k q i hie h2, hrl, Nat.zero_add] at f
            rw [← encL_low k q i hie h2] at l g
            rw [hrl] at g
            exact ⟨g1, i, aa, cc, by rw [if_pos hik]; exact ⟨rfl, rfl⟩, hb, f, l, g, m, h⟩
          · have h2 : i - k < (cauL q k).length := by rw [HCL.out]; omega
            have he : (encL k q)[i] = (cauL q k)[i - k] := encL_high k q i (i - k) hie h2 (by rw [HIL.out]; omega)
            obtain ⟨bb, oo, e, hb, aa, cc, f, l, g, m, h⟩ := HC2.out.row (i - k) h2
            cases e
            rw [← he, hrl, Nat.zero_add] at f
            rw [← he] at l g
            rw [hrl] at g
            exact ⟨g2, i - k, aa, cc, by rw [if_neg hik]; exact ⟨rfl, rfl⟩, hb, f, l, g, m, h⟩
        obtain ⟨bb, oo, a2, c2, hbo, hbb, f3, l2, gg2, m2, h2⟩ := hrow
        have f4 : wr.cell? ⟨bb, oo, none⟩ = some (.slice a2 k c2) := (hB.out.cell (p := ⟨bb, oo, none⟩) hbb).trans f3
        have HG2 : Hid (k ≤ c2 ∧ c2 ≤ maxLen ∧ (a2 = none → c2 = 0) ∧ Lie w2 a2 ((encL k q)[i])) := Lib.hid ⟨gg2, m2, h2, l2⟩
        have HRW : Hid (k = ((encL k q)[i]).length) := Lib.hid (HER.out _ (List.getElem_mem hie)).symm
        generalize ls[i] = sh at HPK HG1 HNN
        generalize (encL k q)[i] = row at HPF HG2 HRW
        obtain ⟨W0, HW0⟩ : ∃ W0 : World, Hid (W0 = wr) := ⟨_, Lib.hid rfl⟩
        have HF0 : Hid (Lo W0 w2 w2.heap.size (.slice adf C capf) ((pick ((encL k q).take i) (hs.take i)).take k)) := Lib.hid (by rw [HW0.out]; exact hF.out)
        have HK0 : Hid (Lo W0 w2 w2.heap.size u14 ((pick (ls.take i) (hs.take i)).take k)) := Lib.hid (by rw [HW0.out]; exact hK.out)
        have HB0 : Hid (Below w2.heap.size w2 W0) := Lib.hid (by rw [HW0.out]; exact hB.out)
        have HA1 : Hid (Below W0.heap.size W0 (wr.alloc (.cells #[.slice a2 k c2] 33))) := Lib.hid (by rw [HW0.out]; exact (Below.refl wr.heap.size wr).alloc (Nat.le_refl _) _)
        have HF1 := Lib.hid (HF0.out.below HA1.out)
        have HK1 := Lib.hid (HK0.out.below HA1.out)
        have HB1 := Lib.hid (HB0.out.trans (HA1.out.mono HB0.out.size))
        have HZ1 := Lib.hid HB1.out.size
        clear f0 f2 f3 l1 gg1 m1 h1 l2 gg2 m2 h2 hx hih hil hie hF hK hN HEND HCI hcc
        by_cases hik : i < k
        · rw [if_pos hik] at hbo
          obtain ⟨rfl, rfl⟩ := hbo
          have hik2 : (oo : Int) < (k : Int) := by omega
          go_wp2_with (first
            | (at_builtin; refine wpList_append_o rfl (.tmp 56) (.tmp 61) rfl w2 w2.heap.size (.slice adf C capf) _ rfl HF1.out _ rfl a2 k c2 row HRW.out (cell_one_at _ _ _ _ (by simp)) HG2.out.2.2.2 HG2.out.1 HG2.out.2.1 HG2.out.2.2.1 (by have := HTF.out; omega) HZ1.out ?_; intro v5 w5 ho5 hg5 hat5; rw [← HPF.out] at ho5; have HO5 := Lib.hid ho5; have HB5 := Lib.hid (HF1.out.grow HB1.out (Nat.le_refl _) hg5); have HK5 := Lib.hid (HK1.out.kept hg5 fun g hg e => (hne.out g e) hg); have HN5 : Hid (∀ g, v5.ownBlock = some g → u14.ownBlock ≠ some g) := Lib.hid (fun g hg hg' => (by rcases hat5 with h | h; exact hne.out g (h.symm.trans hg) hg'; rw [h] at hg; cases hg; have := (HK1.out.lt _ hg').2; omega)); have HA5 := Lib.hid ((Below.refl w5.heap.size w5).alloc (Nat.le_refl _) (.cells #[.slice a1 N c1] 33)); have HO6 := Lib.hid (HO5.out.below HA5.out); have HK6 := Lib.hid (HK5.out.below HA5.out); have HB6 := Lib.hid (HB5.out.alloc HB5.out.size (.cells #[.slice a1 N c1] 33)); have HZ6 := Lib.hid HB6.out.size; have hf5 := HBF.out w5 HB5.out; clear ho5 hg5 hat5)
            | (at_builtin; refine wpList_append_o rfl (.tmp 83) (.tmp 88) rfl w2 w2.heap.size u14 _ rfl HK6.out _ rfl a1 N c1 sh HNN.out (cell_one_at _ _ _ _ (by simp)) HG1.out.2.2.2 HG1.out.1 HG1.out.2.1 HG1.out.2.2.1 (by have := HTK.out; omega) HZ6.out ?_; intro v7 w7 ho7 hg7 hat7; rw [← HPK.out] at ho7; have HO7 := Lib.hid ho7; have HB7 := Lib.hid (HK6.out.grow HB6.out (Nat.le_refl _) hg7); have HF7 := Lib.hid (HO6.out.kept hg7 fun g hg e => (HN5.out g hg) e); have HN7 : Hid (∀ g, v5.ownBlock = some g → v7.ownBlock ≠ some g) := Lib.hid (fun g hg hg' => (by rcases hat7 with h | h; exact HN5.out g hg (h.symm.trans hg'); rw [h] at hg'; cases hg'; have := (HO6.out.lt _ hg).2; omega)); clear ho7 hg7 hat7))
          go_roundg gk0
          case rel => exact ⟨oo + 1, by go_num, by omega, HF7, HO7, HN7, HB7⟩
          case measure => omega
        · rw [if_neg hik] at hbo
          obtain ⟨rfl, rfl⟩ := hbo
          have hik2 : ¬ (i : Int) < (k : Int) := by omega
          have hw : IntKind.i64.wrap ((i : Int) - (k : Int)) = ((i - k : Nat) : Int) := by rw [IntKind.wrap_i64]; omega
          have hw2 : ((i - k : Nat) : Int) < (q : Int) := by omega
          have hw3 : i - k < q := by omega
          go_wp2_with (first
            | (at_builtin; refine wpList_append_o rfl (.tmp 74) (.tmp 81) rfl w2 w2.heap.size (.slice adf C capf) _ rfl HF1.out _ rfl a2 k c2 row HRW.out (cell_one_at _ _ _ _ (by simp)) HG2.out.2.2.2 HG2.out.1 HG2.out.2.1 HG2.out.2.2.1 (by have := HTF.out; omega) HZ1.out ?_; intro v5 w5 ho5 hg5 hat5; rw [← HPF.out] at ho5; have HO5 := Lib.hid ho5; have HB5 := Lib.hid (HF1.out.grow HB1.out (Nat.le_refl _) hg5); have HK5 := Lib.hid (HK1.out.kept hg5 fun g hg e => (hne.out g e) hg); have HN5 : Hid (∀ g, v5.ownBlock = some g → u14.ownBlock ≠ some g) := Lib.hid (fun g hg hg' => (by rcases hat5 with h | h; exact hne.out g (h.symm.trans hg) hg'; rw [h] at hg; cases hg; have := (HK1.out.lt _ hg').2; omega)); have HA5 := Lib.hid ((Below.refl w5.heap.size w5).alloc (Nat.le_refl _) (.cells #[.slice a1 N c1] 33)); have HO6 := Lib.hid (HO5.out.below HA5.out); have HK6 := Lib.hid (HK5.out.below HA5.out); have HB6 := Lib.hid (HB5.out.alloc HB5.out.size (.cells #[.slice a1 N c1] 33)); have HZ6 := Lib.hid HB6.out.size; have hf5 := HBF.out w5 HB5.out; clear ho5 hg5 hat5)
            | (at_builtin; refine wpList_append_o rfl (.tmp 83) (.tmp 88) rfl w2 w2.heap.size u14 _ rfl HK6.out _ rfl a1 N c1 sh HNN.out (cell_one_at _ _ _ _ (by simp)) HG1.out.2.2.2 HG1.out.1 HG1.out.2.1 HG1.out.2.2.1 (by have := HTK.out; omega) HZ6.out ?_; intro v7 w7 ho7 hg7 hat7; rw [← HPK.out] at ho7; have HO7 := Lib.hid ho7; have HB7 := Lib.hid (HK6.out.grow HB6.out (Nat.le_refl _) hg7); have HF7 := Lib.hid (HO6.out.kept hg7 fun g hg e => (HN5.out g hg) e); have HN7 : Hid (∀ g, v5.ownBlock = some g → v7.ownBlock ≠ some g) := Lib.hid (fun g hg hg' => (by rcases hat7 with h | h; exact HN5.out g hg (h.symm.trans hg'); rw [h] at hg'; cases hg'; have := (HO6.out.lt _ hg).2; omega)); clear ho7 hg7 hat7))
          go_roundg gk0
          case rel => exact ⟨i + 1, by go_num, by omega, HF7, HO7, HN7, HB7⟩
          case measure => omega
end Go.Proofs.Ytinfjidclkgfnaa
