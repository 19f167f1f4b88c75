/-
  The data shards that the chosen ones determine, by the program.
-/
import Derived.Test.YtinfjidclkgfnaaEPres
import Derived.Test.YtinfjidclkgfnaaQList
import Derived.Test.YtinfjidclkgfnaaQRows
import Derived.Test.YtinfjidclkgfnaaHInv
namespace Go.Proofs.Ytinfjidclkgfnaa
open Go.RowKit
theorem chos_false {hs : List Bool} {k i : Nat} (hi : i < hs.length) {n : Nat} (hn : hs.length ≤ n) (h : chos hs k n i = false) : hs[i] = false ∨ ¬ (hs.take i).count true < k := by
  rw [chos_all hs k n i hi hn] at h
  rcases hx : hs[i] with _ | _
  · exact .inl rfl
  · rw [hx, Bool.true_and] at h
    exact .inr (of_decide_eq_false h)
theorem chos_true {hs : List Bool} {k i : Nat} (hi : i < hs.length) {n : Nat} (hn : hs.length ≤ n) (h : chos hs k n i = true) : hs[i] = true ∧ (hs.take i).count true < k := by
  rw [chos_all hs k n i hi hn, Bool.and_eq_true] at h
  exact ⟨h.1, of_decide_eq_true h.2⟩
theorem take_pick_pass {α : Type} (xs : List α) (hs : List Bool) (k i : Nat) (hx : i < xs.length) (hi : i < hs.length) (h : hs[i] = false ∨ ¬ (hs.take i).count true < k) : (pick (xs.take (i + 1)) (hs.take (i + 1))).take k = (pick (xs.take i) (hs.take i)).take k := by
  rw [pick_take xs hs i hx hi]
  rcases h with h | h
  · rw [h, if_neg (by simp), List.append_nil]
  · rw [List.take_append_of_le_length]
    rw [pick_length _ _ (by rw [List.length_take, List.length_take]; omega)]
    omega
theorem take_pick_put {α : Type} (xs : List α) (hs : List Bool) (k i : Nat) (hx : i < xs.length) (hi : i < hs.length) (h : hs[i] = true) (hc : (hs.take i).count true < k) : (pick (xs.take (i + 1)) (hs.take (i + 1))).take k = (pick (xs.take i) (hs.take i)).take k ++ [xs[i]] := by
  have hl : (pick (xs.take i) (hs.take i)).length < k := by
    rw [pick_length _ _ (by rw [List.length_take, List.length_take]; omega)]
    exact hc
  rw [pick_take xs hs i hx hi, h, if_pos rfl, List.take_of_length_le (l := pick (xs.take i) (hs.take i) ++ [xs[i]]) (by rw [List.length_append, List.length_singleton]; omega), List.take_of_length_le (l := pick (xs.take i) (hs.take i)) (by omega)]
theorem take_pick_len {α : Type} (xs : List α) (hs : List Bool) (k i : Nat) : ((pick (xs.take i) (hs.take i)).take k).length ≤ k := by rw [List.length_take]; omega
attribute [local irreducible] cauL idL encL rowsL knownL prodL matL
set_option maxRecDepth 100000 in
set_option maxHeartbeats 1000000 in
theorem solve_any (ad : Option Addr) (n cap k p b : Nat) (D : DataW Value) (ls : List (List UInt8)) (hs : List Bool) (w : World) (hl : Lr w ad ls) (hn : n = ls.length) (hh : n = hs.length) (hk : 1 ≤ k) (hkp : k + p ≤ 64) (hnk : n = k + p) (hM : MapR w w b k (encL k p) hs n D)
    (hc : k ≤ hs.count true) (hs2 : sameL (pick ls hs) = true) (hrow : ∀ r ∈ ls, r.length ≤ 1000) :
    Calls Try.prog 43 #[.slice ad n cap, .map (some b)] w (GivesQ w (dataL k p ls hs)) := by
  have hn64 : n ≤ 64 := by omega
  have HL := Lib.hid hl
  have HN := Lib.hid hn
  have HH := Lib.hid hh
  have HM := Lib.hid hM
  have HEL := Lib.hid (encL_length k p)
  have HER := Lib.hid (encL_row k p)
  have HNK := Lib.hid hnk
  have HRE : Hid ((pick ((encL k p).take n) (hs.take n)).take k = rowsL k p hs) := Lib.hid (by unfold rowsL; rw [List.take_of_length_le (l := encL k p) (by rw [encL_length]; omega), List.take_of_length_le (l := hs) (by omega)])
  have HKE : Hid ((pick (ls.take n) (hs.take n)).take k = knownL k ls hs) := Lib.hid (by unfold knownL; rw [List.take_of_length_le (l := ls) (by omega), List.take_of_length_le (l := hs) (by omega)])
  have HRL := Lib.hid (rows_length (k := k) (p := p) (hs := hs) (by omega) hc)
  have HKL := Lib.hid (known_length (k := k) (hs := hs) (ls := ls) (by omega) hc)
  have HV := Lib.hid (rows_valid (k := k) (p := p) (hs := hs) (by omega) hc hk (by omega))
  have HCO := Lib.hid (rows_cols (k := k) (p := p) (hs := hs) (by omega) hc hk)
  have HIN := Lib.hid (rows_inv (k := k) (p := p) (hs := hs) (by omega) hc (by omega))
  have HKR := Lib.hid (known_row (k := k) (ls := ls) hs2 hk)
  have HKC : Hid (cols (knownL k ls hs) ≤ 1000) := Lib.hid (cols_le _ _ fun r hr => hrow r (pick_mem ls hs r (by unfold knownL at hr; exact List.mem_of_mem_take hr)))
  have HDE := Lib.hid (dataL_eq (k := k) (p := p) (hs := hs) (ls := ls))
  clear hl hn hh hM hnk hc hs2 hrow
  go_enter Try.func43, Try.ntmps43
  go_wp2_with fail
  go_loopg [5, 6, 15] n (fun gk vf vk vi wx => ∃ i : Nat, vi = .int .i64 i ∧ i + gk = n ∧ Hid (Lo wx w w.heap.size vf ((pick ((encL k p).take i) (hs.take i)).take k)) ∧ Hid (Lo wx w w.heap.size vk ((pick (ls.take i) (hs.take i)).take k)) ∧ Hid (∀ g, vf.ownBlock = some g → vk.ownBlock ≠ some g) ∧ Hid (Below w.heap.size w wx))
  case atStart => exact ⟨0, rfl, by omega, Lib.hid (by rw [List.take_zero, List.take_zero, pick_nil, List.take_nil]; exact Lo.nil _ _ _), Lib.hid (by rw [List.take_zero, List.take_zero, pick_nil, List.take_nil]; exact Lo.nil _ _ _), Lib.hid (fun g h => by cases h), Lib.hid (Below.refl _ _)⟩
  case round =>
    obtain ⟨i, rfl, hi, hF, hK, hne, hB⟩ := hrel
    cases gk with
    | zero =>
      have hlt : ¬ (i : Int) < (n : Int) := by omega
      obtain rfl : i = n := by omega
      have hF1 := hF.out.lq hB.out (Nat.le_refl _)
      have hK1 := hK.out.lq hB.out (Nat.le_refl _)
      rw [HRE.out] at hF1
      rw [HKE.out] at hK1
      obtain ⟨adf, capf, rfl, hlf, hcf, hmf, -⟩ := hF1.read
      obtain ⟨adk, capk, rfl, hlk, hck, hmk, -⟩ := hK1.read
      rw [HRL.out] at hcf ⊢
      rw [HKL.out] at hck ⊢
      have HLF := Lib.hid hlf
      have HLK := Lib.hid hlk
      unfold maxLen at hmf hmk
      clear hF1 hK1 hlf hlk hF hK hne
      go_wp2_with fail
      refine (invert_any adf k capf (rowsL k p hs) wr HLF.out HRL.out.symm (by unfold maxLen; omega)).mono ?_
      rintro e w2 ⟨hb2, ⟨-, -, A, ad2, cap2, hA, rfl, hl2, -, -⟩ | ⟨hno, -⟩⟩
      rotate_left
      · exact absurd ⟨HV.out, by rw [HRL.out, HCO.out], by rw [HRL.out]; exact HIN.out⟩ hno
      rw [HRL.out] at hA hl2 ⊢
      have HA := Lib.hid hA
      have HL2 := Lib.hid hl2
      have HB2 := Lib.hid (hB.out.trans (hb2.mono hB.out.size))
      have HLK2 := Lib.hid (HLK.out.below hb2)
      clear hA hl2 hb2
      go_wp2_with fail
      refine (products_q ad2 adk k k cap2 capk (matL k k A) (knownL k ls hs) w2 HL2.out (matL_length _ _ _).symm (by omega) HLK2.out HKL.out.symm (by omega) hk HKR.out HKC.out (fun i hi => matL_rows k k A _ (List.getElem_mem hi))).mono ?_
      rintro e w3 ⟨v3, rfl, ho3, hb3⟩
      rw [← HDE.out A HA.out] at ho3
      have HO3 := Lib.hid (ho3.mono HB2.out.size HB2.out.size)
      have HB3 := Lib.hid (HB2.out.trans (hb3.mono HB2.out.size))
      clear ho3 hb3
      go_wp2
      go_ret
      exact ⟨_, rfl, HO3.out, HB3.out⟩
    | succ gk0 =>
      have hlt : (i : Int) < (n : Int) := by omega
      have hiN : i < n := by omega
      have hih : i < hs.length := by have := HH.out; omega
      have hil : i < ls.length := by have := HN.out; omega
      have hie : i < (encL k p).length := by rw [HEL.out]; have := HNK.out; omega
      obtain ⟨b1, off1, rfl, hbl1, a1, c1, f1, l1, g1, m1, h1⟩ := HL.out.row i hil
      have f2 : wr.cell? ⟨b1, off1 + i, none⟩ = some (.slice a1 (ls[i]).length c1) := (hB.out.cell (p := ⟨b1, off1 + i, none⟩) hbl1).trans f1
      have hM2 := HM.out.kept hB.out
      rcases hx : chos hs k n i with _ | _
      · have hp := chos_false hih (by have := HH.out; omega) hx
        have HF : Hid (Lo wr w w.heap.size u5 ((pick ((encL k p).take (i + 1)) (hs.take (i + 1))).take k)) := Lib.hid (by rw [take_pick_pass (encL k p) hs k i hie hih hp]; exact hF.out)
        have HK : Hid (Lo wr w w.heap.size u6 ((pick (ls.take (i + 1)) (hs.take (i + 1))).take k)) := Lib.hid (by rw [take_pick_pass ls hs k i hil hih hp]; exact hK.out)
        have HAT := Lib.hid ((hM2.2.2.2 i (by omega)).2 hx)
        have HHA : Hid (Maps.has D (.int .i64 (i : Int)) = false) := Lib.hid (by rw [hM2.2.2.1 i (by omega)]; exact hx)
        have HM2 := Lib.hid hM2.1
        generalize (ls[i]).length = N at f2
        clear f1 l1 g1 m1 h1 hx hih hil hie hp hM2 hF hK
        go_wp2_with (at_lookup; refine wpList_lookup_held rfl (.tmp 21) (.tmp 22) rfl b n D rfl HM2.out i (by omega) rfl _ false HAT.out HHA.out ?_)
        go_roundg gk0
        case rel => exact ⟨i + 1, by go_num, by omega, HF, HK, hne, hB⟩
        case measure => omega
      · obtain ⟨hyes, hcc⟩ := chos_true hih (by have := HH.out; omega) hx
        obtain ⟨hr, a2, c2, hat, l2, g2, m2, h2⟩ := (hM2.2.2.2 i (by omega)).1 hx
        have HAT := Lib.hid hat
        have HHA : Hid (Maps.has D (.int .i64 (i : Int)) = true) := Lib.hid (by rw [hM2.2.2.1 i (by omega)]; exact hx)
        have HM2 := Lib.hid hM2.1
        have HPF := Lib.hid (take_pick_put (encL k p) hs k i hie hih hyes hcc)
        have HPK := Lib.hid (take_pick_put ls hs k i hil hih hyes hcc)
        have hrl : k = ((encL k p)[i]).length := (HER.out _ (List.getElem_mem hie)).symm
        have HRW := Lib.hid hrl
        have HG1 : Hid ((ls[i]).length ≤ c1 ∧ c1 ≤ maxLen ∧ (a1 = none → c1 = 0) ∧ Lie w a1 (ls[i])) := Lib.hid ⟨g1, m1, h1, l1⟩
        have HG2 : Hid (k ≤ c2 ∧ c2 ≤ maxLen ∧ (a2 = none → c2 = 0) ∧ Lie w a2 ((encL k p)[i])) := Lib.hid ⟨g2, m2, h2, l2⟩
        obtain ⟨N, hN⟩ : ∃ N, N = (ls[i]).length := ⟨_, rfl⟩
        rw [← hN] at f2 HG1
        have HNN := Lib.hid hN
        generalize ls[i] = sh at HPK HG1 HNN
        generalize (encL k p)[i] = row at HPF HG2 HRW
        have HTF := Lib.hid (take_pick_len (encL k p) hs k i)
        have HTK := Lib.hid (take_pick_len ls hs k i)
        have hk100 : k ≤ 64 := by omega
        clear f1 l1 g1 m1 h1 hx hih hil hie hM2 hat l2 g2 m2 h2 hyes hcc hr hrl hN
        obtain ⟨W0, HW0⟩ : ∃ W0 : World, Hid (W0 = wr) := ⟨_, Lib.hid rfl⟩
        have HF0 : Hid (Lo W0 w w.heap.size u5 ((pick ((encL k p).take i) (hs.take i)).take k)) := Lib.hid (by rw [HW0.out]; exact hF.out)
        have HK0 : Hid (Lo W0 w w.heap.size u6 ((pick (ls.take i) (hs.take i)).take k)) := Lib.hid (by rw [HW0.out]; exact hK.out)
        have HB0 : Hid (Below w.heap.size w W0) := Lib.hid (by rw [HW0.out]; exact hB.out)
        have HA1 : Hid (Below W0.heap.size W0 (wr.alloc (.cells #[.slice a2 k c2] 33))) := Lib.hid (by rw [HW0.out]; exact (Below.refl wr.heap.size wr).alloc (Nat.le_refl _) _)
        have HF1 := Lib.hid (HF0.out.below HA1.out)
        have HK1 := Lib.hid (HK0.out.below HA1.out)
        have HB1 := Lib.hid (HB0.out.trans (HA1.out.mono HB0.out.size))
        have HZ1 := Lib.hid HB1.out.size
        clear hF hK
        go_wp2_with (first
          | (at_lookup; refine wpList_lookup_held rfl (.tmp 21) (.tmp 22) rfl b n D rfl HM2.out i (by omega) rfl _ true HAT.out HHA.out ?_)
          | (at_builtin; refine wpList_append_o rfl (.tmp 27) (.tmp 29) rfl w w.heap.size u5 _ rfl HF1.out _ rfl a2 k c2 row HRW.out (cell_one_at _ _ _ _ (by simp)) HG2.out.2.2.2 HG2.out.1 HG2.out.2.1 HG2.out.2.2.1 (by have := HTF.out; omega) HZ1.out ?_; intro v5 w5 ho5 hg5 hat5; rw [← HPF.out] at ho5; have HO5 := Lib.hid ho5; have HB5 := Lib.hid (HF1.out.grow HB1.out (Nat.le_refl _) hg5); have HK5 := Lib.hid (HK1.out.kept hg5 fun g hg e => (hne.out g e) hg); have HN5 : Hid (∀ g, v5.ownBlock = some g → u6.ownBlock ≠ some g) := Lib.hid (fun g hg hg' => (by rcases hat5 with h | h; exact hne.out g (h.symm.trans hg) hg'; rw [h] at hg; cases hg; have := (HK1.out.lt _ hg').2; omega)); have HA5 := Lib.hid ((Below.refl w5.heap.size w5).alloc (Nat.le_refl _) (.cells #[.slice a1 N c1] 33)); have HO6 := Lib.hid (HO5.out.below HA5.out); have HK6 := Lib.hid (HK5.out.below HA5.out); have HB6 := Lib.hid (HB5.out.alloc HB5.out.size (.cells #[.slice a1 N c1] 33)); have HZ6 := Lib.hid HB6.out.size; clear ho5 hg5 hat5)
          | (at_builtin; refine wpList_append_o rfl (.tmp 31) (.tmp 33) rfl w w.heap.size u6 _ rfl HK6.out _ rfl a1 N c1 sh HNN.out (cell_one_at _ _ _ _ (by simp)) HG1.out.2.2.2 HG1.out.1 HG1.out.2.1 HG1.out.2.2.1 (by have := HTK.out; omega) HZ6.out ?_; intro v7 w7 ho7 hg7 hat7; rw [← HPK.out] at ho7; have HO7 := Lib.hid ho7; have HB7 := Lib.hid (HK6.out.grow HB6.out (Nat.le_refl _) hg7); have HF7 := Lib.hid (HO6.out.kept hg7 fun g hg e => (HN5.out g hg) e); have HN7 : Hid (∀ g, v5.ownBlock = some g → v7.ownBlock ≠ some g) := Lib.hid (fun g hg hg' => (by rcases hat7 with h | h; exact HN5.out g hg (h.symm.trans hg'); rw [h] at hg'; cases hg'; have := (HO6.out.lt _ hg).2; omega)); clear ho7 hg7 hat7))
        go_roundg gk0
        case rel => exact ⟨i + 1, by go_num, by omega, HF7, HO7, HN7, HB7⟩
        case measure => omega
end Go.Proofs.Ytinfjidclkgfnaa
