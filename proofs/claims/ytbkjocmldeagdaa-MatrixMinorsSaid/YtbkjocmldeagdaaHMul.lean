/-
  The product of two matrices, by the program.
-/
import Derived.Test.YtbkjocmldeagdaaHRank
import Derived.Test.YtbkjocmldeagdaaHIdent
namespace Go.Proofs.Ytbkjocmldeagdaa
open Go.RowKit
theorem Rowu.own {w : World} {g B n : Nat} {R : List UInt8} (h : Rowu w g R) (hB : B ≤ g) (hn : R.length = n) (hm : n ≤ maxLen) : Own w B (.slice (some ⟨g, 0, none⟩) n n) R := by
  subst hn
  refine ⟨by rw [cellsU_length]; omega, .inr ⟨g, _, _, rfl, hB, h, Nat.le_refl _, hm, by simp [cellsU_length], ?_⟩⟩
  show ((cellsU R).toArray.toList).take _ = _
  rw [List.take_of_length_le (by simp [cellsU_length])]
theorem ent_get (M : List (List UInt8)) (i j : Nat) (hi : i < M.length) (hj : j < (M[i]).length) : (M[i])[j] = ent M i j := by simp [ent, hi, hj]
theorem ValidL.rowF {M : List (List UInt8)} (h : ValidL M) (i : Nat) (hi : i < M.length) : M[i] = Proofs.Ytbkjocmldeagdaa.rowF (cols M) (ent M i) := by
  apply List.ext_getElem
  · rw [rowF_length]; exact h.len i hi
  · intro j h1 h2
    rw [rowF_get, ent_get]
theorem Out.putLast {w : World} {B g R D : Nat} {ls : List (List UInt8)} (h : Out w B g R D ls) (k : Nat) (hk : k = ls.length) (hR : k < R) (v : Value) (l : List UInt8) (E : Nat) (ho : Own w E v l) (hE : g < E) : Out (w.setCell ⟨g, k, none⟩ v) B g R w.heap.size (ls ++ [l]) := by
  subst hk
  obtain ⟨ad, cap, rfl, h1, h2⟩ := LieN.of_own (g := g) ho hE (Nat.le_refl _)
  refine (h.up w.heap.size h.leD (Nat.le_refl _)).put ls.length hR ad l cap h1 h2.1 h2.2.1 h2.2.2 _ (by rw [List.length_append]; exact hR) fun j hj => ?_
  by_cases hlt : j < ls.length
  · exact .inr ⟨by omega, hlt, by rw [List.getElem_append_left hlt]⟩
  · have e : j = ls.length := by rw [List.length_append, List.length_singleton] at hj; omega
    subst e
    exact .inl ⟨rfl, by rw [List.getElem_append_right (Nat.le_refl _)]; simp⟩
theorem Out.setLast {w : World} {B g R D : Nat} {ls : List (List UInt8)} {l0 : List UInt8} (h : Out w B g R D (ls ++ [l0])) (k : Nat) (hk : k = ls.length) (v : Value) (l : List UInt8) (E : Nat) (ho : Own w E v l) (hE : g < E) : Out (w.setCell ⟨g, k, none⟩ v) B g R w.heap.size (ls ++ [l]) := by
  subst hk
  have h' := h.setOwn ls.length (by simp) v l E ho hE
  rwa [List.set_append_right _ _ (Nat.le_refl _), Nat.sub_self, List.set_cons_zero] at h'
theorem comb_next (j : Nat) (c : Nat → UInt8) (M : Nat → Nat → UInt8) (q : Nat) : comb (j + 1) c M q = comb j c M q ^^^ mulU (M j q) (c j) := by
  rw [mulU_comm (M j q)]
  rfl
/-- the element of the product -/
def mulF (xs ys : List (List UInt8)) (i q : Nat) : UInt8 := comb ys.length (ent xs i) (ent ys) q
theorem mulL_eq (xs ys : List (List UInt8)) : mulL xs ys = matL xs.length (cols ys) (mulF xs ys) := rfl
/-- the sum over the first j factors -/
def partF (m j : Nat) (xs ys : List (List UInt8)) (i : Nat) : List UInt8 := rowF m fun q => comb j (ent xs i) (ent ys) q
theorem partF_zero (m : Nat) (xs ys : List (List UInt8)) (i : Nat) : partF m 0 xs ys i = List.replicate m 0 := by
  rw [zeros_rowF]; rfl
theorem partF_next (m j : Nat) (xs ys : List (List UInt8)) (i : Nat) : sc (partF m j xs ys i) (rowF m (ent ys j)) (ent xs i j) = partF m (j + 1) xs ys i := by
  unfold partF
  rw [sc_rowF]
  exact List.map_congr_left fun q _ => (comb_next j (ent xs i) (ent ys) q).symm
theorem partF_end (m : Nat) (xs ys : List (List UInt8)) (i K : Nat) (hK : K = ys.length) : partF m K xs ys i = rowF m (mulF xs ys i) := by subst hK; rfl
theorem partF_length (m j : Nat) (xs ys : List (List UInt8)) (i : Nat) : (partF m j xs ys i).length = m := rowF_length _ _

/-- do they fit? -/
def Fits (xs ys : List (List UInt8)) : Prop := ValidL xs ∧ ValidL ys ∧ cols xs = ys.length
/-- what Mul gives -/
def MulP (w : World) (xs ys : List (List UInt8)) (e : Ending) (w' : World) : Prop :=
  Below w.heap.size w w' ∧
  ((Fits xs ys ∧ ∃ (ad : Option Addr) (cap : Nat), e = .returned (.tuple #[.slice ad xs.length cap, .bool true]) ∧ Lr w' ad (mulL xs ys) ∧ xs.length ≤ cap ∧ cap ≤ maxLen) ∨
   (¬ Fits xs ys ∧ e = .returned (.tuple #[.slice none 0 0, .bool false])))
theorem MulP.no {w w' : World} {xs ys : List (List UInt8)} (h : ¬ Fits xs ys) (hb : Below w.heap.size w w') : MulP w xs ys (.returned (.tuple #[.slice none 0 0, .bool false])) w' := ⟨hb, .inr ⟨h, rfl⟩⟩
attribute [local irreducible] matL rowF partF mulF mulL sc
set_option maxRecDepth 100000 in
set_option maxHeartbeats 1000000 in
theorem mulm_any (ad bd : Option Addr) (n nb cap bc : Nat) (xs ys : List (List UInt8)) (w : World) (hl : Lr w ad xs) (hn : n = xs.length) (hm : n ≤ maxLen) (hl2 : Lr w bd ys) (hn2 : nb = ys.length) (hm2 : nb ≤ maxLen) :
    Calls Try.prog 11 #[.slice ad n cap, .slice bd nb bc] w (MulP w xs ys) := by
  have HL := Lib.hid hl
  have HN := Lib.hid hn
  have HM := Lib.hid hm
  have HL2 := Lib.hid hl2
  have HN2 := Lib.hid hn2
  have HM2 := Lib.hid hm2
  clear hl hn hm hl2 hn2 hm2
  rcases vld_cases xs with ⟨hv, hV⟩ | ⟨hv, hV⟩
  rotate_left
  · go_enter Try.func11, Try.ntmps11
    go_wp2_with fail
    refine (valid_any _ n cap xs w HL.out HN.out HM.out).mono ?_
    rintro e w' ⟨rfl, rfl⟩
    rw [hv]
    go_wp2
    go_ret2
    exact MulP.no (fun h => hV h.1) (Below.refl _ _)
  rcases vld_cases ys with ⟨hv2, hV2⟩ | ⟨hv2, hV2⟩
  rotate_left
  · go_enter Try.func11, Try.ntmps11
    go_wp2_with fail
    refine (valid_any _ n cap xs w HL.out HN.out HM.out).mono ?_
    rintro e w' ⟨rfl, rfl⟩
    rw [hv]
    go_wp2_with fail
    refine (valid_any _ nb bc ys w HL2.out HN2.out HM2.out).mono ?_
    rintro e w' ⟨rfl, rfl⟩
    rw [hv2]
    go_wp2
    go_ret2
    exact MulP.no (fun h => hV2 h.2.1) (Below.refl _ _)
  obtain ⟨K, hK⟩ : ∃ K, K = cols xs := ⟨_, rfl⟩
  obtain ⟨m, hmm⟩ : ∃ m, m = cols ys := ⟨_, rfl⟩
  have hp : 0 < xs.length := by have := hV.pos; omega
  have hp2 : 0 < ys.length := by have := hV2.pos; omega
  obtain ⟨b, off, rfl, hbl, a0, c0, f0, -, g0, m0, -⟩ := HL.out.row 0 hp
  obtain ⟨b2, off2, rfl, hbl2, a2, c2, f2, -, g2, m2, -⟩ := HL2.out.row 0 hp2
  rw [hV.len 0 hp, ← hK, Nat.add_zero] at f0
  rw [hV.len 0 hp, ← hK] at g0
  rw [hV2.len 0 hp2, ← hmm, Nat.add_zero] at f2
  rw [hV2.len 0 hp2, ← hmm] at g2
  have hn64 : n ≤ 64 := by have := hV.le; have := HN.out; omega
  have hnb64 : nb ≤ 64 := by have := hV2.le; have := HN2.out; omega
  have hn0 : (0 : Int) < (n : Int) := by have := HN.out; omega
  have hn1 : 0 < n := by omega
  have hb0 : (0 : Int) < (nb : Int) := by have := HN2.out; omega
  have hb1 : 0 < nb := by omega
  have hK1 : 1 ≤ K := by rw [hK]; exact hV.cpos
  have hK2 : K ≤ 64 := by rw [hK]; exact hV.cle
  have hm1 : 1 ≤ m := by rw [hmm]; exact hV2.cpos
  have hm64 : m ≤ 64 := by rw [hmm]; exact hV2.cle
  have HV := Lib.hid hV
  have HV2 := Lib.hid hV2
  have HK := Lib.hid hK
  have HMM := Lib.hid hmm
  unfold maxLen at m0 m2
  clear hV hV2 hK hmm hp hp2
  by_cases hKb : K = nb
  rotate_left
  · have hK3 : ¬ (K : Int) = (nb : Int) := by omega
    have HNO : Hid (¬ Fits xs ys) := Lib.hid fun h => hKb (by rw [HK.out, HN2.out]; exact h.2.2)
    go_enter Try.func11, Try.ntmps11
    go_wp2_with fail
    refine (valid_any _ n cap xs w HL.out HN.out HM.out).mono ?_
    rintro e w' ⟨rfl, rfl⟩
    rw [hv]
    go_wp2_with fail
    refine (valid_any _ nb bc ys w HL2.out HN2.out HM2.out).mono ?_
    rintro e w' ⟨rfl, rfl⟩
    rw [hv2]
    go_wp2
    go_ret2
    exact MulP.no HNO.out (Below.refl _ _)
  subst hKb
  have HF : Hid (Fits xs ys) := Lib.hid ⟨HV.out, HV2.out, by rw [← HK.out]; exact HN2.out⟩
  have HF2 : Hid (∀ w2, Below w.heap.size w w2 → w2.cell? ⟨b2, off2, none⟩ = some (.slice a2 m c2)) := Lib.hid fun w2 hb => (hb.cell (p := ⟨b2, off2, none⟩) hbl2).trans f2
  go_enter Try.func11, Try.ntmps11
  go_wp2_with fail
  refine (valid_any _ n cap xs w HL.out HN.out HM.out).mono ?_
  rintro e w' ⟨rfl, rfl⟩
  rw [hv]
  go_wp2_with fail
  refine (valid_any _ K bc ys w HL2.out HN2.out HM2.out).mono ?_
  rintro e w' ⟨rfl, rfl⟩
  rw [hv2]
  go_wp2_with (at_make; refine wpList_make_outer rfl (.tmp 29) (.tmp 29) rfl _ _ n rfl rfl rfl rfl (by omega) ?_; intro g w1 ho1 hb1)
  have HO1 : Hid (Out w1 w.heap.size g n w1.heap.size (matL 0 m (mulF xs ys))) := Lib.hid (by have h := ho1.take 0; rw [List.take_zero] at h; rw [matL_zero]; exact h)
  have HB1 := Lib.hid hb1
  clear ho1 hb1 f0 f2
  go_loopg [33] n (fun gk vk wx => ∃ k : Nat, vk = .int .i64 k ∧ k + gk = n ∧ Hid (Out wx w.heap.size g n wx.heap.size (matL k m (mulF xs ys))) ∧ Hid (Below w.heap.size w wx))
  case atStart => exact ⟨0, rfl, by omega, HO1, HB1⟩
  case round =>
    obtain ⟨k, rfl, hk, hO, HB⟩ := hrel
    cases gk with
    | zero =>
      have hlt : ¬ (k : Int) < (n : Int) := by omega
      obtain rfl : k = n := by omega
      go_wp2
      go_ret2
      refine ⟨HB.out, .inl ⟨HF.out, some ⟨g, 0, none⟩, k, by rw [← HN.out]; rfl, ?_, by rw [← HN.out]; exact Nat.le_refl _, by unfold maxLen; omega⟩⟩
      rw [mulL_eq, ← HN.out, ← HMM.out]
      exact hO.out.lr
    | succ gk0 =>
      have hlt : (k : Int) < (n : Int) := by omega
      have hkN : k < n := by omega
      have hkx : k < xs.length := by have := HN.out; omega
      have HGL := Lib.hid hO.out.lt
      obtain ⟨b', off', e', -, a1, c1, f1, l1, g1, m1, -⟩ := HL.out.row k hkx
      cases e'
      have hlen : (xs[k]).length = K := by rw [HK.out]; exact HV.out.len k hkx
      rw [hlen] at f1 g1
      obtain ⟨b1, off1, rfl, hb1l, hc1⟩ := l1.ev (by omega)
      have HC1 : Hid (∀ w2, Below w.heap.size w w2 → ∀ j, j < K → w2.cell? ⟨b1, off1 + j, none⟩ = some (.int .u8 (ev (ent xs k j)))) := Lib.hid fun w2 hb j hj => by
        rw [hb.cell (p := ⟨b1, off1 + j, none⟩) hb1l, hc1 j (by omega), ent_get]
      have f3 : wr.cell? ⟨b, off + k, none⟩ = some (.slice (some ⟨b1, off1, none⟩) K c1) := (HB.out.cell (p := ⟨b, off + k, none⟩) hbl).trans f1
      have f4 := HF2.out wr HB.out
      unfold maxLen at m1
      clear f1 l1 hlen hc1 hkx
      go_wp2_with (at_make; refine wpList_make_row rfl (.tmp 43) (.tmp 43) rfl _ _ m rfl rfl rfl rfl (by omega) ?_; intro gb w2 hr2 hg2 hb2; have hO2 := hO.out.below hb2; obtain ⟨u, hu⟩ := hO2.there k hkN; have hz := hO2.frozen k; have HO3 := Lib.hid (hO2.putLast k (by rw [matL_length]) hkN _ _ wr.heap.size (hr2.own (n := m) hg2 (by simp) (by unfold maxLen; omega)) HGL.out); have HB3 := Lib.hid ((HB.out.trans (hb2.mono HB.out.size)).setCell (p := ⟨g, k, none⟩) hO.out.base (.slice (some ⟨gb, 0, none⟩) m m)); clear hO2 hr2 hb2 hg2)
      go_loopg [48] K (fun gj vj wx => ∃ j : Nat, vj = .int .i64 j ∧ j + gj = K ∧ Hid (Out wx w.heap.size g n wx.heap.size (matL k m (mulF xs ys) ++ [partF m j xs ys k])) ∧ Hid (Below w.heap.size w wx))
      case atStart => exact ⟨0, rfl, by omega, by rw [partF_zero]; simpa using HO3, HB3⟩
      case round =>
        obtain ⟨j, rfl, hj, hO4, hB4⟩ := hrel
        cases gk with
        | zero =>
          have hlt2 : ¬ (j : Int) < (K : Int) := by omega
          obtain rfl : j = K := by omega
          go_wp2
          go_roundg gk0
          case rel => exact ⟨k + 1, by go_num, by omega, Lib.hid (by have h := hO4.out; rw [partF_end m xs ys k j HN2.out] at h; rw [matL_next]; exact h), hB4⟩
          case measure => omega
        | succ gj0 =>
          have hlt2 : (j : Int) < (K : Int) := by omega
          have hjy : j < ys.length := by have := HN2.out; omega
          have f5 := HC1.out wr hB4.out j (by omega)
          obtain ⟨b', off', e', -, a3, c3, f6, l6, g6, m6, -⟩ := HL2.out.row j hjy
          cases e'
          have hry := HV2.out.rowF j hjy
          rw [HV2.out.len j hjy, ← HMM.out] at f6 g6
          rw [hry, ← HMM.out] at l6
          have f7 : wr.cell? ⟨b2, off2 + j, none⟩ = some (.slice a3 m c3) := (hB4.out.cell (p := ⟨b2, off2 + j, none⟩) hbl2).trans f6
          have HL6 := Lib.hid (l6.below hB4.out rfl)
          have hlst : (matL k m (mulF xs ys) ++ [partF m j xs ys k])[k]'(by rw [List.length_append, matL_length]; simp) = partF m j xs ys k := by
            rw [List.getElem_append_right (by rw [matL_length]; exact Nat.le_refl _)]; simp [matL_length]
          obtain ⟨a8, c8, f8, l8, g8, m8, h8⟩ := hO4.out.get k (by rw [List.length_append, matL_length]; simp)
          rw [hlst, partF_length] at f8 g8
          rw [hlst] at l8
          have HL8 := Lib.hid (l8.lie hO4.out.leD)
          have H8 := Lib.hid h8
          have HX : Hid (∀ w3 v, Below wr.heap.size wr w3 → Own w3 wr.heap.size v (sc (partF m j xs ys k) (rowF m (ent ys j)) (ent xs k j)) → Out (w3.setCell ⟨g, k, none⟩ v) w.heap.size g n (w3.setCell ⟨g, k, none⟩ v).heap.size (matL k m (mulF xs ys) ++ [partF m (j + 1) xs ys k]) ∧ Below w.heap.size w (w3.setCell ⟨g, k, none⟩ v)) := Lib.hid fun w3 v hb ho => by
            rw [partF_next] at ho
            have h := (hO4.out.below hb).setLast k (by rw [matL_length]) v _ _ ho hO4.out.lt
            exact ⟨by simpa using h, (hB4.out.trans (hb.mono hB4.out.size)).setCell (p := ⟨g, k, none⟩) hO4.out.base v⟩
          have hgw := hO4.out.lt
          have HGW := Lib.hid hgw
          generalize ent xs k j = x at f5 HX
          unfold maxLen at m6 m8
          clear f6 l6 hry hjy hlst l8 h8 hgw
          go_wp2_with fail
          go_region_with (first
            | (go_at_call 27; refine (scale_n _ _ m m c8 c3 (partF m j xs ys k) (rowF m (ent ys j)) x _ (by rw [partF_length]) (by rw [rowF_length]) (by exact HL8.out.drew) H8.out (by omega) (by exact HL6.out.drew) (by omega)).mono ?_; rintro e w3 ⟨v, rfl, ho, hb⟩; have h3 : Below wr.heap.size wr w3 := (Below.refl _ _).drew.trans hb; have hS := Lib.hid (HX.out w3 v h3 ho); have hu : w3.cell? ⟨g, k, none⟩ = some (.slice a8 m c8) := (h3.cell (p := ⟨g, k, none⟩) HGW.out).trans f8; have hz : w3.frozen? ⟨g, k, none⟩ = false := (hO4.out.below h3).frozen k; obtain ⟨ad', cap', rfl, -⟩ := ho.slice; clear ho hb h3))
          all_goals (go_wp2; go_roundg gj0)
          all_goals first
            | (exact ⟨j + 1, by go_num, by omega, Lib.hid hS.out.1, Lib.hid hS.out.2⟩)
            | omega
end Go.Proofs.Ytbkjocmldeagdaa
