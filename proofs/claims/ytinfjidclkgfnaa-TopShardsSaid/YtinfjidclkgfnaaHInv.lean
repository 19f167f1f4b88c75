/-
  The inverse, by the program.
-/
import Derived.Test.YtinfjidclkgfnaaQRows
import Derived.Test.YtinfjidclkgfnaaHRed
import Derived.Test.YtinfjidclkgfnaaHOwn
import Derived.Test.YtinfjidclkgfnaaHValid
import Derived.Test.YtinfjidclkgfnaaHIdent
namespace Go.Proofs.Ytinfjidclkgfnaa
open Go.RowKit
theorem LieN.drop {w : World} {g D b off : Nat} {l : List UInt8} (h : LieN w g D (some ⟨b, off, none⟩) l) (n : Nat) : LieN w g D (some ⟨b, off + n, none⟩) (l.drop n) := by
  rcases h with h0 | ⟨b', off', e, h1, h2, h3⟩
  · left; rw [h0]; simp
  · cases e
    refine .inr ⟨b, off + n, rfl, h1, h2, fun j hj => ?_⟩
    rw [List.length_drop] at hj
    rw [List.getElem_drop, Nat.add_assoc]
    exact h3 (n + j) (by omega)
theorem frozen_block {w w' : World} {b : Nat} (h : w'.heap[b]? = w.heap[b]?) (i : Nat) : w'.frozen? ⟨b, i, none⟩ = w.frozen? ⟨b, i, none⟩ := by simp [World.frozen?, h]

attribute [local irreducible] matL rowF mixL joinF dl idL
set_option maxRecDepth 100000 in
set_option maxHeartbeats 1000000 in
theorem invert_any (ad : Option Addr) (n cap : Nat) (ls : List (List UInt8)) (w : World) (hl : Lr w ad ls) (hn : n = ls.length) (hm : n ≤ maxLen) :
    Calls Try.prog 29 #[.slice ad n cap] w (InvP w ls) := by
  rcases vld_cases ls with ⟨hv, hV⟩ | ⟨hv, hV⟩
  rotate_left
  · have HL := Lib.hid hl
    have HN := Lib.hid hn
    have HM := Lib.hid hm
    clear hl hn hm
    go_enter Try.func29, Try.ntmps29
    go_wp2_with fail
    refine (valid_any _ n cap ls w HL.out HN.out HM.out).mono ?_
    rintro e w' ⟨rfl, rfl⟩
    rw [hv]
    go_wp2
    go_ret2
    exact InvP.no (fun h => hV h.1) (Below.refl _ _)
  obtain ⟨C, hC⟩ : ∃ C, C = cols ls := ⟨_, rfl⟩
  have hp : 0 < ls.length := by have := hV.pos; omega
  obtain ⟨b, off, rfl, hbl, a0, c0, f0, -, g0, m0, -⟩ := hl.row 0 hp
  rw [hV.len 0 hp, ← hC, Nat.add_zero] at f0
  rw [hV.len 0 hp, ← hC] at g0
  have hC1 := hV.cpos
  have hC2 := hV.cle
  rw [← hC] at hC1 hC2
  have hn64 : n ≤ 64 := by have := hV.le; omega
  have hn0 : (0 : Int) < (n : Int) := by omega
  have hn1 : 0 < n := by omega
  have HL := Lib.hid hl
  have HN := Lib.hid hn
  have HV := Lib.hid hV
  have HC := Lib.hid hC
  have HM := Lib.hid hm
  unfold maxLen at m0 hm
  clear hV hC hp hl hn
  by_cases hnC : n = C
  rotate_left
  · have hnC2 : ¬ (n : Int) = (C : Int) := by omega
    have HNO : Hid (¬ (ValidL ls ∧ ls.length = cols ls ∧ ∃ A, Inv ls.length A (ent ls))) := Lib.hid fun h => hnC (by rw [HN.out, HC.out]; exact h.2.1)
    go_enter Try.func29, Try.ntmps29
    go_wp2_with fail
    refine (valid_any _ n cap ls w HL.out HN.out HM.out).mono ?_
    rintro e w' ⟨rfl, rfl⟩
    rw [hv]
    go_wp2
    go_ret2
    exact InvP.no HNO.out (Below.refl _ _)
  subst hnC
  have HS : Hid (ls = matL n n (ent ls)) := Lib.hid (by have h := HV.out.self; rw [← HN.out, ← HC.out] at h; exact h.symm)
  go_enter Try.func29, Try.ntmps29
  go_wp2_with fail
  refine (valid_any _ n cap ls w HL.out HN.out HM.out).mono ?_
  rintro e w' ⟨rfl, rfl⟩
  rw [hv]
  go_wp2_with fail
  refine (copied_any _ n cap ls _ HL.out HN.out (by omega) HV.out.short).mono ?_
  rintro e w1 ⟨g, rfl, hx1, hb1⟩
  have HX1 := Lib.hid hx1
  have HB1 := Lib.hid hb1
  clear hx1 hb1
  go_wp2_with fail
  refine (ident_any (n : Int) w1 (by omega) (by omega)).mono ?_
  rintro e w2 ⟨-, h⟩
  obtain ⟨gi, rfl, hi2, hb2⟩ := h (by omega)
  rw [Int.toNat_natCast] at hi2
  rw [Int.toNat_natCast]
  have HI2 := Lib.hid hi2
  have HB2 := Lib.hid hb2
  clear h hi2 hb2
  go_wp2_with fail
  go_loopg [28] n (fun gk vk wx => ∃ k : Nat, vk = .int .i64 k ∧ k + gk = n ∧ Hid (Mx wx w.heap.size g n (mixL n (fun i => rowF (n + n) (joinF n (ent ls) i)) (fun i => rowF n (ent ls i)) k)) ∧ Hid (∀ i, k ≤ i → i < n → wx.cell? ⟨g, i, none⟩ = w1.cell? ⟨g, i, none⟩) ∧ Hid (∀ q, w1.heap.size ≤ q → q < w2.heap.size → wx.heap[q]? = w2.heap[q]?) ∧ Hid (Below w.heap.size w wx) ∧ Hid (w2.heap.size ≤ wx.heap.size))
  case atStart => exact ⟨0, rfl, by omega, Lib.hid (by rw [mixL_zero, ← HS.out]; exact HX1.out.below HB2.out), Lib.hid fun i _ _ => HB2.out.cell (p := ⟨g, i, none⟩) HX1.out.lt, Lib.hid fun q _ _ => rfl, Lib.hid (HB1.out.trans (HB2.out.mono HB1.out.size)), Lib.hid (Nat.le_refl _)⟩
  case round =>
    obtain ⟨k, rfl, hk, hX, hcell, hblk, HB, hsz⟩ := hrel
    cases gk with
    | zero =>
      have hlt : ¬ (k : Int) < (n : Int) := by omega
      obtain rfl : k = n := by omega
      have HO : Hid (Out wr w.heap.size g k wr.heap.size (matL k (k + k) (joinF k (ent ls)))) := Lib.hid (by have h := hX.out.out; rw [mixL_full] at h; exact h)
      clear hX hcell hblk hsz
      go_wp2_with fail
      refine (reduce_any w.heap.size g _ k (k + k) k (joinF k (ent ls)) _ HO.out (by omega) (by omega) (by omega)).mono ?_
      rintro e w3 ⟨R, M, p, rfl, hR, hO3, hB3⟩
      have HB3 := Lib.hid (HB.out.trans hB3)
      have HR := Lib.hid hR
      have HO3 := Lib.hid hO3
      have hRle := hR.le
      clear hR hO3 hB3
      by_cases hRk : R < k
      · have hRk2 : (R : Int) < (k : Int) := by omega
        have HNO : Hid (¬ (ValidL ls ∧ ls.length = cols ls ∧ ∃ A, Inv ls.length A (ent ls))) := Lib.hid (by
          rintro ⟨_, _, A, hA⟩
          rw [← HN.out] at hA
          exact HR.out.no_inv (by omega) hRk (hA.congr (fun _ _ _ _ => rfl) fun i _ j hj => (joinF_left k (ent ls) i j hj).symm))
        go_wp2
        go_ret2
        exact InvP.no HNO.out HB3.out
      · have hRk2 : ¬ (R : Int) < (k : Int) := by omega
        obtain rfl : R = k := by omega
        have HA : Hid (Inv R (fun i j => M i (R + j)) (ent ls)) := Lib.hid ((HR.out.inv fun i _ j _ => joinF_right R (ent ls) i j).congr (fun _ _ _ _ => rfl) fun i _ j hj => joinF_left R (ent ls) i j hj)
        go_wp2_with fail
        go_loopg [50] R (fun gk vj wx => ∃ j : Nat, vj = .int .i64 j ∧ j + gk = R ∧ Hid (Out wx w.heap.size g R w3.heap.size (mixL R (fun i => rowF R ((fun i q => M i (R + q)) i)) (fun i => rowF (R + R) (M i)) j)) ∧ Hid (Below w.heap.size w wx))
        case atStart => exact ⟨0, rfl, by omega, by rw [mixL_zero]; exact HO3, HB3⟩
        case round =>
          obtain ⟨j, rfl, hj, hO, hB⟩ := hrel
          cases gk with
          | zero =>
            have hlt2 : ¬ (j : Int) < (R : Int) := by omega
            obtain rfl : j = R := by omega
            go_wp2
            go_ret2
            refine ⟨hB.out, .inl ⟨HV.out, by rw [← HN.out, ← HC.out], fun i q => M i (j + q), some ⟨g, 0, none⟩, j, ?_⟩⟩
            rw [← HN.out]
            have h := hO.out.lr
            rw [mixL_full] at h
            exact ⟨HA.out, rfl, h, Nat.le_refl _, by unfold maxLen; omega⟩
          | succ gj0 =>
            have hlt2 : (j : Int) < (R : Int) := by omega
            have hjl : j < (mixL R (fun i => rowF R ((fun i q => M i (R + q)) i)) (fun i => rowF (R + R) (M i)) j).length := by rw [mixL_length]; omega
            obtain ⟨ad4, cap4, f4, hl4, g4, m4, -⟩ := hO.out.get j hjl
            rw [mixL_get, rowF_length] at f4 g4
            rw [mixL_get] at hl4
            obtain ⟨b4, off4, rfl, -⟩ := (hl4.lie hO.out.leD).ev (by rw [rowF_length]; omega)
            have hz4 := hO.out.frozen j
            have HL4 := Lib.hid hl4
            have HX4 : Hid (Out (wr.setCell ⟨g, j, none⟩ (.slice (some ⟨b4, off4 + R, none⟩) R (cap4 - R))) w.heap.size g R w3.heap.size (mixL R (fun i => rowF R ((fun i q => M i (R + q)) i)) (fun i => rowF (R + R) (M i)) (j + 1))) := Lib.hid (by
              have hd := hl4.drop R
              rw [rowF_drop] at hd
              have e := rowF_length R fun q => M j (R + q)
              have h := hO.out.set_ j hjl _ _ (cap4 - R) hd (by rw [e]; omega) (by omega) (fun h => by cases h)
              rw [e, mixL_set R (fun i => rowF R ((fun i q => M i (R + q)) i))] at h
              exact h)
            have HB4 := Lib.hid (hB.out.setCell (p := ⟨g, j, none⟩) hO.out.base (.slice (some ⟨b4, off4 + R, none⟩) R (cap4 - R)))
            unfold maxLen at m4
            clear hl4 hjl
            go_wp2
            go_roundg gj0
            case rel => exact ⟨j + 1, by go_num, by omega, by simpa using HX4, by simpa using HB4⟩
            case measure => omega
    | succ gk0 =>
      have hlt : (k : Int) < (n : Int) := by omega
      have hkl : k < (mixL n (fun i => rowF (n + n) (joinF n (ent ls) i)) (fun i => rowF n (ent ls i)) k).length := by rw [mixL_length]; omega
      obtain ⟨v, hv2, ho, hput⟩ := hX.out.get k hkl
      rw [mixL_get] at ho
      have hgl := hX.out.lt
      have hfz := hX.out.frozen k
      -- the row's block is one of those that were there before the identity matrix
      have hvD : ∀ q, v.ownBlock = some q → g < q ∧ q < w1.heap.size := fun q hq => by
        obtain ⟨v1, h1, h2, _⟩ := HX1.out.get k (by rw [← HN.out]; omega)
        have e : v = v1 := by
          have := hv2.symm.trans ((hcell.out k (Nat.le_refl _) (by omega)).trans h1)
          exact Option.some.inj this
        subst e
        exact h2.lt q hq
      have hI : Out wr w1.heap.size gi n w2.heap.size (idL n) := HI2.out.keptIn hsz.out fun q h1 h2 => hblk.out q (Nat.le_trans HI2.out.base h1) h2
      have hil : k < (idL n).length := by rw [show idL n = matL n n dl by unfold idL; rfl, matL_length]; omega
      obtain ⟨ai, ci, f1, hli, gi1, gi2, -⟩ := hI.get k hil
      have hir : (idL n)[k] = rowF n (dl k) := by
        have : ∀ (l : List (List UInt8)) (h : k < l.length), l = matL n n dl → l[k] = rowF n (dl k) := fun l h e => by subst e; exact matL_rowF n n k dl h
        exact this _ hil (by unfold idL; rfl)
      rw [hir, rowF_length] at f1 gi1
      rw [hir] at hli
      have HLI := Lib.hid (hli.lie hI.leD)
      unfold maxLen at gi2
      have HO := Lib.hid ho
      have HP := Lib.hid hput
      have HVD := Lib.hid hvD
      have HGL := Lib.hid hgl
      clear hli hI hil hir ho hput hvD hgl hkl
      have hkn : k < n := by omega
      go_wp2_with (at_builtin; refine wpList_append_keep rfl (.tmp 38) (.tmp 39) rfl (g + 1) v (rowF n (ent ls k)) rfl HO.out (by rw [rowF_length]; omega) ai n ci (rowF n (dl k)) HLI.out (by rw [rowF_length]) (by rw [rowF_length]; omega) rfl (by rw [rowF_length]; omega) HGL.out ?_; intro v3 w3 ho3 hg3 hf3; have hgb : w3.heap[g]? = wr.heap[g]? := hg3.block g HGL.out (fun e => (by have := (HVD.out g e.symm).1; omega)); have f3 : w3.cell? ⟨g, k, none⟩ = some v := (World.cell?_of_block (a := ⟨g, k, none⟩) hgb).trans hv2; have hz3 : w3.frozen? ⟨g, k, none⟩ = false := (frozen_block hgb k).trans hfz; have HM3 := Lib.hid (HP.out v3 _ w3 hg3 ho3 hf3); have HG3 := Lib.hid hg3; have HGB := Lib.hid hgb; obtain ⟨ad3, cap3, e3, -⟩ := ho3.slice; rw [List.length_append, rowF_length, rowF_length] at e3; subst e3; clear ho3 hg3 hf3 hgb)
      go_roundg gk0
      case rel =>
        have hgD : g < w1.heap.size := HX1.out.lt
        refine ⟨k + 1, by go_num, by omega, Lib.hid ?_, Lib.hid fun i h1 h2 => ?_, Lib.hid fun q h1 h2 => ?_, Lib.hid ?_, Lib.hid ?_⟩
        · have h := HM3.out
          rw [rowF_join, mixL_set n (fun i => rowF (n + n) (joinF n (ent ls) i))] at h
          exact h
        · rw [World.cell?_setCell_other _ _ _ _ (by intro e; cases e; omega)]
          exact (World.cell?_of_block (a := ⟨g, i, none⟩) HGB.out).trans (hcell.out i (by omega) h2)
        · rw [Below.heap_setCell w3 ⟨g, k, none⟩ _ q (by intro e; have e : q = g := e; omega)]
          exact (HG3.out.block q (Nat.lt_of_lt_of_le h2 hsz.out) (fun e => by have := (HVD.out q e.symm).2; omega)).trans (hblk.out q h1 h2)
        · exact (HB.out.grown HG3.out HB.out.size (fun q hq => by have := (HVD.out q hq).1; have := hX.out.base; omega)).setCell (p := ⟨g, k, none⟩) hX.out.base _
        · have := hsz.out
          have := HG3.out.size
          simp; omega
      case measure => omega
end Go.Proofs.Ytinfjidclkgfnaa
