/-
  A copy of a matrix with more columns of zeros, by the specification.
-/
import Derived.Test.YtinfjidclkgfnaaQRows
import Derived.Test.YtinfjidclkgfnaaQRef
import Derived.Test.YtinfjidclkgfnaaHZero
namespace Go.Proofs.Ytinfjidclkgfnaa
open Go.RowKit
/-- more columns of zeros -/
def padF (C : Nat) (M : Nat → Nat → UInt8) (i j : Nat) : UInt8 := if j < C then M i j else 0
theorem rowF_pad (C z : Nat) (M : Nat → Nat → UInt8) (i : Nat) : rowF C (M i) ++ List.replicate z 0 = rowF (C + z) (padF C M i) := by
  apply List.ext_getElem
  · simp [rowF_length]
  · intro j h1 h2
    rw [rowF_get]
    unfold padF
    by_cases h : j < C
    · rw [List.getElem_append_left (by rw [rowF_length]; exact h), rowF_get, if_pos h]
    · rw [List.getElem_append_right (by rw [rowF_length]; omega), if_neg h]
      simp
def RCopP (w : World) (n L : Nat) (M : Nat → Nat → UInt8) (e : Ending) (w' : World) : Prop := ∃ v, e = .returned v ∧ OMv w' w.heap.size w'.heap.size v n L M ∧ Below w.heap.size w w'
attribute [local irreducible] matL rowF padF
set_option maxRecDepth 100000 in
set_option maxHeartbeats 1000000 in
theorem rcopied_any (ad : Option Addr) (n cap z C : Nat) (xs : List (List UInt8)) (w : World) (hl : Lr w ad xs) (hn : n = xs.length) (hV : ValidL xs) (hC : C = cols xs) (hz : z ≤ 1000) :
    Calls Try.prog 59 #[.slice ad n cap, .int .i64 z] w (RCopP w n (C + z) (padF C (ent xs))) := by
  obtain ⟨b, off, rfl, HCa⟩ := hl.mat hV n C hn hC
  have HL := Lib.hid hl
  have HN := Lib.hid hn
  have HV := Lib.hid hV
  have HC := Lib.hid hC
  have hn64 : n ≤ 64 := by have := hV.le; omega
  have hC1 : 1 ≤ C := by rw [hC]; exact hV.cpos
  have hC64 : C ≤ 64 := by rw [hC]; exact hV.cle
  clear hl hn hV hC
  have HO1 := Lib.hid (OMv.made w (w.alloc (.cells #[] 33)).heap.size (C + z) (padF C (ent xs)))
  have HB1 := Lib.hid ((Below.refl w.heap.size w).alloc (Nat.le_refl _) (.cells #[] 33))
  go_enter Try.func59, Try.ntmps59
  go_wp2_with fail
  go_loopg [5, 6] n (fun gk vm vk wx => ∃ k : Nat, vk = .int .i64 k ∧ k + gk = n ∧ Hid (OMv wx w.heap.size wx.heap.size vm k (C + z) (padF C (ent xs))) ∧ Hid (Below w.heap.size w wx))
  case atStart => exact ⟨0, rfl, by omega, HO1, HB1⟩
  case round =>
    obtain ⟨k, rfl, hk, hO, HB⟩ := hrel
    cases gk with
    | zero =>
      have hlt : ¬ (k : Int) < (n : Int) := by omega
      obtain rfl : k = n := by omega
      go_wp2
      go_ret
      exact ⟨_, rfl, hO.out, HB.out⟩
    | succ gk0 =>
      have hlt : (k : Int) < (n : Int) := by omega
      have hkx : k < xs.length := by have := HN.out; omega
      have HA := Lib.hid ((Below.refl wr.heap.size wr).alloc (Nat.le_refl _) (.cells #[] 5))
      obtain ⟨b', off', e', hbl, a1, c1, f1, l1, g1, m1, n1⟩ := HL.out.row k hkx
      cases e'
      have hrow := HV.out.rowF k hkx
      rw [← HC.out] at hrow
      rw [HV.out.len k hkx, ← HC.out] at f1 g1
      rw [hrow] at l1
      have f2 : (wr.alloc (.cells #[] 5)).cell? ⟨b, off + k, none⟩ = some (.slice a1 C c1) := ((HB.out.trans (HA.out.mono HB.out.size)).cell (p := ⟨b, off + k, none⟩) hbl).trans f1
      have HL1 := Lib.hid (l1.below (HB.out.trans (HA.out.mono HB.out.size)) rfl)
      have HN1 := Lib.hid n1
      have HP := Lib.hid (rowF_pad C z (ent xs) k)
      unfold maxLen at m1
      clear f1 l1 n1 hrow hkx
      go_wp2_with (first
        | (at_builtin; refine wpList_append_u rfl (.tmp 15) (.tmp 19) rfl wr.heap.size _ [] rfl (Own.made wr) a1 C c1 (rowF C (ent xs k)) HN1.out HL1.out (by rw [rowF_length]) rfl (by simp; omega) HA.out.size ?_; intro v1 w2 ho1 hg1; have HW2 := Lib.hid (HA.out.grown hg1 HA.out.size (fun q hq => ((Own.made wr).lt q hq).1)); have HO2 := Lib.hid ho1; clear ho1 hg1)
        | (at_builtin; refine wpList_append_z rfl (.tmp 20) (.tmp 21) rfl wr.heap.size v1 ([] ++ rowF C (ent xs k)) rfl HO2.out z rfl (by simp [rowF_length]; omega) HW2.out.size ?_; intro v2 w3 ho2 hg2; have HW3 := Lib.hid (HW2.out.grown hg2 HW2.out.size (fun q hq => (HO2.out.lt q hq).1)); rw [List.nil_append, HP.out] at ho2; have HO3 := Lib.hid ho2; obtain ⟨ad2, cap2, e2, -⟩ := ho2.slice; subst e2; rw [rowF_length] at HO3 ⊢; have HW4 := Lib.hid (HW3.out.alloc HW3.out.size (.cells #[.slice ad2 (C + z) cap2] 33)); have HO4 : Hid (Own (w3.alloc (.cells #[.slice ad2 (C + z) cap2] 33)) wr.heap.size (.slice ad2 (C + z) cap2) ((List.range (C + z)).map (padF C (ent xs) k))) := Lib.hid (by have h := HO3.out.below ((Below.refl _ _).alloc (Nat.le_refl _) (.cells #[.slice ad2 (C + z) cap2] 33)); rw [rowF_def] at h; exact h); clear ho2 hg2)
        | (at_builtin; refine wpList_append_row rfl (.tmp 14) (.tmp 23) rfl w.heap.size u5 (.slice ad2 (C + z) cap2) k (C + z) (padF C (ent xs)) wr.heap.size rfl (hO.out.below HW4.out) _ rfl (cell_one_at _ _ _ _ (by simp)) HO4.out (by omega) HB.out.size (by omega) (Nat.le_trans HB.out.size HW4.out.size) ?_; intro v3 w5 ho3 hg3; have HO5 := Lib.hid ho3; have HB5 := Lib.hid ((hO.out.below HW4.out).below_lt (HB.out.trans (HW4.out.mono HB.out.size)) (Nat.le_trans HB.out.size HW4.out.size) hg3); clear ho3 hg3))
      go_roundg gk0
      case rel => exact ⟨k + 1, by go_num, by omega, HO5, HB5⟩
      case measure => omega
end Go.Proofs.Ytinfjidclkgfnaa
