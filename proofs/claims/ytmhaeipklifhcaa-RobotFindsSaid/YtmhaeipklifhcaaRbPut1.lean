/-
  What Put does to the robot in its box.
-/
import Derived.Test.YtmhaeipklifhcaaRbDo
namespace Go.Proofs.Ytmhaeipklifhcaa
open Go.RowKit
set_option linter.unusedVariables false
attribute [local irreducible] inn mdlR rail dst vldR trvR finR locR
set_option maxRecDepth 100000 in
set_option maxHeartbeats 4000000 in
theorem put1_any (w : World) (ge : Nat) (k i : Int) (he : ElAt w ge k i) : Does w 46 #[.pointer (some ⟨ge, 0, none⟩)] k i (dpt k i) := by
  refine ⟨fun args X => by go_simp, fun X g C r ad n cap hb hwg hgC hCX hr hs hn hc => ?_⟩
  have HE := Lib.hid (he.step hb)
  have HR := Lib.hid hr
  have HS := Lib.hid hs
  have HN := Lib.hid hn
  have HC := Lib.hid hc
  have hgX : g < X.heap.size := by omega
  have HG := Lib.hid (show w.heap.size ≤ g ∧ g < C ∧ C ≤ X.heap.size from ⟨hwg, hgC, hCX⟩)
  clear he hb hr hs hn hc hwg hgC hCX hgX
  show Calls Try.prog 46 #[.pointer (some ⟨g, 0, none⟩), .pointer (some ⟨ge, 0, none⟩)] X _
  obtain ⟨_, k0, k1, k2, k3, k4⟩ := RoAt.of HR.out
  obtain ⟨_, e0, e1⟩ := HE.out
  have f4 := froz_of HR.out 4
  have f3 := froz_of HR.out 3
  by_cases hh : r.ha = emp
  · have HD := Lib.hid (show dpt k i r = (11, r) from if_pos hh)
    have hq : r.ha.toList.isEmpty = true := by rw [isE]; simp [hh]
    clear hh
    go_enter Try.func46, Try.ntmps46
    go_wp2
    go_ret
    rw [HD.out]
    exact ⟨rfl, fun h => (by cases h), ⟨Below.refl _ _, fun _ _ _ _ e => e⟩⟩
  have hq : r.ha.toList.isEmpty = false := by rw [isE]; simp [hh]
  have HH := Lib.hid hh
  clear hh
  rcases HC.out.kind with hk | hk | hk
  · subst hk
    obtain ⟨i0, i1⟩ := HC.out.slot rfl
    obtain ⟨j, rfl⟩ : ∃ j : Nat, i = (j : Int) := ⟨i.toNat, by omega⟩
    have hjn : j < n := by omega
    have hjl : j < r.l.length := by have := HN.out; omega
    have hgd : r.l.getD (j : Int).toNat emp = r.l[j] := by simp [hjl]
    obtain ⟨gl, cap', hv, -, -, -, -, -, -, -⟩ := HS.out.set_ j hjl r.ha
    rw [← HN.out] at hv
    cases hv
    have hji : (j : Int) < (n : Int) := by omega
    go_enter Try.func46, Try.ntmps46
    go_wp2_with fail
    go_quiet (fail)
    generalize hX1 : World.drewN X _ = X1
    have HB1 := Lib.hid (show DoK g C X X1 by rw [← hX1]; exact ⟨below_drewN (Below.refl _ _) _, fun _ _ _ _ e => e⟩)
    have HR1 := Lib.hid (show X1.heap[g]? = some (boxR r (some ⟨gl, 0, none⟩) n cap) by rw [← hX1]; exact HR.out)
    have hs1 : Sq X1 C (.slice (some ⟨gl, 0, none⟩) n cap) r.l := by rw [← hX1]; exact HS.out
    obtain ⟨gl', cap', hv, hB, hlt, hcl, hcm, hcj, hfj, hS⟩ := hs1.set_ j hjl r.ha
    rw [← HN.out] at hv hcl
    cases hv
    have HSS := Lib.hid hS
    have HGL := Lib.hid hB
    obtain ⟨x, hx⟩ : ∃ x, x = r.l[j] := ⟨_, rfl⟩
    rw [← hx] at hcj hgd
    have HGD := Lib.hid hgd
    clear hX1 hs1 hS hB hx hgd k0 k1 k2 k3 k4 f4 f3 e0 e1
    obtain ⟨_, k0, k1, k2, k3, k4⟩ := RoAt.of HR1.out
    have f4 := froz_of HR1.out 4
    by_cases he : x = emp
    · have hq2 : x.toList.isEmpty = true := by rw [isE]; simp [he]
      have HD := Lib.hid (show dpt 0 (j : Int) r = (0, { r with l := r.l.set j r.ha, ha := emp }) by
        unfold dpt; rw [if_neg HH.out, if_neg (by decide), if_pos rfl, HGD.out, if_neg (by simpa using he)]; rfl)
      clear he
      have hne : gl ≠ g := by have := HG.out; have := HGL.out; omega
      have hne2 : g ≠ gl := fun h => hne h.symm
      go_wp2
      go_ret
      rw [HD.out]
      refine ⟨rfl, fun _ => ⟨?_, ?_⟩, ?_⟩
      · exact ro_set (far_set HR1.out hne2 _ _) 4 _ rfl
      · exact HSS.out.keep (fun q hq => by have := (HSS.out.lt q hq).1; rw [Below.heap_setCell _ _ _ _ (by show q ≠ g; have := HG.out; omega)])
      · exact HB1.out.trans ((DoK.set _ (.inr ⟨HGL.out, by have := HG.out; have := HGL.out; omega⟩)).trans (DoK.set _ (.inl rfl)))
    · have hq2 : x.toList.isEmpty = false := by rw [isE]; simp [he]
      have HD := Lib.hid (show dpt 0 (j : Int) r = (12, r) by
        unfold dpt; rw [if_neg HH.out, if_neg (by decide), if_pos rfl, HGD.out, if_pos he])
      clear he
      go_wp2
      go_ret
      rw [HD.out]
      exact ⟨rfl, fun h => (by cases h), HB1.out⟩
  · subst hk
    have HD := Lib.hid (show dpt 1 i r = (0, { r with ha := emp }) by unfold dpt; rw [if_neg HH.out, if_pos rfl])
    go_enter Try.func46, Try.ntmps46
    go_wp2
    go_ret
    rw [HD.out]
    exact ⟨rfl, fun _ => ⟨ro_set HR.out 4 _ rfl, HS.out.keep (fun q hq => by have := (HS.out.lt q hq).1; rw [Below.heap_setCell _ _ _ _ (by show q ≠ g; have := HG.out; omega)])⟩, DoK.set _ (.inl rfl)⟩
  · subst hk
    by_cases he : r.po = emp
    · have hq2 : r.po.toList.isEmpty = true := by rw [isE]; simp [he]
      have HD := Lib.hid (show dpt 2 i r = (0, { r with po := r.ha, ha := emp }) by
        unfold dpt; rw [if_neg HH.out, if_neg (by decide), if_neg (by decide), if_neg (by simpa using he)])
      clear he
      go_enter Try.func46, Try.ntmps46
      go_wp2
      go_ret
      rw [HD.out]
      refine ⟨rfl, fun _ => ⟨?_, ?_⟩, ?_⟩
      · exact ro_set (r := { r with po := r.ha }) (ro_set HR.out 3 _ rfl) 4 _ rfl
      · exact HS.out.keep (fun q hq => by have := (HS.out.lt q hq).1; rw [Below.heap_setCell _ _ _ _ (by show q ≠ g; have := HG.out; omega), Below.heap_setCell _ _ _ _ (by show q ≠ g; have := HG.out; omega)])
      · exact (DoK.set _ (.inl rfl)).trans (DoK.set _ (.inl rfl))
    · have hq2 : r.po.toList.isEmpty = false := by rw [isE]; simp [he]
      have HD := Lib.hid (show dpt 2 i r = (12, r) by
        unfold dpt; rw [if_neg HH.out, if_neg (by decide), if_neg (by decide), if_pos he])
      clear he
      go_enter Try.func46, Try.ntmps46
      go_wp2
      go_ret
      rw [HD.out]
      exact ⟨rfl, fun h => (by cases h), ⟨Below.refl _ _, fun _ _ _ _ e => e⟩⟩
end Go.Proofs.Ytmhaeipklifhcaa
