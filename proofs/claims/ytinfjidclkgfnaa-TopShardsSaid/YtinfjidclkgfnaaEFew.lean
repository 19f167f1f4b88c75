/-
  What the laws of layer 6 cut.
-/
import Derived.Test.YtinfjidclkgfnaaQList
import Derived.Test.YtinfjidclkgfnaaQRows
import Derived.Deep.LoopGhost
namespace Go.Proofs.Ytinfjidclkgfnaa
open Go.RowKit
/-- at most 17 shards of at most 40 bytes -/
def fewL (ls : List (List UInt8)) : List (List UInt8) := (ls.take 17).map fun r => r.take 40
theorem fewL_length (ls : List (List UInt8)) : (fewL ls).length ≤ 17 := by unfold fewL; rw [List.length_map, List.length_take]; omega
theorem fewL_row (ls : List (List UInt8)) : ∀ r ∈ fewL ls, r.length ≤ 40 := by
  intro r hr
  obtain ⟨l, _, rfl⟩ := List.mem_map.1 hr
  rw [List.length_take]; omega
theorem fewL_take (ls : List (List UInt8)) (k : Nat) (hk : k < ls.length) (hk2 : k < 17) : fewL (ls.take (k + 1)) = fewL (ls.take k) ++ [(ls[k]).take 40] := by
  unfold fewL
  rw [List.take_take, List.take_take, Nat.min_eq_right (by omega), Nat.min_eq_right (by omega), List.take_add_one, List.map_append]
  simp [hk]
theorem fewL_end (ls : List (List UInt8)) (k : Nat) (h : ls.length ≤ k ∨ 17 ≤ k) : fewL (ls.take k) = fewL ls := by
  unfold fewL
  rcases h with h | h
  · rw [List.take_of_length_le h]
  · rw [List.take_take, Nat.min_eq_left h]
theorem Lie.take {w : World} {ad : Option Addr} {xs : List UInt8} (h : Lie w ad xs) (k : Nat) : Lie w ad (xs.take k) := by
  rcases h.at_ with h0 | ⟨b, off, e, hlt, hc⟩
  · exact ⟨.inl (by rw [h0]; simp)⟩
  · refine ⟨.inr ⟨b, off, e, hlt, fun j hj => ?_⟩⟩
    rw [List.length_take] at hj
    rw [List.getElem_take]
    exact hc j (by omega)
set_option maxRecDepth 100000 in
set_option maxHeartbeats 1000000 in
theorem short_any (ad : Option Addr) (n cap : Nat) (xs : List UInt8) (w : World) (hn : n = xs.length) (hcap : n ≤ cap) (hm : cap ≤ maxLen) (ha : ad = none → cap = 0) :
    Calls Try.prog 19 #[.slice ad n cap] w fun e w' => (∃ m, e = .returned (.slice ad m cap) ∧ m = (xs.take 40).length) ∧ w = w' := by
  have HN := Lib.hid hn
  unfold maxLen at hm
  clear hn
  by_cases h : 40 < n
  · obtain ⟨a, rfl⟩ : ∃ a, ad = some a := by
      cases ad with
      | none => have := ha rfl; omega
      | some a => exact ⟨a, rfl⟩
    have hc : 40 ≤ cap := by omega
    clear ha
    go_enter Try.func19, Try.ntmps19
    go_wp2
    go_ret
    exact ⟨⟨40, rfl, by rw [List.length_take, ← HN.out]; omega⟩, rfl⟩
  · go_enter Try.func19, Try.ntmps19
    go_wp2
    go_ret
    exact ⟨⟨n, rfl, by rw [List.length_take, ← HN.out]; omega⟩, rfl⟩
/-- a call gives a list to be read -/
def GivesR (w : World) (L : List (List UInt8)) (e : Ending) (w' : World) : Prop := ∃ ad cap, e = .returned (.slice ad L.length cap) ∧ Lr w' ad L ∧ L.length ≤ cap ∧ cap ≤ maxLen ∧ (ad = none → cap = 0) ∧ Below w.heap.size w w'
set_option maxRecDepth 100000 in
set_option maxHeartbeats 1000000 in
theorem few_any (ad : Option Addr) (n cap : Nat) (ls : List (List UInt8)) (w : World) (hl : Lr w ad ls) (hn : n = ls.length) (hm : n ≤ maxLen) :
    Calls Try.prog 10 #[.slice ad n cap] w (GivesR w (fewL ls)) := by
  have HL := Lib.hid hl
  have HN := Lib.hid hn
  unfold maxLen at hm
  clear hl hn
  go_enter Try.func10, Try.ntmps10
  go_wp2_with fail
  go_loopg [3, 4] 18 (fun gk vo vk wx => ∃ k : Nat, vk = .int .i64 k ∧ k + gk = 18 ∧ k ≤ n ∧ Hid (Lo wx w w.heap.size vo (fewL (ls.take k))) ∧ Hid (Below w.heap.size w wx))
  case atStart => exact ⟨0, rfl, by omega, by omega, Lib.hid (by rw [List.take_zero]; exact Lo.nil _ _ _), Lib.hid (Below.refl _ _)⟩
  case round =>
    obtain ⟨k, rfl, hk, hkn, hO, HB⟩ := hrel
    by_cases hgo : k < n ∧ k < 17
    rotate_left
    · have HE := Lib.hid (fewL_end ls k (by have := HN.out; omega))
      have HO := hO.out.lq HB.out (Nat.le_refl _)
      rw [HE.out] at HO
      have HO2 := Lib.hid HO
      clear HO hO
      by_cases h1 : k < n
      · have h2 : ¬ (k : Int) < 17 := by omega
        have h3 : (k : Int) < (n : Int) := by omega
        clear hgo
        go_wp2
        go_ret
        obtain ⟨ad', cap', e, h4, h5, h6, h7⟩ := HO2.out.read
        subst e
        exact ⟨ad', cap', rfl, h4, h5, h6, h7, HB.out⟩
      · have h3 : ¬ (k : Int) < (n : Int) := by omega
        clear hgo
        go_wp2
        go_ret
        obtain ⟨ad', cap', e, h4, h5, h6, h7⟩ := HO2.out.read
        subst e
        exact ⟨ad', cap', rfl, h4, h5, h6, h7, HB.out⟩
    obtain ⟨h1, h2⟩ := hgo
    obtain ⟨gk0, rfl⟩ : ∃ g, gk = g + 1 := ⟨gk - 1, by omega⟩
    have hkl : k < ls.length := by have := HN.out; omega
    obtain ⟨b, off, rfl, hbl, a1, c1, f1, l1, g1, m1, e1⟩ := HL.out.row k hkl
    have f2 : wr.cell? ⟨b, off + k, none⟩ = some (.slice a1 (ls[k]).length c1) := (HB.out.cell (p := ⟨b, off + k, none⟩) hbl).trans f1
    have HX := Lib.hid (fewL_take ls k hkl h2)
    have HL1 := Lib.hid (l1.take 40)
    have HG : Hid (((ls[k]).take 40).length ≤ c1 ∧ c1 ≤ maxLen ∧ (a1 = none → c1 = 0)) := Lib.hid ⟨by rw [List.length_take]; omega, m1, e1⟩
    have HSH := Lib.hid (short_any a1 (ls[k]).length c1 (ls[k]) wr rfl g1 m1 e1)
    have HLT := Lib.hid (fewL_length (ls.take k))
    have h3 : (k : Int) < (n : Int) := by omega
    have h4 : (k : Int) < 17 := by omega
    obtain ⟨W0, HW0⟩ : ∃ W0 : World, Hid (W0 = wr) := ⟨_, Lib.hid rfl⟩
    have HO0 : Hid (Lo W0 w w.heap.size u3 (fewL (ls.take k))) := Lib.hid (by rw [HW0.out]; exact hO.out)
    have HB0 : Hid (Below w.heap.size w W0) := Lib.hid (by rw [HW0.out]; exact HB.out)
    generalize (ls[k]).length = N at f2 HSH
    generalize (ls[k]).take 40 = row at HX HL1 HG HSH
    clear f1 l1 g1 m1 e1 hkl hO
    go_wp2_with fail
    refine HSH.out.mono ?_
    rintro e w' ⟨⟨m, rfl, hm'⟩, rfl⟩
    have HMM := Lib.hid hm'
    rw [← hm'] at HG
    have HA1 : Hid (Below W0.heap.size W0 (wr.alloc (.cells #[.slice a1 m c1] 33))) := Lib.hid (by rw [HW0.out]; exact (Below.refl wr.heap.size wr).alloc (Nat.le_refl _) _)
    have HO1 := Lib.hid (HO0.out.below HA1.out)
    have HBA := Lib.hid (HB0.out.trans (HA1.out.mono HB0.out.size))
    have HZ1 := Lib.hid HBA.out.size
    clear hm'
    go_wp2_with (at_builtin; refine wpList_append_o rfl (.tmp 15) (.tmp 21) rfl w w.heap.size u3 _ rfl HO1.out _ rfl a1 m c1 row HMM.out (cell_one_at _ _ _ _ (by simp)) HL1.out HG.out.1 HG.out.2.1 HG.out.2.2 (by have := HLT.out; omega) HZ1.out ?_; intro v5 w5 ho5 hg5 _; rw [← HX.out] at ho5; have HO5 := Lib.hid ho5; have HB5 := Lib.hid (HO1.out.grow HBA.out (Nat.le_refl _) hg5); clear ho5 hg5)
    go_roundg gk0
    case rel => exact ⟨k + 1, by go_num, by omega, by omega, HO5, HB5⟩
    case measure => omega
end Go.Proofs.Ytinfjidclkgfnaa
