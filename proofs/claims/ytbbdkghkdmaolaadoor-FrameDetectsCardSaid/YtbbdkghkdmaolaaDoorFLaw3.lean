/-
  The walk of the statement FrameDetects where a byte changes; and at large.
-/
import Derived.Test.YtbbdkghkdmaolaaDoorFLaw2
namespace Go.Proofs.YtbbdkghkdmaolaaDoor
open Go.RowKit
set_option linter.unusedVariables false
set_option linter.unusedSimpArgs false

set_option maxRecDepth 100000 in
set_option maxHeartbeats 1000000 in
theorem det_in (ad : Option Addr) (n cap k a : Nat) (body : List UInt8) (d : UInt8) (w : World) (hcase : (60 < n ∧ k = 60) ∨ (n ≤ 60 ∧ k = n)) (hl : Lie w ad body) (hk : k = body.length) (hc : n ≤ cap) (hcm : cap ≤ maxLen) (had : ad = none → cap = 0) (hmg : Mag w)
    (h6 : 6 ≤ a) (hat : a < k + 10) (hd0 : d ≠ 0) :
    Calls Tryd.prog 7 #[.slice ad n cap, .int .i64 a, .int .u8 (d.toNat : Int)] w fun e w' => e = .returned (.bool true) ∧ Below w.heap.size w w' := by
  have c1 := append_any none ad 0 0 k cap [] body w (.nil _ _) rfl (by decide) (fun _ => rfl) hl hk (by omega) had hmg
  rw [List.nil_append] at c1
  have hfl := frm_length body
  have hlt : a < (frm body).length := by omega
  have hck := chk_changed body (by omega) a h6 hlt d hd0
  generalize frm body = L at *
  have C1 := Lib.hid c1
  have HM := Lib.hid hmg
  have HLE : Hid (L.length = k + 10) := Lib.hid (by omega)
  have HCK := Lib.hid hck
  unfold maxLen at hcm
  have h0 : ad = none → n = 0 := fun h => by have := had h; omega
  have hd1 : ((d.toNat : Int) == 0) = false := by
    rw [beq_eq_false_iff_ne]
    intro h
    exact hd0 (UInt8.toNat_inj.1 (by have : d.toNat = 0 := by omega
                                     simpa using this))
  have hdl := d.toNat_lt
  clear hfl hck hk
  rcases hcase with ⟨h60, hk⟩ | ⟨h60, rfl⟩
  · obtain ⟨a0, rfl⟩ : ∃ a0, ad = some a0 := by
      cases ad with
      | none => have := h0 rfl; omega
      | some a0 => exact ⟨a0, rfl⟩
    subst hk
    have HLE' : Hid (L.length = 70) := Lib.hid (by have := HLE.out; omega)
    clear c1 hl hmg h0 had
    go_enter Tryd.func7, Tryd.ntmps7
    go_wp2_with fail
    refine C1.out.mono ?_
    rintro e w1 ⟨v1, rfl, ho1, hb1⟩
    have HB1 := Lib.hid hb1
    have HM1 := Lib.hid (HM.out.step hb1)
    obtain ⟨ad1, cap1, rfl, hl1, _, _, ha1⟩ := ho1.slice
    have HL1 := Lib.hid (hl1.alloc (.cells #[] 5))
    rw [HLE'.out]
    clear ho1 hl1 hb1
    go_wp2_with (at_builtin; refine wpList_append_u rfl (.tmp 46) (.tmp 47) rfl w1.heap.size _ [] rfl (Own.made w1) ad1 _ cap1 L ha1 HL1.out HLE'.out.symm rfl (by simp only [List.length_nil]; omega) (by simp) ?_; intro v2 w2 ho2 hg2)
    rw [List.nil_append] at ho2
    have hb2 : Below w1.heap.size w1 w2 := below_new hg2 (fun k hk => ((Own.made w1).lt k hk).1)
    obtain ⟨g, cap2, hv2, hgB⟩ : ∃ g cap2, v2 = .slice (some ⟨g, 0, none⟩) L.length cap2 ∧ w1.heap.size ≤ g := ho2.at_block (by rw [HLE'.out]; omega)
    subst hv2
    have hc2 := (ho2.row.cellAt a (by omega)).trans (cellsU_get L a hlt)
    have hf2 := ho2.row.frozenAt a
    have hst := ho2.row.stored a (.int .u8 (((L[a]'hlt) ^^^ d).toNat : Int))
    have HST := Lib.hid hst.1
    have HB2 := Lib.hid (hb2.setCell (p := ⟨g, a, none⟩) hgB (.int .u8 (((L[a]'hlt) ^^^ d).toNat : Int)))
    have hbx := bits_xor_u8 (L[a]'hlt) d
    rw [HLE'.out]
    clear ho2 hg2 hb2 hst ha1
    generalize ((L[a]'hlt).toNat : Int) = z at hc2 hbx
    generalize hzz : (((L[a]'hlt) ^^^ d).toNat : Int) = zz at hbx HST HB2
    have HZZ := Lib.hid hzz
    clear hzz
    have ho3 : Own (w2.setCell ⟨g, a, none⟩ (.int .u8 zz)) w1.heap.size (.slice (some ⟨g, 0, none⟩) 70 cap2) (L.set a ((L[a]'hlt) ^^^ d)) := by
      have h := HST.out
      unfold Own
      rw [List.length_set, show cellsU (L.set a ((L[a]'hlt) ^^^ d)) = (cellsU L).set a (.int .u8 zz) by rw [← HZZ.out]; simp [cellsU, List.map_set]]
      have e : L.length = 70 := HLE'.out
      rw [e] at h ⊢
      exact h
    have hlie := lie_own ho3.row (by rw [List.length_set, HLE'.out])
    obtain ⟨ad3, cap3, hv3, hl3, hlc3, hm3, _⟩ := hlie
    simp only [Value.slice.injEq] at hv3
    obtain ⟨rfl, hv4, rfl⟩ := hv3
    rw [List.length_set, HLE'.out] at hlc3
    have HB3 := Lib.hid (HB1.out.trans (HB2.out.mono HB1.out.size))
    have HM3 := Lib.hid (HM1.out.step HB2.out)
    have hnx := next_any (some ⟨g, 0, none⟩) 70 cap2 _ 0 _ hl3 (by rw [List.length_set, HLE'.out]) (by rw [List.length_set, HLE'.out]; omega) hlc3 hm3 (fun h => by cases h) HM3.out
    unfold NxP at hnx
    rw [HCK.out] at hnx
    have HNX := Lib.hid hnx
    clear hnx hl3 hm3 ho3 hv4 hlc3
    go_wp2_with fail
    refine HNX.out.mono ?_
    rintro e w4 ⟨v4, rfl, _, hb4⟩
    have HB4 := Lib.hid (HB3.out.trans (hb4.mono HB3.out.size))
    have HM4 := Lib.hid (HM3.out.step hb4)
    clear hb4
    go_wp2_with fail
    refine (awake_any _ HM4.out).mono ?_
    rintro e w5 ⟨rfl, hb5⟩
    have HB5 := Lib.hid (HB4.out.trans (hb5.mono HB4.out.size))
    clear hb5
    go_wp2
    go_ret
    exact ⟨rfl, HB5.out⟩
  · clear c1 hl hmg h0 had
    go_enter Tryd.func7, Tryd.ntmps7
    go_wp2_with fail
    refine C1.out.mono ?_
    rintro e w1 ⟨v1, rfl, ho1, hb1⟩
    have HB1 := Lib.hid hb1
    have HM1 := Lib.hid (HM.out.step hb1)
    obtain ⟨ad1, cap1, rfl, hl1, _, _, ha1⟩ := ho1.slice
    have HL1 := Lib.hid (hl1.alloc (.cells #[] 5))
    rw [HLE.out]
    clear ho1 hl1 hb1
    go_wp2_with (at_builtin; refine wpList_append_u rfl (.tmp 46) (.tmp 47) rfl w1.heap.size _ [] rfl (Own.made w1) ad1 _ cap1 L ha1 HL1.out HLE.out.symm rfl (by simp only [List.length_nil]; omega) (by simp) ?_; intro v2 w2 ho2 hg2)
    rw [List.nil_append] at ho2
    have hb2 : Below w1.heap.size w1 w2 := below_new hg2 (fun k hk => ((Own.made w1).lt k hk).1)
    obtain ⟨g, cap2, hv2, hgB⟩ : ∃ g cap2, v2 = .slice (some ⟨g, 0, none⟩) L.length cap2 ∧ w1.heap.size ≤ g := ho2.at_block (by rw [HLE.out]; omega)
    subst hv2
    have hc2 := (ho2.row.cellAt a (by omega)).trans (cellsU_get L a hlt)
    have hf2 := ho2.row.frozenAt a
    have hst := ho2.row.stored a (.int .u8 (((L[a]'hlt) ^^^ d).toNat : Int))
    have HST := Lib.hid hst.1
    have HB2 := Lib.hid (hb2.setCell (p := ⟨g, a, none⟩) hgB (.int .u8 (((L[a]'hlt) ^^^ d).toNat : Int)))
    have hbx := bits_xor_u8 (L[a]'hlt) d
    rw [HLE.out]
    clear ho2 hg2 hb2 hst ha1
    generalize ((L[a]'hlt).toNat : Int) = z at hc2 hbx
    generalize hzz : (((L[a]'hlt) ^^^ d).toNat : Int) = zz at hbx HST HB2
    have HZZ := Lib.hid hzz
    clear hzz
    have ho3 : Own (w2.setCell ⟨g, a, none⟩ (.int .u8 zz)) w1.heap.size (.slice (some ⟨g, 0, none⟩) (k + 10) cap2) (L.set a ((L[a]'hlt) ^^^ d)) := by
      have h := HST.out
      unfold Own
      rw [List.length_set, show cellsU (L.set a ((L[a]'hlt) ^^^ d)) = (cellsU L).set a (.int .u8 zz) by rw [← HZZ.out]; simp [cellsU, List.map_set]]
      have e : L.length = k + 10 := HLE.out
      rw [e] at h ⊢
      exact h
    have hlie := lie_own ho3.row (by rw [List.length_set, HLE.out])
    obtain ⟨ad3, cap3, hv3, hl3, hlc3, hm3, _⟩ := hlie
    simp only [Value.slice.injEq] at hv3
    obtain ⟨rfl, hv4, rfl⟩ := hv3
    rw [List.length_set, HLE.out] at hlc3
    have HB3 := Lib.hid (HB1.out.trans (HB2.out.mono HB1.out.size))
    have HM3 := Lib.hid (HM1.out.step HB2.out)
    have hnx := next_any (some ⟨g, 0, none⟩) (k + 10) cap2 _ 0 _ hl3 (by rw [List.length_set, HLE.out]) (by rw [List.length_set]; have := HLE.out; omega) hlc3 hm3 (fun h => by cases h) HM3.out
    unfold NxP at hnx
    rw [HCK.out] at hnx
    have HNX := Lib.hid hnx
    clear hnx hl3 hm3 ho3 hv4 hlc3
    go_wp2_with fail
    refine HNX.out.mono ?_
    rintro e w4 ⟨v4, rfl, _, hb4⟩
    have HB4 := Lib.hid (HB3.out.trans (hb4.mono HB3.out.size))
    have HM4 := Lib.hid (HM3.out.step hb4)
    clear hb4
    go_wp2_with fail
    refine (awake_any _ HM4.out).mono ?_
    rintro e w5 ⟨rfl, hb5⟩
    have HB5 := Lib.hid (HB4.out.trans (hb5.mono HB4.out.size))
    clear hb5
    go_wp2
    go_ret
    exact ⟨rfl, HB5.out⟩

theorem law_det (ad : Option Addr) (n cap : Nat) (xs : List UInt8) (at_ d : Int) (w : World) (hl : Lie w ad xs) (hn : n = xs.length) (hc : n ≤ cap) (hcm : cap ≤ maxLen) (had : ad = none → cap = 0) (hd : 0 ≤ d ∧ d ≤ 255) (hmg : Mag w) :
    Calls Tryd.prog 7 #[.slice ad n cap, .int .i64 at_, .int .u8 d] w fun e w' => e = .returned (.bool true) ∧ Below w.heap.size w w' := by
  have hcase : (60 < n ∧ min n 60 = 60) ∨ (n ≤ 60 ∧ min n 60 = n) := by omega
  have hk : min n 60 = (xs.take 60).length := by rw [List.length_take]; omega
  by_cases hin : 6 ≤ at_ ∧ at_ < (min n 60 : Nat) + 10 ∧ d ≠ 0
  · obtain ⟨h1, h2, h3⟩ := hin
    obtain ⟨a, rfl⟩ : ∃ a : Nat, at_ = a := ⟨at_.toNat, by omega⟩
    obtain ⟨d8, rfl⟩ : ∃ d8 : UInt8, d = (d8.toNat : Int) := ⟨UInt8.ofNat d.toNat, by rw [toNat8' _ (by omega)]; omega⟩
    exact det_in ad n cap (min n 60) a (xs.take 60) d8 w hcase (hl.take 60) hk hc hcm had hmg (by omega) (by omega) (fun h => h3 (by rw [h]; rfl))
  · exact det_out ad n cap (min n 60) (xs.take 60) at_ d w hcase (hl.take 60) hk hc hcm had hmg hd (by omega)
end Go.Proofs.YtbbdkghkdmaolaaDoor
