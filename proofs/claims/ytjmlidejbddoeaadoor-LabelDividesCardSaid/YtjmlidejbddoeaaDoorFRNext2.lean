/-
  What begins at an offset: the document's own function where a whole frame fits.
-/
import Derived.Test.YtjmlidejbddoeaaDoorLM
namespace Go.Proofs.YtjmlidejbddoeaaDoor
open Go.RowKit
set_option linter.unusedVariables false

theorem tup3 {v u : Value} {a b c d : Int} (h0 : v = u) (h : a = c) (h' : b = d) : Value.tuple #[v, .int .i64 a, .int .i64 b] = .tuple #[u, .int .i64 c, .int .i64 d] := by rw [h0, h, h']
/-- What the document's Next answers where a whole frame fits. -/
def NrQ (w : World) (body : List UInt8) (a : Nat) (yes : Bool) (en : Ending) (w' : World) : Prop :=
  if yes then NrP w body ((a : Int) + body.length + 10) 0 en w' else NrP w [] 0 4 en w'

set_option maxRecDepth 100000 in
set_option maxHeartbeats 1000000 in
theorem rn_far (b off n cap a N : Nat) (r : List UInt8) (w : World) (h10 : a + 10 ≤ n) (hnc : n ≤ cap) (hcm : cap ≤ maxLen) (hn : n ≤ 1000000)
   (hc0 : w.cell? ⟨b, off + a, none⟩ = some (.int .u8 167)) (hc1 : w.cell? ⟨b, off + a + 1, none⟩ = some (.int .u8 60)) (hl : Lie w (some ⟨b, off + a + 2, none⟩) r) (hr : r.length = n - a - 2) (hN : num4 r = N) (hbig : N ≤ 65536) (hfit : a + N + 10 ≤ n)
   (hca : cap - a ≠ 10) (body : List UInt8) (l10 : Lie w (some ⟨b, off + a + 10, none⟩) body) (hbody : body.length = N) (s6 : List UInt8) (l6 : Lie w (some ⟨b, off + a + 6, none⟩) s6) (h6 : s6.length = 4) (yes : Bool) (hyes : (be4 (crc (be4 N ++ body)) = s6) = (yes = true)) :
    Calls Tryd.prog 39 #[.slice (some ⟨b, off, none⟩) n cap, .int .i64 a] w (NrQ w body a yes) := by
  have HN := Lib.hid hN
  have HR := Lib.hid hr
  have HBO := Lib.hid hbody
  have HL10 := Lib.hid l10
  have HL6 := Lib.hid l6
  have H6 := Lib.hid h6
  have HY := Lib.hid hyes
  clear hN hr hbody l10 l6 h6 hyes
  unfold maxLen at hcm
  have h3 : 10 ≤ n - a := by omega
  have h4 : ¬ n < a := by omega
  go_enter Tryd.func39, Tryd.ntmps39
  go_wp2_with fail
  refine (rnum_any _ _ _ _ r _ hl HR.out.symm (by rw [HR.out]; omega) (by rw [HR.out]; omega)).mono ?_
  rintro e w' ⟨rfl, rfl⟩
  rw [HN.out]
  have h5 : ¬ n - a < N + 10 := by omega
  go_wp2_with (at_builtin; refine wpList_append_u rfl (.tmp 44) (.tmp 48) rfl w.heap.size _ [] rfl (Own.ofNil _ _) (some ⟨b, off + a + 10, none⟩) _ _ body (fun h => by cases h) HL10.out (by have := HBO.out; omega) rfl (by simp; omega) (Nat.le_refl _) ?_; intro v2 w2 hown2 hgrow2)
  rw [List.nil_append] at hown2
  have hb2 : Below w.heap.size w w2 := below_app (Own.ofNil _ _) (Nat.le_refl _) hgrow2
  obtain ⟨ad2, cap2, rfl, hl2, hlc2, hm2, ha2⟩ := hown2.slice
  have HO2 := Lib.hid hown2
  have HL2 := Lib.hid hl2
  have HB2 := Lib.hid hb2
  have HL6' := Lib.hid (HL6.out.below hb2 rfl)
  have HA2 := Lib.hid ha2
  clear hown2 hl2 hb2 hgrow2 ha2
  rw [HBO.out] at hlc2 ⊢
  obtain ⟨S2, hS2⟩ : ∃ S : ByteArray, (⟨s6.toArray⟩ : ByteArray) = S := ⟨_, rfl⟩
  obtain ⟨S1, hS1⟩ : ∃ S : ByteArray, (⟨(be4 (crc (be4 N ++ body))).toArray⟩ : ByteArray) = S := ⟨_, rfl⟩
  have HS1 := Lib.hid hS1
  have hcA : ∀ W (h : Lie W (some ⟨b, off + a + 6, none⟩) s6), (convert 36 9 (.slice (some ⟨b, off + a + 6, none⟩) 4 (cap - a - 6))).run Tryd.prog W = .ok (.string S2) W := fun W h => by
    have := conv_lie (cap - a - 6) h
    rw [H6.out, hS2] at this
    exact this
  have HCA := Lib.hid hcA
  have hcA1 := hcA w2.drew (HL6'.out.drew)
  have hcA2 := fun k => hcA (w2.drewN k) (HL6'.out.drewN k)
  have HSS : Hid ((S1 = S2) = (yes = true)) := Lib.hid (by
    rw [← HY.out, ← hS1, ← hS2]
    simp)
  clear hS1 hS2 hcA
  cases yes with
  | true =>
    have hss : S1 = S2 := by rw [HSS.out]
    subst hss
    clear HSS
    go_region_with ((go_at_call 50; refine (rfsum_any ad2 N cap2 body _ (by first | exact HL2.out.drew | exact HL2.out.drewN _) HBO.out.symm (by rw [HBO.out]; omega) HA2.out).mono ?_; rintro e w3 ⟨g, rfl, hl3, HB3⟩; have hcB : (convert 36 9 (.slice (some ⟨g, 0, none⟩) 4 4)).run Tryd.prog w3 = .ok (.string S1) w3 := (by rw [HBO.out] at hl3; rw [← HS1.out]; exact conv_lie 4 hl3); have hcC := HCA.out w3 (HL6'.out.drew.below HB3 rfl); clear hl3))
    all_goals
      go_wp2
      go_ret3
      have hb3' : Below w2.heap.size w2 w3 := ⟨HB3.os, HB3.tape, HB3.output, HB3.size, HB3.block⟩
      have hb3 : Below w.heap.size w w3 := HB2.out.trans (hb3'.mono HB2.out.size)
      refine ⟨.slice ad2 N cap2, ?_, by have h := HO2.out.below hb3'; rw [HBO.out] at h; exact h, hb3⟩
      exact congrArg Ending.returned (tup3 rfl (by rw [HBO.out]) rfl)
  | false =>
    have hss : S1 ≠ S2 := fun h => by rw [HSS.out] at h; cases h
    have hs2 : (S1.toList == S2.toList) = false := by
      rw [beq_eq_false_iff_ne]
      intro h
      rw [ByteArray.toList_eq, ByteArray.toList_eq] at h
      exact hss (Go.WideShapes.bytes_inj h)
    go_region_with ((go_at_call 50; refine (rfsum_any ad2 N cap2 body _ (by first | exact HL2.out.drew | exact HL2.out.drewN _) HBO.out.symm (by rw [HBO.out]; omega) HA2.out).mono ?_; rintro e w3 ⟨g, rfl, hl3, HB3⟩; have hcB : (convert 36 9 (.slice (some ⟨g, 0, none⟩) 4 4)).run Tryd.prog w3 = .ok (.string S1) w3 := (by rw [HBO.out] at hl3; rw [← HS1.out]; exact conv_lie 4 hl3); have hcC := HCA.out w3 (HL6'.out.drew.below HB3 rfl); clear hl3))
    all_goals
      go_wp2
      go_ret3
      have hb3' : Below w2.heap.size w2 w3 := ⟨HB3.os, HB3.tape, HB3.output, HB3.size, HB3.block⟩
      have hb3 : Below w.heap.size w w3 := HB2.out.trans (hb3'.mono HB2.out.size)
      exact ⟨_, rfl, .ofNil _ _, hb3⟩
end Go.Proofs.YtjmlidejbddoeaaDoor
