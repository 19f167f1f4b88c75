/-
  The walk of the statement FrameDetects: true for every body, place and change, and nothing that was there is written.
-/
import Derived.Test.YtbbdkghkdmaolaaDoorFAwake
import Derived.Test.YtbbdkghkdmaolaaDoorFDet
namespace Go.Proofs.YtbbdkghkdmaolaaDoor
open Go.RowKit
set_option linter.unusedVariables false
set_option linter.unusedSimpArgs false

theorem bits_xor_u8 (x d : UInt8) : bits .xor .u8 (x.toNat : Int) (d.toNat : Int) = ((x ^^^ d).toNat : Int) := by
  have h1 := x.toNat_lt
  have h2 := d.toNat_lt
  rw [u8_xor _ _ (by omega) (by omega) (by omega) (by omega), UInt8.toNat_xor]
  rfl
theorem Own.at_block {w : World} {B : Nat} {v : Value} {l : List UInt8} (h : Own w B v l) (h0 : 0 < l.length) : ∃ g cap, v = .slice (some ⟨g, 0, none⟩) l.length cap ∧ B ≤ g := by
  rcases h.row.2 with ⟨_, h1⟩ | ⟨g, cap, cur, h1, hg, _⟩
  · omega
  · exact ⟨g, cap, h1, hg⟩
theorem chk_changed (body : List UInt8) (h : body.length ≤ 65536) (at_ : Nat) (h6 : 6 ≤ at_) (hat : at_ < (frm body).length) (d : UInt8) (hd0 : d ≠ 0) : chk ((frm body).set at_ ((frm body)[at_] ^^^ d)) 0 = (0, 4) := by
  have h0 := chk_nat ((frm body).set at_ ((frm body)[at_] ^^^ d)) 0 (by omega)
  rw [List.drop_zero, hd_changed body h at_ h6 hat d hd0] at h0
  exact h0

set_option maxRecDepth 100000 in
set_option maxHeartbeats 1000000 in
theorem det_out (ad : Option Addr) (n cap k : Nat) (body : List UInt8) (at_ : Int) (d : Int) (w : World) (hcase : (60 < n ∧ k = 60) ∨ (n ≤ 60 ∧ k = n)) (hl : Lie w ad body) (hk : k = body.length) (hc : n ≤ cap) (hcm : cap ≤ maxLen) (had : ad = none → cap = 0) (hmg : Mag w) (hd : 0 ≤ d ∧ d ≤ 255)
    (hout : at_ < 6 ∨ (6 ≤ at_ ∧ (k : Int) + 10 ≤ at_) ∨ (6 ≤ at_ ∧ at_ < (k : Int) + 10 ∧ d = 0)) :
    Calls Tryd.prog 7 #[.slice ad n cap, .int .i64 at_, .int .u8 d] w fun e w' => e = .returned (.bool true) ∧ Below w.heap.size w w' := by
  have c1 := append_any none ad 0 0 k cap [] body w (.nil _ _) rfl (by decide) (fun _ => rfl) hl hk (by omega) had hmg
  rw [List.nil_append] at c1
  have hfl := frm_length body
  generalize frm body = L at *
  have C1 := Lib.hid c1
  have HF := Lib.hid hfl
  have HK := Lib.hid hk
  have HM := Lib.hid hmg
  unfold maxLen at hcm
  have h0 : ad = none → n = 0 := fun h => by have := had h; omega
  rcases hcase with ⟨h60, rfl⟩ | ⟨h60, rfl⟩
  · obtain ⟨a0, rfl⟩ : ∃ a0, ad = some a0 := by
      cases ad with
      | none => have := h0 rfl; omega
      | some a0 => exact ⟨a0, rfl⟩
    clear c1 hl hk hmg hfl h0 had
    rcases hout with h1 | ⟨h1, h2⟩ | ⟨h1, h2, rfl⟩
    all_goals
      go_enter Tryd.func7, Tryd.ntmps7
      go_wp2_with fail
      refine C1.out.mono ?_
      rintro e w1 ⟨v1, rfl, ho1, hb1⟩
      have HB1 := Lib.hid hb1
      have HM1 := Lib.hid (HM.out.step hb1)
      obtain ⟨ad1, cap1, rfl, hl1, _, _, _⟩ := ho1.slice
      rw [show L.length = 70 by have := HF.out; have := HK.out; omega]
      clear ho1 hl1 hb1
      go_wp2_with fail
      refine (awake_any _ HM1.out).mono ?_
      rintro e w3 ⟨rfl, hb3⟩
      have HB3 := Lib.hid (HB1.out.trans (hb3.mono HB1.out.size))
      clear hb3
      go_wp2
      go_ret
      exact ⟨rfl, HB3.out⟩
  · clear c1 hl hk hmg hfl h0 had
    rcases hout with h1 | ⟨h1, h2⟩ | ⟨h1, h2, rfl⟩
    all_goals
      go_enter Tryd.func7, Tryd.ntmps7
      go_wp2_with fail
      refine C1.out.mono ?_
      rintro e w1 ⟨v1, rfl, ho1, hb1⟩
      have HB1 := Lib.hid hb1
      have HM1 := Lib.hid (HM.out.step hb1)
      obtain ⟨ad1, cap1, rfl, hl1, _, _, _⟩ := ho1.slice
      have HLE : Hid (L.length = k + 10) := Lib.hid (by have := HF.out; have := HK.out; omega)
      rw [HLE.out]
      clear ho1 hl1 hb1
      go_wp2_with fail
      refine (awake_any _ HM1.out).mono ?_
      rintro e w3 ⟨rfl, hb3⟩
      have HB3 := Lib.hid (HB1.out.trans (hb3.mono HB1.out.size))
      clear hb3
      go_wp2
      go_ret
      exact ⟨rfl, HB3.out⟩
end Go.Proofs.YtbbdkghkdmaolaaDoor
