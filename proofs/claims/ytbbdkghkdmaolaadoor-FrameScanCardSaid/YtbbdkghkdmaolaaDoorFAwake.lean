/-
  The check that the package works at all: true; and the first bytes of a slice.
-/
import Derived.Test.YtbbdkghkdmaolaaDoorFAppend
import Derived.Test.YtbbdkghkdmaolaaDoorFMath2
import Derived.Lib.SmallJoins
namespace Go.Proofs.YtbbdkghkdmaolaaDoor
open Go.RowKit
set_option linter.unusedVariables false
set_option linter.unusedSimpArgs false

theorem Lie.litm (w : World) (cs : Array Value) (fr : Nat × Nat) (xs : List UInt8) (h : cs.toList = cellsU xs) : Lie (w.alloc (.cells cs 5 fr)) (some ⟨w.heap.size, 0, none⟩) xs := by
  refine ⟨.inr ⟨w.heap.size, 0, rfl, by simp, fun j hj => ?_⟩⟩
  rw [World.cell?_alloc_mark, Nat.zero_add]
  obtain ⟨l⟩ := cs
  have := cellsU_get xs j hj
  simp only at h
  rw [← h] at this
  simpa using this

set_option maxRecDepth 100000 in
set_option maxHeartbeats 1000000 in
theorem awake_any (w : World) (hmg : Mag w) : Calls Tryd.prog 14 #[] w fun e w' => e = .returned (.bool true) ∧ Below w.heap.size w w' := by
  have kc := fun (w : World) (C : Array Value) (n c : Nat) => Lib.run_convert_bytes_const (P := Tryd.prog) w 22 5 C n c Tryd.underlying22 Tryd.underlying5
  have hb0 : ∀ fr, Below w.heap.size w (w.alloc (.cells #[.int .u8 97] 5 fr)) := fun fr => (Below.refl _ _).alloc (Nat.le_refl _) _
  have H0 := Lib.hid (fun fr => Lie.litm w #[.int .u8 97] fr [97] rfl)
  have HB0 := Lib.hid hb0
  have HG0 := Lib.hid (fun fr => hmg.step (hb0 fr))
  clear hmg hb0
  go_enter Tryd.func14, Tryd.ntmps14
  go_wp2_with fail
  refine (append_any _ _ _ _ _ _ [] [97] _ (.nil _ _) rfl (by decide) (fun _ => rfl) (H0.out _) rfl (by decide) (fun h => by cases h) (HG0.out _)).mono ?_
  rintro e w1 ⟨v1, rfl, ho1, hb1⟩
  rw [List.nil_append] at ho1
  obtain ⟨ad, cap, rfl, hl, hc, hm, ha⟩ := ho1.slice
  have hbb : Below w.heap.size w w1 := (HB0.out _).trans (hb1.mono (HB0.out _).size)
  have h11 : (frm [97]).length = 11 := rfl
  have HF := chk_frm [] [97] [] (by decide)
  rw [List.nil_append, List.append_nil] at HF
  rcases hl.at_ with h0 | ⟨b, off, rfl, hlt, hcell⟩
  · rw [h0] at h11; cases h11
  have c0 := hcell 0 (by rw [h11]; decide)
  have c1 := hcell 1 (by rw [h11]; decide)
  have c5 := hcell 5 (by rw [h11]; decide)
  have c10 := hcell 10 (by rw [h11]; decide)
  rw [show (frm [97])[0].toNat = 167 from rfl, Nat.add_zero] at c0
  rw [show (frm [97])[1].toNat = 60 from rfl] at c1
  rw [show (frm [97])[5].toNat = 1 from rfl] at c5
  rw [show (frm [97])[10].toNat = 97 from rfl] at c10
  have HL := Lib.hid hl
  have HBB := Lib.hid hbb
  have HC := Lib.hid hc
  have HG1 := Lib.hid ((HG0.out _).step hb1)
  have HFF := Lib.hid HF
  rw [h11] at hc ⊢
  have hc0 : w1.cell? ⟨b, off, none⟩ = _ := c0
  clear ho1 hl hb1 hcell HF h11 hbb ha c0
  go_wp2_with fail
  refine (next_any _ _ cap (frm [97]) 0 _ HL.out rfl (by decide) hc hm (fun h => by cases h) HG1.out).mono ?_
  rintro e w2 ⟨v2, rfl, ho2, hb2⟩
  rw [show chk (frm [97]) 0 = _ from HFF.out.1, show bodyAt (frm [97]) 0 = _ from HFF.out.2] at *
  obtain ⟨ad2, cap2, rfl, hl2, _, _, _⟩ := ho2.slice
  have hcv : ∀ W, W = w2 → (convert 22 9 (.slice ad2 1 cap2)).run Tryd.prog W = .ok (.string ⟨#[97]⟩) W := fun W h => by subst h; exact conv_lie cap2 hl2
  have hcv2 := hcv w2 rfl
  have d0 := (hb2.cell (p := ⟨b, off, none⟩) hlt).trans hc0
  have d1 := (hb2.cell (p := ⟨b, off + 1, none⟩) hlt).trans c1
  have d5 := (hb2.cell (p := ⟨b, off + 5, none⟩) hlt).trans c5
  have d10 := (hb2.cell (p := ⟨b, off + 10, none⟩) hlt).trans c10
  have HB2 := Lib.hid (HBB.out.trans (hb2.mono HBB.out.size))
  clear hb2 ho2 hl2 hc0 c1 c5 c10 hcv
  go_wp2_with (go_at_call 12; refine (len_any 1 _ (by decide) (by decide)).mono ?_; rintro e w' ⟨rfl, rfl⟩; rw [show lenF 1 = 11 from rfl])
  go_ret
  exact ⟨rfl, HB2.out⟩
end Go.Proofs.YtbbdkghkdmaolaaDoor
