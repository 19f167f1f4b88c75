/-
  The specification's Same, of two cartridges that are equal; New and Free.
-/
import Derived.Test.YtlbnjojafaieoaaCtSame
import Derived.Test.YtlbnjojafaieoaaCtVal
import Derived.Test.YtlbnjojafaieoaaZStr
namespace Go.Proofs.Ytlbnjojafaieoaa
open Go.RowKit
set_option linter.unusedVariables false
attribute [local irreducible] tim vld bar cnt okB capU allB vldC eqK
set_option maxRecDepth 100000 in
set_option maxHeartbeats 4000000 in
theorem rsamec_any (c : Crt) (ad bd : Option Addr) (cap cap2 : Nat) (w : World) (h1 : Ki w ad c.l) (h2 : Ki w bd c.l) (hs : c.l.length ≤ 100000) :
    Calls Try.prog 16 #[crV c ad cap, crV c bd cap2] w fun e w' => e = .returned (.bool true) ∧ Below w.heap.size w w' := by
  obtain ⟨bc, W, L, S, T, J, R, wo, lk, l, ep, lo, pa⟩ := c
  simp only at h1 h2 hs
  show Calls Try.prog 16 #[crW bc W L S T J R wo lk ad l.length cap ep lo pa, crW bc W L S T J R wo lk bd l.length cap2 ep lo pa] w _
  obtain ⟨M, hM⟩ : ∃ M, M = l.length := ⟨_, rfl⟩
  have HE := Lib.hid (eqK_yes (rfl : l = l))
  have HM := Lib.hid hM
  rw [← hM] at hs ⊢
  clear hM
  have HB0 := Lib.hid (below_box2 w (boxK bc W L S T J R wo lk ad M cap ep lo pa) (boxK bc W L S T J R wo lk bd M cap2 ep lo pa))
  have HC := Lib.hid ((CrAt.new w bc W L S T J R wo lk ad M cap ep lo pa 26).alloc (boxK bc W L S T J R wo lk bd M cap2 ep lo pa))
  have HD := Lib.hid (CrAt.new (w.alloc (boxK bc W L S T J R wo lk ad M cap ep lo pa)) bc W L S T J R wo lk bd M cap2 ep lo pa 26)
  simp only [World.size_alloc] at HD
  have H1 := Lib.hid (h1.below HB0.out)
  have H2 := Lib.hid (h2.below HB0.out)
  clear h1 h2
  go_enter Try.func16, Try.ntmps16
  go_wp2_with fail
  generalize World.alloc _ _ = X0 at *
  refine (rsame_any ad bd M M cap cap2 l l X0 H1.out H2.out HM.out HM.out hs).mono ?_
  rw [HE.out]
  rintro e w1 ⟨rfl, hb⟩
  have HB1 := Lib.hid (HB0.out.trans (hb.mono HB0.out.size))
  obtain ⟨_, k0, k1, k2, k3, k4, k5, k6, k7, k8, k9, k10, k11, k12⟩ := HC.out.below hb HC.out.lt
  obtain ⟨_, q0, q1, q2, q3, q4, q5, q6, q7, q8, q9, q10, q11, q12⟩ := HD.out.below hb HD.out.lt
  clear hb
  go_wp2
  go_ret
  exact ⟨rfl, HB1.out⟩
end Go.Proofs.Ytlbnjojafaieoaa
