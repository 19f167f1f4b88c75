/-
  PackerEntries: Entries returns the entries and the payload of a container, or the specified error (up to 100 pieces and 100 files of 4096 bytes), for every input.
-/
import Derived.Test.YtpjegenobadckaaRows
import Derived.Test.YtpjegenobadckaaPkLaw5
import Derived.Test.YtpjegenobadckaaPkOpenE
import Derived.ProofKit
import Derived.OpenShut
import Derived.Below
namespace Go.Proofs.Ytpjegenobadckaa.packerEntries
open Go.ChangeShapes Go.WideShapes Go.ChangeAt Go.RowKit
set_option linter.unusedVariables false

theorem own : ownKnob Try.prog.godebug = none := by kernel_rfl
theorem laidOut : laidOutB Try.prog = true := by kernel_rfl

set_option maxRecDepth 100000 in
theorem lifted (os : Os) (started : os.Started) (H : Type) (enc : TypeId × Value → H) :
    ReturnsInHanded {} Try.checked os 8 .any (Rows.packerEntriesSpec.pre6 enc Try.prog Try.f8 Rows.packerEntriesRow.domain false) (Rows.packerEntriesSpec.post enc Try.prog Try.f8 false true false false) := by
  refine returnsInHanded_of_change (C := Try.checked) own started (by kernel_rfl) Try.func8
    (ChangeSpec.witness6 (enc := enc) (C := Try.checked) false ⟨#[], #[.agg #[.slice none 0 0, .slice none 0 0, .slice none 0 0, .slice none 0 0]], []⟩ 8 (by kernel_rfl) (by kernel_rfl) (by kernel_rfl) (by kernel_rfl)) ?_
  intro W base args ds gs before hval0 hW hcnd _
  have hval : ∀ (j : Nat) t v, Try.f8.params[j]? = some t → args[j]? = some v → Value.okWide Try.prog W .any base t v := hval0
  have hW' := hW
  obtain ⟨p, q, hA0, hV, rfl, hfz, hnd⟩ := hW
  have hA : DataW.TrodAll enc Try.prog W 0 (fun _ => true) true Try.f8.params.toList args.toList ds p := hA0
  rw [Try.params8] at hA hval
  obtain ⟨v0, vs0, d0, ds0, p0, q0, hargs, rfl, rfl, h0, r0⟩ := trodAll_cons hA
  obtain ⟨rfl, rfl, rfl⟩ := trodAll_nil r0
  obtain rfl : args = #[v0] := by cases args; simp_all
  obtain ⟨rfl, rfl⟩ := trodVars_none hV
  have k0 := h0
  have lt0 : ∀ x ∈ p0, x.block < W.heap.size := by obtain ⟨m, hm⟩ := k0; exact DataW.trod_lt m _ _ _ hm
  obtain ⟨ap0, cp0, ps0, ai0, ci0, is0, av0, cv0, vs0_, ad0, cd0, ds0_, rfl, hp0, hi0, hv0, hd0, mp0, mi0, mv0, md0⟩ := open_parts (hval 0 45 v0 rfl rfl) h0
  clear hA0 hval0 hval
  refine ((law_entries ap0 cp0 ps0 ai0 ci0 is0 av0 cv0 vs0_ ad0 cd0 ds0_ _ _ _ _ _ hp0 hi0 hv0 hd0 rfl rfl rfl rfl)).mono fun e W' ⟨he, bel⟩ => ?_
  subst he
  exact ⟨_, rfl, _, _, _, [], _, [], hW', trodAll_mk1 (shut_bool Try.underlying4 _), (trodAll_cons_mk (Below.trod laidOut (by kernel_rfl) (of_decide_eq_true (by kernel_rfl)) k0 bel lt0) trodAll_mk0), (by first | rfl | simp), bel.frame _, fun h => by cases h⟩

theorem over : Rows.packerEntriesRow.holds Try.pinned (OpenSpec.ofChange Rows.packerEntriesSpec) :=
  OpenClaim.holds_of_wide 8 Try.f8 rfl rfl rfl rfl rfl rfl rfl ⟨rfl, rfl, rfl, rfl, rfl⟩ rfl rfl rfl rfl rfl (by kernel_rfl) Try.func8 (by kernel_rfl)
    (of_decide_eq_true (by kernel_rfl)) (by unfold Func.isWrapper; first | (rw [if_pos (by decide +kernel)]; kernel_rfl) | (rw [if_neg (by decide +kernel)]; exact ⟨rfl, rfl⟩))
    (fun os started H enc _ => lifted os started H enc)
end Go.Proofs.Ytpjegenobadckaa.packerEntries
namespace Go.Proofs.Ytpjegenobadckaa
theorem packerEntries_holds : Rows.PackerEntriesSaid := packerEntries.over
end Go.Proofs.Ytpjegenobadckaa
