/-
  What awake asks of the packer: the values of its examples.
-/
import Derived.Test.YtpjegenobadckaaPkFF
import Derived.Test.YtpjegenobadckaaPkLeast
import Derived.Test.YtpjegenobadckaaPkEnt
namespace Go.Proofs.Ytpjegenobadckaa
set_option linter.unusedVariables false
set_option linter.unusedSimpArgs false
theorem ex_val (l : List Int) (h : l.length ≤ 512 ∧ ∀ s ∈ l, 0 ≤ s ∧ s ≤ 4096) : valU l 64 = 0 := valU_yes h.1 ⟨⟨by decide, by decide⟩, h.2⟩
theorem ex_a1 : addP 64 [] 0 0 100 = [[⟨0, 0, 64⟩]] ∧ lenP 64 [] 100 = 64 := by simp [addP, openP, newP, lenP, lastP, pushP, usedP] <;> omega
theorem ex_a2 : addP 64 [[⟨0, 0, 64⟩]] 0 64 36 = [[⟨0, 0, 64⟩], [⟨0, 64, 36⟩]] ∧ lenP 64 [[⟨0, 0, 64⟩]] 36 = 36 := by simp [addP, openP, newP, lenP, lastP, pushP, usedP] <;> omega
theorem ex_a3 : addP 64 [[⟨0, 0, 64⟩], [⟨0, 64, 36⟩]] 1 0 30 = [[⟨0, 0, 64⟩], [⟨0, 64, 36⟩, ⟨1, 0, 28⟩]] ∧ lenP 64 [[⟨0, 0, 64⟩], [⟨0, 64, 36⟩]] 30 = 28 := by simp [addP, openP, newP, lenP, lastP, pushP, usedP] <;> omega
theorem ex_a4 : addP 64 [[⟨0, 0, 64⟩], [⟨0, 64, 36⟩, ⟨1, 0, 28⟩]] 1 28 2 = [[⟨0, 0, 64⟩], [⟨0, 64, 36⟩, ⟨1, 0, 28⟩], [⟨1, 28, 2⟩]] ∧ lenP 64 [[⟨0, 0, 64⟩], [⟨0, 64, 36⟩, ⟨1, 0, 28⟩]] 2 = 2 := by simp [addP, openP, newP, lenP, lastP, pushP, usedP] <;> omega
theorem ex_a5 : addP 64 [[⟨0, 0, 64⟩], [⟨0, 64, 36⟩, ⟨1, 0, 28⟩], [⟨1, 28, 2⟩]] 2 0 20 = [[⟨0, 0, 64⟩], [⟨0, 64, 36⟩, ⟨1, 0, 28⟩], [⟨1, 28, 2⟩, ⟨2, 0, 20⟩]] ∧ lenP 64 [[⟨0, 0, 64⟩], [⟨0, 64, 36⟩, ⟨1, 0, 28⟩], [⟨1, 28, 2⟩]] 20 = 20 := by simp [addP, openP, newP, lenP, lastP, pushP, usedP] <;> omega
theorem ex_fill : fillU [100, 30, 20] 64 = ([[⟨0, 0, 64⟩], [⟨0, 64, 36⟩, ⟨1, 0, 28⟩], [⟨1, 28, 2⟩, ⟨2, 0, 20⟩]], 0) := by
  unfold fillU
  rw [if_pos (ex_val _ ⟨by decide, by simp⟩)]
  have e1 : fileP 64 [] 0 100 = [[⟨0, 0, 64⟩], [⟨0, 64, 36⟩]] := by
    unfold fileP
    rw [ex_a1.1, ex_a1.2, restP, show (100 : Int) - 64 = 36 from rfl, ex_a2.1, ex_a2.2, dif_pos (by decide), restP_end (by decide)]
  have e2 : fileP 64 [[⟨0, 0, 64⟩], [⟨0, 64, 36⟩]] 1 30 = [[⟨0, 0, 64⟩], [⟨0, 64, 36⟩, ⟨1, 0, 28⟩], [⟨1, 28, 2⟩]] := by
    unfold fileP
    rw [ex_a3.1, ex_a3.2, restP, show (30 : Int) - 28 = 2 from rfl, ex_a4.1, ex_a4.2, dif_pos (by decide), restP_end (by decide)]
  have e3 : fileP 64 [[⟨0, 0, 64⟩], [⟨0, 64, 36⟩, ⟨1, 0, 28⟩], [⟨1, 28, 2⟩]] 2 20 = [[⟨0, 0, 64⟩], [⟨0, 64, 36⟩, ⟨1, 0, 28⟩], [⟨1, 28, 2⟩, ⟨2, 0, 20⟩]] := by
    unfold fileP
    rw [ex_a5.1, ex_a5.2, restP_end (by decide)]
  rw [fillP, e1, fillP, show (0 : Int) + 1 = 1 from rfl, e2, fillP, show (1 : Int) + 1 = 2 from rfl, e3, fillP]
theorem ex_ord : ordD [20, 40, 44, 24] = [2, 1, 3, 0] := by
  refine ord_unique (L := [20, 40, 44, 24]) ((ordD_perm (by simp)).trans (by decide)) (ordF_sorted _) ?_
  simp [ltD, szL]
theorem ex_fit : ffU [20, 40, 44, 24] 64 (ordX [20, 40, 44, 24] 64) = ([[2, 0], [1, 3]], 0) := by
  have hv := ex_val [20, 40, 44, 24] ⟨by decide, by simp⟩
  unfold ffU
  rw [if_pos hv, ordX_ok hv, ex_ord]
  unfold fitU
  rw [if_neg (by decide)]
  rfl
theorem ex_least : leastU [40, 50, 20] 64 = 2 := by
  unfold leastU
  rw [if_pos (ex_val _ ⟨by decide, by simp⟩)]
  rfl
theorem ex_ent : entU [⟨0, 1, 2⟩] [7] [3] [[5, 6, 7]] = ([⟨7, 3, 1, 2, crc [6, 7]⟩], [6, 7], 0) := by
  unfold entU
  rw [if_neg (by simp), if_neg (by simp [numI]), if_neg (by simp), if_neg (by simp [inP, datP])]
  simp [entP, partP, datP]
end Go.Proofs.Ytpjegenobadckaa
