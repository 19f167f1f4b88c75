/-
  The program's powers of the generator and their exponents are those of the plain mathematics.
-/
import Derived.Test.YtbkjocmldeagdaaGStep
import Derived.Test.YtbkjocmldeagdaaGArr
import Derived.Test.YtbkjocmldeagdaaHeld
namespace Go.Proofs.Ytbkjocmldeagdaa
open Go.RowKit
def powX (k i : Nat) : UInt8 := if i < k then gp i else 0
def expX (k i : Nat) : UInt8 := UInt8.ofNat (expA k (UInt8.ofNat i))
def expT (i : Nat) : UInt8 := UInt8.ofNat (logU (UInt8.ofNat i))
theorem powX_next (k j : Nat) : powX (k + 1) j = if j = k then gp k else powX k j := by
  unfold powX
  by_cases h : j = k
  · subst h; rw [if_pos (by omega), if_pos rfl]
  · rw [if_neg h]
    by_cases h2 : j < k
    · rw [if_pos h2, if_pos (by omega)]
    · rw [if_neg h2, if_neg (by omega)]
theorem expX_next (k j : Nat) (hj : j < 256) : expX (k + 1) j = if j = (gp k).toNat then UInt8.ofNat k else expX k j := by
  unfold expX
  have e : (UInt8.ofNat j = gp k) ↔ j = (gp k).toNat := by
    constructor
    · intro h; rw [← h, UInt8.toNat_ofNat']; omega
    · intro h; rw [h, UInt8.ofNat_toNat]
  simp only [expA]
  by_cases h : j = (gp k).toNat
  · rw [if_pos (e.2 h), if_pos h]
  · rw [if_neg (fun h' => h (e.1 h')), if_neg h]
theorem powX_all (i : Nat) (hi : i < 255) : gp i = powX 255 i := by unfold powX; rw [if_pos hi]

theorem expT_all (i : Nat) (_ : i < 256) : expT i = expX 255 i := rfl
theorem gp_next (k : Nat) : dblU (gp k) = gp (k + 1) := rfl
theorem infoE : (Try.prog.info? 56).map (fun i => (i.zero, i.size)) = some (some (.agg (Array.replicate 255 (.int .u8 0))), 255) := by kernel_rfl
theorem zeroE (w : World) : (zeroValue 56).run Try.prog w = .ok (.agg (arr 255 fun _ => 0)) w := by rw [← arr_zero]; exact (zero_of_info infoE).1 w
theorem sizeE : (Try.prog.info? 56).map (·.size) = some 255 := (zero_of_info infoE).2
theorem start_pow : arr 255 (fun _ => 0) = arr 255 (powX 0) := arr_congr _ _ _ fun i _ => by simp [powX]
theorem start_exp : arr 256 (fun _ => 0) = arr 256 (expX 0) := arr_congr _ _ _ fun i _ => by simp [expX, expA]
attribute [local irreducible] dblU lowU mulU powX expX expT arr gp expA

set_option maxRecDepth 100000 in
set_option maxHeartbeats 1000000 in
theorem logs_any (w : World) :
    Calls Try.prog 44 #[] w fun e w' => e = .returned (.tuple #[.agg (arr 255 gp), .agg (arr 256 expT)]) ∧ Below w.heap.size w w' := by
  have hz := zeroP
  have hz2 := zeroE
  go_enter Try.func44, Try.ntmps44
  go_wp2
  rw [start_pow, start_exp]
  clear hz hz2
  go_loopw [2, 4] (fun ve vk wr => ∃ k : Nat, k ≤ 255 ∧ vk = .int .i64 k ∧ ve = .int .u8 (ev (gp k)) ∧ Hid (Arr wr w.heap.size 56 255 (powX k)) ∧ Hid (Arr wr (w.heap.size + 1) 48 256 (expX k)) ∧ Hid (Below w.heap.size w wr)) (fun _ i _ => 255 - (intOf i).toNat)
  case atStart => exact ⟨0, by omega, rfl, by simp [gp, ev_one], Lib.hid ((Arr.new _ _ _ _).past _), Lib.hid (by have := Arr.new (w.alloc (.cells (arr 255 (powX 0)) 56)) 48 256 (expX 0); simpa using this), Lib.hid (((Below.refl _ _).alloc (Nat.le_refl _) _).alloc (by simp) _)⟩
  case round =>
    obtain ⟨k, hk, rfl, rfl, hp, he, hb⟩ := hrel
    by_cases hlt : k < 255
    · have hpc := hp.out.cell k hlt
      have hpf := hp.out.frozen k
      have x0 := ev_lo (gp k)
      have x1 := ev_hi (gp k)
      have hj : (ev (gp k)).toNat = (gp k).toNat := by rw [ev_nat]; rfl
      have hec := he.out.cell (ev (gp k)).toNat (by omega)
      have hef := he.out.frozen (ev (gp k)).toNat
      have HJ := Lib.hid hj
      clear hj
      have HP : Hid (Arr ((wr.setCell ⟨w.heap.size, k, none⟩ (.int .u8 (ev (gp k)))).setCell ⟨w.heap.size + 1, (ev (gp k)).toNat, none⟩ (.int .u8 (k : Int))) w.heap.size 56 255 (powX (k + 1))) :=
        Lib.hid ((hp.out.set_ k (gp k) (fun j _ => powX_next k j)).other (by omega))
      have HE : Hid (Arr ((wr.setCell ⟨w.heap.size, k, none⟩ (.int .u8 (ev (gp k)))).setCell ⟨w.heap.size + 1, (ev (gp k)).toNat, none⟩ (.int .u8 (k : Int))) (w.heap.size + 1) 48 256 (expX (k + 1))) :=
        Lib.hid (by rw [ev_lit k (by omega), HJ.out]; exact (he.out.other (by omega)).set_ _ (UInt8.ofNat k) (fun j hj => expX_next k j hj))
      have HB : Hid (Below w.heap.size w ((wr.setCell ⟨w.heap.size, k, none⟩ (.int .u8 (ev (gp k)))).setCell ⟨w.heap.size + 1, (ev (gp k)).toNat, none⟩ (.int .u8 (k : Int)))) :=
        Lib.hid ((hb.out.setCell (Nat.le_refl _) _).setCell (by show w.heap.size ≤ w.heap.size + 1; omega) _)
      have HG : Hid (Value.int .u8 (ev (dblU (gp k))) = .int .u8 (ev (gp (k + 1)))) := Lib.hid (by rw [gp_next])
      clear hp he hb
      go_wp2_with fail
      refine (double_any _ _).mono ?_
      rintro e w' ⟨rfl, rfl⟩
      clear hpc hpf hec hef
      generalize World.setCell (World.setCell wr _ _) _ _ = w2 at HP HE HB ⊢
      go_wp2
      go_roundw
      case rel => exact ⟨k + 1, by omega, by go_num, HG.out, HP, HE, HB⟩
      case measure => simp [intOf]; omega
    · obtain rfl : k = 255 := by omega
      have HP : Hid (Arr wr w.heap.size 56 255 gp) := Lib.hid (hp.out.congr powX_all)
      have HE : Hid (Arr wr (w.heap.size + 1) 48 256 expT) := Lib.hid (he.out.congr expT_all)
      clear hp he
      go_wp2_with fail
      refine wp_region_noPanic ?_
      refine wp_region_held_drew (S := fun w' => w' = wr.drew) (by kernel_rfl) rfl (fun hHeld => ?_)
      refine held_take (i := 0) (v := .agg (arr 255 gp)) rfl (by kernel_rfl) (by kernel_rfl) (by kernel_rfl) (fun _ _ _ h => h) (by rfl) ?_ rfl ?_
      · rintro w' rfl
        exact load_arr _ rfl HP.out.drew (Try.underlying56) rfl (by rw [arr_size]; exact sizeE)
      simp only [Act.put, List.setIfInBounds_toArray, List.set_cons_zero, List.set_cons_succ]
      refine held_take (i := 1) (v := .agg (arr 256 expT)) rfl (by kernel_rfl) (by kernel_rfl) (by kernel_rfl) (fun _ _ _ h => h) (by rfl) ?_ rfl ?_
      · rintro w' rfl
        exact load_arr _ rfl HE.out.drew (Try.underlying48) rfl (by rw [arr_size]; exact sizeP)
      simp only [Act.put, List.setIfInBounds_toArray, List.set_cons_zero, List.set_cons_succ]
      refine held_call (i := 2) rfl (by kernel_rfl) (by rfl) (fun K' hK' => ?_)
      refine wp_store_self 56 (.tmp 0) (.tmp 17) rfl w.heap.size rfl (arr 255 gp) rfl 56 HP.out.drew (by rw [arr_size]; exact sizeE) (arr_one _ _) ?_
      refine hK'.out _ _ rfl (fun _ => ?_)
      refine held_call (i := 3) rfl (by kernel_rfl) (by rfl) (fun K' hK' => ?_)
      refine wp_store_self 48 (.tmp 1) (.tmp 18) rfl (w.heap.size + 1) rfl (arr 256 expT) rfl 48 HE.out.drew (by rw [arr_size]; exact sizeP) (arr_one _ _) ?_
      refine hK'.out _ _ rfl (fun _ => ?_)
      refine wpAnyH_done (by kernel_rfl) ?_ _
      simp only [Act.put]
      refine NoPanic.normal ?_
      go_wp2_with fail
      refine bodyPost_ret (v := .tuple #[.agg (arr 255 gp), .agg (arr 256 expT)]) ?_ rfl ⟨rfl, hb.out.drew⟩
      rw [results_cell_two rfl]
      have h1 := run_loadVar_row (P := Try.prog) wr.drew w.heap.size 56 56 _ (0, 0) _ HP.out.drew Try.underlying56 rfl (by rw [arr_size]; exact sizeE)
      have h2 := run_loadVar_row (P := Try.prog) wr.drew (w.heap.size + 1) 48 48 _ (0, 0) _ HE.out.drew Try.underlying48 rfl (by rw [arr_size]; exact sizeP)
      show ((asAddr (.pointer (some ⟨w.heap.size, 0, none⟩))).run Try.prog _).andThen (fun a w₁ => ((loadVar 56 a).run Try.prog w₁).andThen fun v w₂ => ((asAddr (.pointer (some ⟨w.heap.size + 1, 0, none⟩))).run Try.prog w₂).andThen fun b w₃ => ((loadVar 48 b).run Try.prog w₃).andThen fun u w₄ => Result.ok (Value.tuple #[v, u]) w₄) = _
      simp only [asAddr, Sem.run_pure, Result.andThen, h1, h2]
end Go.Proofs.Ytbkjocmldeagdaa
