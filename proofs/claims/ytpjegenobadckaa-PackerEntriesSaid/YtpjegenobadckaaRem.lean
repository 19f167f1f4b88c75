/-
  The program's table of remainders is the table of the plain mathematics.
-/
import Derived.Test.YtpjegenobadckaaTab
import Derived.Deep.LoopGhost
import Derived.Laws.ResultCell
namespace Go.Proofs.Ytpjegenobadckaa
open Go.RowKit

theorem infoTab : (Try.prog.info? 79).map (fun i => (i.zero, i.size)) = some (some (.agg (cellsOf fun _ => 0#32)), 256) := by kernel_rfl
theorem zeroTab (w : World) : (zeroValue 79).run Try.prog w = .ok (.agg (cellsOf fun _ => 0#32)) w := (zero_of_info infoTab).1 w
theorem sizeTab : (Try.prog.info? 79).map (·.size) = some 256 := (zero_of_info infoTab).2

theorem one_u32 : Value.int .u32 1 = .int .u32 (iv (stepsB 0 1#32)) := by rw [show stepsB 0 1#32 = BitVec.ofNat 32 1 from rfl, iv_ofNat 1 (by decide)]; rfl
attribute [local irreducible] stepB stepsB tabX tabB tabS cellsOf

set_option maxRecDepth 100000 in
set_option maxHeartbeats 1000000 in
theorem rem_any (w : World) :
    Calls Try.prog 52 #[] w fun e w' => e = .returned (.agg (cellsOf tabB)) ∧ w' = (w.alloc (.cells (cellsOf tabB) 79)).alloc (.cells (cellsOf tabB) 79) := by
  have hz := zeroTab
  go_enter Try.func52, Try.ntmps52
  go_wp2
  rw [cells_zero]
  go_loopw [2, 6] (fun vr vk wr => ∃ k : Nat, k ≤ 8 ∧ vk = .int .i64 k ∧ vr = .int .u32 (iv (stepsB k 1#32)) ∧ wr = (w.alloc (.cells (cellsOf (tabS (256 / 2 ^ 0))) 79)).alloc (.cells (cellsOf (tabS (256 / 2 ^ k))) 79)) (fun _ i _ => 8 - (intOf i).toNat)
  case atStart => exact ⟨0, by omega, rfl, one_u32, rfl⟩
  case round =>
    obtain ⟨k, hk, rfl, rfl, rfl⟩ := hrel
    by_cases hlt : k < 8
    · obtain ⟨b, hb⟩ : ∃ b, b = 128 / 2 ^ k := ⟨_, rfl⟩
      have hb1 := (bit_bd k b hlt hb).1
      have hb2 := (bit_bd k b hlt hb).2
      have hbi := bit_int k b hb
      have HB := Lib.hid hb
      clear hb
      go_wp2_with fail
      refine (step_any _ _).mono ?_
      rintro e w' ⟨rfl, rfl⟩
      go_wp2
      clear hbi
      rw [cells_start k b hlt HB.out]
      go_loopw [5] (fun vx wr => ∃ x : Nat, Hid (x % (2 * b) = b) ∧ x ≤ 512 ∧ vx = .int .i64 x ∧ wr = (w.alloc (.cells (cellsOf (tabS (256 / 2 ^ 0))) 79)).alloc (.cells (cellsOf (tabX b x)) 79)) (fun i _ => 512 - (intOf i).toNat)
      case atStart => exact ⟨b, Lib.hid (start_mod k b hlt HB.out), by omega, rfl, rfl⟩
      case round =>
        obtain ⟨x, hxm, hx5, rfl, rfl⟩ := hrel
        have hbx := le_of_mod b x hxm.out
        by_cases hx : x < 256
        · have hc := cellsOf_get (tabX b x) (x - b) (by omega)
          have hcx := cellsOf_get (tabX b x) x hx
          have hxo := xor_step k b x hlt HB.out hx hxm.out
          have HW := Lib.hid (cells_step k b x hlt HB.out hx hxm.out)
          go_wp2
          go_roundw
          case rel => exact ⟨x + 2 * b, Lib.hid (next_mod b x hxm.out), by omega, by go_num, by rw [HW.out]⟩
          case measure => simp [intOf]; omega
        · rw [cells_end k b x hlt HB.out (by omega)]
          have HS : Hid (Value.int .u32 (iv (stepB (stepsB k 1#32))) = .int .u32 (iv (stepsB (k + 1) 1#32))) := Lib.hid (by rw [stepsB_succ'])
          go_wp2
          go_roundw
          case rel => exact ⟨k + 1, by omega, by go_num, HS.out, rfl⟩
          case measure => simp [intOf]; omega
    · obtain rfl : k = 8 := by omega
      rw [cells_done]
      have hsz := Lib.hid (cellsOf_size tabB)
      clear hz
      go_wp2_with fail
      refine wp_load_row (P := Try.prog) 79 (.tmp 1) rfl (w.heap.size + 1) rfl (cellsOf tabB) 256 52 79 ?_ Try.underlying79 (by rw [hsz.out]; exact sizeTab) ?_
      · rw [show w.heap.size + 1 = (w.alloc (.cells (cellsOf (tabS 256)) 79)).heap.size from by simp]
        exact heap_alloc_last _ _
      go_wp2_with fail
      rw [run_storeCells_row (P := Try.prog) _ w.heap.size 79 (cellsOf (tabS 256)) (cellsOf tabB) ?_ (by rw [cellsOf_size, cellsOf_size]) (cellsOf_one _)]
      · rw [setRow_alloc_past _ _ _ _ (by simp), World.setRow_alloc_new]
        simp only [Result.andThen]
        rw [Oper.upon_skip]
        go_wp2_with fail
        refine bodyPost_ret (v := .agg (cellsOf tabB)) ?_ rfl ⟨rfl, rfl⟩
        rw [results_cell_one rfl]
        have hrow := run_loadVar_row (P := Try.prog) ((w.alloc (.cells (cellsOf tabB) 79)).alloc (.cells (cellsOf tabB) 79)) w.heap.size 79 79 (cellsOf tabB) (0, 0) _
          (by rw [heap_alloc_past _ _ _ (by simp)]; exact heap_alloc_last _ _) Try.underlying79 rfl (by rw [cellsOf_size]; exact sizeTab)
        simp only [Act.put]
        show ((asAddr (.pointer (some ⟨w.heap.size, 0, none⟩))).run Try.prog _).andThen _ = _
        simp only [asAddr, Sem.run_pure, Result.andThen, hrow]
      · rw [heap_alloc_past _ _ _ (by simp)]
        exact heap_alloc_last _ _
end Go.Proofs.Ytpjegenobadckaa
