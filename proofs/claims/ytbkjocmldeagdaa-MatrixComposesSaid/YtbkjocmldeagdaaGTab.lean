/-
  The program's table of the products of an element with all others.
-/
import Derived.Test.YtbkjocmldeagdaaGStep
import Derived.Test.YtbkjocmldeagdaaGArr
namespace Go.Proofs.Ytbkjocmldeagdaa
open Go.RowKit
/-- the products of all elements with a -/
def prodT (a : UInt8) (i : Nat) : UInt8 := mulU (UInt8.ofNat i) a
/-- the same, below 2 x -/
def prodX (a : UInt8) (x i : Nat) : UInt8 := if i < 2 * x then prodT a i else 0
theorem prodX_zero (a : UInt8) : arr 256 (fun _ => 0) = arr 256 (prodX a 0) := arr_congr _ _ _ fun i _ => by simp [prodX]
theorem prodX_all (a : UInt8) : arr 256 (prodX a 128) = arr 256 (prodT a) := arr_congr _ _ _ fun i h => by unfold prodX; rw [if_pos (by omega)]
theorem prodX_at (a : UInt8) (x : Nat) : prodX a x x = prodT a x := by
  unfold prodX
  split
  · rfl
  · have : x = 0 := by omega
    subst this
    exact (zero_mulU a).symm
theorem twice_nat : ∀ x : Fin 128, dblU (UInt8.ofNat x.val) = UInt8.ofNat (2 * x.val) ∧ UInt8.ofNat (2 * x.val) ^^^ 1 = UInt8.ofNat (2 * x.val + 1) := by decide +kernel
theorem prodT_even (a : UInt8) (x : Nat) (hx : x < 128) : dblU (prodT a x) = prodT a (2 * x) := by
  unfold prodT
  rw [← dbl_mulU, (twice_nat ⟨x, hx⟩).1]
theorem prodT_odd (a : UInt8) (x : Nat) (hx : x < 128) : prodT a (2 * x) ^^^ a = prodT a (2 * x + 1) := by
  unfold prodT
  rw [← (twice_nat ⟨x, hx⟩).2, xor_mulU, one_mulU]
/-- .. and at 2 x too -/
def prodY (a : UInt8) (x i : Nat) : UInt8 := if i < 2 * x + 1 then prodT a i else 0
theorem prod_first (a : UInt8) (x : Nat) (hx : x < 128) : (arr 256 (prodX a x)).setIfInBounds (2 * x) (.int .u8 (ev (dblU (prodT a x)))) = arr 256 (prodY a x) := by
  rw [arr_set, prodT_even a x hx]
  refine arr_congr _ _ _ fun i _ => ?_
  unfold prodX prodY
  by_cases h : i = 2 * x
  · subst h; simp
  · rw [if_neg h]
    by_cases h2 : i < 2 * x
    · rw [if_pos h2, if_pos (by omega)]
    · rw [if_neg h2, if_neg (by omega)]
theorem prodY_at (a : UInt8) (x : Nat) : prodY a x (2 * x) = prodT a (2 * x) := by unfold prodY; rw [if_pos (by omega)]
theorem prod_second (a : UInt8) (x : Nat) (hx : x < 128) : (arr 256 (prodY a x)).setIfInBounds (2 * x + 1) (.int .u8 (ev (prodT a (2 * x) ^^^ a))) = arr 256 (prodX a (x + 1)) := by
  rw [arr_set, prodT_odd a x hx]
  refine arr_congr _ _ _ fun i _ => ?_
  unfold prodX prodY
  by_cases h : i = 2 * x + 1
  · subst h; rw [if_pos rfl, if_pos (by omega)]
  · rw [if_neg h]
    by_cases h2 : i < 2 * x + 1
    · rw [if_pos h2, if_pos (by omega)]
    · rw [if_neg h2, if_neg (by omega)]

theorem ev_prodT (a v : UInt8) : prodT a (ev v).toNat = mulU v a := by
  unfold prodT
  rw [show (ev v).toNat = v.toNat by rw [ev_nat]; rfl, UInt8.ofNat_toNat]
attribute [local irreducible] dblU lowU mulU prodT prodX prodY arr

set_option maxRecDepth 100000 in
set_option maxHeartbeats 1000000 in
theorem products_any (a : UInt8) (w : World) :
    Calls Try.prog 37 #[.int .u8 (ev a)] w fun e w' => e = .returned (.agg (arr 256 (prodT a))) ∧ Below w.heap.size w w' := by
  have hz := zeroP
  go_enter Try.func37, Try.ntmps37
  go_wp2
  rw [prodX_zero a]
  go_loopw [5] (fun vk wr => ∃ k : Nat, k ≤ 128 ∧ vk = .int .i64 k ∧ wr = (w.alloc (.cells (arr 256 (prodX a 0)) 48)).alloc (.cells (arr 256 (prodX a k)) 48)) (fun i _ => 128 - (intOf i).toNat)
  case atStart => exact ⟨0, by omega, rfl, rfl⟩
  case round =>
    obtain ⟨k, hk, rfl, rfl⟩ := hrel
    by_cases hlt : k < 128
    · have hc := arr_get 256 (prodX a k) k (by omega)
      rw [prodX_at] at hc
      have hc1 := arr_get 256 (prodX a k) (2 * k) (by omega)
      have h1 := prod_first a k hlt
      have hc2 := arr_get 256 (prodY a k) (2 * k) (by omega)
      rw [prodY_at] at hc2
      have hc3 := arr_get 256 (prodY a k) (2 * k + 1) (by omega)
      have h2 := prod_second a k hlt
      go_wp2_with fail
      refine (double_any _ _).mono ?_
      rintro e w' ⟨rfl, rfl⟩
      go_wp2_with fail
      refine (add_any _ _ _).mono ?_
      rintro e w' ⟨rfl, rfl⟩
      go_wp2
      go_roundw
      case rel => exact ⟨k + 1, by omega, by go_num, rfl⟩
      case measure => simp [intOf]; omega
    · obtain rfl : k = 128 := by omega
      rw [prodX_all]
      have hsz := Lib.hid (arr_size 256 (prodT a))
      clear hz
      go_wp2_with fail
      refine wp_load_arr (P := Try.prog) 48 (.tmp 3) rfl (w.heap.size + 1) rfl (arr 256 (prodT a)) 256 5 48 ?_ Try.underlying48 (by rw [hsz.out]; exact sizeP) ?_
      · rw [show w.heap.size + 1 = (w.alloc (.cells (arr 256 (prodX a 0)) 48)).heap.size from by simp]
        exact heap_alloc_last _ _
      go_wp2_with fail
      rw [run_storeCells_arr (P := Try.prog) _ w.heap.size 48 (arr 256 (prodX a 0)) (arr 256 (prodT a)) ?_ (by rw [arr_size, arr_size]) (arr_one _ _)]
      · rw [setRow_past_arr _ _ _ _ (by simp), World.setRow_alloc_new]
        simp only [Result.andThen]
        rw [Oper.upon_skip]
        go_wp2_with fail
        refine bodyPost_ret (v := .agg (arr 256 (prodT a))) ?_ rfl ⟨rfl, ((Below.refl _ _).alloc (Nat.le_refl _) _).alloc (by simp) _⟩
        rw [results_cell_arr rfl]
        have hrow := run_loadVar_row (P := Try.prog) ((w.alloc (.cells (arr 256 (prodT a)) 48)).alloc (.cells (arr 256 (prodT a)) 48)) w.heap.size 48 48 (arr 256 (prodT a)) (0, 0) _
          (by rw [heap_past_arr _ _ _ (by simp)]; exact heap_alloc_last _ _) Try.underlying48 rfl (by rw [arr_size]; exact sizeP)
        simp only [Act.put]
        show ((asAddr (.pointer (some ⟨w.heap.size, 0, none⟩))).run Try.prog _).andThen _ = _
        simp only [asAddr, Sem.run_pure, Result.andThen, hrow]
      · rw [heap_past_arr _ _ _ (by simp)]
        exact heap_alloc_last _ _
end Go.Proofs.Ytbkjocmldeagdaa
