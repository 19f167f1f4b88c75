/-
  Valid and Capacity of the program.
-/
import Derived.Test.YtlbnjojafaieoaaSGeo
namespace Go.Proofs.Ytlbnjojafaieoaa
open Go.RowKit
set_option linter.unusedVariables false
/-- the time k of the four -/
def nth4 (S T J R : Int) : Nat → Int
  | 0 => S
  | 1 => T
  | 2 => J
  | _ => R
theorem nth_all {S T J R : Int} (h : ∀ k, k < 4 → tim (nth4 S T J R k) = true) : (tim S && (tim T && (tim J && tim R))) = true := by
  have h0 := h 0 (by omega); have h1 := h 1 (by omega); have h2 := h 2 (by omega); have h3 := h 3 (by omega)
  simp only [nth4] at h0 h1 h2 h3
  rw [h0, h1, h2, h3]; rfl
theorem nth_no {S T J R : Int} {k : Nat} (hk : k < 4) (h : tim (nth4 S T J R k) = false) : (tim S && (tim T && (tim J && tim R))) = false := by
  match k, hk with
  | 0, _ => simp only [nth4] at h; rw [h]; rfl
  | 1, _ => simp only [nth4] at h; rw [h]; simp
  | 2, _ => simp only [nth4] at h; rw [h]; simp
  | 3, _ => simp only [nth4] at h; rw [h]; simp
theorem run_idx4 (a b c d : Int) (k : Nat) (hk : k < 4) (w : World) :
    (Instr.index 69 (.agg #[.int .i64 a, .int .i64 b, .int .i64 c, .int .i64 d]) (.int .i64 (k : Int))).run Try.prog w = .ok (.int .i64 (nth4 a b c d k)) w := by
  match k, hk with
  | 0, _ => with_unfolding_all rfl
  | 1, _ => with_unfolding_all rfl
  | 2, _ => with_unfolding_all rfl
  | 3, _ => with_unfolding_all rfl
theorem wpList_index {P : Program} {ops : Array Oper} {rest : List Oper} {o : Oper} {a : Act} {w : World} {Q : Exit → Act → World → Prop} (hgd : o.guard = none) (ty : TypeId) (x y : Operand) (ho : o.op = .index ty x y)
    (v : Value) (hr : (Instr.index ty (a.eval x) (a.eval y)).run P w = .ok v w)
    (h : wpList P ops Q rest (a.put o.dst v) w) : wpList P ops Q (o :: rest) a w := by
  refine wpList_plain hgd fun _ hK => ?_
  unfold Oper.wp execOp
  simp only [ho, Sem.run_bind, hr, Result.andThen_ok, Sem.run_pure]
  exact hK _ _ h
attribute [local irreducible] tim vld
set_option maxRecDepth 100000 in
set_option maxHeartbeats 1000000 in
theorem valid_any (W L S T J R : Int) (w : World) :
    Calls Try.prog 33 #[geV W L S T J R] w fun e w' => e = .returned (.bool (vld W L S T J R)) ∧ Below w.heap.size w w' := by
  have HB0 := Lib.hid (below_box1 w (.cells #[.int .i64 W, .int .i64 L, .int .i64 S, .int .i64 T, .int .i64 J, .int .i64 R] 23))
  have HG := Lib.hid (GeoAt.new w W L S T J R 23)
  by_cases hW : W < 1
  · rw [vld_no (by omega)]
    go_enter Try.func33, Try.ntmps33
    go_wp2
    go_ret
    exact ⟨rfl, HB0.out⟩
  by_cases hW2 : 32 < W
  · rw [vld_no (by omega)]
    go_enter Try.func33, Try.ntmps33
    go_wp2
    go_ret
    exact ⟨rfl, HB0.out⟩
  have hW0 : W ≠ 0 := by omega
  by_cases hL : L < 1
  · rw [vld_no (by omega)]
    have hd : decide (L < 1) = true := decide_eq_true hL
    go_enter Try.func33, Try.ntmps33
    go_wp2_with fail
    generalize World.alloc _ _ = X0 at HB0 HG ⊢
    obtain ⟨_, g0, g1, _, _, _, _⟩ := HG.out
    go_quiet (fail)
    go_wp2
    go_ret
    exact ⟨rfl, below_drewN HB0.out _⟩
  have hd : decide (L < 1) = false := decide_eq_false hL
  by_cases hq : 4096 / W < L
  · have hc : ¬ W * L ≤ 4096 := by rw [← quot_le (by omega)]; omega
    rw [vld_no (by omega)]
    have hd2 : decide (4096 / W < L) = true := decide_eq_true hq
    clear hc
    go_enter Try.func33, Try.ntmps33
    go_wp2_with fail
    generalize World.alloc _ _ = X0 at HB0 HG ⊢
    obtain ⟨_, g0, g1, _, _, _, _⟩ := HG.out
    go_quiet (fail)
    go_wp2
    go_ret
    exact ⟨rfl, below_drewN HB0.out _⟩
  have hc : W * L ≤ 4096 := by rw [← quot_le (by omega)]; omega
  rw [vld_eq (by omega) (by omega) (by omega) hc]
  have hd2 : decide (4096 / W < L) = false := decide_eq_false hq
  have hsz : ∀ h : 3 < Try.prog.types.size, (Try.prog.types[3]'h).size = 1 := fun _ => by kernel_rfl
  clear hc
  go_enter Try.func33, Try.ntmps33
  go_wp2_with fail
  generalize World.alloc _ _ = X0 at HB0 HG ⊢
  obtain ⟨_, g0, g1, g2, g3, g4, g5⟩ := HG.out
  go_quiet (fail)
  go_wp2
  generalize hX1 : World.drewN X0 _ = X1
  have HB1 := Lib.hid (show Below w.heap.size w X1 by rw [← hX1]; exact below_drewN HB0.out _)
  clear hX1 HB0 HG g0 g1 g2 g3 g4 g5
  go_loop [33] (fun vk => ∃ k : Nat, vk = .int .i64 k ∧ k ≤ 4 ∧ Hid (∀ j, j < k → tim (nth4 S T J R j) = true)) (fun vk => 4 - (intOf vk).toNat)
  case atStart => exact ⟨0, rfl, by omega, Lib.hid fun j hj => by omega⟩
  case round =>
    obtain ⟨k, rfl, hk, hall⟩ := hrel
    by_cases hlt : k < 4
    · have hI := run_idx4 S T J R k hlt X1
      obtain ⟨X, hX⟩ : ∃ X, X = nth4 S T J R k := ⟨_, rfl⟩
      rw [← hX] at hI
      by_cases hx : 0 ≤ X ∧ X ≤ 1000000
      · have HN : Hid (∀ j, j < k + 1 → tim (nth4 S T J R j) = true) := Lib.hid fun j hj => by
          rcases Nat.lt_or_ge j k with h | h
          · exact hall.out j h
          · obtain rfl : j = k := by omega
            rw [← hX]
            exact tim_yes hx
        clear hX
        obtain ⟨x0, x1⟩ := hx
        go_wp2
        go_round
        case rel => exact ⟨k + 1, by go_num, by omega, HN⟩
        case measure => simp [intOf]; omega
      · have HN := Lib.hid (nth_no hlt (hX ▸ tim_no hx))
        clear hX
        by_cases hx0 : X < 0
        · go_wp2
          go_ret
          exact ⟨by rw [HN.out]; rfl, HB1.out⟩
        · have hx1 : 1000000 < X := by omega
          clear hx
          go_wp2
          go_ret
          exact ⟨by rw [HN.out]; rfl, HB1.out⟩
    · obtain rfl : k = 4 := by omega
      have HN := Lib.hid (nth_all hall.out)
      go_wp2
      go_ret
      exact ⟨by rw [HN.out]; rfl, HB1.out⟩
set_option maxRecDepth 100000 in
set_option maxHeartbeats 1000000 in
theorem capacity_any (W L S T J R : Int) (w : World) :
    Calls Try.prog 36 #[geV W L S T J R] w fun e w' => e = .returned (.int .i64 (capU W L S T J R)) ∧ Below w.heap.size w w' := by
  have HB0 := Lib.hid (below_box1 w (.cells #[.int .i64 W, .int .i64 L, .int .i64 S, .int .i64 T, .int .i64 J, .int .i64 R] 23))
  have HG := Lib.hid (GeoAt.new w W L S T J R 23)
  by_cases hv : Vld W L S T J R
  · rw [capU_yes hv]
    have h0 : 0 ≤ W * L := Int.mul_nonneg (by have := hv.w0; omega) (by have := hv.l0; omega)
    have h1 := hv.c1
    have HV := Lib.hid (vld_iff.2 hv)
    clear hv
    go_enter Try.func36, Try.ntmps36
    go_wp2_with fail
    refine (valid_any W L S T J R _).mono ?_
    rw [HV.out]
    rintro e w1 ⟨rfl, hb⟩
    have HB := Lib.hid (HB0.out.trans (hb.mono HB0.out.size))
    obtain ⟨_, g0, g1, _, _, _, _⟩ := HG.out.below hb (by simp)
    clear hb
    go_wp2
    go_ret
    exact ⟨rfl, HB.out⟩
  · rw [capU_no hv]
    have HV := Lib.hid (vld_not.2 hv)
    clear hv
    go_enter Try.func36, Try.ntmps36
    go_wp2_with fail
    refine (valid_any W L S T J R _).mono ?_
    rw [HV.out]
    rintro e w1 ⟨rfl, hb⟩
    have HB := Lib.hid (HB0.out.trans (hb.mono HB0.out.size))
    clear hb
    go_wp2
    go_ret
    exact ⟨rfl, HB.out⟩
end Go.Proofs.Ytlbnjojafaieoaa
