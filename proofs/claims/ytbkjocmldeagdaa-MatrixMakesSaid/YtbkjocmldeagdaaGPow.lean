/-
  Powers, inverses and quotients, of the program and of the specification, are those of the plain mathematics.
-/
import Derived.Test.YtbkjocmldeagdaaGLog
namespace Go.Proofs.Ytbkjocmldeagdaa
open Go.RowKit

/-- the power with any exponent -/
def powI (a : UInt8) (n : Int) : UInt8 := if n < 0 then 0 else powU a n.toNat
theorem powI_neg (a : UInt8) (n : Int) (h : n < 0) : powI a n = 0 := if_pos h
theorem powI_nat (a : UInt8) (n : Nat) : powI a n = powU a n := by
  unfold powI
  rw [if_neg (by omega)]
  congr 1
theorem val_powI_neg (a : UInt8) (n : Int) (h : n < 0) : Value.int .u8 0 = .int .u8 (ev (powI a n)) := by rw [powI_neg a n h, ev_zero]
theorem val_powI_zero (a : UInt8) : Value.int .u8 1 = .int .u8 (ev (powI a 0)) := by
  rw [show powI a 0 = 1 from powI_nat a 0, ev_one]
theorem val_powI_of_zero (n : Nat) (h : n ≠ 0) : Value.int .u8 0 = .int .u8 (ev (powI 0 n)) := by rw [powI_nat, powU_zero n h, ev_zero]
theorem log_lt (a : UInt8) : logU a < 255 := expA_lt a 255 (Nat.le_refl _)
theorem ev_expT (a : UInt8) : ev (expT a.toNat) = (logU a : Int) := by
  unfold expT
  rw [UInt8.ofNat_toNat, ← ev_lit _ (Nat.lt_trans (log_lt a) (by decide))]
theorem log_mul (L r : Nat) (hL : L < 255) (hr : r < 255) : (L : Int) * (r : Int) = ((L * r : Nat) : Int) ∧ L * r ≤ 64516 := by
  refine ⟨by norm_cast, ?_⟩
  have := Nat.mul_le_mul (show L ≤ 254 by omega) (show r ≤ 254 by omega)
  omega
attribute [local irreducible] dblU lowU mulU expT arr gp expA logU powU powI

theorem run_store_first {P : Program} (w : World) (t : TypeId) (old cs : Array Value) (o : Obj) (hs : old.size = cs.size) (h1 : cs.all (·.oneCell') = true) :
    (storeCells ⟨w.heap.size, 0, none⟩ cs.toList 0).run P ((w.alloc (.cells old t)).alloc o) = .ok () ((w.alloc (.cells cs t)).alloc o) := by
  rw [run_storeCells_arr (P := P) _ w.heap.size t old cs (by rw [heap_past_arr _ _ _ (by simp)]; exact heap_alloc_last _ _) hs h1, setRow_past_arr _ _ _ _ (by simp), World.setRow_alloc_new]

set_option maxRecDepth 100000 in
set_option maxHeartbeats 1000000 in
theorem pow_any (a : UInt8) (n : Int) (w : World) (h0 : -9223372036854775808 ≤ n) (h1 : n ≤ 9223372036854775807) :
    Calls Try.prog 43 #[.int .u8 (ev a), .int .i64 n] w fun e w' => e = .returned (.int .u8 (ev (powI a n))) ∧ Below w.heap.size w w' := by
  by_cases hn : n < 0
  · have hr := Lib.hid (val_powI_neg a n hn)
    go_enter Try.func43, Try.ntmps43
    go_wp2
    rw [hr.out]
    go_ret
    exact ⟨rfl, Below.refl _ _⟩
  obtain ⟨N, rfl⟩ := Int.eq_ofNat_of_zero_le (show 0 ≤ n by omega)
  by_cases hN : N = 0
  · subst hN
    have hr := Lib.hid (val_powI_zero a)
    go_enter Try.func43, Try.ntmps43
    go_wp2
    go_ret
    exact ⟨congrArg _ hr.out, Below.refl _ _⟩
  by_cases ha : a = 0
  · subst ha
    have hr := Lib.hid (val_powI_of_zero N hN)
    have he := ev_zero
    go_enter Try.func43, Try.ntmps43
    go_wp2
    rw [hr.out]
    go_ret
    exact ⟨rfl, Below.refl _ _⟩
  have ha0 : ev a ≠ 0 := fun h => ha ((ev_eq0 a).1 h)
  have HP := Lib.hid (pow_log a N ha)
  have HV := Lib.hid (powI_nat a N)
  have hz := zeroP
  have hz2 := zeroE
  have x0 := ev_lo a
  have x1 := ev_hi a
  clear ha
  go_enter Try.func43, Try.ntmps43
  go_wp2_with fail
  refine (logs_any _).mono ?_
  rintro e w1 ⟨rfl, hb1⟩
  have HB1 := Lib.hid hb1
  clear hb1
  have hs1 := arr_size 255 gp
  have hs2 := arr_size 256 expT
  go_wp2_with fail
  rw [run_store_first _ _ _ _ _ (by rw [arr_size, arr_size]) (arr_one _ _)]
  simp only [Result.andThen]
  rw [Oper.upon_skip]
  go_wp2_with fail
  rw [run_storeCells_new_arr _ (w1.heap.size + 1) (by simp) _ _ _ (by rw [arr_size, arr_size]) (arr_one _ _)]
  simp only [Result.andThen]
  rw [Oper.upon_skip]
  clear hz hz2 hs1 hs2
  have hA : Arr ((w1.alloc (.cells (arr 255 gp) 56)).alloc (.cells (arr 256 expT) 48)) w1.heap.size 56 255 gp := (Arr.new _ _ _ _).past _
  have hE : Arr ((w1.alloc (.cells (arr 255 gp) 56)).alloc (.cells (arr 256 expT) 48)) (w1.heap.size + 1) 48 256 expT := by
    have := Arr.new (w1.alloc (.cells (arr 255 gp) 56)) 48 256 expT
    rwa [show (w1.alloc (.cells (arr 255 gp) 56)).heap.size = w1.heap.size + 1 by simp] at this
  have HB2 : Hid (Below w.heap.size w ((w1.alloc (.cells (arr 255 gp) 56)).alloc (.cells (arr 256 expT) 48))) := Lib.hid ((HB1.out.alloc HB1.out.size _).alloc (by have := HB1.out.size; simp; omega) _)
  generalize World.alloc (World.alloc w1 _) _ = w2 at hA hE HB2 ⊢
  have hj : (ev a).toNat = a.toNat := by rw [ev_nat]; rfl
  have hc := hE.cell (ev a).toNat (by omega)
  rw [hj, ev_expT, ← hj] at hc
  have hL := log_lt a
  obtain ⟨L, rfl⟩ : ∃ L, L = logU a := ⟨_, rfl⟩
  obtain ⟨r, hr⟩ : ∃ r, r = N % 255 := ⟨_, rfl⟩
  have hrl : r < 255 := by omega
  have hri : (N : Int) % 255 = (r : Int) := by omega
  have hm := (log_mul (logU a) r hL hrl).1
  have hmb := (log_mul (logU a) r hL hrl).2
  rw [← hr] at HP
  clear hr hj
  generalize logU a = L at HP hc hL hm hmb
  have hg := hA.cell (L * r % 255) (Nat.mod_lt _ (by decide))
  rw [HP.out] at hg
  generalize L * r = M at hm hmb hg
  have HR := Lib.hid hg
  go_wp2_with fail
  go_ret
  exact ⟨congrArg _ (by rw [HV.out]; rfl), HB2.out⟩

/-- is the element not 0? -/
def nz (a : UInt8) : Bool := decide (a ≠ 0)
theorem nz_yes (a : UInt8) (h : a ≠ 0) : nz a = true := by simp [nz, h]
theorem nz_no : nz 0 = false := by decide
theorem nz_ev (a : UInt8) : nz a = (ev a != 0) := by
  by_cases h : a = 0
  · subst h; rw [nz_no, ev_zero]; rfl
  · have : ev a ≠ 0 := fun h' => h ((ev_eq0 a).1 h')
    rw [nz_yes a h]; simp [this]
theorem powI_254 (a : UInt8) : powI a 254 = invU a := powI_nat a 254
attribute [local irreducible] invU nz

set_option maxRecDepth 100000 in
set_option maxHeartbeats 1000000 in
theorem inv_any (a : UInt8) (w : World) :
    Calls Try.prog 35 #[.int .u8 (ev a)] w fun e w' => e = .returned (.tuple #[.int .u8 (ev (invU a)), .bool (nz a)]) ∧ Below w.heap.size w w' := by
  have HN := Lib.hid (nz_ev a)
  go_enter Try.func35, Try.ntmps35
  go_wp2_with fail
  refine (pow_any _ _ _ (by decide) (by decide)).mono ?_
  rintro e w' ⟨rfl, hb⟩
  rw [powI_254]
  have HB := Lib.hid hb
  clear hb
  go_wp2
  go_ret2
  exact ⟨by rw [HN.out]; rfl, HB.out⟩
end Go.Proofs.Ytbkjocmldeagdaa
