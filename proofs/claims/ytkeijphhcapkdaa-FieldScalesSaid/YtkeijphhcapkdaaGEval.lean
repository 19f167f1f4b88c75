/-
  The value of a polynomial, by the program and by the specification, is that of the plain mathematics.
-/
import Derived.Test.YtkeijphhcapkdaaGPow
import Derived.Deep.QuietTactic
namespace Go.Proofs.Ytkeijphhcapkdaa
open Go.RowKit

theorem calls_left {P : Program} {f : FuncId} {args : Array Value} {w : World} {v : Value} (h : Calls P f args w fun e w' => e = .returned v ∧ w = w') : Calls P f args w fun e w' => e = .returned v ∧ w' = w :=
  h.mono fun _ _ ⟨he, hw⟩ => ⟨he, hw.symm⟩
/-- the bytes that lie, by their numbers -/
theorem Lie.ev {w : World} {ad : Option Addr} {xs : List UInt8} (h : Lie w ad xs) (hp : 0 < xs.length) :
    ∃ b off, ad = some ⟨b, off, none⟩ ∧ b < w.heap.size ∧ ∀ j (h : j < xs.length), w.cell? ⟨b, off + j, none⟩ = some (.int .u8 (ev (xs[j]'h))) := by
  rcases h.at_ with h0 | ⟨b, off, h1, h2, h3⟩
  · subst h0; simp at hp
  · exact ⟨b, off, h1, h2, fun j hj => by rw [ev_nat]; exact h3 j hj⟩
theorem below_drewN {B : Nat} {a w : World} (h : Below B a w) (n : Nat) : Below B a (w.drewN n) := ⟨h.os, h.tape, h.output, h.size, h.block⟩
theorem ev_idx (x : UInt8) : (ev x).toNat < 256 := by have := ev_lo x; have := ev_hi x; omega
theorem ev_prodT (a v : UInt8) : prodT a (ev v).toNat = mulU v a := by
  unfold prodT
  rw [show (ev v).toNat = v.toNat by rw [ev_nat]; rfl, UInt8.ofNat_toNat]
theorem eval_next (xs : List UInt8) (x c V : UInt8) (j : Nat) (h : j < xs.length) (hc : c = xs[j]) (hV : V = evalU (xs.drop (j + 1)) x) : mulU V x ^^^ c = evalU (xs.drop j) x := by
  subst hc hV
  exact (evalU_drop xs x j h).symm
theorem eval_start (xs : List UInt8) (x : UInt8) : evalU (xs.drop xs.length) x = 0 := by rw [List.drop_length]; rfl
attribute [local irreducible] dblU lowU mulU arr evalU prodT

set_option maxRecDepth 100000 in
set_option maxHeartbeats 1000000 in
theorem eval_any (ad : Option Addr) (cap : Nat) (xs : List UInt8) (x : UInt8) (w : World) (hl : Lie w ad xs) (hm : xs.length ≤ 1152921504606846976) :
    Calls Try.prog 19 #[.slice ad xs.length cap, .int .u8 (ev x)] w fun e w' => e = .returned (.int .u8 (ev (evalU xs x))) ∧ Below w.heap.size w w' := by
  have hz := zeroP
  have HL := Lib.hid hl
  clear hl
  go_enter Try.func19, Try.ntmps19
  go_wp2_with fail
  refine (products_any _ _).mono ?_
  rintro e w1 ⟨rfl, hb1⟩
  have HB1 := Lib.hid hb1
  clear hb1
  have hs1 := arr_size 256 (prodT x)
  go_wp2_with fail
  rw [run_storeCells_new_arr _ w1.heap.size rfl _ _ _ (by rw [arr_size, arr_size]) (arr_one _ _)]
  simp only [Result.andThen]
  rw [Oper.upon_skip]
  clear hz hs1
  have HA := Lib.hid (Arr.new w1 43 256 (prodT x))
  have HB2 : Hid (Below w.heap.size w (w1.alloc (.cells (arr 256 (prodT x)) 43))) := Lib.hid (HB1.out.alloc HB1.out.size _)
  generalize w1.heap.size = g at HA ⊢
  generalize World.alloc w1 _ = W at HA HB2 ⊢
  go_wp2
  go_loopw [6, 7] (fun vv vi wr => ∃ k : Nat, k ≤ xs.length ∧ vi = .int .i64 ((k : Int) - 1) ∧ vv = .int .u8 (ev (evalU (xs.drop k) x)) ∧ Hid (Arr wr g 43 256 (prodT x)) ∧ Hid (Below w.heap.size w wr)) (fun _ i _ => ((intOf i) + 1).toNat)
  case atStart => exact ⟨xs.length, Nat.le_refl _, by first | rfl | trivial, by rw [eval_start, ev_zero], HA, HB2⟩
  case round =>
    obtain ⟨k, hk, rfl, rfl, ha, hb⟩ := hrel
    by_cases hlt : 0 < k
    · obtain ⟨j, rfl⟩ : ∃ j, k = j + 1 := ⟨k - 1, by omega⟩
      rw [show ((j + 1 : Nat) : Int) - 1 = (j : Int) by omega]
      obtain ⟨V, hV⟩ : ∃ V, V = evalU (xs.drop (j + 1)) x := ⟨_, rfl⟩
      rw [← hV]
      obtain ⟨b, off, rfl, _, hc⟩ := (HL.out.below hb.out rfl).ev (by omega)
      have hcj := hc j (by omega)
      obtain ⟨c, hcc⟩ : ∃ c, c = xs[j] := ⟨_, rfl⟩
      rw [← hcc] at hcj
      have hp := ha.out.cell (ev V).toNat (ev_idx V)
      rw [ev_prodT] at hp
      have HN := Lib.hid (eval_next xs x c V j (by omega) hcc hV)
      have v0 := ev_lo V
      have v1 := ev_hi V
      have hj0 : (0 : Int) ≤ (j : Int) := by omega
      have hj1 : (j : Int) < (xs.length : Int) := by omega
      have hj2 : j < xs.length := by omega
      clear hc hV hcc
      go_wp2_with fail
      go_quiet ((go_at_call 10; exact Calls.quiet_of_same (calls_left (add_any _ _ _))))
      go_wp2
      go_roundw
      case rel => exact ⟨j, by omega, rfl, by rw [HN.out], Lib.hid ha.out.drewN, Lib.hid (below_drewN hb.out _)⟩
      case measure => simp [intOf]
    · obtain rfl : k = 0 := by omega
      go_wp2
      go_ret
      exact ⟨rfl, hb.out⟩

set_option maxRecDepth 100000 in
set_option maxHeartbeats 1000000 in
theorem reval_any (ad : Option Addr) (cap : Nat) (xs : List UInt8) (x : UInt8) (w : World) (hl : Lie w ad xs) (hm : xs.length ≤ 1152921504606846976) :
    Calls Try.prog 20 #[.slice ad xs.length cap, .int .u8 (ev x)] w fun e w' => e = .returned (.int .u8 (ev (evalU xs x))) ∧ Below w.heap.size w w' := by
  have HL := Lib.hid hl
  clear hl
  go_enter Try.func20, Try.ntmps20
  go_wp2
  go_loopw [5, 6] (fun vv vi wr => ∃ k : Nat, k ≤ xs.length ∧ vi = .int .i64 ((k : Int) - 1) ∧ vv = .int .u8 (ev (evalU (xs.drop k) x)) ∧ Hid (Below w.heap.size w wr)) (fun _ i _ => ((intOf i) + 1).toNat)
  case atStart => exact ⟨xs.length, Nat.le_refl _, by first | rfl | trivial, by rw [eval_start, ev_zero], Lib.hid (Below.refl _ _)⟩
  case round =>
    obtain ⟨k, hk, rfl, rfl, hb⟩ := hrel
    by_cases hlt : 0 < k
    · obtain ⟨j, rfl⟩ : ∃ j, k = j + 1 := ⟨k - 1, by omega⟩
      rw [show ((j + 1 : Nat) : Int) - 1 = (j : Int) by omega]
      obtain ⟨V, hV⟩ : ∃ V, V = evalU (xs.drop (j + 1)) x := ⟨_, rfl⟩
      rw [← hV]
      obtain ⟨b, off, rfl, _, hc⟩ := (HL.out.below hb.out rfl).ev (by omega)
      have hcj := hc j (by omega)
      obtain ⟨c, hcc⟩ : ∃ c, c = xs[j] := ⟨_, rfl⟩
      rw [← hcc] at hcj
      have HN := Lib.hid (eval_next xs x c V j (by omega) hcc hV)
      have hx := bits_xor_ev (mulU V x) c
      have v0 := ev_lo V
      have v1 := ev_hi V
      have hj0 : (0 : Int) ≤ (j : Int) := by omega
      have hj1 : (j : Int) < (xs.length : Int) := by omega
      have hj2 : j < xs.length := by omega
      clear hc hV hcc
      go_wp2_with fail
      go_quiet ((go_at_call 13; exact Calls.quiet_of_same (calls_left (rmul_any _ _ _))))
      go_wp2
      go_roundw
      case rel => exact ⟨j, by omega, rfl, by rw [HN.out], Lib.hid (below_drewN hb.out _)⟩
      case measure => simp [intOf]
    · obtain rfl : k = 0 := by omega
      go_wp2
      go_ret
      exact ⟨rfl, hb.out⟩
end Go.Proofs.Ytkeijphhcapkdaa
