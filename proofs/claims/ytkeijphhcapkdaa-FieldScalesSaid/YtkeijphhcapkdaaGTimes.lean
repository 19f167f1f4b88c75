/-
  The product of two polynomials, by the specification: its value is the product of the values.
-/
import Derived.Test.YtkeijphhcapkdaaGRScale
import Derived.Test.YtkeijphhcapkdaaRow
namespace Go.Proofs.Ytkeijphhcapkdaa
open Go.RowKit

theorem Rowu.cellE {w : World} {g : Nat} {R : List UInt8} (h : Rowu w g R) (i : Nat) (hi : i < R.length) : w.cell? ⟨g, i, none⟩ = some (.int .u8 (ev (R[i]'hi))) := by rw [ev_nat]; exact h.cell i hi
theorem Rowu.setE {w : World} {g : Nat} {R : List UInt8} (h : Rowu w g R) (i : Nat) (v : UInt8) : Rowu (w.setCell ⟨g, i, none⟩ (.int .u8 (ev v))) g (R.set i v) := h.set_ i _ v (ev_nat v)
theorem Rowu.own {w : World} {g B n : Nat} {R : List UInt8} (h : Rowu w g R) (hB : B ≤ g) (hn : R.length = n) (hm : n ≤ maxLen) : Own w B (.slice (some ⟨g, 0, none⟩) n n) R := by
  subst hn
  refine ⟨by rw [cellsU_length]; omega, .inr ⟨g, R.length, (cellsU R).toArray, rfl, hB, h, Nat.le_refl _, hm, by simp [cellsU_length], ?_⟩⟩
  rw [List.toList_toArray, List.take_of_length_le (by rw [cellsU_length]; omega)]
/-- a call gives a new slice: a polynomial whose value is the product of the values -/
def Timed (w : World) (xs ys : List UInt8) (e : Ending) (w' : World) : Prop :=
  ∃ v l, e = .returned v ∧ Own w' w.heap.size v l ∧ Below w.heap.size w w' ∧ l.length ≤ xs.length + ys.length ∧ ∀ x, evalU l x = mulU (evalU xs x) (evalU ys x)
theorem times_zero (n : Nat) (p q : List UInt8) (x : UInt8) : evalU (List.replicate n 0) x = mulU (evalU (p.take 0) x) (evalU q x) := by
  rw [evalU_zeros, List.take_zero]; exact (zero_mulU _).symm
theorem times_first (R p q : List UInt8) (x c : UInt8) (i : Nat) (h : evalU R x = mulU (evalU (p.take i) x) (evalU q x)) : evalU R x = mulU (evalU (p.take i) x) (evalU q x) ^^^ mulU (mulU c (powU x i)) (evalU (q.take 0) x) := by
  rw [h, List.take_zero, show evalU [] x = 0 from rfl, mulU_zero, UInt8.xor_zero]
attribute [local irreducible] dblU lowU mulU evalU powU

set_option maxRecDepth 100000 in
set_option maxHeartbeats 2000000 in
theorem times_any (ad bd : Option Addr) (cap bc : Nat) (xs ys : List UInt8) (w : World) (hl : Lie w ad xs) (hm : Lie w bd ys) (hs : xs.length ≤ 100000) (hs2 : ys.length ≤ 100000) :
    Calls Try.prog 21 #[.slice ad xs.length cap, .slice bd ys.length bc] w (Timed w xs ys) := by
  by_cases h1 : xs.length = 0
  · have hx : xs = [] := List.eq_nil_of_length_eq_zero h1
    have HQ : Hid (∀ x, evalU [] x = mulU (evalU xs x) (evalU ys x)) := Lib.hid fun x => by subst hx; rw [show evalU [] x = 0 by unfold evalU; rfl, zero_mulU]
    clear hx
    go_enter Try.func21, Try.ntmps21
    go_wp2
    go_ret
    exact ⟨_, [], rfl, Own.ofNil _ _, Below.refl _ _, by simp, HQ.out⟩
  by_cases h2 : ys.length = 0
  · have hx : ys = [] := List.eq_nil_of_length_eq_zero h2
    have HQ : Hid (∀ x, evalU [] x = mulU (evalU xs x) (evalU ys x)) := Lib.hid fun x => by subst hx; rw [show evalU [] x = 0 by unfold evalU; rfl, mulU_zero]
    clear hx
    go_enter Try.func21, Try.ntmps21
    go_wp2
    go_ret
    exact ⟨_, [], rfl, Own.ofNil _ _, Below.refl _ _, by simp, HQ.out⟩
  have HL := Lib.hid hl
  have HM := Lib.hid hm
  clear hl hm
  have hz1 : (((xs.length : Nat) : Int) == 0) = false := beq_eq_false_iff_ne.2 (by omega)
  have hz2 : (((ys.length : Nat) : Int) == 0) = false := beq_eq_false_iff_ne.2 (by omega)
  obtain ⟨N, hN⟩ : ∃ N, N = xs.length + ys.length - 1 := ⟨_, rfl⟩
  have HN := Lib.hid hN
  have hNi : (xs.length : Int) + (ys.length : Int) - 1 = (N : Int) := by omega
  have hNb : N ≤ 200000 := by omega
  clear hN
  go_enter Try.func21, Try.ntmps21
  go_wp2_with (at_make; refine wpList_make_row rfl (.tmp 21) (.tmp 21) rfl _ _ N rfl rfl rfl rfl (by omega) ?_; intro g w2 hrow2 hg hb2)
  have HG := Lib.hid hg
  have HR2 := Lib.hid hrow2
  have HB2 := Lib.hid hb2
  clear hrow2 hg hb2
  go_loopw [6] (fun vi wr => ∃ (i : Nat) (R : List UInt8), i ≤ xs.length ∧ vi = .int .i64 i ∧ Hid (R.length = N) ∧ Hid (Rowu wr g R) ∧ Hid (Below w.heap.size w wr) ∧ Hid (∀ x, evalU R x = mulU (evalU (xs.take i) x) (evalU ys x))) (fun i _ => xs.length - (intOf i).toNat)
  case atStart => exact ⟨0, List.replicate N 0, by omega, rfl, Lib.hid (by simp), HR2, HB2, Lib.hid (times_zero N xs ys)⟩
  case round =>
    obtain ⟨i, R, hi, rfl, hRl, hR, hB, hQ⟩ := hrel
    by_cases hlt : i < xs.length
    · go_wp2_with fail
      go_loopw [7] (fun vk wr => ∃ (k : Nat) (R : List UInt8), k ≤ ys.length ∧ vk = .int .i64 k ∧ Hid (R.length = N) ∧ Hid (Rowu wr g R) ∧ Hid (Below w.heap.size w wr) ∧ Hid (∀ x, evalU R x = mulU (evalU (xs.take i) x) (evalU ys x) ^^^ mulU (mulU xs[i] (powU x i)) (evalU (ys.take k) x))) (fun k _ => ys.length - (intOf k).toNat)
      case atStart => exact ⟨0, R, by omega, rfl, hRl, hR, hB, Lib.hid fun x => times_first R xs ys x _ i (hQ.out x)⟩
      case round =>
        clear hRl hR hB hQ
        obtain ⟨k, R, hk, rfl, hRl, hR, hB, hQ⟩ := hrel
        by_cases hlk : k < ys.length
        · have hj0 : (0 : Int) ≤ (k : Int) := by omega
          have hj1 : (k : Int) < (ys.length : Int) := by omega
          have hi0 : (0 : Int) ≤ (i : Int) := by omega
          have hi1 : (i : Int) < (xs.length : Int) := by omega
          have hn0 : (0 : Int) ≤ (i : Int) + (k : Int) := by omega
          have hn1 : (i : Int) + (k : Int) < (N : Int) := by have := HN.out; omega
          have hw : IntKind.i64.wrap ((i : Int) + (k : Int)) = (i : Int) + (k : Int) := by rw [IntKind.wrap_i64]; omega
          have htn : ((i : Int) + (k : Int)).toNat = i + k := by omega
          go_wp2_with fail
          refine wp_region_still_tail 21 (by kernel_rfl) (by kernel_rfl) ?_
          simp only [List.take_succ_cons, List.take_zero, List.drop_succ_cons, List.drop_zero]
          change wpStill _ _ wr.drew (fun a' => wpList _ _ _ _ a' wr.drew) _ _
          have hR3 : Rowu wr.drew g R := hR.out
          have hB3 := hB.out.drew
          clear hR hB
          generalize wr.drew = w3 at hR3 hB3 ⊢
          obtain ⟨b, off, rfl, _, hc⟩ := (HL.out.below hB3 rfl).ev (by omega)
          obtain ⟨b2, off2, rfl, _, hc2⟩ := (HM.out.below hB3 rfl).ev (by omega)
          have hcx := hc i hlt
          have hcy := hc2 k hlk
          have hRN := hRl.out
          have hcr := hR3.cellE (i + k) (by omega)
          have hfr := hR3.blk.frozen (i + k)
          have HS := Lib.hid (hR3.setE (i + k) (R[i + k] ^^^ mulU xs[i] ys[k]))
          have HSB := Lib.hid (hB3.setCell (p := ⟨g, i + k, none⟩) HG.out (.int .u8 (ev (R[i + k] ^^^ mulU xs[i] ys[k]))))
          have HQ := Lib.hid fun x => times_step R xs ys x i k hlt hlk (by omega) (hQ.out x)
          have HRL : Hid ((R.set (i + k) (R[i + k] ^^^ mulU xs[i] ys[k])).length = N) := Lib.hid (by rw [List.length_set]; exact hRN)
          have hxor := bits_xor_ev R[i + k] (mulU xs[i] ys[k])
          clear hc hc2 hR3 hB3 hQ
          generalize R.set (i + k) (R[i + k] ^^^ mulU xs[i] ys[k]) = R2 at HS HQ HRL
          generalize xs[i] = cx at hcx hxor HS HSB
          generalize ys[k] = cy at hcy hxor HS HSB
          generalize R[i + k] = cr at hcr hxor HS HSB
          clear hRN hRl
          repeat still_step
          still_call (calls_left (rmul_any _ _ _))
          repeat still_step
          refine wpStill_nil ?_
          go_wp2
          go_roundw
          case rel => exact ⟨k + 1, R2, by omega, by go_num, HRL, HS, HSB, HQ⟩
          case measure => simp [intOf]; omega
        · obtain rfl : k = ys.length := by omega
          have HQ := Lib.hid fun x => (hQ.out x).trans (times_row xs ys x i hlt)
          go_wp2
          go_roundw
          case rel => exact ⟨i + 1, R, by omega, by go_num, hRl, hR, hB, HQ⟩
          case measure => simp [intOf]; omega
    · obtain rfl : i = xs.length := by omega
      have hRN := hRl.out
      have HO := Lib.hid (hR.out.own HG.out hRN (by unfold maxLen; omega))
      go_wp2
      go_ret
      exact ⟨_, R, rfl, HO.out, hB.out, by have := HN.out; omega, fun x => by have := hQ.out x; rwa [List.take_length] at this⟩
end Go.Proofs.Ytkeijphhcapkdaa
