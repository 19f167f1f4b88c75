/-
  A row times shards, by the specification.
-/
import Derived.Test.YtinfjidclkgfnaaQRows
import Derived.Test.YtinfjidclkgfnaaQList
import Derived.Test.YtinfjidclkgfnaaERMul4
import Derived.BigQuiet
namespace Go.Proofs.Ytinfjidclkgfnaa
open Go.RowKit
theorem comb_row (c : List UInt8) (ls : List (List UInt8)) (j q : Nat) (hj : j < ls.length) (hq : q < (ls[j]).length) (hc : j < c.length) :
    comb j (fun i => c.getD i 0) (ent ls) q ^^^ mulU c[j] (ls[j])[q] = comb (j + 1) (fun i => c.getD i 0) (ent ls) q := by
  rw [ent_get ls j q hj hq, show c[j] = c.getD j 0 by simp [hc]]
  rfl
theorem take_combL (c : List UInt8) (ls : List (List UInt8)) (q : Nat) (h : q < cols ls) : (combL c ls).take q ++ [comb ls.length (fun i => c.getD i 0) (ent ls) q] = (combL c ls).take (q + 1) := by
  have hq : q < (combL c ls).length := by rw [combL_length]; exact h
  rw [List.take_add_one, List.getElem?_eq_getElem hq, combL_get c ls q hq]
  rfl
theorem comb_nought (c : Nat → UInt8) (M : Nat → Nat → UInt8) (q : Nat) : comb 0 c M q = 0 := rfl
attribute [local irreducible] combL comb mulU
set_option maxRecDepth 100000 in
set_option maxHeartbeats 1000000 in
theorem times_any (cd ad : Option Addr) (m n cc cap : Nat) (c : List UInt8) (ls : List (List UInt8)) (w : World) (hc : Lie w cd c) (hm : m = c.length) (hl : Lr w ad ls) (hn : n = ls.length) (hn2 : n ≤ 1000) (hp : 0 < n) (hs : ∀ i (h : i < ls.length), (ls[i]).length = cols ls) (hL : cols ls ≤ 1000) (hcm : n ≤ m) :
    Calls Try.prog 38 #[.slice cd m cc, .slice ad n cap] w (GivesU w (combL c ls)) := by
  obtain ⟨L, hLL⟩ : ∃ L, L = cols ls := ⟨_, rfl⟩
  rw [← hLL] at hs hL
  have HTK := Lib.hid (take_combL c ls)
  rw [← hLL] at HTK
  have HE : Hid ((combL c ls).take L = combL c ls) := Lib.hid (by rw [hLL, List.take_of_length_le (by rw [combL_length]; exact Nat.le_refl _)])
  have HCL : Hid ((combL c ls).length = L) := Lib.hid (by rw [hLL, combL_length])
  have hp2 : 0 < ls.length := by omega
  obtain ⟨b, off, rfl, hbl, a0, c0, f0, -, g0, m0, -⟩ := hl.row 0 hp2
  rw [hs 0 hp2, Nat.add_zero] at f0
  rw [hs 0 hp2] at g0
  obtain ⟨b2, off2, rfl, hb2, hc2⟩ := hc.ev (by omega)
  have HF0 : Hid (∀ w2, Below w.heap.size w w2 → w2.cell? ⟨b, off, none⟩ = some (.slice a0 L c0)) := Lib.hid fun w2 hb => (hb.cell (p := ⟨b, off, none⟩) hbl).trans f0
  have HC : Hid (∀ w2, Below w.heap.size w w2 → ∀ j (h : j < c.length), w2.cell? ⟨b2, off2 + j, none⟩ = some (.int .u8 (ev (c[j])))) := Lib.hid fun w2 hb j h => (hb.cell (p := ⟨b2, off2 + j, none⟩) hb2).trans (hc2 j h)
  have HL := Lib.hid hl
  have HN := Lib.hid hn
  have HM := Lib.hid hm
  have HS := Lib.hid hs
  unfold maxLen at m0
  have hn1 : (0 : Int) < (n : Int) := by omega
  clear hl hn hm hs hc hc2 hp2 hLL f0
  go_enter Try.func38, Try.ntmps38
  go_wp2_with fail
  go_loopg [5, 6] L (fun gk vo vk wx => ∃ k : Nat, vk = .int .i64 k ∧ k + gk = L ∧ Hid (Own wx w.heap.size vo ((combL c ls).take k)) ∧ Hid (Below w.heap.size w wx))
  case atStart => exact ⟨0, rfl, by omega, Lib.hid (Own.ofNil _ _), Lib.hid (Below.refl _ _)⟩
  case round =>
    obtain ⟨k, rfl, hk, hO, HB⟩ := hrel
    have f0 := HF0.out wr HB.out
    cases gk with
    | zero =>
      have hlt : ¬ (k : Int) < (L : Int) := by omega
      obtain rfl : k = L := by omega
      go_wp2
      go_ret
      exact ⟨_, rfl, by rw [← HE.out]; exact hO.out, HB.out⟩
    | succ gk0 =>
      have hlt : (k : Int) < (L : Int) := by omega
      have hkL : k < L := by omega
      obtain ⟨W0, HW0⟩ : ∃ W0 : World, Hid (W0 = wr) := ⟨_, Lib.hid rfl⟩
      have HO0 : Hid (Own W0 w.heap.size u5 ((combL c ls).take k)) := Lib.hid (by rw [HW0.out]; exact hO.out)
      have HB0 : Hid (Below w.heap.size w W0) := Lib.hid (by rw [HW0.out]; exact HB.out)
      have HW1 : Hid (Below W0.heap.size W0 wr) := Lib.hid (by rw [HW0.out]; exact Below.refl _ _)
      go_wp2_with fail
      clear f0
      go_loopg [7, 8] n (fun gj vs vj wx => ∃ (j : Nat) (z : UInt8), vj = .int .i64 j ∧ j + gj = n ∧ vs = .int .u8 (ev z) ∧ Hid (z = comb j (fun i => c.getD i 0) (ent ls) k) ∧ Hid (Below W0.heap.size W0 wx))
      case atStart => exact ⟨0, 0, rfl, by omega, by rw [ev_zero], Lib.hid (by rw [comb_nought]), HW1⟩
      case round =>
        obtain ⟨j, z, rfl, hj, rfl, hz, hB⟩ := hrel
        have z0 := ev_lo z
        have z1 := ev_hi z
        cases gk with
        | zero =>
          have hlt2 : ¬ (j : Int) < (n : Int) := by omega
          obtain rfl : j = n := by omega
          have HO1 := Lib.hid (HO0.out.below (hB.out.alloc hB.out.size (.cells #[.int .u8 (ev z)] 5)))
          have HB1 := Lib.hid (hB.out.alloc hB.out.size (.cells #[.int .u8 (ev z)] 5))
          have HLI := Lib.hid (Lie.one wr (ev z) z (ev_nat z))
          have HTX : Hid ((combL c ls).take k ++ [z] = (combL c ls).take (k + 1)) := Lib.hid (by rw [hz.out, HN.out]; exact HTK.out k hkL)
          have hll : ((combL c ls).take k).length ≤ 1000 := by rw [List.length_take, HCL.out]; omega
          have HLL := Lib.hid hll
          clear hll
          go_wp2_with (at_builtin; refine wpList_append_u rfl (.tmp 37) (.tmp 39) rfl w.heap.size u5 _ rfl HO1.out _ 1 1 [z] (fun h => by cases h) HLI.out rfl rfl (by have := HLL.out; omega) (Nat.le_trans HB0.out.size HB1.out.size) ?_; intro v3 w3 ho3 hg3; rw [HTX.out] at ho3; have HO3 := Lib.hid ho3; have HB3 : Hid (Below w.heap.size w w3) := Lib.hid (below_app (HB0.out.trans (HB1.out.mono HB0.out.size)) HO1.out hg3); clear ho3 hg3)
          go_roundg gk0
          case rel => exact ⟨k + 1, by go_num, by omega, HO3, HB3⟩
          case measure => omega
        | succ gj0 =>
          have hlt2 : (j : Int) < (n : Int) := by omega
          have hjN : j < n := by omega
          have hjl : j < ls.length := by have := HN.out; omega
          have hjc : j < c.length := by have := HM.out; omega
          have hBW := HB0.out.trans (hB.out.mono HB0.out.size)
          obtain ⟨b', off', e', -, a1, c1, f1, l1, g1, m1, h1⟩ := HL.out.row j hjl
          cases e'
          have f2 : wr.cell? ⟨b, off + j, none⟩ = some (.slice a1 (ls[j]).length c1) := (hBW.cell (p := ⟨b, off + j, none⟩) hbl).trans f1
          have f3 := HC.out wr hBW j hjc
          obtain ⟨b3, off3, rfl, hb3, hc3⟩ := (l1.below hBW rfl).ev (by rw [HS.out j hjl]; omega)
          have f4 := hc3 k (by rw [HS.out j hjl]; exact hkL)
          have HX := Lib.hid (comb_row c ls j k hjl (by rw [HS.out j hjl]; exact hkL) hjc)
          rw [← hz.out] at HX
          rw [HS.out j hjl] at f2 g1
          have hjm : j < m := by omega
          have hjm2 : (j : Int) < (m : Int) := by omega
          generalize c[j] = x at f3 HX
          generalize (ls[j])[k]'(by rw [HS.out j hjl]; exact hkL) = y at f4 HX
          have hx := bits_xor_ev z (mulU x y)
          unfold maxLen at m1
          clear f1 l1 h1 hjl hjc hBW hc3
          go_wp2_with fail
          go_quiet ((go_at_call 46; exact Calls.quiet_of_same (calls_left (rmul4_any _ _ _))))
          go_wp2
          go_roundg gj0
          case rel => exact ⟨j + 1, _, by go_num, by omega, rfl, HX, Lib.hid (below_drewN hB.out _)⟩
          case measure => omega
end Go.Proofs.Ytinfjidclkgfnaa
