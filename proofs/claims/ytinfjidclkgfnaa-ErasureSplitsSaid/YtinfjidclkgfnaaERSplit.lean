/-
  Split, by the specification.
-/
import Derived.Test.YtinfjidclkgfnaaESplit
namespace Go.Proofs.Ytinfjidclkgfnaa
open Go.RowKit
attribute [local irreducible] splitL shardL
set_option maxRecDepth 100000 in
set_option maxHeartbeats 1000000 in
theorem rsplit_any (ad : Option Addr) (m cap : Nat) (b : List UInt8) (n : Int) (w : World) (hl : Lie w ad b) (hm : m = b.length) (hs : m ≤ 100000) :
    Calls Try.prog 23 #[.slice ad m cap, .int .i64 n] w (SplP w b n) := by
  have HL := Lib.hid hl
  have HM := Lib.hid hm
  clear hl hm
  by_cases h1 : n < 1
  · go_enter Try.func23, Try.ntmps23
    go_wp2
    go_ret2
    exact SplP.no (by omega) (Below.refl _ _)
  by_cases h2 : 16 < n
  · go_enter Try.func23, Try.ntmps23
    go_wp2
    go_ret2
    exact SplP.no (by omega) (Below.refl _ _)
  obtain ⟨N, rfl⟩ := Int.eq_ofNat_of_zero_le (show 0 ≤ n by omega)
  have hN1 : 1 ≤ N := by omega
  have hN16 : N ≤ 16 := by omega
  obtain ⟨sz, hsz⟩ : ∃ sz, sz = (m + N - 1) / N := ⟨_, rfl⟩
  have hw1 : IntKind.i64.wrap ((m : Int) + (N : Int)) = (m : Int) + (N : Int) := by rw [IntKind.wrap_i64]; omega
  have hw2 : IntKind.i64.wrap ((m : Int) + (N : Int) - 1) = (m : Int) + (N : Int) - 1 := by rw [IntKind.wrap_i64]; omega
  have hq : ((m : Int) + (N : Int) - 1) / (N : Int) = (sz : Int) := by
    rw [hsz, Int.natCast_ediv]
    congr 1
    omega
  have hszm : sz ≤ m + N := by rw [hsz]; exact Nat.le_trans (Nat.div_le_self _ _) (by omega)
  have HSZ := Lib.hid hsz
  have HSU := Lib.hid (splitL_succ b sz)
  have HSL := Lib.hid (splitL_length b sz)
  have HS0 : Hid (splitL b sz 0 = []) := Lib.hid (by unfold splitL; rfl)
  have HHL := Lib.hid (shardL_length b sz)
  have HTK := Lib.hid (shard_take b sz)
  have HFU := Lib.hid (shard_full b sz)
  clear hsz
  go_enter Try.func23, Try.ntmps23
  go_wp2_with fail
  go_loopg [7, 8] N (fun gk vo vi wx => ∃ k : Nat, vi = .int .i64 k ∧ k + gk = N ∧ Hid (Lq wx w.heap.size w.heap.size vo (splitL b sz k)) ∧ Hid (Below w.heap.size w wx))
  case atStart => exact ⟨0, rfl, by omega, Lib.hid (by rw [HS0.out]; exact Lq.nil _ _ _), Lib.hid (Below.refl _ _)⟩
  case round =>
    obtain ⟨k, rfl, hk, hO, HB⟩ := hrel
    cases gk with
    | zero =>
      have hlt : ¬ (k : Int) < (N : Int) := by omega
      obtain rfl : k = N := by omega
      have HO := Lib.hid hO.out
      rw [HSZ.out, HM.out] at HO
      clear hO
      go_wp2
      go_ret2
      exact SplP.ok hN1 hN16 HO.out HB.out
    | succ gk0 =>
      have hlt : (k : Int) < (N : Int) := by omega
      have hkN : k < N := by omega
      obtain ⟨W0, HW0⟩ : ∃ W0 : World, Hid (W0 = wr) := ⟨_, Lib.hid rfl⟩
      have HB0 : Hid (Below w.heap.size w W0) := Lib.hid (by rw [HW0.out]; exact HB.out)
      have HO0 : Hid (Lq W0 w.heap.size w.heap.size u7 (splitL b sz k)) := Lib.hid (by rw [HW0.out]; exact hO.out)
      have HD00 : Hid (Below W0.heap.size W0 wr) := Lib.hid (by rw [HW0.out]; exact Below.refl _ _)
      obtain ⟨P, hP⟩ : ∃ P, P = k * sz := ⟨_, rfl⟩
      have hPb : P ≤ 2000000 := by rw [hP]; exact Nat.le_trans (Nat.mul_le_mul (show k ≤ 16 by omega) (show sz ≤ 100016 by omega)) (by decide)
      have hPm : (k : Int) * (sz : Int) = (P : Int) := by rw [hP, Int.natCast_mul]
      have hPw : IntKind.i64.wrap (P : Int) = (P : Int) := by rw [IntKind.wrap_i64]; omega
      have HP := Lib.hid hP
      clear hP hO
      go_wp2_with fail
      go_loopg [9, 10] sz (fun gq vx vq wx => ∃ q : Nat, vq = .int .i64 q ∧ q + gq = sz ∧ Hid (Own wx W0.heap.size vx ((shardL b sz k).take q)) ∧ Hid (Below W0.heap.size W0 wx))
      case atStart => exact ⟨0, rfl, by omega, Lib.hid (by rw [List.take_zero]; exact Own.ofNil _ _), HD00⟩
      case round =>
        obtain ⟨q, rfl, hq2, hOq, hBq⟩ := hrel
        cases gk with
        | zero =>
          have hltq : ¬ (q : Int) < (sz : Int) := by omega
          obtain rfl : q = sz := by omega
          have hOq1 := hOq.out
          rw [HFU.out] at hOq1
          have HB6 := Lib.hid (hBq.out.alloc hBq.out.size (.cells #[u9] 33))
          have HO6 := Lib.hid (HO0.out.below HB6.out)
          have HX6 := Lib.hid (Lx.one (C := W0.heap.size) (x := u7.ownBlock) wr u9 _ _ rfl (LieX.of_own hOq1 fun g hg => (HO0.out.lt g hg).2))
          have HZ6 : Hid (w.heap.size ≤ (wr.alloc (.cells #[u9] 33)).heap.size) := Lib.hid (Nat.le_trans HB0.out.size HB6.out.size)
          obtain ⟨ad6, cap6, e6, -⟩ := hOq1.slice
          subst e6
          clear hOq hOq1
          go_wp2_with (at_builtin; refine wpList_append_q rfl (.tmp 55) (.tmp 57) rfl w.heap.size w.heap.size W0.heap.size w.heap.size u7 _ rfl HO6.out _ 1 1 [shardL b q k] (fun h => by cases h) HX6.out rfl rfl (by rw [HSL.out]; omega) HZ6.out (Nat.le_refl _) HB0.out.size ?_; intro v7 w7 ho7 hg7 _; rw [← HSU.out] at ho7; have HO7 := Lib.hid ho7; have HB7 : Hid (Below w.heap.size w w7) := Lib.hid (HO6.out.grow (HB0.out.trans (HB6.out.mono HB0.out.size)) (Nat.le_refl _) hg7); clear ho7 hg7)
          go_roundg gk0
          case rel => exact ⟨k + 1, by go_num, by omega, HO7, HB7⟩
          case measure => omega
        | succ gq0 =>
          have hltq : (q : Int) < (sz : Int) := by omega
          have hqs : q < sz := by omega
          have hqw : IntKind.i64.wrap ((P : Int) + (q : Int)) = ((P + q : Nat) : Int) := by rw [IntKind.wrap_i64]; omega
          have HST := Lib.hid (HTK.out k q hqs)
          rw [← HP.out] at HST
          have HTQ : Hid (((shardL b sz k).take q).length ≤ 200000) := Lib.hid (by rw [List.length_take]; omega)
          by_cases hin : P + q < m
          · have hin2 : ((P + q : Nat) : Int) < (m : Int) := by omega
            have hib : P + q < b.length := by have := HM.out; omega
            obtain ⟨bb, off, rfl, hbb, hc⟩ := HL.out.ev (by omega)
            have f1 : wr.cell? ⟨bb, off + (P + q), none⟩ = some (.int .u8 (ev (b[P + q]))) := ((HB0.out.trans (hBq.out.mono HB0.out.size)).cell (p := ⟨bb, off + (P + q), none⟩) hbb).trans (hc _ hib)
            rw [List.getD_eq_getElem?_getD, List.getElem?_eq_getElem hib, Option.getD_some] at HST
            generalize b[P + q] = z at f1 HST
            have HO1 := Lib.hid (hOq.out.below ((Below.refl wr.heap.size wr).alloc (Nat.le_refl _) (.cells #[.int .u8 (ev z)] 5)))
            have HB1 := Lib.hid (hBq.out.alloc hBq.out.size (.cells #[.int .u8 (ev z)] 5))
            have HLI := Lib.hid (Lie.one wr (ev z) z (ev_nat z))
            generalize hX : P + q = X at *
            clear hc hib hOq hX
            go_wp2_with (at_builtin; refine wpList_append_u rfl (.tmp 51) (.tmp 53) rfl W0.heap.size u9 _ rfl HO1.out _ 1 1 [z] (fun h => by cases h) HLI.out rfl rfl (by have := HTQ.out; omega) HB1.out.size ?_; intro v3 w3 ho3 hg3; rw [HST.out] at ho3; have HO3 := Lib.hid ho3; have HB3 : Hid (Below W0.heap.size W0 w3) := Lib.hid (below_app HB1.out HO1.out hg3); clear ho3 hg3)
            go_roundg gq0
            case rel => exact ⟨q + 1, by go_num, by omega, HO3, HB3⟩
            case measure => omega
          · have hin2 : ¬ ((P + q : Nat) : Int) < (m : Int) := by omega
            rw [List.getD_eq_getElem?_getD, List.getElem?_eq_none (by have := HM.out; omega), Option.getD_none] at HST
            have HO1 := Lib.hid (hOq.out.below ((Below.refl wr.heap.size wr).alloc (Nat.le_refl _) (.cells #[.int .u8 0] 5)))
            have HB1 := Lib.hid (hBq.out.alloc hBq.out.size (.cells #[.int .u8 0] 5))
            have HLI := Lib.hid (Lie.one wr 0 0 rfl)
            generalize hX : P + q = X at *
            clear hOq hX
            go_wp2_with (at_builtin; refine wpList_append_u rfl (.tmp 51) (.tmp 53) rfl W0.heap.size u9 _ rfl HO1.out _ 1 1 [0] (fun h => by cases h) HLI.out rfl rfl (by have := HTQ.out; omega) HB1.out.size ?_; intro v3 w3 ho3 hg3; rw [HST.out] at ho3; have HO3 := Lib.hid ho3; have HB3 : Hid (Below W0.heap.size W0 w3) := Lib.hid (below_app HB1.out HO1.out hg3); clear ho3 hg3)
            go_roundg gq0
            case rel => exact ⟨q + 1, by go_num, by omega, HO3, HB3⟩
            case measure => omega
end Go.Proofs.Ytinfjidclkgfnaa
