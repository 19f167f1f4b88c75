/-
  The rank, by the specification.
-/
import Derived.Test.YtbkjocmldeagdaaRRed5
import Derived.Test.YtbkjocmldeagdaaHRank
namespace Go.Proofs.Ytbkjocmldeagdaa
open Go.RowKit
theorem rank_pad (r C : Nat) (M : Nat → Nat → UInt8) : rankF r C (padF C M) = rankF r C M :=
  rank_eq (Inside.row fun i hi => ⟨i, hi, fun _ hj => if_pos hj⟩) (Inside.row fun i hi => ⟨i, hi, fun _ hj => (if_pos hj).symm⟩)
theorem rcopied_zero (ad : Option Addr) (n cap C : Nat) (xs : List (List UInt8)) (w : World) (hl : Lr w ad xs) (hn : n = xs.length) (hV : ValidL xs) (hC : C = cols xs) :
    Calls Try.prog 33 #[.slice ad n cap, .int .i64 0] w (RCopP w n C (padF C (ent xs))) := rcopied_any ad n cap 0 C xs w hl hn hV hC (by omega)
attribute [local irreducible] matL rowF padF
set_option maxRecDepth 100000 in
set_option maxHeartbeats 1000000 in
theorem rrank_any (ad : Option Addr) (n cap : Nat) (ls : List (List UInt8)) (w : World) (hl : Lr w ad ls) (hn : n = ls.length) (hm : n ≤ maxLen) :
    Calls Try.prog 21 #[.slice ad n cap] w (RankP w ls) := by
  rcases vld_cases ls with ⟨hv, hV⟩ | ⟨hv, hV⟩
  · obtain ⟨C, hC⟩ : ∃ C, C = cols ls := ⟨_, rfl⟩
    have hp : 0 < ls.length := by have := hV.pos; omega
    obtain ⟨b, off, rfl, hbl, a0, c0, f0, -, g0, m0, -⟩ := hl.row 0 hp
    rw [hV.len 0 hp, ← hC, Nat.add_zero] at f0
    rw [hV.len 0 hp, ← hC] at g0
    have hC1 := hV.cpos
    have hC2 := hV.cle
    rw [← hC] at hC1 hC2
    have hn64 : n ≤ 64 := by have := hV.le; omega
    have hn0 : (0 : Int) < (n : Int) := by omega
    have hn1 : 0 < n := by omega
    have HL := Lib.hid hl
    have HN := Lib.hid hn
    have HV := Lib.hid hV
    have HC := Lib.hid hC
    have HM := Lib.hid hm
    have HF : Hid (∀ w2, Below w.heap.size w w2 → w2.cell? ⟨b, off, none⟩ = some (.slice a0 C c0)) := Lib.hid fun w2 hb => (hb.cell (p := ⟨b, off, none⟩) hbl).trans f0
    unfold maxLen at m0 hm
    clear hV hC hp hl hn f0
    go_enter Try.func21, Try.ntmps21
    go_wp2_with fail
    refine (rvalid_b _ n cap ls w HL.out HN.out HM.out).mono ?_
    rintro e w1 ⟨rfl, hb1⟩
    have HB1 := Lib.hid hb1
    have f1 := HF.out w1 hb1
    clear hb1
    rw [hv]
    go_wp2_with fail
    go_region_with (first
      | (go_at_call 33; refine (rcopied_zero _ n cap C ls _ (HL.out.below HB1.out.drew) HN.out HV.out HC.out).mono ?_; rintro e w2 ⟨v, rfl, hx, hb⟩; have hb2 : Below w1.heap.size w1 w2 := (Below.refl _ _).drew.trans hb; have HB2 := Lib.hid (HB1.out.trans (hb2.mono HB1.out.size)); have f2 := HF.out w2 HB2.out; obtain ⟨g, vc, gs, cps, rfl, -, -, hOM⟩ := hx.open_ hn1; have HX := Lib.hid hOM; clear hx hb hb2 hOM)
      | (go_at_call 34; refine (rreduce_any _ g n C C vc gs cps (padF C (ent ls)) _ HX.out (by omega) (by omega) (Nat.le_refl _)).mono ?_; rintro e w3 ⟨R, M, p, gs2, cps2, rfl, hR, hO, hB⟩; have HR := Lib.hid (hR.rank (Nat.le_refl _)); have HB3 := Lib.hid (HB2.out.trans (hB.mono HB1.out.size)); clear hR hO hB))
    all_goals (go_wp2; go_ret)
    all_goals exact ⟨by rw [rk_yes HV.out, ← HN.out, ← HC.out, ← rank_pad, HR.out]; rfl, HB3.out⟩
  · have HV := Lib.hid (rk_no hV)
    have HL := Lib.hid hl
    have HN := Lib.hid hn
    have HM := Lib.hid hm
    clear hl hn hm
    go_enter Try.func21, Try.ntmps21
    go_wp2_with fail
    refine (rvalid_b _ n cap ls w HL.out HN.out HM.out).mono ?_
    rintro e w' ⟨rfl, hb⟩
    rw [hv]
    go_wp2
    go_ret
    exact ⟨by rw [HV.out]; rfl, hb⟩
end Go.Proofs.Ytbkjocmldeagdaa
