/-
  The rank, by the program.
-/
import Derived.Test.YtbkjocmldeagdaaHRed
import Derived.Test.YtbkjocmldeagdaaHOwn
import Derived.Test.YtbkjocmldeagdaaHValid
namespace Go.Proofs.Ytbkjocmldeagdaa
open Go.RowKit
open Classical in
/-- the rank of a valid matrix; 0 for others -/
noncomputable def rk (M : List (List UInt8)) : Nat := if ValidL M then rankF M.length (cols M) (ent M) else 0
theorem rk_yes {M : List (List UInt8)} (h : ValidL M) : rk M = rankF M.length (cols M) (ent M) := if_pos h
theorem rk_no {M : List (List UInt8)} (h : ¬ ValidL M) : rk M = 0 := if_neg h
theorem ValidL.short {M : List (List UInt8)} (h : ValidL M) : ∀ r ∈ M, r.length ≤ 1000 := fun r hr => by rw [h.row r hr]; have := h.cle; omega
theorem vld_cases (M : List (List UInt8)) : (vld M = true ∧ ValidL M) ∨ (vld M = false ∧ ¬ ValidL M) := by
  by_cases h : ValidL M
  · exact .inl ⟨vld_yes h, h⟩
  · exact .inr ⟨vld_no h, h⟩
def RankP (w : World) (ls : List (List UInt8)) (e : Ending) (w' : World) : Prop := e = .returned (.int .i64 (rk ls)) ∧ Below w.heap.size w w'
attribute [local irreducible] matL rowF
set_option maxRecDepth 100000 in
set_option maxHeartbeats 1000000 in
theorem rank_any (ad : Option Addr) (n cap : Nat) (ls : List (List UInt8)) (w : World) (hl : Lr w ad ls) (hn : n = ls.length) (hm : n ≤ maxLen) :
    Calls Try.prog 20 #[.slice ad n cap] w (RankP w ls) := by
  rcases vld_cases ls with ⟨hv, hV⟩ | ⟨hv, hV⟩
  · obtain ⟨C, hC⟩ : ∃ C, C = cols ls := ⟨_, rfl⟩
    have hp : 0 < ls.length := by have := hV.pos; omega
    obtain ⟨b, off, rfl, hbl, a0, c0, f0, -, g0, m0, -⟩ := hl.row 0 hp
    rw [hV.len 0 hp, ← hC, Nat.add_zero] at f0
    rw [hV.len 0 hp, ← hC] at g0
    have hC1 := hV.cpos
    have hC2 := hV.cle
    rw [← hC] at hC1 hC2
    have hn64 : n ≤ 64 := by have := hV.le; omega
    have hn0 : (0 : Int) < (n : Int) := by omega
    have hn1 : 0 < n := by omega
    have HL := Lib.hid hl
    have HN := Lib.hid hn
    have HV := Lib.hid hV
    have HC := Lib.hid hC
    have HM := Lib.hid hm
    have HF : Hid (∀ w2, Below w.heap.size w w2 → w2.cell? ⟨b, off, none⟩ = some (.slice a0 C c0)) := Lib.hid fun w2 hb => (hb.cell (p := ⟨b, off, none⟩) hbl).trans f0
    unfold maxLen at m0 hm
    clear hV hC hp hl hn
    go_enter Try.func20, Try.ntmps20
    go_wp2_with fail
    refine (valid_any _ n cap ls w HL.out HN.out HM.out).mono ?_
    rintro e w' ⟨rfl, rfl⟩
    rw [hv]
    go_wp2_with fail
    go_region_with (first
      | (go_at_call 31; refine (copied_any _ n cap ls _ (HL.out.drewN 1) HN.out (by omega) HV.out.short).mono ?_; rintro e w2 ⟨g, rfl, hx, hb⟩; have hb2 : Below w.heap.size w w2 := (Below.refl _ _).drew.trans hb; have f2 := HF.out w2 hb2; have HX := Lib.hid hx.out; have HB := Lib.hid hb2; clear hx hb hb2)
      | (go_at_call 32; refine (reduce_any w.heap.size _ _ n C C (ent ls) _ (by have h := HX.out; rw [← HV.out.self, ← HN.out, ← HC.out] at h; exact h) (by omega) (by omega) (Nat.le_refl _)).mono ?_; rintro e w3 ⟨R, M, p, rfl, hR, hO, hB⟩; have HR := Lib.hid (hR.rank (Nat.le_refl _)); have HB3 := Lib.hid (HB.out.trans hB); clear hR hO hB))
    all_goals (go_wp2; go_ret)
    all_goals exact ⟨by rw [rk_yes HV.out, ← HN.out, ← HC.out, HR.out]; rfl, HB3.out⟩
  · have HV := Lib.hid (rk_no hV)
    have HL := Lib.hid hl
    have HN := Lib.hid hn
    have HM := Lib.hid hm
    clear hl hn hm
    go_enter Try.func20, Try.ntmps20
    go_wp2_with fail
    refine (valid_any _ n cap ls w HL.out HN.out HM.out).mono ?_
    rintro e w' ⟨rfl, rfl⟩
    rw [hv]
    go_wp2
    go_ret
    exact ⟨by rw [HV.out]; rfl, Below.refl _ _⟩
end Go.Proofs.Ytbkjocmldeagdaa
