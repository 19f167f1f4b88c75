/-
  What begins at an offset: the program's function where a whole frame fits.
-/
import Derived.Test.YtjmlidejbddoeaaDoorLL
namespace Go.Proofs.YtjmlidejbddoeaaDoor
open Go.RowKit
set_option linter.unusedVariables false

theorem tup2 {a b c d : Int} (h : a = c) (h' : b = d) : Ending.returned (.tuple #[.int .i64 a, .int .i64 b]) = .returned (.tuple #[.int .i64 c, .int .i64 d]) := by rw [h, h']
/-- What check answers where a whole frame fits. -/
def ChkQ (w : World) (a N x y : Nat) (en : Ending) (w' : World) : Prop := ChkP w (if x = y then (a : Int) + N + 10 else 0) (if x = y then 0 else 4) en w'
theorem chkQ_yes {w w' : World} {a N x y : Nat} {A : Int} (h : x = y) (hA : A = (a : Int) + N + 10) (hb : Below w.heap.size w w') : ChkQ w a N x y (.returned (.tuple #[.int .i64 A, .int .i64 0])) w' := by
  unfold ChkQ
  rw [if_pos h, if_pos h, hA]
  exact ⟨rfl, hb⟩
theorem chkQ_no {w w' : World} {a N x y : Nat} (h : x ≠ y) (hb : Below w.heap.size w w') : ChkQ w a N x y (.returned (.tuple #[.int .i64 0, .int .i64 4])) w' := by
  unfold ChkQ
  rw [if_neg h, if_neg h]
  exact ⟨rfl, hb⟩
set_option maxRecDepth 100000 in
set_option maxHeartbeats 1000000 in
theorem chk_sum (b off n cap a N : Nat) (r : List UInt8) (w : World) (hm : Mag w) (h10 : a + 10 ≤ n) (hnc : n ≤ cap) (hcm : cap ≤ maxLen) (hn : n ≤ 10000000)
   (hc0 : w.cell? ⟨b, off + a, none⟩ = some (.int .u8 167)) (hc1 : w.cell? ⟨b, off + a + 1, none⟩ = some (.int .u8 60)) (hl : Lie w (some ⟨b, off + a + 2, none⟩) r) (hr : r.length = 4) (hN : num4 r = N) (hbig : N ≤ 65536) (hfit : a + N + 10 ≤ n)
   (s6 : List UInt8) (h6 : Lie w (some ⟨b, off + a + 6, none⟩) s6) (l6 : s6.length = n - a - 6) (s10 : List UInt8) (h10' : Lie w (some ⟨b, off + a + 10, none⟩) s10) (l10 : s10.length = N) (x y : Nat) (hx : num4 s6 = x) (hy : crc (r ++ s10) = y) :
    Calls Tryd.prog 57 #[.slice (some ⟨b, off, none⟩) n cap, .int .i64 a] w (ChkQ w a N x y) := by
  have HX := Lib.hid hx
  have HY := Lib.hid hy
  have L6 := Lib.hid l6
  have L10 := Lib.hid l10
  clear hx hy l6 l10
  have hA := fun W : World => arrMag W (some ⟨b, off + a, none⟩) (n - a) (cap - a) (by omega)
  have hL1 : ∀ nq, _ := fun nq => loadMag (w.drewN nq) b (off + a) 167 60 hc0 hc1
  have hg0 := hm.c0
  have hg1 := hm.c1
  have hQ := fun W : World => neqMag 167 60 167 60 W
  have hNl := num4_lt r
  rw [hN] at hNl
  have HN := Lib.hid hN
  have HR := Lib.hid hr
  clear hN hr
  unfold maxLen at hcm
  have h3 : 10 ≤ n - a := by omega
  have h4 : ¬ n < a := by omega
  go_enter Tryd.func57, Tryd.ntmps57
  go_wp2_with fail
  go_quiet (fail)
  go_wp2_with fail
  refine (num_any _ _ _ r _ (hl.drewN _) HR.out.symm (by rw [HR.out]; decide) (by rw [HR.out]; decide)).mono ?_
  rintro e w' ⟨rfl, k, rfl⟩
  rw [HN.out]
  have hlen : lenF (N : Int) = (N : Int) + 10 := by unfold lenF; rw [if_neg (by omega)]
  have HL := Lib.hid hlen
  clear hlen
  go_wp2_with fail
  refine (len_any (N : Int) _ (by omega) (by omega)).mono ?_
  rintro e w' ⟨rfl, rfl⟩
  rw [HL.out]
  have h5 : ¬ n - a < N + 10 := by omega
  go_wp2_with fail
  by_cases hca : cap - a = 10
  · have hN0 : N = 0 := by omega
    have H0 : ∀ ad W, Lie W ad s10 := fun ad W => by
      have : s10 = [] := List.eq_nil_of_length_eq_zero (by rw [L10.out]; exact hN0)
      rw [this]; exact .nil _ _
    go_region_with (first
      | (go_at_call 75; refine (num_any _ _ _ s6 _ (by first | exact h6.drewN _ | exact (h6.drewN _).below HB rfl) L6.out.symm (by rw [L6.out]; omega) (by rw [L6.out]; omega)).mono ?_; rintro e w' ⟨rfl, k2, rfl⟩; rw [HX.out])
      | (go_at_call 44; refine (fsum_any _ _ _ _ _ _ r s10 _ (by exact hl.drewN _) (H0 _ _) HR.out.symm (by have := L10.out; omega) (by rw [HR.out]; decide) (by rw [L10.out]; omega)).mono ?_; rintro e w' ⟨rfl, HB⟩; rw [HY.out]))
    all_goals
      by_cases hxy : x = y
      · have hd1 : ((x : Int) != (y : Int)) = false := by rw [bne_eq_false_iff_eq]; omega
        go_wp2
        go_ret2
        refine chkQ_yes hxy (by omega) ?_
        first | exact (below_drewN (.refl _ _) _).trans (HB.mono (Nat.le_refl _)) | exact below_drewN ((below_drewN (.refl _ _) _).trans (HB.mono (Nat.le_refl _))) _
      · have hd1 : ((x : Int) != (y : Int)) = true := by rw [bne_iff_ne]; omega
        go_wp2
        go_ret2
        refine chkQ_no hxy ?_
        first | exact (below_drewN (.refl _ _) _).trans (HB.mono (Nat.le_refl _)) | exact below_drewN ((below_drewN (.refl _ _) _).trans (HB.mono (Nat.le_refl _))) _
  · go_region_with (first
      | (go_at_call 75; refine (num_any _ _ _ s6 _ (by first | exact h6.drewN _ | exact (h6.drewN _).below HB rfl) L6.out.symm (by rw [L6.out]; omega) (by rw [L6.out]; omega)).mono ?_; rintro e w' ⟨rfl, k2, rfl⟩; rw [HX.out])
      | (go_at_call 44; refine (fsum_any _ _ _ _ _ _ r s10 _ (by exact hl.drewN _) (by exact h10'.drewN _) HR.out.symm (by have := L10.out; omega) (by rw [HR.out]; decide) (by rw [L10.out]; omega)).mono ?_; rintro e w' ⟨rfl, HB⟩; rw [HY.out]))
    all_goals
      by_cases hxy : x = y
      · have hd1 : ((x : Int) != (y : Int)) = false := by rw [bne_eq_false_iff_eq]; omega
        go_wp2
        go_ret2
        refine chkQ_yes hxy (by omega) ?_
        first | exact (below_drewN (.refl _ _) _).trans (HB.mono (Nat.le_refl _)) | exact below_drewN ((below_drewN (.refl _ _) _).trans (HB.mono (Nat.le_refl _))) _
      · have hd1 : ((x : Int) != (y : Int)) = true := by rw [bne_iff_ne]; omega
        go_wp2
        go_ret2
        refine chkQ_no hxy ?_
        first | exact (below_drewN (.refl _ _) _).trans (HB.mono (Nat.le_refl _)) | exact below_drewN ((below_drewN (.refl _ _) _).trans (HB.mono (Nat.le_refl _))) _
end Go.Proofs.YtjmlidejbddoeaaDoor
