/-
  The elimination of the specification: what it leaves is in the reduced form.
-/
import Derived.Test.YtinfjidclkgfnaaRCop5
import Derived.Test.YtinfjidclkgfnaaKIso
import Derived.Test.YtinfjidclkgfnaaQRef
import Derived.StillTailTactics
namespace Go.Proofs.Ytinfjidclkgfnaa
open Go.RowKit
/-- the first k elements of row i are those of N, all else is A -/
def partM (A N : Nat → Nat → UInt8) (i k i' q : Nat) : UInt8 := if i' = i ∧ q < k then N i' q else A i' q
theorem partM_zero (A N : Nat → Nat → UInt8) (i : Nat) : partM A N i 0 = A := by
  funext i' q
  unfold partM
  rw [if_neg (fun h => absurd h.2 (Nat.not_lt_zero _))]
theorem partM_next (A N : Nat → Nat → UInt8) (i k : Nat) : updE (partM A N i k) i k (N i k) = partM A N i (k + 1) := by
  funext i' q
  unfold updE partM
  by_cases e : i' = i ∧ q = k
  · obtain ⟨rfl, rfl⟩ := e
    rw [if_pos ⟨rfl, rfl⟩, if_pos ⟨rfl, Nat.lt_succ_self _⟩]
  · rw [if_neg e]
    by_cases h : i' = i ∧ q < k
    · rw [if_pos h, if_pos ⟨h.1, by omega⟩]
    · rw [if_neg h, if_neg (fun h' => h ⟨h'.1, by have := h'.2; have : q ≠ k := fun e' => e ⟨h'.1, e'⟩; omega⟩)]
theorem partM_here (A N : Nat → Nat → UInt8) (i k : Nat) : partM A N i k i k = A i k := if_neg (fun h => absurd h.2 (Nat.lt_irrefl _))
theorem partM_row (A N : Nat → Nat → UInt8) (i k i' q : Nat) (h : i' ≠ i) : partM A N i k i' q = A i' q := if_neg (fun h' => h h'.1)
theorem partM_end (A N : Nat → Nat → UInt8) (i L i' q : Nat) (hq : q < L) (h : ∀ i', i' ≠ i → N i' q = A i' q) : N i' q = partM A N i L i' q := by
  unfold partM
  by_cases e : i' = i
  · rw [if_pos ⟨e, hq⟩]
  · rw [if_neg (fun h' => e h'.1), h i' e]
theorem divR_other (R c : Nat) (M : Nat → Nat → UInt8) (i q : Nat) (h : i ≠ R) : divR R c M i q = M i q := if_neg h
theorem divR_here (R c : Nat) (M : Nat → Nat → UInt8) (q : Nat) : mulU (M R q) (invU (M R c)) = divR R c M R q := (if_pos rfl).symm
theorem isoN_other (R c n : Nat) (M : Nat → Nat → UInt8) (i q : Nat) (h : i ≠ n) : isoN R c (n + 1) M i q = isoN R c n M i q := by
  unfold isoN
  by_cases e : i = R
  · rw [if_pos e, if_pos e]
  · rw [if_neg e, if_neg e]
    by_cases h2 : i < n
    · rw [if_pos h2, if_pos (by omega)]
    · rw [if_neg h2, if_neg (by omega)]
theorem isoN_zero_row (R c n : Nat) (M : Nat → Nat → UInt8) (h : isoN R c n M n c = 0) (hne : n ≠ R) : isoN R c (n + 1) M = isoN R c n M := by
  funext i q
  by_cases e : i = n
  · subst e
    unfold isoN at h ⊢
    rw [if_neg hne, if_neg (Nat.lt_irrefl _)] at h
    rw [if_neg hne, if_neg hne, if_pos (Nat.lt_succ_self _), if_neg (Nat.lt_irrefl _), h, zero_mulU, UInt8.xor_zero]
  · exact isoN_other R c n M i q e
theorem isoN_step (R c n q : Nat) (M : Nat → Nat → UInt8) (hne : n ≠ R) : isoN R c n M n q ^^^ mulU (isoN R c n M n c) (isoN R c n M R q) = isoN R c (n + 1) M n q := by
  unfold isoN
  rw [if_neg hne, if_neg (Nat.lt_irrefl _), if_neg hne, if_neg (Nat.lt_irrefl _), if_pos rfl, if_neg hne, if_pos (Nat.lt_succ_self _)]
theorem iso_pivoted_at (r a k c : Nat) (M : Nat → Nat → UInt8) (i q : Nat) (hi : i < r) : pivoted k a c M i q = isoN k c r (fun i => M (sw a k i)) i q := by
  unfold isoN pivoted
  show _ = (if i = k then mulU (M (sw a k k) q) (invU (M (sw a k k) c)) else if i < r then M (sw a k i) q ^^^ mulU (M (sw a k i) c) (mulU (M (sw a k k) q) (invU (M (sw a k k) c))) else M (sw a k i) q)
  rw [sw_first]
  by_cases e : i = k
  · rw [if_pos e, if_pos e]
  · rw [if_neg e, if_neg e, if_pos hi]

theorem cell_after (w : World) (g a R : Nat) (v u u2 : Value) (h : w.cell? ⟨g, R, none⟩ = some u) (h2 : w.cell? ⟨g, a, none⟩ = some u2) : ∃ u', (w.setCell ⟨g, a, none⟩ v).cell? ⟨g, R, none⟩ = some u' := by
  by_cases e : a = R
  · subst e
    exact ⟨v, World.cell?_setCell_same' _ _ _ (by rw [h2]; rfl)⟩
  · exact ⟨u, by rw [World.cell?_setCell_other _ _ _ _ (by intro e'; cases e'; exact e rfl)]; exact h⟩
/-- what it leaves -/
def RRedP (w : World) (B g r L C : Nat) (M0 : Nat → Nat → UInt8) (e : Ending) (w' : World) : Prop :=
  ∃ (R : Nat) (M : Nat → Nat → UInt8) (p gs cps : Nat → Nat), e = .returned (.int .i64 R) ∧ Reduced r L M0 M C R p ∧ OM w' B g gs cps r L M ∧ Below B w w'
/-- the loops' state -/
def St (w wx : World) (B g r L : Nat) (M0 : Nat → Nat → UInt8) (j R : Nat) : Prop := ∃ (M : Nat → Nat → UInt8) (p gs cps : Nat → Nat), Reduced r L M0 M j R p ∧ OM wx B g gs cps r L M ∧ Below B w wx
attribute [local irreducible] matL rowF padF partM isoN divR pivoted sw mulU invU
set_option maxRecDepth 100000 in
set_option maxHeartbeats 2000000 in
theorem rreduce_any (B g r L C vc : Nat) (gs0 cps0 : Nat → Nat) (M0 : Nat → Nat → UInt8) (w : World) (hO : OM w B g gs0 cps0 r L M0) (hr : r ≤ 1000) (hL : L ≤ 1000) (hC : C ≤ L) :
    Calls Try.prog 60 #[.slice (some ⟨g, 0, none⟩) r vc, .int .i64 C] w (RRedP w B g r L C M0) := by
  have HS0 : Hid (St w w B g r L M0 0 0) := Lib.hid ⟨M0, id, gs0, cps0, Reduced.start r L M0, hO, .refl _ _⟩
  clear hO
  go_enter Try.func60, Try.ntmps60
  go_wp2_with fail
  go_loopg [5, 6] C (fun gk vr vj wx => ∃ R j : Nat, vr = .int .i64 R ∧ vj = .int .i64 j ∧ j + gk = C ∧ R ≤ r ∧ Hid (St w wx B g r L M0 j R))
  case atStart => exact ⟨0, 0, rfl, rfl, by omega, by omega, HS0⟩
  case round =>
    obtain ⟨R, j, rfl, rfl, hj, hR, HS⟩ := hrel
    cases gk with
    | zero =>
      have hlt : ¬ (j : Int) < (C : Int) := by omega
      obtain rfl : j = C := by omega
      go_wp2
      go_ret
      obtain ⟨M, p, gs, cps, h1, h2, h3⟩ := HS.out
      exact ⟨R, M, p, gs, cps, rfl, h1, h2, h3⟩
    | succ gk0 =>
      have hlt : (j : Int) < (C : Int) := by omega
      have hjL : (j : Int) < (L : Int) := by omega
      by_cases hRr : R < r
      rotate_left
      · have hRr2 : ¬ (R : Int) < (r : Int) := by omega
        obtain rfl : R = r := by omega
        go_wp2
        go_ret
        obtain ⟨M, p, gs, cps, h1, h2, h3⟩ := HS.out
        exact ⟨R, M, p, gs, cps, rfl, h1.full_any rfl C (by omega), h2, h3⟩
      have hRr2 : (R : Int) < (r : Int) := by omega
      obtain ⟨M, p, gs, cps, hRed, hOM, hB⟩ := HS.out
      have HRed := Lib.hid hRed
      have HOM := Lib.hid hOM
      have HB := Lib.hid hB
      clear hRed hOM hB HS
      go_wp2_with fail
      go_loopg [7] (r - R) (fun ga va wx => ∃ a : Nat, va = .int .i64 a ∧ a + ga = r ∧ R ≤ a ∧ Hid (∀ i, R ≤ i → i < a → M i j = 0) ∧ Hid (OM wx B g gs cps r L M) ∧ Hid (Below B w wx))
      case atStart => exact ⟨R, rfl, by omega, by omega, Lib.hid fun i h1 h2 => by omega, HOM, HB⟩
      case round =>
        obtain ⟨a, rfl, ha, haR, HZ, HO, HB2⟩ := hrel
        clear HOM HB
        by_cases har : a < r
        · have har2 : (a : Int) < (r : Int) := by omega
          have f1 := (HO.out.rowCell a har).1
          have f2 := (HO.out.cell a j har (by omega)).1
          by_cases hm : M a j = 0
          · have HZ2 : Hid (∀ i, R ≤ i → i < a + 1 → M i j = 0) := Lib.hid fun i h1 h2 => by
              rcases Nat.lt_or_ge i a with h' | h'
              · exact HZ.out i h1 h'
              · obtain rfl : i = a := by omega
                exact hm
            rw [hm, ev_zero] at f2
            clear hm
            go_wp2
            go_roundg (gk - 1)
            case rel => exact ⟨a + 1, by go_num, by omega, by omega, HZ2, HO, HB2⟩
            case measure => omega
          · have hne : ev (M a j) ≠ 0 := fun h => hm ((ev_eq0 _).1 h)
            have hja : ¬ (a : Int) = (r : Int) := by omega
            have f3 := (HO.out.rowCell R hRr).1
            have hz1 := (HO.out.rowCell a har).2
            have hz2 := (HO.out.rowCell R hRr).2
            obtain ⟨u5, hu5⟩ := cell_after wr g a R (.slice (some ⟨gs R, 0, none⟩) L (cps R)) _ _ f3 f1
            have hsw := HO.out.swap a R har hRr
            have hB3 := (HB2.out.setCell (p := ⟨g, a, none⟩) HO.out.base (.slice (some ⟨gs R, 0, none⟩) L (cps R))).setCell (p := ⟨g, R, none⟩) HO.out.base (.slice (some ⟨gs a, 0, none⟩) L (cps a))
            have f5 := (hsw.cell R j hRr (by omega)).1
            have HG0 := Lib.hid (sw_first a R)
            have HF : Hid (Reduced r L M0 (pivoted R a j M) (j + 1) (R + 1) (fun t => if t = R then j else p t)) := Lib.hid (HRed.out.some (by omega) haR har hm)
            obtain ⟨M2, hM2⟩ : ∃ M2 : Nat → Nat → UInt8, M2 = fun i => M (sw a R i) := ⟨_, rfl⟩
            obtain ⟨gs2, hgs2⟩ : ∃ gs2 : Nat → Nat, gs2 = fun i => gs (sw a R i) := ⟨_, rfl⟩
            obtain ⟨cps2, hcps2⟩ : ∃ cps2 : Nat → Nat, cps2 = fun i => cps (sw a R i) := ⟨_, rfl⟩
            have HM2 : Hid (∀ i, i < r → ∀ q, q < L → pivoted R a j M i q = isoN R j r M2 i q) := Lib.hid fun i hi q _ => by rw [hM2]; exact iso_pivoted_at r a R j M i q hi
            have HG : Hid (gs2 R = gs a) := Lib.hid (by rw [hgs2]; show gs (sw a R R) = gs a; rw [HG0.out])
            have HM2a : Hid (M a j = M2 R j) := Lib.hid (by rw [hM2]; show M a j = M (sw a R R) j; rw [HG0.out])
            rw [← hM2, ← hgs2, ← hcps2] at hsw
            rw [HG0.out] at f5
            have HSW := Lib.hid hsw
            have HB3 := Lib.hid hB3
            clear hsw hB3 hM2 hgs2 hcps2 hm HZ HRed HG0
            go_wp2_with fail
            refine (rinv_any _ _).mono ?_
            rintro e w' ⟨rfl, rfl⟩
            clear f1 f2 f3 f5 hz1 hz2 hu5 hne
            rw [HM2a.out]
            generalize World.setCell (World.setCell wr _ _) _ _ = W2 at HSW HB3 ⊢
            clear HO HB2 HM2a
            generalize gs a = X at HG ⊢
            generalize cps a = cX
            go_wp2_with fail
            go_loopg [10] L (fun gq vq wx => ∃ q : Nat, vq = .int .i64 q ∧ q + gq = L ∧ Hid (OM wx B g gs2 cps2 r L (partM M2 (divR R j M2) R q)) ∧ Hid (Below B w wx))
            case atStart => exact ⟨0, rfl, by omega, by rw [partM_zero]; exact HSW, HB3⟩
            case round =>
              obtain ⟨q, rfl, hq, HO3, HB4⟩ := hrel
              clear HSW HB3
              cases gk with
              | succ gq0 =>
                have hqL : (q : Int) < (L : Int) := by omega
                have f1 := (HO3.out.cell R q hRr (by omega)).1
                have hz := (HO3.out.cell R q hRr (by omega)).2
                rw [HG.out, partM_here] at f1
                rw [HG.out] at hz
                have HD := Lib.hid (divR_here R j M2 q)
                have HX : Hid (OM (wr.setCell ⟨X, q, none⟩ (.int .u8 (ev (divR R j M2 R q)))) B g gs2 cps2 r L (partM M2 (divR R j M2) R (q + 1))) := Lib.hid (by
                  have h := HO3.out.setE R q hRr (by omega) (divR R j M2 R q)
                  rw [partM_next, HG.out] at h
                  exact h)
                have HBX : Hid (Below B w (wr.setCell ⟨X, q, none⟩ (.int .u8 (ev (divR R j M2 R q))))) := Lib.hid (HB4.out.setCell (p := ⟨X, q, none⟩) (by rw [← HG.out]; exact (HO3.out.rows R hRr).1) _)
                go_wp2_with fail
                refine (rmul_any _ _ _).mono ?_
                rintro e w' ⟨rfl, rfl⟩
                rw [HD.out]
                go_wp2
                go_roundg gq0
                case rel => exact ⟨q + 1, by go_num, by omega, HX, HBX⟩
                case measure => omega
              | zero =>
                have hqL : ¬ (q : Int) < (L : Int) := by omega
                obtain rfl : q = L := by omega
                have HI0 : Hid (OM wr B g gs2 cps2 r q (isoN R j 0 M2)) := Lib.hid (by
                  rw [isoN_zero]
                  exact HO3.out.congr fun i _ k hk => partM_end M2 (divR R j M2) R q i k hk fun i' hi' => divR_other R j M2 i' k hi')
                clear HO3
                go_wp2_with fail
                go_loopg [11] r (fun gi vi wx => ∃ i : Nat, vi = .int .i64 i ∧ i + gi = r ∧ Hid (OM wx B g gs2 cps2 r q (isoN R j i M2)) ∧ Hid (Below B w wx))
                case atStart => exact ⟨0, rfl, by omega, HI0, HB4⟩
                case round =>
                  obtain ⟨i, rfl, hi, HO4, HB5⟩ := hrel
                  clear HI0 HB4
                  cases gk with
                  | zero =>
                    have hir : ¬ (i : Int) < (r : Int) := by omega
                    obtain rfl : i = r := by omega
                    have HST : Hid (St w wr B g i q M0 (j + 1) (R + 1)) := Lib.hid ⟨_, _, gs2, cps2, HF.out, HO4.out.congr HM2.out, HB5.out⟩
                    go_wp2
                    go_roundg gk0
                    case rel => exact ⟨R + 1, j + 1, by go_num, by go_num, by omega, by omega, HST⟩
                    case measure => omega
                  | succ gi0 =>
                    have hir : (i : Int) < (r : Int) := by omega
                    have f1 := (HO4.out.rowCell i (by omega)).1
                    have f2 := (HO4.out.cell i j (by omega) (by omega)).1
                    by_cases hiR : i = R
                    · subst hiR
                      have HS := Lib.hid (isoN_skip i j M2)
                      have HO5 : Hid (OM wr B g gs2 cps2 r q (isoN i j (i + 1) M2)) := Lib.hid (by rw [HS.out]; exact HO4.out)
                      generalize ev (isoN i j i M2 i j) = y at f2
                      clear HO4
                      go_wp2
                      go_roundg gi0
                      case rel => exact ⟨i + 1, by go_num, by omega, HO5, HB5⟩
                      case measure => omega
                    · have hiR2 : ¬ (i : Int) = (R : Int) := by omega
                      have hib : ((i : Int) == (R : Int)) = false := by rw [beq_eq_false_iff_ne]; exact hiR2
                      by_cases hf0 : isoN R j i M2 i j = 0
                      · have HO5 : Hid (OM wr B g gs2 cps2 r q (isoN R j (i + 1) M2)) := Lib.hid (by rw [isoN_zero_row R j i M2 hf0 hiR]; exact HO4.out)
                        rw [hf0, ev_zero] at f2
                        clear hf0 HO4
                        go_wp2
                        go_roundg gi0
                        case rel => exact ⟨i + 1, by go_num, by omega, HO5, HB5⟩
                        case measure => omega
                      · have hfe : ev (isoN R j i M2 i j) ≠ 0 := fun h => hf0 ((ev_eq0 _).1 h)
                        obtain ⟨y, hy⟩ : ∃ y, isoN R j i M2 i j = y := ⟨_, rfl⟩
                        have HY := Lib.hid hy
                        rw [hy] at f2 hfe
                        have hfb : (ev y == 0) = false := by simpa using hfe
                        clear hf0 hy
                        go_wp2_with fail
                        go_loopg [13] q (fun gz vz wx => ∃ z : Nat, vz = .int .i64 z ∧ z + gz = q ∧ Hid (OM wx B g gs2 cps2 r q (partM (isoN R j i M2) (isoN R j (i + 1) M2) i z)) ∧ Hid (Below B w wx))
                        case atStart => exact ⟨0, rfl, by omega, by rw [partM_zero]; exact HO4, HB5⟩
                        case round =>
                          obtain ⟨z, rfl, hzq, HO5, HB6⟩ := hrel
                          clear HO4 HB5 f1 f2 hfe hfb
                          cases gk with
                          | zero =>
                            have hzq2 : ¬ (z : Int) < (q : Int) := by omega
                            obtain rfl : z = q := by omega
                            have HO6 : Hid (OM wr B g gs2 cps2 r z (isoN R j (i + 1) M2)) := Lib.hid (HO5.out.congr fun i' _ k hk => partM_end (isoN R j i M2) (isoN R j (i + 1) M2) i z i' k hk fun i2 hi2 => isoN_other R j i M2 i2 k hi2)
                            clear HO5
                            go_wp2
                            go_roundg gi0
                            case rel => exact ⟨i + 1, by go_num, by omega, HO6, HB6⟩
                            case measure => omega
                          | succ gz0 =>
                            have hzq2 : (z : Int) < (q : Int) := by omega
                            have f1 : wr.drew.cell? ⟨g, i, none⟩ = _ := (HO5.out.rowCell i (by omega)).1
                            have f2 : wr.drew.cell? ⟨gs2 i, z, none⟩ = _ := (HO5.out.cell i z (by omega) (by omega)).1
                            have hfz : wr.drew.frozen? ⟨gs2 i, z, none⟩ = false := (HO5.out.cell i z (by omega) (by omega)).2
                            have f3 : wr.drew.cell? ⟨gs2 R, z, none⟩ = _ := (HO5.out.cell R z hRr (by omega)).1
                            rw [partM_here] at f2
                            rw [HG.out, partM_row _ _ _ _ _ _ (fun e => hiR e.symm)] at f3
                            have HXE : Hid (_ = _) := Lib.hid (isoN_step R j i z M2 hiR)
                            rw [HY.out] at HXE
                            have HX : Hid (∀ x, x = isoN R j (i + 1) M2 i z → OM ((wr.drew).setCell ⟨gs2 i, z, none⟩ (.int .u8 (ev x))) B g gs2 cps2 r q (partM (isoN R j i M2) (isoN R j (i + 1) M2) i (z + 1)) ∧ Below B w ((wr.drew).setCell ⟨gs2 i, z, none⟩ (.int .u8 (ev x)))) := Lib.hid fun x e => by
                              subst e
                              have h := HO5.out.drew.setE i z (by omega) (by omega) (isoN R j (i + 1) M2 i z)
                              rw [partM_next] at h
                              exact ⟨h, HB6.out.drew.setCell (p := ⟨gs2 i, z, none⟩) (HO5.out.rows i (by omega)).1 _⟩
                            generalize isoN R j i M2 i z = x1 at f2 HXE
                            generalize isoN R j i M2 R z = x2 at f3 HXE
                            have hxor := bits_xor_ev x1 (mulU y x2)
                            go_wp2_with fail
                            refine wp_region_still_tail 20 (by kernel_rfl) (by kernel_rfl) ?_
                            simp only [List.take_succ_cons, List.take_zero, List.drop_succ_cons, List.drop_zero]
                            change wpStill _ _ wr.drew (fun a' => wpList _ _ _ _ a' wr.drew) _ _
                            generalize wr.drew = w3 at f1 f2 f3 hfz HX ⊢
                            repeat still_step
                            still_call (calls_left (rmul_any _ _ _))
                            repeat still_step
                            refine wpStill_nil ?_
                            go_wp2
                            go_roundg gz0
                            case rel => exact ⟨z + 1, by go_num, by omega, Lib.hid (HX.out _ HXE.out).1, Lib.hid (HX.out _ HXE.out).2⟩
                            case measure => omega
        · have har2 : ¬ (a : Int) < (r : Int) := by omega
          obtain rfl : a = r := by omega
          have HS2 : Hid (St w wr B g a L M0 (j + 1) R) := Lib.hid ⟨M, p, gs, cps, HRed.out.none fun i h1 h2 => HZ.out i h1 h2, HO.out, HB2.out⟩
          go_wp2
          go_roundg gk0
          case rel => exact ⟨R, j + 1, rfl, by go_num, by omega, by omega, HS2⟩
          case measure => omega
end Go.Proofs.Ytinfjidclkgfnaa
