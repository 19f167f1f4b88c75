/-
  The program's check and the specification's valid.
-/
import Derived.Test.YtpjegenobadckaaPkIdx
namespace Go.Proofs.Ytpjegenobadckaa
open Go.RowKit
set_option linter.unusedVariables false
set_option linter.unusedSimpArgs false
def inB (n lo hi : Int) : Bool := decide (lo ≤ n) && decide (n ≤ hi)
theorem inB_iff {n lo hi : Int} : inB n lo hi = true ↔ lo ≤ n ∧ n ≤ hi := by unfold inB; simp
theorem inB_no {n lo hi : Int} : inB n lo hi = false ↔ ¬ (lo ≤ n ∧ n ≤ hi) := by rw [← inB_iff]; simp
set_option maxRecDepth 100000 in
theorem within_p (n lo hi : Int) (w : World) :
    Calls Try.prog 35 #[.int .i64 n, .int .i64 lo, .int .i64 hi] w fun e w' => e = .returned (.bool (inB n lo hi)) ∧ w = w' := by
  have HF := Lib.hid (show inB n lo hi = (decide (lo ≤ n) && decide (n ≤ hi)) from rfl)
  by_cases h1 : lo ≤ n
  · have HR := Lib.hid (HF.out.trans (by rw [decide_eq_true h1, Bool.true_and]))
    clear HF
    go_enter Try.func35, Try.ntmps35
    go_wp2
    go_ret
    exact ⟨by rw [HR.out]; rfl, rfl⟩
  · have HR := Lib.hid (HF.out.trans (by rw [decide_eq_false h1, Bool.false_and]))
    clear HF
    go_enter Try.func35, Try.ntmps35
    go_wp2
    go_ret
    exact ⟨by rw [HR.out]; rfl, rfl⟩
set_option maxRecDepth 100000 in
theorem says_size : SaysI 42 #[] (fun x => !inB x 0 4096) (fun _ => True) := ⟨fun args w => by go_simp, fun _ _ _ _ => trivial, fun x w _ => by
  change Calls Try.prog 42 #[.int .i64 x] w _
  go_enter Try.func42, Try.ntmps42
  go_wp2_with fail
  refine (within_p _ _ _ _).mono ?_
  rintro e w' ⟨rfl, rfl⟩
  cases hq : inB x 0 4096
  all_goals
    have HQ := Lib.hid hq
    clear hq
    go_wp2
    go_ret
    exact ⟨by rw [HQ.out]; rfl, Below.refl _ _⟩⟩
set_option maxRecDepth 100000 in
theorem says_num : SaysI 34 #[] (fun x => !inB x 1 1125899906842624) (fun _ => True) := ⟨fun args w => by go_simp, fun _ _ _ _ => trivial, fun x w _ => by
  change Calls Try.prog 34 #[.int .i64 x] w _
  go_enter Try.func34, Try.ntmps34
  go_wp2_with fail
  refine (within_p _ _ _ _).mono ?_
  rintro e w' ⟨rfl, rfl⟩
  cases hq : inB x 1 1125899906842624
  all_goals
    have HQ := Lib.hid hq
    clear hq
    go_wp2
    go_ret
    exact ⟨by rw [HQ.out]; rfl, Below.refl _ _⟩⟩
theorem size_any {l : List Int} : (l.any fun x => !inB x 0 4096) = false ↔ ∀ s ∈ l, 0 ≤ s ∧ s ≤ 4096 := by
  rw [List.any_eq_false]
  constructor
  · intro h s hs
    have := h s hs
    simp only [Bool.not_eq_true', Bool.not_eq_false] at this
    exact inB_iff.1 this
  · intro h s hs
    simp only [Bool.not_eq_true', Bool.not_eq_false]
    exact inB_iff.2 (h s hs)
attribute [local irreducible] inB
set_option maxRecDepth 100000 in
set_option maxHeartbeats 1000000 in
theorem check_any (ad : Option Addr) (n cap : Nat) (l : List Int) (c : Int) (w : World) (hl : Lf inC w ad l) (hn : n = l.length) (hs : n ≤ 9223372036854775807) :
    Calls Try.prog 24 #[.slice ad n cap, .int .i64 c] w fun e w' => e = .returned (.int .i64 (valU l c)) ∧ Below w.heap.size w w' := by
  have HX := Lib.hid (contains_i 42 #[] _ (fun _ => True) says_size ad n cap l w trivial hl hn hs)
  have HS := Lib.hid (@size_any l)
  have HV := Lib.hid (show valU l c = _ by unfold valU; rfl)
  have HN := Lib.hid hn
  clear hl hn
  go_enter Try.func24, Try.ntmps24
  by_cases h1 : 512 < n
  · have HR := Lib.hid (HV.out.trans (if_pos (by rw [← HN.out]; exact h1)))
    clear HV
    go_wp2
    go_ret
    exact ⟨by rw [HR.out]; rfl, Below.refl _ _⟩
  · replace HV := Lib.hid (HV.out.trans (if_neg (by rw [← HN.out]; exact h1)))
    go_wp2_with fail
    refine HX.out.mono ?_
    clear HX
    generalize (l.any fun x => !inB x 0 4096) = q at *
    rintro e w1 ⟨rfl, hb⟩
    cases q
    · have h2 := HS.out.1 rfl
      have HR := Lib.hid (show inB c 1 1125899906842624 = true → valU l c = 0 from fun h => HV.out.trans (if_pos ⟨inB_iff.1 h, h2⟩))
      have HR2 := Lib.hid (show inB c 1 1125899906842624 = false → valU l c = 7 from fun h => HV.out.trans (if_neg fun h' => inB_no.1 h h'.1))
      clear HS HV h2
      have HB := Lib.hid hb
      clear hb
      go_wp2_with fail
      refine (within_p _ _ _ _).mono ?_
      rintro e w' ⟨rfl, rfl⟩
      generalize inB c 1 1125899906842624 = q at *
      cases q
      · have HRR := Lib.hid (HR2.out rfl)
        clear HR HR2
        go_wp2
        go_ret
        exact ⟨by rw [HRR.out]; rfl, HB.out⟩
      · have HRR := Lib.hid (HR.out rfl)
        clear HR HR2
        go_wp2
        go_ret
        exact ⟨by rw [HRR.out]; rfl, HB.out⟩
    · have HR := Lib.hid (show valU l c = 7 from HV.out.trans (if_neg fun h' => by have := HS.out.2 h'.2; cases this))
      clear HS HV
      have HB := Lib.hid hb
      clear hb
      go_wp2
      go_ret
      exact ⟨by rw [HR.out]; rfl, HB.out⟩
set_option maxRecDepth 100000 in
set_option maxHeartbeats 1000000 in
theorem rvalid_p (ad : Option Addr) (n cap : Nat) (l : List Int) (c : Int) (w : World) (hl : Lf inC w ad l) (hn : n = l.length) (hs : n ≤ 9223372036854775807) :
    Calls Try.prog 26 #[.slice ad n cap, .int .i64 c] w fun e w' => e = .returned (.int .i64 (valU l c)) ∧ w' = w := by
  have HL := Lib.hid hl
  have HV := Lib.hid (show valU l c = _ by unfold valU; rfl)
  have HN := Lib.hid hn
  clear hl hn
  go_enter Try.func26, Try.ntmps26
  by_cases h1 : 512 < n
  · have HR := Lib.hid (HV.out.trans (if_pos (by rw [← HN.out]; exact h1)))
    clear HV
    go_wp2
    go_ret
    exact ⟨by rw [HR.out]; rfl, rfl⟩
  · replace HV := Lib.hid (HV.out.trans (if_neg (by rw [← HN.out]; exact h1)))
    by_cases h2 : c < 1
    · have HR := Lib.hid (HV.out.trans (if_neg fun h => by have := h.1.1; omega))
      clear HV
      go_wp2
      go_ret
      exact ⟨by rw [HR.out]; rfl, rfl⟩
    by_cases h3 : 1125899906842624 < c
    · have HR := Lib.hid (HV.out.trans (if_neg fun h => by have := h.1.2; omega))
      clear HV
      go_wp2
      go_ret
      exact ⟨by rw [HR.out]; rfl, rfl⟩
    go_wp2_with fail
    go_loopg [5] n (fun gk vk wx => ∃ k : Nat, vk = .int .i64 k ∧ k + gk = n ∧ wx = w ∧ Hid (∀ j (h : j < l.length), j < k → 0 ≤ l[j] ∧ l[j] ≤ 4096))
    case atStart => exact ⟨0, rfl, by omega, rfl, Lib.hid fun j _ hj => by omega⟩
    case round =>
      obtain ⟨k, rfl, hk, rfl, hall⟩ := hrel
      cases gk with
      | zero =>
        obtain rfl : k = n := by omega
        have HR := Lib.hid (HV.out.trans (if_pos ⟨⟨by omega, by omega⟩, fun s hs => by obtain ⟨j, hj, rfl⟩ := List.getElem_of_mem hs; exact hall.out j hj (by have := HN.out; omega)⟩))
        clear HV
        go_wp2
        go_ret
        exact ⟨by rw [HR.out]; rfl, rfl⟩
      | succ gk0 =>
        have hkn : k < n := by omega
        have hkl : k < l.length := by have := HN.out; omega
        obtain ⟨b, off, rfl, hlt, q⟩ := HL.out.get celI hkl
        have q0 : World.cell? wr ⟨b, off + k, none⟩ = some (.int .i64 l[k]) := by simpa using q 0 _ (by decide) rfl
        clear q
        have HNX : 0 ≤ l[k] → l[k] ≤ 4096 → Hid (∀ j (h : j < l.length), j < k + 1 → 0 ≤ l[j] ∧ l[j] ≤ 4096) := fun h4 h5 => Lib.hid fun j h hj => by
          rcases Nat.lt_or_ge j k with h3 | h3
          · exact hall.out j h h3
          · obtain rfl : j = k := by omega
            exact ⟨h4, h5⟩
        have HNO : ¬ (0 ≤ l[k] ∧ l[k] ≤ 4096) → valU l c = 7 := fun hc => HV.out.trans (if_neg fun h => hc (h.2 _ (List.getElem_mem hkl)))
        generalize l[k] = x at *
        clear hkl hall HV
        by_cases h4 : x < 0
        · have HR := Lib.hid (HNO (by omega))
          clear HNO HNX
          go_wp2
          go_ret
          exact ⟨by rw [HR.out]; rfl, rfl⟩
        by_cases h5 : 4096 < x
        · have HR := Lib.hid (HNO (by omega))
          clear HNO HNX
          go_wp2
          go_ret
          exact ⟨by rw [HR.out]; rfl, rfl⟩
        have HR := HNX (by omega) (by omega)
        clear HNO HNX
        go_wp2
        go_roundg gk0
        case rel => exact ⟨k + 1, by go_num, by omega, rfl, HR⟩
        case measure => omega
end Go.Proofs.Ytpjegenobadckaa
