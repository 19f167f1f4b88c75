/-
  Which matrices are valid, by the program and by the specification; which lists may be examined.
-/
import Derived.Test.YtbkjocmldeagdaaLs
import Derived.Test.YtbkjocmldeagdaaKList
import Derived.BigQuiet
namespace Go.Proofs.Ytbkjocmldeagdaa
open Go.RowKit
theorem Lr.row {w : World} {ad : Option Addr} {ls : List (List UInt8)} (h : Lr w ad ls) (k : Nat) (hk : k < ls.length) :
    ∃ b off, ad = some ⟨b, off, none⟩ ∧ b < w.heap.size ∧ ∃ a1 c1, w.cell? ⟨b, off + k, none⟩ = some (.slice a1 (ls[k]).length c1) ∧ Lie w a1 (ls[k]) ∧ (ls[k]).length ≤ c1 ∧ c1 ≤ maxLen ∧ (a1 = none → c1 = 0) := by
  rcases h.at_ with h0 | ⟨b, off, e, hb, hc⟩
  · subst h0; simp at hk
  · obtain ⟨a1, c1, h1⟩ := hc k hk
    exact ⟨b, off, e, hb, a1, c1, h1⟩

/-- is the matrix valid? -/
def vld (M : List (List UInt8)) : Bool := decide (1 ≤ M.length) && decide (M.length ≤ 64) && M.all (fun r => decide (r.length = cols M)) && decide (1 ≤ cols M) && decide (cols M ≤ 64)
theorem vld_iff (M : List (List UInt8)) : vld M = true ↔ ValidL M := by
  unfold vld
  simp only [Bool.and_eq_true, decide_eq_true_eq, List.all_eq_true]
  exact ⟨fun h => ⟨h.1.1.1.1, h.1.1.1.2, h.1.1.2, h.1.2, h.2⟩, fun h => ⟨⟨⟨⟨h.pos, h.le⟩, h.row⟩, h.cpos⟩, h.cle⟩⟩
theorem vld_yes {M : List (List UInt8)} (h : ValidL M) : vld M = true := (vld_iff M).2 h
theorem vld_no {M : List (List UInt8)} (h : ¬ ValidL M) : vld M = false := by
  rw [← Bool.not_eq_true, vld_iff]; exact h
theorem cols_first (M : List (List UInt8)) (h : 0 < M.length) : cols M = (M[0]).length := by
  cases M with
  | nil => simp at h
  | cons r M => rfl
theorem valid_of (M : List (List UInt8)) (h1 : 1 ≤ M.length) (h2 : M.length ≤ 64) (h3 : ∀ i (h : i < M.length), (M[i]).length = cols M) (h4 : 1 ≤ cols M) (h5 : cols M ≤ 64) : ValidL M :=
  ⟨h1, h2, fun r hr => by obtain ⟨i, hi, rfl⟩ := List.mem_iff_getElem.1 hr; exact h3 i hi, h4, h5⟩
theorem ValidL.len {M : List (List UInt8)} (h : ValidL M) (i : Nat) (hi : i < M.length) : (M[i]).length = cols M := h.row _ (List.getElem_mem hi)

set_option maxRecDepth 100000 in
set_option maxHeartbeats 1000000 in
theorem valid_any (ad : Option Addr) (n cap : Nat) (ls : List (List UInt8)) (w : World) (hl : Lr w ad ls) (hn : n = ls.length) (hm : n ≤ maxLen) :
    Calls Try.prog 16 #[.slice ad n cap] w fun e w' => e = .returned (.bool (vld ls)) ∧ w = w' := by
  unfold maxLen at hm
  by_cases h1 : n < 1
  · have HV := Lib.hid (vld_no (M := ls) fun h => by have := h.pos; omega)
    clear hl
    go_enter Try.func16, Try.ntmps16
    go_wp2
    go_ret
    exact ⟨by rw [HV.out]; rfl, rfl⟩
  by_cases h2 : 64 < n
  · have HV := Lib.hid (vld_no (M := ls) fun h => by have := h.le; omega)
    clear hl
    go_enter Try.func16, Try.ntmps16
    go_wp2
    go_ret
    exact ⟨by rw [HV.out]; rfl, rfl⟩
  have hp : 0 < ls.length := by omega
  obtain ⟨b, off, rfl, -, a0, c0, f0, -, g0, m0, -⟩ := hl.row 0 hp
  have HL := Lib.hid hl
  have HN := Lib.hid hn
  have HC := Lib.hid (cols_first ls hp)
  have HW := Lib.hid (valid_of ls)
  rw [← HC.out] at f0 g0
  rw [Nat.add_zero] at f0
  unfold maxLen at m0
  generalize cols ls = C at f0 g0 HC HW
  clear hl hn
  go_enter Try.func16, Try.ntmps16
  go_wp2_with fail
  go_loop [20] (fun vk => ∃ k : Nat, vk = .int .i64 k ∧ k ≤ n ∧ Hid (∀ j (h : j < ls.length), j < k → (ls[j]).length = C)) (fun vk => n - (intOf vk).toNat)
  case atStart => exact ⟨0, rfl, by omega, Lib.hid fun j h hj => by omega⟩
  case round =>
    obtain ⟨k, rfl, hk, hall⟩ := hrel
    by_cases hlt : k < n
    · have hkl : k < ls.length := by have := HN.out; omega
      obtain ⟨b', off', e, -, a1, c1, f1, -, g1, m1, -⟩ := HL.out.row k hkl
      cases e
      unfold maxLen at m1
      generalize hL : (ls[k]).length = L at f1 g1
      have HLL := Lib.hid hL
      by_cases he : L = C
      · have HNX : Hid (∀ j (h : j < ls.length), j < k + 1 → (ls[j]).length = C) := Lib.hid fun j h hj => by
          rcases Nat.lt_or_ge j k with h' | h'
          · exact hall.out j h h'
          · obtain rfl : j = k := by omega
            exact hL.trans he
        have he' : (L : Int) = (C : Int) := by omega
        clear HLL hL hkl
        go_wp2
        go_round
        case rel => exact ⟨k + 1, by go_num, by omega, HNX⟩
        case measure => simp [intOf]; omega
      · have HV := Lib.hid (vld_no (M := ls) fun h => he (by rw [← hL, h.len k hkl, HC.out, cols_first ls hp]))
        clear HLL hL hkl
        have he' : ¬ (L : Int) = (C : Int) := by omega
        go_wp2
        go_ret
        exact ⟨by rw [HV.out]; rfl, rfl⟩
    · have hall' : Hid (∀ i (h : i < ls.length), (ls[i]).length = C) := Lib.hid fun i h => hall.out i h (by have := HN.out; omega)
      by_cases h4 : 1 ≤ C
      · by_cases h5 : C ≤ 64
        · have HV := Lib.hid (vld_yes (HW.out (by have := HN.out; omega) (by have := HN.out; omega) hall'.out h4 h5))
          go_wp2
          go_ret
          exact ⟨by rw [HV.out]; show Ending.returned (Value.bool (decide ((C : Int) ≤ 64))) = _; rw [decide_eq_true (by omega)], rfl⟩
        · have HV := Lib.hid (vld_no (M := ls) fun h => h5 (by have := h.cle; rw [cols_first ls (by have := HN.out; omega), ← HC.out] at this; exact this))
          go_wp2
          go_ret
          exact ⟨by rw [HV.out]; show Ending.returned (Value.bool (decide ((C : Int) ≤ 64))) = _; rw [decide_eq_false (by omega)], rfl⟩
      · have HV := Lib.hid (vld_no (M := ls) fun h => h4 (by have := h.cpos; rw [cols_first ls (by have := HN.out; omega), ← HC.out] at this; exact this))
        go_wp2
        go_ret
        exact ⟨by rw [HV.out]; rfl, rfl⟩

def FewP (w : World) (n : Nat) (ls : List (List UInt8)) (e : Ending) (w' : World) : Prop := ∃ f, e = .returned (.bool f) ∧ (f = true → n ≤ 70 ∧ ∀ r ∈ ls, r.length ≤ 70) ∧ w = w'
theorem FewP.no {w : World} {n : Nat} {ls : List (List UInt8)} : FewP w n ls (.returned (.bool false)) w := ⟨false, rfl, fun h => (by cases h), rfl⟩
theorem FewP.yes {w : World} {n : Nat} {ls : List (List UInt8)} (h1 : n ≤ 70) (h2 : ∀ r ∈ ls, r.length ≤ 70) : FewP w n ls (.returned (.bool true)) w := ⟨true, rfl, fun _ => ⟨h1, h2⟩, rfl⟩
set_option maxRecDepth 100000 in
set_option maxHeartbeats 1000000 in
theorem few_any (ad : Option Addr) (n cap : Nat) (ls : List (List UInt8)) (w : World) (hl : Lr w ad ls) (hn : n = ls.length) (hm : n ≤ maxLen) :
    Calls Try.prog 10 #[.slice ad n cap] w (FewP w n ls) := by
  unfold maxLen at hm
  have HL := Lib.hid hl
  have HN := Lib.hid hn
  clear hl hn
  by_cases h1 : 70 < n
  · go_enter Try.func10, Try.ntmps10
    go_wp2
    go_ret
    exact FewP.no
  go_enter Try.func10, Try.ntmps10
  go_wp2_with fail
  go_loop [3] (fun vk => ∃ k : Nat, vk = .int .i64 k ∧ k ≤ n ∧ Hid (∀ j (h : j < ls.length), j < k → (ls[j]).length ≤ 70)) (fun vk => n - (intOf vk).toNat)
  case atStart => exact ⟨0, rfl, by omega, Lib.hid fun j h hj => by omega⟩
  case round =>
    obtain ⟨k, rfl, hk, hall⟩ := hrel
    by_cases hlt : k < n
    · have hkl : k < ls.length := by have := HN.out; omega
      obtain ⟨b, off, rfl, -, a1, c1, f1, -, g1, m1, -⟩ := HL.out.row k hkl
      unfold maxLen at m1
      by_cases he : (ls[k]).length ≤ 70
      · have HNX : Hid (∀ j (h : j < ls.length), j < k + 1 → (ls[j]).length ≤ 70) := Lib.hid fun j h hj => by
          rcases Nat.lt_or_ge j k with h' | h'
          · exact hall.out j h h'
          · obtain rfl : j = k := by omega
            exact he
        generalize (ls[k]).length = L at f1 g1 he
        clear hkl
        go_wp2
        go_round
        case rel => exact ⟨k + 1, by go_num, by omega, HNX⟩
        case measure => simp [intOf]; omega
      · generalize (ls[k]).length = L at f1 g1 he
        clear hkl
        go_wp2
        go_ret
        exact FewP.no
    · have HE := Lib.hid (show ∀ r ∈ ls, r.length ≤ 70 from fun r hr => by obtain ⟨i, hi, rfl⟩ := List.mem_iff_getElem.1 hr; exact hall.out i hi (by have := HN.out; omega))
      go_wp2
      go_ret
      exact FewP.yes (by omega) HE.out
end Go.Proofs.Ytbkjocmldeagdaa
