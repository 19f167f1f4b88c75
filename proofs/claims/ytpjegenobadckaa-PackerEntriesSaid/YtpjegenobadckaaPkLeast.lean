/-
  Least: the program's and the specification's.
-/
import Derived.Test.YtpjegenobadckaaPkVal
import Derived.Test.YtpjegenobadckaaCoVal
namespace Go.Proofs.Ytpjegenobadckaa
open Go.RowKit
set_option linter.unusedVariables false
set_option linter.unusedSimpArgs false
def totL : List Int → Int
  | [] => 0
  | s :: l => s + totL l
def bigL (c : Int) : List Int → Nat
  | [] => 0
  | s :: l => (if c < 2 * s then 1 else 0) + bigL c l
theorem totL_append (a b : List Int) : totL (a ++ b) = totL a + totL b := by
  induction a with
  | nil => simp [totL]
  | cons x a ih => rw [List.cons_append, totL, totL, ih]; omega
theorem bigL_append (c : Int) (a b : List Int) : bigL c (a ++ b) = bigL c a + bigL c b := by
  induction a with
  | nil => simp [bigL]
  | cons x a ih => rw [List.cons_append, bigL, bigL, ih]; omega
theorem totL_nn {l : List Int} (h : ∀ s ∈ l, 0 ≤ s ∧ s ≤ 4096) : 0 ≤ totL l ∧ totL l ≤ 4096 * l.length := by
  induction l with
  | nil => simp [totL]
  | cons x l ih =>
    have h1 := h x (by simp)
    have h2 := ih (fun s hs => h s (by simp [hs]))
    simp only [totL, List.length_cons]
    omega
theorem bigL_le (c : Int) (l : List Int) : bigL c l ≤ l.length := by
  induction l with
  | nil => simp [bigL]
  | cons x l ih => simp only [bigL, List.length_cons]; split <;> omega
theorem take_valid {l : List Int} (h : ∀ s ∈ l, 0 ≤ s ∧ s ≤ 4096) (i : Nat) : 0 ≤ totL (l.take i) ∧ totL (l.take i) ≤ 4096 * i := by
  have h1 := totL_nn (l := l.take i) (fun s hs => h s (List.mem_of_mem_take hs))
  have : (l.take i).length ≤ i := List.length_take_le i l
  omega
/-- the least number of containers -/
noncomputable def leastU (l : List Int) (c : Int) : Int := if valU l c = 0 then max ((totL l + c - 1) / c) (bigL c l) else 0
theorem ceil_eq {t c : Int} (ht : 0 ≤ t) (hc : 1 ≤ c) : (if 0 < t % c then t / c + 1 else t / c) = (t + c - 1) / c := by
  have h1 := Int.emod_add_mul_ediv t c
  have h2 := Int.emod_nonneg t (show c ≠ 0 by omega)
  have h3 := Int.emod_lt_of_pos t (show 0 < c by omega)
  symm
  split
  · have e : t + c - 1 = (t % c - 1) + c * (t / c + 1) := by rw [Int.mul_add]; omega
    rw [e, Int.add_mul_ediv_left _ _ (by omega), Int.ediv_eq_zero_of_lt (by omega) (by omega)]
    omega
  · have e : t + c - 1 = (c - 1) + c * (t / c) := by omega
    rw [e, Int.add_mul_ediv_left _ _ (by omega), Int.ediv_eq_zero_of_lt (by omega) (by omega)]
    omega
set_option maxRecDepth 100000 in
set_option maxHeartbeats 2000000 in
theorem least_any (ad : Option Addr) (n cap : Nat) (l : List Int) (c : Int) (w : World) (hl : Lf inC w ad l) (hn : n = l.length) (hs : n ≤ 9223372036854775807) :
    Calls Try.prog 19 #[.slice ad n cap, .int .i64 c] w fun e w' => e = .returned (.int .i64 (leastU l c)) ∧ Below w.heap.size w w' := by
  have HL := Lib.hid hl
  have HN := Lib.hid hn
  have HSS := Lib.hid hs
  have HU := Lib.hid (show leastU l c = _ by unfold leastU; rfl)
  have HV := Lib.hid (@valU_ok l c)
  clear hl hn hs
  go_enter Try.func19, Try.ntmps19
  go_wp2_with fail
  refine (check_any ad n cap l c w HL.out HN.out HSS.out).mono ?_
  rintro e X1 ⟨rfl, hb⟩
  have HB := Lib.hid hb
  have HL1 := Lib.hid (HL.out.below hb)
  clear hb
  obtain ⟨V, hV⟩ : ∃ V, V = valU l c := ⟨_, rfl⟩
  rw [← hV] at HU HV ⊢
  clear hV
  by_cases hv : V = 0
  rotate_left
  · have hv2 := ne_t hv
    have HF := Lib.hid (HU.out.trans (if_neg hv))
    go_wp2
    go_ret
    exact ⟨by rw [HF.out]; rfl, HB.out⟩
  have hv2 := ne_f hv
  obtain ⟨hl512, hok⟩ := HV.out hv
  replace HU := Lib.hid (HU.out.trans (if_pos hv))
  clear hv HV
  have hn512 : n ≤ 512 := by rw [HN.out]; exact hl512
  have HOK := Lib.hid hok
  obtain ⟨hc0, hc1⟩ := hok.1
  clear hok hl512
  go_wp2_with fail
  go_loopg [5, 6, 15] n (fun gk v5 v6 v15 wx => ∃ (i b : Nat) (t : Int), v5 = .int .i64 t ∧ v6 = .int .i64 b ∧ v15 = .int .i64 i ∧ i + gk = n ∧ X1 = wx ∧ Hid (t = totL (l.take i)) ∧ Hid (b = bigL c (l.take i)))
  case atStart => exact ⟨0, 0, 0, rfl, rfl, rfl, by omega, rfl, Lib.hid (by simp [totL]), Lib.hid (by simp [bigL])⟩
  case round =>
    obtain ⟨i, b, t, rfl, rfl, rfl, hi, rfl, hT, hBg⟩ := hrel
    have ht := take_valid HOK.out.2 i
    rw [← hT.out] at ht
    have hbl : b ≤ 512 := by have := bigL_le c (l.take i); rw [← hBg.out] at this; have h2 := List.length_take_le i l; omega
    obtain ⟨ht0, ht1⟩ := ht
    cases gk with
    | zero =>
      obtain rfl : n = i := by omega
      have hTT := hT.out
      have hBB := hBg.out
      rw [List.take_of_length_le (by rw [HN.out]; exact Nat.le_refl _)] at hTT hBB
      have HR := Lib.hid (show leastU l c = max ((t + c - 1) / c) (b : Int) by rw [HU.out, ← hTT, ← hBB])
      have hw1 : IntKind.i64.wrap (t + c) = t + c := IntWalk.i64_in _ (by omega)
      have hw2 : IntKind.i64.wrap (t + c - 1) = t + c - 1 := IntWalk.i64_in _ (by omega)
      have hq0 : 0 ≤ (t + c - 1) / c := Int.ediv_nonneg (by omega) (by omega)
      have hq1 : (t + c - 1) / c ≤ t + c - 1 := Int.ediv_le_self c (by omega)
      obtain ⟨K, hK⟩ : ∃ K, K = (t + c - 1) / c := ⟨_, rfl⟩
      have hk2 : IntKind.i64.wrap ((t + c - 1).tdiv c) = K := by
        rw [Int.tdiv_eq_ediv_of_nonneg (by omega), ← hK]
        exact IntWalk.i64_in _ (by omega)
      have hc00 : (c == 0) = false := eq_f (by omega)
      rw [← hK] at HR hq0 hq1
      clear hTT hBB hT hBg hK
      go_wp2_with fail
      all_goals
        go_ret
        refine ⟨?_, HB.out⟩
        rw [HR.out]
        show Ending.returned (.int .i64 _) = Ending.returned (.int .i64 _)
        congr 2
        omega
    | succ gk0 =>
      have hin : i < n := by omega
      have hil : i < l.length := by have := HN.out; omega
      obtain ⟨bq, off, rfl, hlt, q⟩ := HL1.out.get celI hil
      have q0 : X1.cell? ⟨bq, off + i, none⟩ = some (.int .i64 l[i]) := by simpa using q 0 _ (by decide) rfl
      clear q hlt
      obtain ⟨hs0, hs1⟩ := HOK.out.2 _ (List.getElem_mem hil)
      have HT2 := Lib.hid (show totL (l.take (i + 1)) = t + l[i] by rw [List.take_succ_eq_append_getElem hil, totL_append, ← hT.out]; simp [totL])
      have HB2 := Lib.hid (show bigL c (l.take (i + 1)) = b + (if c < 2 * l[i] then 1 else 0) by rw [List.take_succ_eq_append_getElem hil, bigL_append, ← hBg.out]; simp [bigL])
      generalize l[i] = x at *
      clear hil
      have hw1 : IntKind.i64.wrap (t + x) = t + x := IntWalk.i64_in _ (by omega)
      have hw2 : IntKind.i64.wrap (2 * x) = 2 * x := IntWalk.i64_in _ (by omega)
      by_cases hx : c < 2 * x
      · have HB3 := Lib.hid (show bigL c (l.take (i + 1)) = b + 1 by rw [HB2.out, if_pos hx])
        clear HB2
        go_wp2_with fail
        go_roundg gk0
        case rel => exact ⟨i + 1, b + 1, t + x, rfl, by go_num, by go_num, by omega, rfl, Lib.hid HT2.out.symm, Lib.hid HB3.out.symm⟩
        case measure => omega
      · have HB3 := Lib.hid (show bigL c (l.take (i + 1)) = b by rw [HB2.out, if_neg hx]; rfl)
        clear HB2
        go_wp2_with fail
        go_roundg gk0
        case rel => exact ⟨i + 1, b, t + x, rfl, rfl, by go_num, by omega, rfl, Lib.hid HT2.out.symm, Lib.hid HB3.out.symm⟩
        case measure => omega
set_option maxRecDepth 100000 in
set_option maxHeartbeats 2000000 in
theorem rleast_any (ad : Option Addr) (n cap : Nat) (l : List Int) (c : Int) (w : World) (hl : Lf inC w ad l) (hn : n = l.length) (hs : n ≤ 9223372036854775807) :
    Calls Try.prog 20 #[.slice ad n cap, .int .i64 c] w fun e w' => e = .returned (.int .i64 (leastU l c)) ∧ w = w' := by
  have HL := Lib.hid hl
  have HN := Lib.hid hn
  have HSS := Lib.hid hs
  have HU := Lib.hid (show leastU l c = _ by unfold leastU; rfl)
  have HV := Lib.hid (@valU_ok l c)
  clear hl hn hs
  go_enter Try.func20, Try.ntmps20
  go_wp2_with fail
  refine (rvalid_p ad n cap l c w HL.out HN.out HSS.out).mono ?_
  rintro e X1 ⟨rfl, rfl⟩
  obtain ⟨V, hV⟩ : ∃ V, V = valU l c := ⟨_, rfl⟩
  rw [← hV] at HU HV ⊢
  clear hV
  by_cases hv : V = 0
  rotate_left
  · have hv2 := ne_t hv
    have HF := Lib.hid (HU.out.trans (if_neg hv))
    go_wp2
    go_ret
    exact ⟨by rw [HF.out]; rfl, rfl⟩
  have hv2 := ne_f hv
  obtain ⟨hl512, hok⟩ := HV.out hv
  replace HU := Lib.hid (HU.out.trans (if_pos hv))
  clear hv HV
  have hn512 : n ≤ 512 := by rw [HN.out]; exact hl512
  have HOK := Lib.hid hok
  obtain ⟨hc0, hc1⟩ := hok.1
  clear hok hl512
  go_wp2_with fail
  go_loopg [5, 6, 7] n (fun gk v5 v6 v7 wx => ∃ (i b : Nat) (t : Int), v5 = .int .i64 t ∧ v6 = .int .i64 b ∧ v7 = .int .i64 i ∧ i + gk = n ∧ X1 = wx ∧ Hid (t = totL (l.take i)) ∧ Hid (b = bigL c (l.take i)))
  case atStart => exact ⟨0, 0, 0, rfl, rfl, rfl, by omega, rfl, Lib.hid (by simp [totL]), Lib.hid (by simp [bigL])⟩
  case round =>
    obtain ⟨i, b, t, rfl, rfl, rfl, hi, rfl, hT, hBg⟩ := hrel
    have ht := take_valid HOK.out.2 i
    rw [← hT.out] at ht
    have hbl : b ≤ 512 := by have := bigL_le c (l.take i); rw [← hBg.out] at this; have h2 := List.length_take_le i l; omega
    obtain ⟨ht0, ht1⟩ := ht
    cases gk with
    | zero =>
      obtain rfl : n = i := by omega
      have hTT := hT.out
      have hBB := hBg.out
      rw [List.take_of_length_le (by rw [HN.out]; exact Nat.le_refl _)] at hTT hBB
      have HR := Lib.hid (show leastU l c = max (if 0 < t % c then t / c + 1 else t / c) (b : Int) by rw [HU.out, ← hTT, ← hBB, ceil_eq ht0 hc0])
      have hq0 : 0 ≤ t / c := Int.ediv_nonneg (by omega) (by omega)
      have hq1 : t / c ≤ t := Int.ediv_le_self c (by omega)
      have hm0 := Int.emod_nonneg t (show c ≠ 0 by omega)
      have hm1 := Int.emod_lt_of_pos t (show 0 < c by omega)
      have hc00 : (c == 0) = false := eq_f (by omega)
      obtain ⟨K, hK⟩ : ∃ K, K = t / c := ⟨_, rfl⟩
      obtain ⟨M, hM⟩ : ∃ M, M = t % c := ⟨_, rfl⟩
      have hk2 : IntKind.i64.wrap (t.tdiv c) = K := by
        rw [Int.tdiv_eq_ediv_of_nonneg ht0, ← hK]
        exact IntWalk.i64_in _ (by omega)
      have hk3 : IntKind.i64.wrap (t.tmod c) = M := by
        rw [Int.tmod_eq_emod_of_nonneg ht0, ← hM]
        exact IntWalk.i64_in _ (by omega)
      have hk4 : t.tmod c = M := by rw [Int.tmod_eq_emod_of_nonneg ht0, ← hM]
      have hk5 : t % c = M := hM.symm
      rw [← hK, ← hM] at HR
      rw [← hK] at hq0 hq1
      rw [← hM] at hm0 hm1
      clear hTT hBB hT hBg hK hM
      by_cases hp : 0 < M
      · have HR2 := Lib.hid (HR.out.trans (by rw [if_pos hp]))
        clear HR
        go_wp2_with fail
        all_goals
          go_ret
          refine ⟨?_, rfl⟩
          rw [HR2.out]
          show Ending.returned (.int .i64 _) = Ending.returned (.int .i64 _)
          congr 2
          omega
      · have HR2 := Lib.hid (HR.out.trans (by rw [if_neg hp]))
        clear HR
        go_wp2_with fail
        all_goals
          go_ret
          refine ⟨?_, rfl⟩
          rw [HR2.out]
          show Ending.returned (.int .i64 _) = Ending.returned (.int .i64 _)
          congr 2
          omega
    | succ gk0 =>
      have hin : i < n := by omega
      have hil : i < l.length := by have := HN.out; omega
      obtain ⟨bq, off, rfl, hlt, q⟩ := HL.out.get celI hil
      have q0 : X1.cell? ⟨bq, off + i, none⟩ = some (.int .i64 l[i]) := by simpa using q 0 _ (by decide) rfl
      clear q hlt
      obtain ⟨hs0, hs1⟩ := HOK.out.2 _ (List.getElem_mem hil)
      have HT2 := Lib.hid (show totL (l.take (i + 1)) = t + l[i] by rw [List.take_succ_eq_append_getElem hil, totL_append, ← hT.out]; simp [totL])
      have HB2 := Lib.hid (show bigL c (l.take (i + 1)) = b + (if c < 2 * l[i] then 1 else 0) by rw [List.take_succ_eq_append_getElem hil, bigL_append, ← hBg.out]; simp [bigL])
      generalize l[i] = x at *
      clear hil
      have hw1 : IntKind.i64.wrap (t + x) = t + x := IntWalk.i64_in _ (by omega)
      have hw2 : IntKind.i64.wrap (2 * x) = 2 * x := IntWalk.i64_in _ (by omega)
      by_cases hx : c < 2 * x
      · have HB3 := Lib.hid (show bigL c (l.take (i + 1)) = b + 1 by rw [HB2.out, if_pos hx])
        clear HB2
        go_wp2_with fail
        go_roundg gk0
        case rel => exact ⟨i + 1, b + 1, t + x, rfl, by go_num, by go_num, by omega, rfl, Lib.hid HT2.out.symm, Lib.hid HB3.out.symm⟩
        case measure => omega
      · have HB3 := Lib.hid (show bigL c (l.take (i + 1)) = b by rw [HB2.out, if_neg hx]; rfl)
        clear HB2
        go_wp2_with fail
        go_roundg gk0
        case rel => exact ⟨i + 1, b, t + x, rfl, rfl, by go_num, by omega, rfl, Lib.hid HT2.out.symm, Lib.hid HB3.out.symm⟩
        case measure => omega
end Go.Proofs.Ytpjegenobadckaa
