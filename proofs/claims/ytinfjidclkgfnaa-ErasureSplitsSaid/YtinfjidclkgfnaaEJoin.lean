/-
  Join, by the program and by the specification.
-/
import Derived.Test.YtinfjidclkgfnaaESplit
namespace Go.Proofs.Ytinfjidclkgfnaa
open Go.RowKit
def tot (ls : List (List UInt8)) : Nat := (ls.flatten).length
def joiE (ls : List (List UInt8)) (s : Int) : Int := if s < 0 then 7 else if (tot ls : Int) < s then 2 else 0
def joiR (ls : List (List UInt8)) (s : Int) : List UInt8 := if joiE ls s = 0 then (ls.flatten).take s.toNat else []
/-- what Join gives -/
def JoiP (w : World) (ls : List (List UInt8)) (s : Int) (e : Ending) (w' : World) : Prop :=
  ∃ ad cap, e = .returned (.tuple #[.slice ad (joiR ls s).length cap, .int .i64 (joiE ls s)]) ∧ Lie w' ad (joiR ls s) ∧ (joiR ls s).length ≤ cap ∧ cap ≤ maxLen ∧ Below w.heap.size w w'
section
variable {w w' : World} {ls : List (List UInt8)} {s : Int}
theorem JoiP.no {c : Int} (hc : c ≠ 0) (h : joiE ls s = c) (hb : Below w.heap.size w w') : JoiP w ls s (.returned (.tuple #[.slice none 0 0, .int .i64 c])) w' := by
  have hr : joiR ls s = [] := by unfold joiR; rw [if_neg (by rw [h]; exact hc)]
  unfold JoiP
  rw [hr, h]
  exact ⟨none, 0, rfl, .nil _ _, Nat.le_refl _, Nat.zero_le _, hb⟩
theorem joiE_neg (h : s < 0) : joiE ls s = 7 := if_pos h
theorem joiE_few {n : Nat} (h : tot ls < n) : joiE ls n = 2 := by unfold joiE; rw [if_neg (by omega), if_pos (by omega)]
theorem joiE_ok {n : Nat} (h : n ≤ tot ls) : joiE ls n = 0 := by unfold joiE; rw [if_neg (by omega), if_neg (by omega)]
theorem joiR_ok {n : Nat} (h : n ≤ tot ls) : joiR ls n = (ls.flatten).take n := by unfold joiR; rw [if_pos (joiE_ok h), Int.toNat_natCast]
theorem JoiP.ok {n m cap : Nat} {ad : Option Addr} (h : n ≤ tot ls) (hl : Lie w' ad ((ls.flatten).take n)) (hm : m = ((ls.flatten).take n).length) (g1 : m ≤ cap) (g2 : cap ≤ maxLen) (hb : Below w.heap.size w w') : JoiP w ls n (.returned (.tuple #[.slice ad m cap, .int .i64 0])) w' := by
  subst hm
  unfold JoiP
  rw [joiR_ok h, joiE_ok h]
  exact ⟨ad, cap, rfl, hl, g1, g2, hb⟩
end
theorem tot_next (ls : List (List UInt8)) (k : Nat) (hk : k < ls.length) : tot (ls.take (k + 1)) = tot (ls.take k) + (ls[k]).length := by
  unfold tot
  rw [flat_next ls k hk, List.length_append]
theorem tot_le (ls : List (List UInt8)) (k : Nat) : tot (ls.take k) ≤ tot ls := flat_le ls k
attribute [local irreducible] tot
set_option maxRecDepth 100000 in
set_option maxHeartbeats 1000000 in
theorem missing_any (ad : Option Addr) (n cap : Nat) (ls : List (List UInt8)) (s : Nat) (w : World) (hl : Lr w ad ls) (hn : n = ls.length) (hn2 : n ≤ 1000) (hs : s ≤ 9223372036854775807) (hrow : ∀ r ∈ ls, r.length ≤ 100000) :
    Calls Try.prog 47 #[.slice ad n cap, .int .i64 s] w fun e w' => e = .returned (.int .i64 ((s - tot ls : Nat) : Int)) ∧ w = w' := by
  have HL := Lib.hid hl
  have HN := Lib.hid hn
  have HR := Lib.hid hrow
  have HT := Lib.hid (tot_next ls)
  have HE : Hid (tot (ls.take n) = tot ls) := Lib.hid (by rw [List.take_of_length_le (by omega)])
  have HT0 : Hid (tot (ls.take 0) = 0) := Lib.hid (by rw [List.take_zero]; unfold tot; rfl)
  clear hl hn hrow
  go_enter Try.func47, Try.ntmps47
  go_wp2_with fail
  go_loopg [1, 9] n (fun gk vs vk wx => ∃ k r : Nat, vk = .int .i64 k ∧ vs = .int .i64 r ∧ k + gk = n ∧ r ≤ 9223372036854775807 ∧ Hid (r = s - tot (ls.take k)) ∧ Hid (w = wx))
  case atStart => exact ⟨0, s, rfl, rfl, by omega, by omega, Lib.hid (by rw [HT0.out]; omega), Lib.hid rfl⟩
  case round =>
    obtain ⟨k, r, rfl, rfl, hk, hr, hx, hw⟩ := hrel
    cases gk with
    | zero =>
      have hlt : ¬ (k : Int) < (n : Int) := by omega
      obtain rfl : k = n := by omega
      go_wp2
      go_ret
      exact ⟨by rw [← HE.out, ← hx.out]; rfl, hw.out⟩
    | succ gk0 =>
      have hlt : (k : Int) < (n : Int) := by omega
      have hkl : k < ls.length := by have := HN.out; omega
      obtain ⟨b, off, rfl, -, a1, c1, f1, -, g1, m1, -⟩ := HL.out.row k hkl
      have hrl := HR.out _ (List.getElem_mem hkl)
      have HTX := Lib.hid (HT.out k hkl)
      have f2 : wr.cell? ⟨b, off + k, none⟩ = some (.slice a1 (ls[k]).length c1) := by rw [← hw.out]; exact f1
      generalize (ls[k]).length = N at f2 hrl HTX
      clear f1 g1 m1 hkl
      by_cases hmin : r ≤ N
      · have hw0 : IntKind.i64.wrap ((r : Int) - (r : Int)) = ((0 : Nat) : Int) := by rw [IntKind.wrap_i64]; omega
        have hmm : min (r : Int) (N : Int) = (r : Int) := by omega
        go_wp2
        go_roundg gk0
        case rel => exact ⟨k + 1, 0, by go_num, rfl, by omega, by omega, Lib.hid (by rw [HTX.out]; have := hx.out; omega), hw⟩
        case measure => omega
      · have hw0 : IntKind.i64.wrap ((r : Int) - (N : Int)) = ((r - N : Nat) : Int) := by rw [IntKind.wrap_i64]; omega
        have hmm : min (r : Int) (N : Int) = (N : Int) := by omega
        go_wp2
        go_roundg gk0
        case rel => exact ⟨k + 1, r - N, by go_num, rfl, by omega, by omega, Lib.hid (by rw [HTX.out]; have := hx.out; omega), hw⟩
        case measure => omega
set_option maxRecDepth 100000 in
set_option maxHeartbeats 1000000 in
theorem join_any (ad : Option Addr) (n cap : Nat) (ls : List (List UInt8)) (s : Int) (w : World) (hl : Lr w ad ls) (hn : n = ls.length) (hn2 : n ≤ 1000) (h0 : -9223372036854775808 ≤ s) (h1 : s ≤ 9223372036854775807) (hrow : ∀ r ∈ ls, r.length ≤ 100000) (htot : tot ls ≤ 1000000) :
    Calls Try.prog 24 #[.slice ad n cap, .int .i64 s] w (JoiP w ls s) := by
  have HL := Lib.hid hl
  have HN := Lib.hid hn
  have HR := Lib.hid hrow
  clear hl hn hrow
  by_cases hneg : s < 0
  · have HF := Lib.hid (joiE_neg (ls := ls) hneg)
    go_enter Try.func24, Try.ntmps24
    go_wp2
    go_ret2
    exact JoiP.no (by decide) HF.out (Below.refl _ _)
  obtain ⟨S, rfl⟩ := Int.eq_ofNat_of_zero_le (show 0 ≤ s by omega)
  by_cases hfew : tot ls < S
  · have HF := Lib.hid (joiE_few hfew)
    have hd : (0 : Int) < ((S - tot ls : Nat) : Int) := by omega
    have HMS := Lib.hid (missing_any ad n cap ls S w HL.out HN.out hn2 (by omega) HR.out)
    generalize S - tot ls = D at hd HMS
    go_enter Try.func24, Try.ntmps24
    go_wp2_with fail
    refine HMS.out.mono ?_
    rintro e w' ⟨rfl, rfl⟩
    go_wp2
    go_ret2
    exact JoiP.no (by decide) HF.out (Below.refl _ _)
  have hd : S - tot ls = 0 := by omega
  have HMS := Lib.hid (missing_any ad n cap ls S w HL.out HN.out hn2 (by omega) HR.out)
  rw [hd] at HMS
  have HST : Hid (S ≤ tot ls) := Lib.hid (by omega)
  have hS : S ≤ 1000000 := by omega
  have HJT := Lib.hid (join_take ls)
  have HE : Hid (((ls.take n).flatten).take S = (ls.flatten).take S) := Lib.hid (by rw [List.take_of_length_le (l := ls) (by have := HN.out; omega)])
  have HLL : Hid ((ls.flatten).length = tot ls) := Lib.hid (by unfold tot; rfl)
  clear hd htot
  go_enter Try.func24, Try.ntmps24
  go_wp2_with fail
  refine HMS.out.mono ?_
  rintro e w' ⟨rfl, rfl⟩
  go_wp2_with (at_make; refine wpList_make_u rfl (.const (.int .i64 0)) (.tmp 15) rfl w.heap.size (S : Int) S rfl rfl rfl (by omega) (Nat.le_refl _) ?_; intro v1 w1 ho1 hg1; have HO1 := Lib.hid ho1; have HB1 : Hid (Below w.heap.size w w1) := Lib.hid ((Below.refl w.heap.size w).grown hg1 (Nat.le_refl _) (by simp)); clear ho1 hg1)
  go_loopg [6, 19] n (fun gk vo vk wx => ∃ k : Nat, vk = .int .i64 k ∧ k + gk = n ∧ Hid (Own wx w.heap.size vo (((ls.take k).flatten).take S)) ∧ Hid (Below w.heap.size w wx))
  case atStart => exact ⟨0, rfl, by omega, by simpa using HO1, HB1⟩
  case round =>
    obtain ⟨k, rfl, hk, hO, HB⟩ := hrel
    cases gk with
    | zero =>
      have hlt : ¬ (k : Int) < (n : Int) := by omega
      obtain rfl : k = n := by omega
      obtain ⟨a5, c5, e5, l5, g5, m5, -⟩ := hO.out.slice
      rw [HE.out] at e5 l5 g5
      subst e5
      have HL5 := Lib.hid l5
      have HG5 := Lib.hid g5
      have HM5 := Lib.hid m5
      generalize hX : (List.take S ls.flatten).length = X at *
      have HXX := Lib.hid hX
      clear hO l5 g5 m5 hX
      go_wp2
      go_ret2
      exact JoiP.ok HST.out HL5.out HXX.out.symm HG5.out HM5.out HB.out
    | succ gk0 =>
      have hlt : (k : Int) < (n : Int) := by omega
      have hkl : k < ls.length := by have := HN.out; omega
      obtain ⟨b, off, rfl, hbl, a1, c1, f1, l1, g1, m1, e1⟩ := HL.out.row k hkl
      have hrl := HR.out _ (List.getElem_mem hkl)
      have f2 : wr.cell? ⟨b, off + k, none⟩ = some (.slice a1 (ls[k]).length c1) := (HB.out.cell (p := ⟨b, off + k, none⟩) hbl).trans f1
      obtain ⟨a5, c5, e5, l5, g5, m5, e6⟩ := hO.out.slice
      have HO5 := Lib.hid hO.out
      obtain ⟨J, hJ⟩ : ∃ J, J = (((ls.take k).flatten).take S).length := ⟨_, rfl⟩
      have hJS : J ≤ S := by rw [hJ, List.length_take]; omega
      obtain ⟨x, hx⟩ : ∃ x, x = min (ls[k]).length (S - J) := ⟨_, rfl⟩
      have HX := Lib.hid (HJT.out k S hkl x (by rw [hx, hJ]))
      have HLX := Lib.hid ((l1.below HB.out rfl).take x)
      have hxl : ((ls[k]).take x).length = x := by rw [List.length_take]; omega
      have HXL := Lib.hid hxl
      have HE1 := Lib.hid e1
      rw [← hJ] at e5
      have hwx : IntKind.i64.wrap ((S : Int) - (J : Int)) = ((S - J : Nat) : Int) := by rw [IntKind.wrap_i64]; omega
      have hmin : ((ls[k]).length ≤ S - J ∧ x = (ls[k]).length) ∨ (¬ (ls[k]).length ≤ S - J ∧ x = S - J) := by omega
      have hxc : x ≤ c1 := by omega
      have hxc2 : (x : Int) ≤ (c1 : Int) := by omega
      have HJ := Lib.hid hJ
      subst e5
      have hcase : (∃ a, a1 = some a) ∨ (a1 = none ∧ c1 = 0 ∧ (ls[k]).length = 0 ∧ x = 0) := by
        cases a1 with
        | none => have := HE1.out rfl; exact .inr ⟨rfl, this, by omega, by omega⟩
        | some a => exact .inl ⟨a, rfl⟩
      generalize (ls[k]).length = N at f2 hrl hmin hcase
      generalize (ls[k]).take x = part at HX HLX HXL
      unfold maxLen at m1
      clear f1 l1 g1 e1 hkl hx hxl hJ l5 g5 m5 e6
      rcases hcase with ⟨a, rfl⟩ | ⟨rfl, rfl, rfl, rfl⟩
      rcases hmin with ⟨hle, rfl⟩ | ⟨hle, rfl⟩
      · have hle2 : ((x : Nat) : Int) ≤ ((S - J : Nat) : Int) := by omega
        go_wp2_with (at_builtin; refine wpList_append_u rfl (.tmp 23) (.tmp 32) rfl w.heap.size _ _ rfl HO5.out _ _ _ part HE1.out HLX.out HXL.out.symm rfl (by have := HJ.out; omega) HB.out.size ?_; intro v3 w3 ho3 hg3; rw [HX.out] at ho3; have HO3 := Lib.hid ho3; have HB3 : Hid (Below w.heap.size w w3) := Lib.hid (below_app HB.out HO5.out hg3); clear ho3 hg3)
        go_roundg gk0
        case rel => exact ⟨k + 1, by go_num, by omega, HO3, HB3⟩
        case measure => omega
      · have hle2 : ¬ ((N : Nat) : Int) ≤ ((S - J : Nat) : Int) := by omega
        go_wp2_with (at_builtin; refine wpList_append_u rfl (.tmp 23) (.tmp 32) rfl w.heap.size _ _ rfl HO5.out _ _ _ part HE1.out HLX.out HXL.out.symm rfl (by have := HJ.out; omega) HB.out.size ?_; intro v3 w3 ho3 hg3; rw [HX.out] at ho3; have HO3 := Lib.hid ho3; have HB3 : Hid (Below w.heap.size w w3) := Lib.hid (below_app HB.out HO5.out hg3); clear ho3 hg3)
        go_roundg gk0
        case rel => exact ⟨k + 1, by go_num, by omega, HO3, HB3⟩
        case measure => omega
      · clear hmin
        go_wp2_with (at_builtin; refine wpList_append_u rfl (.tmp 23) (.tmp 32) rfl w.heap.size _ _ rfl HO5.out _ _ _ part HE1.out HLX.out HXL.out.symm rfl (by have := HJ.out; omega) HB.out.size ?_; intro v3 w3 ho3 hg3; rw [HX.out] at ho3; have HO3 := Lib.hid ho3; have HB3 : Hid (Below w.heap.size w w3) := Lib.hid (below_app HB.out HO5.out hg3); clear ho3 hg3)
        go_roundg gk0
        case rel => exact ⟨k + 1, by go_num, by omega, HO3, HB3⟩
        case measure => omega
set_option maxRecDepth 100000 in
set_option maxHeartbeats 1000000 in
theorem rjoin_any (ad : Option Addr) (n cap : Nat) (ls : List (List UInt8)) (s : Int) (w : World) (hl : Lr w ad ls) (hn : n = ls.length) (hn2 : n ≤ 1000) (h1 : s ≤ 9223372036854775807) (htot : tot ls ≤ 1000000) :
    Calls Try.prog 25 #[.slice ad n cap, .int .i64 s] w (JoiP w ls s) := by
  have HL := Lib.hid hl
  have HN := Lib.hid hn
  clear hl hn
  by_cases hneg : s < 0
  · have HF := Lib.hid (joiE_neg (ls := ls) hneg)
    go_enter Try.func25, Try.ntmps25
    go_wp2
    go_ret2
    exact JoiP.no (by decide) HF.out (Below.refl _ _)
  obtain ⟨S, rfl⟩ := Int.eq_ofNat_of_zero_le (show 0 ≤ s by omega)
  have HTL := Lib.hid (tot_le ls)
  have HFN := Lib.hid (flat_next ls)
  have HE : Hid ((ls.take n).flatten = ls.flatten) := Lib.hid (by rw [List.take_of_length_le (l := ls) (by have := HN.out; omega)])
  have HLL : Hid ((ls.flatten).length = tot ls) := Lib.hid (by unfold tot; rfl)
  have HLK : Hid (∀ k, ((ls.take k).flatten).length = tot (ls.take k)) := Lib.hid fun k => by unfold tot; rfl
  go_enter Try.func25, Try.ntmps25
  go_wp2_with fail
  go_loopg [6, 7] n (fun gk vo vk wx => ∃ k : Nat, vk = .int .i64 k ∧ k + gk = n ∧ Hid (Own wx w.heap.size vo ((ls.take k).flatten)) ∧ Hid (Below w.heap.size w wx))
  case atStart => exact ⟨0, rfl, by omega, Lib.hid (by rw [List.take_zero]; exact Own.ofNil _ _), Lib.hid (Below.refl _ _)⟩
  case round =>
    obtain ⟨k, rfl, hk, hO, HB⟩ := hrel
    cases gk with
    | zero =>
      have hlt : ¬ (k : Int) < (n : Int) := by omega
      obtain rfl : k = n := by omega
      obtain ⟨a5, c5, e5, l5, g5, m5, h5⟩ := hO.out.slice
      rw [HE.out] at e5 l5 g5
      rw [HLL.out] at e5 g5
      subst e5
      have HL5 := Lib.hid l5
      have HM5 := Lib.hid m5
      have HH5 := Lib.hid h5
      by_cases hfew : tot ls < S
      · have HF := Lib.hid (joiE_few hfew)
        have hf2 : ((tot ls : Nat) : Int) < (S : Int) := by omega
        generalize tot ls = T at hf2
        clear hO l5 g5 m5 h5 hfew htot
        go_wp2
        go_ret2
        exact JoiP.no (by decide) HF.out HB.out
      · have HST : Hid (S ≤ tot ls) := Lib.hid (by omega)
        have hf2 : ¬ ((tot ls : Nat) : Int) < (S : Int) := by omega
        have hsc : S ≤ c5 := by omega
        have HSC := Lib.hid hsc
        have hsc2 : (S : Int) ≤ (c5 : Int) := by omega
        have HLS : Hid (S = ((ls.flatten).take S).length) := Lib.hid (by rw [List.length_take, HLL.out]; omega)
        have hcase : (∃ a, a5 = some a) ∨ (a5 = none ∧ c5 = 0 ∧ S = 0) := by
          cases a5 with
          | none => have := h5 rfl; exact .inr ⟨rfl, this, by omega⟩
          | some a => exact .inl ⟨a, rfl⟩
        generalize tot ls = T at hf2
        unfold maxLen at m5
        clear hO l5 g5 h5 hfew htot
        rcases hcase with ⟨a, rfl⟩ | ⟨rfl, rfl, rfl⟩
        all_goals
          go_wp2
          go_ret2
          exact JoiP.ok HST.out (HL5.out.take _) HLS.out HSC.out HM5.out HB.out
    | succ gk0 =>
      have hlt : (k : Int) < (n : Int) := by omega
      have hkl : k < ls.length := by have := HN.out; omega
      obtain ⟨b, off, rfl, hbl, a1, c1, f1, l1, g1, m1, e1⟩ := HL.out.row k hkl
      have f2 : wr.cell? ⟨b, off + k, none⟩ = some (.slice a1 (ls[k]).length c1) := (HB.out.cell (p := ⟨b, off + k, none⟩) hbl).trans f1
      have HX := Lib.hid (HFN.out k hkl)
      have HLX := Lib.hid (l1.below HB.out rfl)
      have HE1 := Lib.hid e1
      have HLN : Hid (((ls.take k).flatten).length + (ls[k]).length ≤ 1000000) := Lib.hid (by
        have h1 := HTL.out (k + 1)
        rw [← HLK.out, flat_next ls k hkl, List.length_append] at h1
        omega)
      obtain ⟨N, hN⟩ : ∃ N, N = (ls[k]).length := ⟨_, rfl⟩
      rw [← hN] at f2 HLN
      have HNN := Lib.hid hN
      generalize ls[k] = part at HX HLX HNN
      clear f1 l1 g1 m1 e1 hkl hN
      go_wp2_with (at_builtin; refine wpList_append_u rfl (.tmp 16) (.tmp 20) rfl w.heap.size u6 _ rfl hO.out _ _ _ part HE1.out HLX.out HNN.out rfl (by have := HLN.out; omega) HB.out.size ?_; intro v3 w3 ho3 hg3; rw [← HX.out] at ho3; have HO3 := Lib.hid ho3; have HB3 : Hid (Below w.heap.size w w3) := Lib.hid (below_app HB.out hO.out hg3); clear ho3 hg3)
      go_roundg gk0
      case rel => exact ⟨k + 1, by go_num, by omega, HO3, HB3⟩
      case measure => omega
end Go.Proofs.Ytinfjidclkgfnaa
