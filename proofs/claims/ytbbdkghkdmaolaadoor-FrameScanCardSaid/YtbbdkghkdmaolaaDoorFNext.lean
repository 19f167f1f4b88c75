/-
  What begins at an offset, and the body there: the program's check and Next.
-/
import Derived.Test.YtbbdkghkdmaolaaDoorFCheck2
namespace Go.Proofs.YtbbdkghkdmaolaaDoor
open Go.RowKit
set_option linter.unusedVariables false

theorem u8_of_toNat {x : UInt8} {n : Nat} (h : x.toNat = n) : x = UInt8.ofNat n := by rw [← h]; simp
theorem take2_iff (r : List UInt8) (x0 x1 : UInt8) (s : List UInt8) (h : r = x0 :: x1 :: s) : r.take 2 = [167, 60] ↔ x0.toNat = 167 ∧ x1.toNat = 60 := by
  subst h
  simp only [List.take_succ_cons, List.take_zero, List.cons.injEq, and_true]
  constructor
  · rintro ⟨rfl, rfl⟩; exact ⟨rfl, rfl⟩
  · rintro ⟨h0, h1⟩; exact ⟨u8_of_toNat h0, u8_of_toNat h1⟩

theorem two_of (r : List UInt8) (h : 2 ≤ r.length) : ∃ x0 x1 s, r = x0 :: x1 :: s := by
  match r, h with
  | x0 :: x1 :: s, _ => exact ⟨x0, x1, s, rfl⟩

theorem chk_any (ad : Option Addr) (n cap : Nat) (xs : List UInt8) (at_ : Int) (w : World) (hl : Lie w ad xs) (hn : n = xs.length) (hs : xs.length ≤ 1000000) (hc : n ≤ cap) (hcm : cap ≤ maxLen) (had : ad = none → cap = 0) (hm : Mag w) :
    Calls Tryd.prog 29 #[.slice ad n cap, .int .i64 at_] w (ChkP w (chk xs at_).1 (chk xs at_).2) := by
  by_cases ho : at_ < 0 ∨ xs.length < at_
  · rw [chk_out xs at_ ho]
    exact chk_range ad n cap at_ w (by omega) (by omega)
  obtain ⟨a, rfl⟩ : ∃ a : Nat, at_ = a := ⟨at_.toNat, by omega⟩
  have ha : a ≤ n := by omega
  by_cases h10 : n < a + 10
  · have e : chk xs a = (0, 2) := by
      rw [chk_nat xs a (by omega)]
      have : hd (xs.drop a) = (0, 2) := by unfold hd; rw [if_pos (by rw [List.length_drop]; omega)]
      rw [this]; rfl
    rw [e]
    exact chk_short ad n cap a w ha h10 (by omega) hc hcm had
  rcases hl.at_ with h0 | ⟨b, off, rfl, hb, hcell⟩
  · subst h0; simp at hn; omega
  rw [chk_nat xs a (by omega)]
  have hlr := hl.drop a
  have hrl : (xs.drop a).length = n - a := by rw [List.length_drop]; omega
  generalize hr : xs.drop a = r at *
  clear hcell hl
  have hr10 : ¬ r.length < 10 := by omega
  obtain ⟨x0, x1, r2, rfl⟩ := two_of r (by omega)
  · skip
    have h2 := take2_iff (x0 :: x1 :: r2) x0 x1 r2 rfl
    have hlr' := hlr
    rcases hlr'.at_ with h0 | ⟨b', off', h0, _, hcell⟩
    · cases h0
    cases h0
    have c0 := hcell 0 (by simp)
    have c1 := hcell 1 (by simp)
    simp only [List.getElem_cons_zero, List.getElem_cons_succ, Nat.add_zero] at c0 c1
    clear hcell
    generalize hR : x0 :: x1 :: r2 = R at *
    by_cases hmg : x0.toNat = 167 ∧ x1.toNat = 60
    · rw [hmg.1] at c0
      rw [hmg.2] at c1
      have l2 := hlr.drop 2
      have l24 := l2.take 4
      have e24 : ((R.drop 2).take 4).length = 4 := by rw [List.length_take, List.length_drop]; omega
      have hnum : num4 ((R.drop 2).take 4) = num4 (R.drop 2) := num4_take _
      by_cases hbig : 65536 < num4 (R.drop 2)
      · have e : hd R = (0, 6) := by unfold hd; rw [if_neg (by omega), if_neg (fun h => h (h2.2 hmg)), if_pos hbig]
        rw [e]
        exact chk_long b off n cap a _ _ w hm (by omega) hc hcm (by omega) c0 c1 l24 e24 hnum hbig
      · by_cases hcut : R.length < num4 (R.drop 2) + 10
        · have e : hd R = (0, 2) := by unfold hd; rw [if_neg (by omega), if_neg (fun h => h (h2.2 hmg)), if_neg hbig, if_pos hcut]
          rw [e]
          exact chk_cut b off n cap a _ _ w hm (by omega) hc hcm (by omega) c0 c1 l24 e24 hnum (by omega) (by omega)
        · have e : hd R = if num4 (R.drop 6) ≠ crc ((R.drop 2).take 4 ++ (R.drop 10).take (num4 (R.drop 2))) then (0, 4) else (num4 (R.drop 2), 0) := by
            unfold hd; rw [if_neg (by omega), if_neg (fun h => h (h2.2 hmg)), if_neg hbig, if_neg hcut]
          have h := chk_sum b off n cap a _ _ w hm (by omega) hc hcm (by omega) c0 c1 l24 e24 hnum (by omega) (by omega) (R.drop 6) (hlr.drop 6) (by rw [List.length_drop]; omega)
            ((R.drop 10).take (num4 (R.drop 2))) ((hlr.drop 10).take _) (by rw [List.length_take, List.length_drop]; omega) _ _ rfl rfl
          refine h.mono ?_
          intro en w' hh
          unfold ChkQ at hh
          by_cases hxy : num4 (R.drop 6) = crc ((R.drop 2).take 4 ++ (R.drop 10).take (num4 (R.drop 2)))
          · rw [if_pos hxy, if_pos hxy] at hh
            rw [if_neg (fun h => h hxy)] at e
            rw [e]
            exact hh
          · rw [if_neg hxy, if_neg hxy] at hh
            rw [if_pos hxy] at e
            rw [e]
            exact hh
    · have e : hd R = (0, 1) := by unfold hd; rw [if_neg (by omega), if_pos (fun h => hmg (h2.1 h))]
      rw [e]
      exact chk_magic b off n cap a _ _ w hm (by omega) hc hcm (by omega) c0 c1 hmg

/-- What Next answers. -/
def NxP (w : World) (xs : List UInt8) (at_ : Int) (e : Ending) (w' : World) : Prop :=
  ∃ v, e = .returned (.tuple #[v, .int .i64 (chk xs at_).1, .int .i64 (chk xs at_).2]) ∧ Own w' w.heap.size v (bodyAt xs at_) ∧ Below w.heap.size w w'

set_option maxRecDepth 100000 in
set_option maxHeartbeats 600000 in
theorem next_bad (ad : Option Addr) (n cap : Nat) (xs : List UInt8) (at_ : Int) (w : World) (hl : Lie w ad xs) (hn : n = xs.length) (hs : xs.length ≤ 1000000) (hc : n ≤ cap) (hcm : cap ≤ maxLen) (had : ad = none → cap = 0) (hm : Mag w) (hbad : (chk xs at_).2 ≠ 0) :
    Calls Tryd.prog 15 #[.slice ad n cap, .int .i64 at_] w (NxP w xs at_) := by
  have hk := chk_any ad n cap xs at_ w hl hn hs hc hcm had hm
  obtain ⟨b1, b2⟩ := chk_bad hbad
  unfold NxP
  rw [b2]
  generalize (chk xs at_).1 = x at *
  generalize (chk xs at_).2 = e at *
  subst b1
  have hd1 : (e != 0) = true := by rw [bne_iff_ne]; exact hbad
  clear hl hn hbad b2
  go_enter Tryd.func15, Tryd.ntmps15
  go_wp2_with fail
  refine hk.mono ?_
  rintro en w1 ⟨rfl, hb⟩
  have HB := Lib.hid hb
  clear hb
  go_wp2
  go_ret3
  exact ⟨_, rfl, .ofNil _ _, HB.out⟩

set_option maxRecDepth 100000 in
set_option maxHeartbeats 1000000 in
theorem next_good (ad : Option Addr) (n cap : Nat) (xs : List UInt8) (at_ : Int) (w : World) (hl : Lie w ad xs) (hn : n = xs.length) (hs : xs.length ≤ 1000000) (hc : n ≤ cap) (hcm : cap ≤ maxLen) (had : ad = none → cap = 0) (hm : Mag w) (hok : (chk xs at_).2 = 0) :
    Calls Tryd.prog 15 #[.slice ad n cap, .int .i64 at_] w (NxP w xs at_) := by
  have hk := chk_any ad n cap xs at_ w hl hn hs hc hcm had hm
  obtain ⟨a, rfl, h1, h2, h3, h4, h5⟩ := chk_ok hok
  unfold NxP
  rw [h3] at hk ⊢
  rcases hl.at_ with h0 | ⟨b, off, rfl, hb, hcell⟩
  · subst h0; simp at h1
  have hl2 := (hl.drop (a + 10)).take (hd (xs.drop a)).1
  rw [← h4] at hl2
  generalize bodyAt xs a = body at *
  generalize hN : (hd (xs.drop a)).1 = N at *
  have HL2 := Lib.hid hl2
  have H5 := Lib.hid h5
  have hbl : body.length ≤ 1000000 := by omega
  have hfit : a + N + 10 ≤ n := by omega
  have hcast : ((a + N + 10 : Nat) : Int) = (a : Int) + N + 10 := by omega
  rw [hcast] at hk ⊢
  have H0 : N = 0 → ∀ ad W, Lie W ad body := fun h ad W => by
    have : body = [] := List.eq_nil_of_length_eq_zero (by rw [h5]; exact h)
    rw [this]; exact .nil _ _
  have HH0 := Lib.hid H0
  dsimp only at hk
  clear hcell hl hl2 h4 h5 h1 h2 h3 hok hcast hN H0 had
  unfold maxLen at hcm
  have hn2 : n ≤ 1000000 := by omega
  clear hn hs
  by_cases hca : cap = a + 10
  · subst hca
    obtain rfl : N = 0 := by omega
    go_enter Tryd.func15, Tryd.ntmps15
    go_wp2_with fail
    refine hk.mono ?_
    rintro en w1 ⟨rfl, hb1⟩
    have HB := Lib.hid hb1
    clear hb1
    go_wp2_with fail
    refine (clone_any _ _ _ body _ (by first | exact HH0.out rfl _ _ | exact HH0.out trivial _ _) (by have := H5.out; omega) (by omega)).mono ?_
    rintro en w2 ⟨v, rfl, ho, hb2⟩
    have HO := Lib.hid ho
    have HB2 := Lib.hid hb2
    clear ho hb2
    go_wp2
    go_ret3
    exact ⟨v, by simp, HO.out.mono HB.out.size, HB.out.trans (HB2.out.mono HB.out.size)⟩
  · go_enter Tryd.func15, Tryd.ntmps15
    go_wp2_with fail
    refine hk.mono ?_
    rintro en w1 ⟨rfl, hb1⟩
    have HB := Lib.hid hb1
    clear hb1
    go_wp2_with fail
    refine (clone_any _ _ _ body _ ?_ (by have := H5.out; omega) (by omega)).mono ?_
    · exact HL2.out.below HB.out rfl
    rintro en w2 ⟨v, rfl, ho, hb2⟩
    have HO := Lib.hid ho
    have HB2 := Lib.hid hb2
    clear ho hb2
    go_wp2
    go_ret3
    exact ⟨v, rfl, HO.out.mono HB.out.size, HB.out.trans (HB2.out.mono HB.out.size)⟩
theorem next_any (ad : Option Addr) (n cap : Nat) (xs : List UInt8) (at_ : Int) (w : World) (hl : Lie w ad xs) (hn : n = xs.length) (hs : xs.length ≤ 1000000) (hc : n ≤ cap) (hcm : cap ≤ maxLen) (had : ad = none → cap = 0) (hm : Mag w) :
    Calls Tryd.prog 15 #[.slice ad n cap, .int .i64 at_] w (NxP w xs at_) := by
  by_cases h : (chk xs at_).2 = 0
  · exact next_good ad n cap xs at_ w hl hn hs hc hcm had hm h
  · exact next_bad ad n cap xs at_ w hl hn hs hc hcm had hm h
end Go.Proofs.YtbbdkghkdmaolaaDoor
