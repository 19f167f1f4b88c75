/-
  What begins at an offset, and the body there: the program's check and Next.
  The document's own functions: a number of four bytes, a checksum in four bytes, what begins at an offset.
  What begins at an offset: the document's own function.
  What begins at an offset: the document's own function where a whole frame fits.
-/
import Derived.Test.YtjiijjdmkeeilaaDoorCAH
import Derived.LoopN
namespace Go.Proofs.YtjiijjdmkeeilaaDoor
open Go.RowKit
set_option linter.unusedVariables false

theorem u8_of_toNat {x : UInt8} {n : Nat} (h : x.toNat = n) : x = UInt8.ofNat n := by rw [← h]; simp
theorem take2_iff (r : List UInt8) (x0 x1 : UInt8) (s : List UInt8) (h : r = x0 :: x1 :: s) : r.take 2 = [167, 60] ↔ x0.toNat = 167 ∧ x1.toNat = 60 := by
  subst h
  simp only [List.take_succ_cons, List.take_zero, List.cons.injEq, and_true]
  constructor
  · rintro ⟨rfl, rfl⟩; exact ⟨rfl, rfl⟩
  · rintro ⟨h0, h1⟩; exact ⟨u8_of_toNat h0, u8_of_toNat h1⟩

theorem two_of (r : List UInt8) (h : 2 ≤ r.length) : ∃ x0 x1 s, r = x0 :: x1 :: s := by
  match r, h with
  | x0 :: x1 :: s, _ => exact ⟨x0, x1, s, rfl⟩

theorem chk_any (ad : Option Addr) (n cap : Nat) (xs : List UInt8) (at_ : Int) (w : World) (hl : Lie w ad xs) (hn : n = xs.length) (hs : xs.length ≤ 1000000) (hc : n ≤ cap) (hcm : cap ≤ maxLen) (had : ad = none → cap = 0) (hm : Mag w) :
    Calls Tryd.prog 82 #[.slice ad n cap, .int .i64 at_] w (ChkP w (chk xs at_).1 (chk xs at_).2) := by
  by_cases ho : at_ < 0 ∨ xs.length < at_
  · rw [chk_out xs at_ ho]
    exact chk_range ad n cap at_ w (by omega) (by omega)
  obtain ⟨a, rfl⟩ : ∃ a : Nat, at_ = a := ⟨at_.toNat, by omega⟩
  have ha : a ≤ n := by omega
  by_cases h10 : n < a + 10
  · have e : chk xs a = (0, 2) := by
      rw [chk_nat xs a (by omega)]
      have : hd (xs.drop a) = (0, 2) := by unfold hd; rw [if_pos (by rw [List.length_drop]; omega)]
      rw [this]; rfl
    rw [e]
    exact chk_short ad n cap a w ha h10 (by omega) hc hcm had
  rcases hl.at_ with h0 | ⟨b, off, rfl, hb, hcell⟩
  · subst h0; simp at hn; omega
  rw [chk_nat xs a (by omega)]
  have hlr := hl.drop a
  have hrl : (xs.drop a).length = n - a := by rw [List.length_drop]; omega
  generalize hr : xs.drop a = r at *
  clear hcell hl
  have hr10 : ¬ r.length < 10 := by omega
  obtain ⟨x0, x1, r2, rfl⟩ := two_of r (by omega)
  · skip
    have h2 := take2_iff (x0 :: x1 :: r2) x0 x1 r2 rfl
    have hlr' := hlr
    rcases hlr'.at_ with h0 | ⟨b', off', h0, _, hcell⟩
    · cases h0
    cases h0
    have c0 := hcell 0 (by simp)
    have c1 := hcell 1 (by simp)
    simp only [List.getElem_cons_zero, List.getElem_cons_succ, Nat.add_zero] at c0 c1
    clear hcell
    generalize hR : x0 :: x1 :: r2 = R at *
    by_cases hmg : x0.toNat = 167 ∧ x1.toNat = 60
    · rw [hmg.1] at c0
      rw [hmg.2] at c1
      have l2 := hlr.drop 2
      have l24 := l2.take 4
      have e24 : ((R.drop 2).take 4).length = 4 := by rw [List.length_take, List.length_drop]; omega
      have hnum : num4 ((R.drop 2).take 4) = num4 (R.drop 2) := num4_take _
      by_cases hbig : 65536 < num4 (R.drop 2)
      · have e : hd R = (0, 6) := by unfold hd; rw [if_neg (by omega), if_neg (fun h => h (h2.2 hmg)), if_pos hbig]
        rw [e]
        exact chk_long b off n cap a _ _ w hm (by omega) hc hcm (by omega) c0 c1 l24 e24 hnum hbig
      · by_cases hcut : R.length < num4 (R.drop 2) + 10
        · have e : hd R = (0, 2) := by unfold hd; rw [if_neg (by omega), if_neg (fun h => h (h2.2 hmg)), if_neg hbig, if_pos hcut]
          rw [e]
          exact chk_cut b off n cap a _ _ w hm (by omega) hc hcm (by omega) c0 c1 l24 e24 hnum (by omega) (by omega)
        · have e : hd R = if num4 (R.drop 6) ≠ crc ((R.drop 2).take 4 ++ (R.drop 10).take (num4 (R.drop 2))) then (0, 4) else (num4 (R.drop 2), 0) := by
            unfold hd; rw [if_neg (by omega), if_neg (fun h => h (h2.2 hmg)), if_neg hbig, if_neg hcut]
          have h := chk_sum b off n cap a _ _ w hm (by omega) hc hcm (by omega) c0 c1 l24 e24 hnum (by omega) (by omega) (R.drop 6) (hlr.drop 6) (by rw [List.length_drop]; omega)
            ((R.drop 10).take (num4 (R.drop 2))) ((hlr.drop 10).take _) (by rw [List.length_take, List.length_drop]; omega) _ _ rfl rfl
          refine h.mono ?_
          intro en w' hh
          unfold ChkQ at hh
          by_cases hxy : num4 (R.drop 6) = crc ((R.drop 2).take 4 ++ (R.drop 10).take (num4 (R.drop 2)))
          · rw [if_pos hxy, if_pos hxy] at hh
            rw [if_neg (fun h => h hxy)] at e
            rw [e]
            exact hh
          · rw [if_neg hxy, if_neg hxy] at hh
            rw [if_pos hxy] at e
            rw [e]
            exact hh
    · have e : hd R = (0, 1) := by unfold hd; rw [if_neg (by omega), if_pos (fun h => hmg (h2.1 h))]
      rw [e]
      exact chk_magic b off n cap a _ _ w hm (by omega) hc hcm (by omega) c0 c1 hmg

/-- What Next answers. -/
def NxP (w : World) (xs : List UInt8) (at_ : Int) (e : Ending) (w' : World) : Prop :=
  ∃ v, e = .returned (.tuple #[v, .int .i64 (chk xs at_).1, .int .i64 (chk xs at_).2]) ∧ Own w' w.heap.size v (bodyAt xs at_) ∧ Below w.heap.size w w'

set_option maxRecDepth 100000 in
set_option maxHeartbeats 600000 in
theorem next_bad (ad : Option Addr) (n cap : Nat) (xs : List UInt8) (at_ : Int) (w : World) (hl : Lie w ad xs) (hn : n = xs.length) (hs : xs.length ≤ 1000000) (hc : n ≤ cap) (hcm : cap ≤ maxLen) (had : ad = none → cap = 0) (hm : Mag w) (hbad : (chk xs at_).2 ≠ 0) :
    Calls Tryd.prog 57 #[.slice ad n cap, .int .i64 at_] w (NxP w xs at_) := by
  have hk := chk_any ad n cap xs at_ w hl hn hs hc hcm had hm
  obtain ⟨b1, b2⟩ := chk_bad hbad
  unfold NxP
  rw [b2]
  generalize (chk xs at_).1 = x at *
  generalize (chk xs at_).2 = e at *
  subst b1
  have hd1 : (e != 0) = true := by rw [bne_iff_ne]; exact hbad
  clear hl hn hbad b2
  go_enter Tryd.func57, Tryd.ntmps57
  go_wp2_with fail
  refine hk.mono ?_
  rintro en w1 ⟨rfl, hb⟩
  have HB := Lib.hid hb
  clear hb
  go_wp2
  go_ret3
  exact ⟨_, rfl, .ofNil _ _, HB.out⟩

set_option maxRecDepth 100000 in
set_option maxHeartbeats 1000000 in
theorem next_good (ad : Option Addr) (n cap : Nat) (xs : List UInt8) (at_ : Int) (w : World) (hl : Lie w ad xs) (hn : n = xs.length) (hs : xs.length ≤ 1000000) (hc : n ≤ cap) (hcm : cap ≤ maxLen) (had : ad = none → cap = 0) (hm : Mag w) (hok : (chk xs at_).2 = 0) :
    Calls Tryd.prog 57 #[.slice ad n cap, .int .i64 at_] w (NxP w xs at_) := by
  have hk := chk_any ad n cap xs at_ w hl hn hs hc hcm had hm
  obtain ⟨a, rfl, h1, h2, h3, h4, h5⟩ := chk_ok hok
  unfold NxP
  rw [h3] at hk ⊢
  rcases hl.at_ with h0 | ⟨b, off, rfl, hb, hcell⟩
  · subst h0; simp at h1
  have hl2 := (hl.drop (a + 10)).take (hd (xs.drop a)).1
  rw [← h4] at hl2
  generalize bodyAt xs a = body at *
  generalize hN : (hd (xs.drop a)).1 = N at *
  have HL2 := Lib.hid hl2
  have H5 := Lib.hid h5
  have hbl : body.length ≤ 1000000 := by omega
  have hfit : a + N + 10 ≤ n := by omega
  have hcast : ((a + N + 10 : Nat) : Int) = (a : Int) + N + 10 := by omega
  rw [hcast] at hk ⊢
  have H0 : N = 0 → ∀ ad W, Lie W ad body := fun h ad W => by
    have : body = [] := List.eq_nil_of_length_eq_zero (by rw [h5]; exact h)
    rw [this]; exact .nil _ _
  have HH0 := Lib.hid H0
  dsimp only at hk
  clear hcell hl hl2 h4 h5 h1 h2 h3 hok hcast hN H0 had
  unfold maxLen at hcm
  have hn2 : n ≤ 1000000 := by omega
  clear hn hs
  by_cases hca : cap = a + 10
  · subst hca
    obtain rfl : N = 0 := by omega
    go_enter Tryd.func57, Tryd.ntmps57
    go_wp2_with fail
    refine hk.mono ?_
    rintro en w1 ⟨rfl, hb1⟩
    have HB := Lib.hid hb1
    clear hb1
    go_wp2_with fail
    refine (clone_any _ _ _ body _ (by first | exact HH0.out rfl _ _ | exact HH0.out trivial _ _) (by have := H5.out; omega) (by omega)).mono ?_
    rintro en w2 ⟨v, rfl, ho, hb2⟩
    have HO := Lib.hid ho
    have HB2 := Lib.hid hb2
    clear ho hb2
    go_wp2
    go_ret3
    exact ⟨v, by simp, HO.out.mono HB.out.size, HB.out.trans (HB2.out.mono HB.out.size)⟩
  · go_enter Tryd.func57, Tryd.ntmps57
    go_wp2_with fail
    refine hk.mono ?_
    rintro en w1 ⟨rfl, hb1⟩
    have HB := Lib.hid hb1
    clear hb1
    go_wp2_with fail
    refine (clone_any _ _ _ body _ ?_ (by have := H5.out; omega) (by omega)).mono ?_
    · exact HL2.out.below HB.out rfl
    rintro en w2 ⟨v, rfl, ho, hb2⟩
    have HO := Lib.hid ho
    have HB2 := Lib.hid hb2
    clear ho hb2
    go_wp2
    go_ret3
    exact ⟨v, rfl, HO.out.mono HB.out.size, HB.out.trans (HB2.out.mono HB.out.size)⟩
theorem next_any (ad : Option Addr) (n cap : Nat) (xs : List UInt8) (at_ : Int) (w : World) (hl : Lie w ad xs) (hn : n = xs.length) (hs : xs.length ≤ 1000000) (hc : n ≤ cap) (hcm : cap ≤ maxLen) (had : ad = none → cap = 0) (hm : Mag w) :
    Calls Tryd.prog 57 #[.slice ad n cap, .int .i64 at_] w (NxP w xs at_) := by
  by_cases h : (chk xs at_).2 = 0
  · exact next_good ad n cap xs at_ w hl hn hs hc hcm had hm h
  · exact next_bad ad n cap xs at_ w hl hn hs hc hcm had hm h
end Go.Proofs.YtjiijjdmkeeilaaDoor
namespace Go.Proofs.YtjiijjdmkeeilaaDoor
open Go.RowKit
set_option linter.unusedVariables false

set_option maxRecDepth 100000 in
set_option maxHeartbeats 1000000 in
theorem rnum_any (b off n cap : Nat) (xs : List UInt8) (w : World) (hl : Lie w (some ⟨b, off, none⟩) xs) (hn : n = xs.length) (h4 : 4 ≤ xs.length) (hm : xs.length ≤ 10000000) :
    Calls Tryd.prog 87 #[.slice (some ⟨b, off, none⟩) n cap] w fun e w' => e = .returned (.int .i64 (num4 xs : Int)) ∧ w = w' := by
  rcases hl.at_ with rfl | ⟨b', off', h0, hb, hc⟩
  · simp at h4
  cases h0
  match xs, h4 with
  | x0 :: x1 :: x2 :: x3 :: r, _ =>
    have c0 := hc 0 (by simp)
    have c1 := hc 1 (by simp)
    have c2 := hc 2 (by simp)
    have c3 := hc 3 (by simp)
    simp only [List.getElem_cons_zero, List.getElem_cons_succ, Nat.add_zero] at c0 c1 c2 c3
    have b0 := x0.toNat_lt
    have b1 := x1.toNat_lt
    have b2 := x2.toNat_lt
    have b3 := x3.toNat_lt
    simp only [num4]
    generalize x0.toNat = v0 at *
    generalize x1.toNat = v1 at *
    generalize x2.toNat = v2 at *
    generalize x3.toNat = v3 at *
    have hn4 : 4 ≤ n := by simp at hn; omega
    have hnm : n ≤ 10000000 := by omega
    clear hc hl hn hm
    simp only [Nat.reducePow] at b0 b1 b2 b3
    go_enter Tryd.func87, Tryd.ntmps87
    go_wp2
    refine wp_loop_rounds 5 ?_
    rw [rounds_succ]
    go_wp2
    rw [rounds_succ]
    go_wp2
    rw [rounds_succ]
    go_wp2
    rw [rounds_succ]
    go_wp2
    rw [rounds_succ]
    go_wp2
    go_ret
    exact ⟨ret_i64 (by omega), rfl⟩

set_option maxRecDepth 100000 in
set_option maxHeartbeats 600000 in
theorem rfsum_any (ad : Option Addr) (n cap : Nat) (xs : List UInt8) (w : World) (hl : Lie w ad xs) (hn : n = xs.length) (hm : xs.length ≤ 1000000) (had : ad = none → cap = 0) :
    Calls Tryd.prog 88 #[.slice ad n cap] w fun e w' => ∃ g, e = .returned (.slice (some ⟨g, 0, none⟩) 4 4) ∧ Lie w' (some ⟨g, 0, none⟩) (be4 (crc (be4 xs.length ++ xs))) ∧ Below w.heap.size w w' := by
  have HN := Lib.hid hn
  have hnm : n ≤ 1000000 := by omega
  have hl0 : (be4 n).length = 4 := rfl
  have hbl : (be4 n ++ xs).length ≤ 10000000 := by rw [List.length_append, hl0]; omega
  have hcl := crc_lt (be4 n ++ xs)
  rw [← hn]
  generalize hC : crc (be4 n ++ xs) = C at *
  have HC := Lib.hid hC
  have HL0 := Lib.hid hl0
  clear hn hC hl0
  go_enter Tryd.func88, Tryd.ntmps88
  go_wp2_with fail
  refine (four_any n _ (by omega)).mono ?_
  rintro e w1 ⟨rfl, hl1, ho1, hb1⟩
  have HO1 := Lib.hid ho1
  have HB1 := Lib.hid hb1
  have HL := Lib.hid (hl.below hb1 rfl)
  have hsz := hb1.size
  have HSZ := Lib.hid hsz
  clear hl1 ho1 hb1 hl hsz
  go_wp2_with (at_builtin; refine wpList_append_u rfl (.tmp 7) (.tmp 8) rfl w.heap.size _ (be4 n) rfl HO1.out _ n cap xs had HL.out HN.out rfl (by rw [HL0.out]; omega) HSZ.out ?_; intro v2 w2 hown2 hgrow2)
  have HB2 := Lib.hid (HB1.out.trans (below_app HO1.out HSZ.out hgrow2))
  obtain ⟨ad2, cap2, rfl, hl2, hc2, hm2, ha2⟩ := hown2.slice
  have HL2 := Lib.hid hl2
  have HLEN : Hid ((be4 n ++ xs).length = n + 4) := Lib.hid (by rw [List.length_append, HL0.out, HN.out]; omega)
  clear hl2 hown2 hgrow2 ha2
  rw [HLEN.out] at hc2 ⊢
  go_wp2_with fail
  refine (rcsum_any ad2 _ cap2 (be4 n ++ xs) _ HL2.out HLEN.out.symm hbl).mono ?_
  rintro e w3 ⟨rfl, rfl⟩
  rw [HC.out]
  go_wp2_with fail
  refine (four_any C _ hcl).mono ?_
  rintro e w4 ⟨rfl, hl4, ho4, hb4⟩
  have HL4 := Lib.hid hl4
  have HB4 := Lib.hid hb4
  clear hl4 ho4 hb4
  go_wp2
  go_ret
  exact ⟨_, rfl, HL4.out, HB2.out.trans (HB4.out.mono HB2.out.size)⟩
end Go.Proofs.YtjiijjdmkeeilaaDoor
namespace Go.Proofs.YtjiijjdmkeeilaaDoor
open Go.RowKit
set_option linter.unusedVariables false

/-- What the document's Next answers. -/
def NrP (w : World) (l : List UInt8) (x e : Int) (en : Ending) (w' : World) : Prop :=
  ∃ v, en = .returned (.tuple #[v, .int .i64 x, .int .i64 e]) ∧ Own w' w.heap.size v l ∧ Below w.heap.size w w'

set_option maxRecDepth 100000 in
set_option maxHeartbeats 400000 in
theorem rn_range (ad : Option Addr) (n cap : Nat) (at_ : Int) (w : World) (h : at_ < 0 ∨ n < at_) (hn : n ≤ 10000000) :
    Calls Tryd.prog 62 #[.slice ad n cap, .int .i64 at_] w (NrP w [] 0 7) := by
  rcases (show at_ < 0 ∨ (0 ≤ at_ ∧ n < at_) by omega) with h1 | ⟨h1, h2⟩
  all_goals
    clear h
    go_enter Tryd.func62, Tryd.ntmps62
    go_wp2
    go_ret3
    exact ⟨_, rfl, .ofNil _ _, .refl _ _⟩
set_option maxRecDepth 100000 in
set_option maxHeartbeats 400000 in
theorem rn_short (ad : Option Addr) (n cap a : Nat) (w : World) (h1 : a ≤ n) (h2 : n < a + 10) (hn : n ≤ 10000000) (hc : n ≤ cap) (hcm : cap ≤ maxLen) (had : ad = none → cap = 0) :
    Calls Tryd.prog 62 #[.slice ad n cap, .int .i64 a] w (NrP w [] 0 2) := by
  have h3 : n - a < 10 := by omega
  unfold maxLen at hcm
  cases ad with
  | none =>
    obtain rfl := had rfl
    obtain rfl : n = 0 := by omega
    obtain rfl : a = 0 := by omega
    go_enter Tryd.func62, Tryd.ntmps62
    go_wp2
    go_ret3
    exact ⟨_, rfl, .ofNil _ _, .refl _ _⟩
  | some x =>
    clear had
    by_cases hca : cap = a
    · subst hca
      obtain rfl : n = cap := by omega
      clear h1 h2 hc
      go_enter Tryd.func62, Tryd.ntmps62
      go_wp2
      go_ret3
      exact ⟨_, rfl, .ofNil _ _, .refl _ _⟩
    · go_enter Tryd.func62, Tryd.ntmps62
      go_wp2
      go_ret3
      exact ⟨_, rfl, .ofNil _ _, .refl _ _⟩
set_option maxRecDepth 100000 in
set_option maxHeartbeats 1000000 in
theorem rn_magic (b off n cap a : Nat) (x0 x1 : Nat) (w : World) (h10 : a + 10 ≤ n) (hnc : n ≤ cap) (hcm : cap ≤ maxLen) (hn : n ≤ 10000000)
   (hc0 : w.cell? ⟨b, off + a, none⟩ = some (.int .u8 x0)) (hc1 : w.cell? ⟨b, off + a + 1, none⟩ = some (.int .u8 x1)) (hx : ¬ (x0 = 167 ∧ x1 = 60)) :
    Calls Tryd.prog 62 #[.slice (some ⟨b, off, none⟩) n cap, .int .i64 a] w (NrP w [] 0 1) := by
  unfold maxLen at hcm
  have h3 : 10 ≤ n - a := by omega
  have h4 : ¬ n < a := by omega
  by_cases hx0 : x0 = 167
  · subst hx0
    have hd1 : ((x1 : Int) != 60) = true := by rw [bne_iff_ne]; omega
    clear hx
    go_enter Tryd.func62, Tryd.ntmps62
    go_wp2
    go_ret3
    exact ⟨_, rfl, .ofNil _ _, .refl _ _⟩
  · have hd1 : ((x0 : Int) != 167) = true := by rw [bne_iff_ne]; omega
    clear hx hx0
    go_enter Tryd.func62, Tryd.ntmps62
    go_wp2
    go_ret3
    exact ⟨_, rfl, .ofNil _ _, .refl _ _⟩
set_option maxRecDepth 100000 in
set_option maxHeartbeats 1000000 in
theorem rn_long (b off n cap a N : Nat) (r : List UInt8) (w : World) (h10 : a + 10 ≤ n) (hnc : n ≤ cap) (hcm : cap ≤ maxLen) (hn : n ≤ 10000000)
   (hc0 : w.cell? ⟨b, off + a, none⟩ = some (.int .u8 167)) (hc1 : w.cell? ⟨b, off + a + 1, none⟩ = some (.int .u8 60)) (hl : Lie w (some ⟨b, off + a + 2, none⟩) r) (hr : r.length = n - a - 2) (hN : num4 r = N) (hbig : 65536 < N) :
    Calls Tryd.prog 62 #[.slice (some ⟨b, off, none⟩) n cap, .int .i64 a] w (NrP w [] 0 6) := by
  have hNl := num4_lt r
  rw [hN] at hNl
  have HN := Lib.hid hN
  have HR := Lib.hid hr
  clear hN hr
  unfold maxLen at hcm
  have h3 : 10 ≤ n - a := by omega
  have h4 : ¬ n < a := by omega
  go_enter Tryd.func62, Tryd.ntmps62
  go_wp2_with fail
  refine (rnum_any _ _ _ _ r _ hl HR.out.symm (by rw [HR.out]; omega) (by rw [HR.out]; omega)).mono ?_
  rintro e w' ⟨rfl, rfl⟩
  rw [HN.out]
  go_wp2
  go_ret3
  exact ⟨_, rfl, .ofNil _ _, .refl _ _⟩
set_option maxRecDepth 100000 in
set_option maxHeartbeats 1000000 in
theorem rn_cut (b off n cap a N : Nat) (r : List UInt8) (w : World) (h10 : a + 10 ≤ n) (hnc : n ≤ cap) (hcm : cap ≤ maxLen) (hn : n ≤ 10000000)
   (hc0 : w.cell? ⟨b, off + a, none⟩ = some (.int .u8 167)) (hc1 : w.cell? ⟨b, off + a + 1, none⟩ = some (.int .u8 60)) (hl : Lie w (some ⟨b, off + a + 2, none⟩) r) (hr : r.length = n - a - 2) (hN : num4 r = N) (hbig : N ≤ 65536) (hcut : n < a + N + 10) :
    Calls Tryd.prog 62 #[.slice (some ⟨b, off, none⟩) n cap, .int .i64 a] w (NrP w [] 0 2) := by
  have HN := Lib.hid hN
  have HR := Lib.hid hr
  clear hN hr
  unfold maxLen at hcm
  have h3 : 10 ≤ n - a := by omega
  have h4 : ¬ n < a := by omega
  go_enter Tryd.func62, Tryd.ntmps62
  go_wp2_with fail
  refine (rnum_any _ _ _ _ r _ hl HR.out.symm (by rw [HR.out]; omega) (by rw [HR.out]; omega)).mono ?_
  rintro e w' ⟨rfl, rfl⟩
  rw [HN.out]
  have h5 : n - a < N + 10 := by omega
  go_wp2
  go_ret3
  exact ⟨_, rfl, .ofNil _ _, .refl _ _⟩
end Go.Proofs.YtjiijjdmkeeilaaDoor
namespace Go.Proofs.YtjiijjdmkeeilaaDoor
open Go.RowKit
set_option linter.unusedVariables false

theorem tup3 {v u : Value} {a b c d : Int} (h0 : v = u) (h : a = c) (h' : b = d) : Value.tuple #[v, .int .i64 a, .int .i64 b] = .tuple #[u, .int .i64 c, .int .i64 d] := by rw [h0, h, h']
/-- What the document's Next answers where a whole frame fits. -/
def NrQ (w : World) (body : List UInt8) (a : Nat) (yes : Bool) (en : Ending) (w' : World) : Prop :=
  if yes then NrP w body ((a : Int) + body.length + 10) 0 en w' else NrP w [] 0 4 en w'

set_option maxRecDepth 100000 in
set_option maxHeartbeats 1000000 in
theorem rn_far (b off n cap a N : Nat) (r : List UInt8) (w : World) (h10 : a + 10 ≤ n) (hnc : n ≤ cap) (hcm : cap ≤ maxLen) (hn : n ≤ 1000000)
   (hc0 : w.cell? ⟨b, off + a, none⟩ = some (.int .u8 167)) (hc1 : w.cell? ⟨b, off + a + 1, none⟩ = some (.int .u8 60)) (hl : Lie w (some ⟨b, off + a + 2, none⟩) r) (hr : r.length = n - a - 2) (hN : num4 r = N) (hbig : N ≤ 65536) (hfit : a + N + 10 ≤ n)
   (hca : cap - a ≠ 10) (body : List UInt8) (l10 : Lie w (some ⟨b, off + a + 10, none⟩) body) (hbody : body.length = N) (s6 : List UInt8) (l6 : Lie w (some ⟨b, off + a + 6, none⟩) s6) (h6 : s6.length = 4) (yes : Bool) (hyes : (be4 (crc (be4 N ++ body)) = s6) = (yes = true)) :
    Calls Tryd.prog 62 #[.slice (some ⟨b, off, none⟩) n cap, .int .i64 a] w (NrQ w body a yes) := by
  have HN := Lib.hid hN
  have HR := Lib.hid hr
  have HBO := Lib.hid hbody
  have HL10 := Lib.hid l10
  have HL6 := Lib.hid l6
  have H6 := Lib.hid h6
  have HY := Lib.hid hyes
  clear hN hr hbody l10 l6 h6 hyes
  unfold maxLen at hcm
  have h3 : 10 ≤ n - a := by omega
  have h4 : ¬ n < a := by omega
  go_enter Tryd.func62, Tryd.ntmps62
  go_wp2_with fail
  refine (rnum_any _ _ _ _ r _ hl HR.out.symm (by rw [HR.out]; omega) (by rw [HR.out]; omega)).mono ?_
  rintro e w' ⟨rfl, rfl⟩
  rw [HN.out]
  have h5 : ¬ n - a < N + 10 := by omega
  go_wp2_with (at_builtin; refine wpList_append_u rfl (.tmp 44) (.tmp 48) rfl w.heap.size _ [] rfl (Own.ofNil _ _) (some ⟨b, off + a + 10, none⟩) _ _ body (fun h => by cases h) HL10.out (by have := HBO.out; omega) rfl (by simp; omega) (Nat.le_refl _) ?_; intro v2 w2 hown2 hgrow2)
  rw [List.nil_append] at hown2
  have hb2 : Below w.heap.size w w2 := below_app (Own.ofNil _ _) (Nat.le_refl _) hgrow2
  obtain ⟨ad2, cap2, rfl, hl2, hlc2, hm2, ha2⟩ := hown2.slice
  have HO2 := Lib.hid hown2
  have HL2 := Lib.hid hl2
  have HB2 := Lib.hid hb2
  have HL6' := Lib.hid (HL6.out.below hb2 rfl)
  have HA2 := Lib.hid ha2
  clear hown2 hl2 hb2 hgrow2 ha2
  rw [HBO.out] at hlc2 ⊢
  obtain ⟨S2, hS2⟩ : ∃ S : ByteArray, (⟨s6.toArray⟩ : ByteArray) = S := ⟨_, rfl⟩
  obtain ⟨S1, hS1⟩ : ∃ S : ByteArray, (⟨(be4 (crc (be4 N ++ body))).toArray⟩ : ByteArray) = S := ⟨_, rfl⟩
  have HS1 := Lib.hid hS1
  have hcA : ∀ W (h : Lie W (some ⟨b, off + a + 6, none⟩) s6), (convert 26 9 (.slice (some ⟨b, off + a + 6, none⟩) 4 (cap - a - 6))).run Tryd.prog W = .ok (.string S2) W := fun W h => by
    have := conv_lie (cap - a - 6) h
    rw [H6.out, hS2] at this
    exact this
  have HCA := Lib.hid hcA
  have hcA1 := hcA w2.drew (HL6'.out.drew)
  have hcA2 := fun k => hcA (w2.drewN k) (HL6'.out.drewN k)
  have HSS : Hid ((S1 = S2) = (yes = true)) := Lib.hid (by
    rw [← HY.out, ← hS1, ← hS2]
    simp)
  clear hS1 hS2 hcA
  cases yes with
  | true =>
    have hss : S1 = S2 := by rw [HSS.out]
    subst hss
    clear HSS
    go_region_with ((go_at_call 88; refine (rfsum_any ad2 N cap2 body _ (by first | exact HL2.out.drew | exact HL2.out.drewN _) HBO.out.symm (by rw [HBO.out]; omega) HA2.out).mono ?_; rintro e w3 ⟨g, rfl, hl3, HB3⟩; have hcB : (convert 26 9 (.slice (some ⟨g, 0, none⟩) 4 4)).run Tryd.prog w3 = .ok (.string S1) w3 := (by rw [HBO.out] at hl3; rw [← HS1.out]; exact conv_lie 4 hl3); have hcC := HCA.out w3 (HL6'.out.drew.below HB3 rfl); clear hl3))
    all_goals
      go_wp2
      go_ret3
      have hb3' : Below w2.heap.size w2 w3 := ⟨HB3.os, HB3.tape, HB3.output, HB3.size, HB3.block⟩
      have hb3 : Below w.heap.size w w3 := HB2.out.trans (hb3'.mono HB2.out.size)
      refine ⟨.slice ad2 N cap2, ?_, by have h := HO2.out.below hb3'; rw [HBO.out] at h; exact h, hb3⟩
      exact congrArg Ending.returned (tup3 rfl (by rw [HBO.out]) rfl)
  | false =>
    have hss : S1 ≠ S2 := fun h => by rw [HSS.out] at h; cases h
    have hs2 : (S1.toList == S2.toList) = false := by
      rw [beq_eq_false_iff_ne]
      intro h
      rw [ByteArray.toList_eq, ByteArray.toList_eq] at h
      exact hss (Go.WideShapes.bytes_inj h)
    go_region_with ((go_at_call 88; refine (rfsum_any ad2 N cap2 body _ (by first | exact HL2.out.drew | exact HL2.out.drewN _) HBO.out.symm (by rw [HBO.out]; omega) HA2.out).mono ?_; rintro e w3 ⟨g, rfl, hl3, HB3⟩; have hcB : (convert 26 9 (.slice (some ⟨g, 0, none⟩) 4 4)).run Tryd.prog w3 = .ok (.string S1) w3 := (by rw [HBO.out] at hl3; rw [← HS1.out]; exact conv_lie 4 hl3); have hcC := HCA.out w3 (HL6'.out.drew.below HB3 rfl); clear hl3))
    all_goals
      go_wp2
      go_ret3
      have hb3' : Below w2.heap.size w2 w3 := ⟨HB3.os, HB3.tape, HB3.output, HB3.size, HB3.block⟩
      have hb3 : Below w.heap.size w w3 := HB2.out.trans (hb3'.mono HB2.out.size)
      exact ⟨_, rfl, .ofNil _ _, hb3⟩
end Go.Proofs.YtjiijjdmkeeilaaDoor
