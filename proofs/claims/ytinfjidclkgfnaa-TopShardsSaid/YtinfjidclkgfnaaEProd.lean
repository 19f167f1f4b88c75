/-
  Rows times shards; the factors of the parity shards; the parity shards, by the program.
-/
import Derived.Test.YtinfjidclkgfnaaEComb
import Derived.Test.YtinfjidclkgfnaaEVal
import Derived.Test.YtinfjidclkgfnaaHCau
namespace Go.Proofs.Ytinfjidclkgfnaa
open Go.RowKit
attribute [local irreducible] combL prodL cauL
set_option maxRecDepth 100000 in
set_option maxHeartbeats 1000000 in
theorem products_q (rd ad : Option Addr) (m n rc cap : Nat) (rs ls : List (List UInt8)) (w : World) (hr : Lr w rd rs) (hm : m = rs.length) (hmm : m ≤ 1000) (hl : Lr w ad ls) (hn : n = ls.length) (hn2 : n ≤ 1000) (hp : 0 < n) (hs : ∀ i (h : i < ls.length), (ls[i]).length = cols ls) (hL : cols ls ≤ 1000) (hrow : ∀ i (h : i < rs.length), (rs[i]).length = n) :
    Calls Try.prog 33 #[.slice rd m rc, .slice ad n cap] w (GivesQ w (prodL rs ls)) := by
  have HR := Lib.hid hr
  have HM := Lib.hid hm
  have HL := Lib.hid hl
  have HN := Lib.hid hn
  have HS := Lib.hid hs
  have HRW := Lib.hid hrow
  clear hr hm hl hn hs hrow
  go_enter Try.func33, Try.ntmps33
  go_wp2_with (at_make; refine wpList_make_outer rfl (.tmp 9) (.tmp 9) rfl _ _ m rfl rfl rfl rfl (by omega) ?_; intro g w1 ho1 hb1)
  have HO1 : Hid (Out w1 w.heap.size g m w1.heap.size (prodL (rs.take 0) ls)) := Lib.hid (by have h := ho1.take 0; rw [List.take_zero] at h ⊢; rw [show prodL [] ls = [] by unfold prodL; rfl]; exact h)
  have HB1 := Lib.hid hb1
  clear ho1 hb1
  go_loopg [13] m (fun gk vk wx => ∃ k : Nat, vk = .int .i64 k ∧ k + gk = m ∧ Hid (Out wx w.heap.size g m wx.heap.size (prodL (rs.take k) ls)) ∧ Hid (Below w.heap.size w wx))
  case atStart => exact ⟨0, rfl, by omega, HO1, HB1⟩
  case round =>
    obtain ⟨k, rfl, hk, hO, HB⟩ := hrel
    cases gk with
    | zero =>
      have hlt : ¬ (k : Int) < (m : Int) := by omega
      obtain rfl : k = m := by omega
      go_wp2
      go_ret
      refine ⟨_, rfl, ?_, HB.out⟩
      have h := hO.out
      rw [List.take_of_length_le (by have := HM.out; omega)] at h
      exact Lq.of_out h (by rw [prodL_length]; exact HM.out.symm)
    | succ gk0 =>
      have hlt : (k : Int) < (m : Int) := by omega
      have hkN : k < m := by omega
      have hkl : k < rs.length := by have := HM.out; omega
      obtain ⟨b, off, rfl, hbl, a1, c1, f1, l1, g1, m1, -⟩ := HR.out.row k hkl
      have f2 : wr.cell? ⟨b, off + k, none⟩ = some (.slice a1 (rs[k]).length c1) := (HB.out.cell (p := ⟨b, off + k, none⟩) hbl).trans f1
      have HL2 := Lib.hid (l1.below HB.out rfl)
      have HX := Lib.hid (prodL_take rs ls k hkl)
      have HLN := Lib.hid (HRW.out k hkl)
      rw [HRW.out k hkl] at f2 g1
      generalize rs[k] = row at HL2 HX HLN
      have HGL := Lib.hid hO.out.lt
      unfold maxLen at m1
      clear f1 l1 hkl
      go_wp2_with fail
      refine (combine_any a1 ad n n c1 cap row ls _ HL2.out HLN.out.symm (HL.out.below HB.out) HN.out hn2 hp HS.out hL (Nat.le_refl _) (by omega)).mono ?_
      rintro e w2 ⟨v2, rfl, ho2, hb2⟩
      have hO2 := hO.out.below hb2
      obtain ⟨u, hu⟩ := hO2.there k hkN
      have hz := hO2.frozen k
      have HO3 := Lib.hid (hO2.putLast k (by rw [prodL_length, List.length_take]; have := HM.out; omega) hkN v2 _ wr.heap.size ho2 HGL.out)
      have HB3 := Lib.hid ((HB.out.trans (hb2.mono HB.out.size)).setCell (p := ⟨g, k, none⟩) hO.out.base v2)
      rw [← HX.out] at HO3
      obtain ⟨ad', cap', rfl, -⟩ := ho2.slice
      clear ho2 hb2 hO2
      go_wp2
      go_roundg gk0
      case rel => exact ⟨k + 1, by go_num, by omega, by simpa using HO3, by simpa using HB3⟩
      case measure => omega
attribute [local irreducible] parL
set_option maxRecDepth 100000 in
set_option maxHeartbeats 1000000 in
theorem prows_any (k p : Nat) (w : World) (hk : 1 ≤ k) (hkp : k + p ≤ 64) : Calls Try.prog 34 #[.int .i64 k, .int .i64 p] w (GivesQ w (cauL p k)) := by
  go_enter Try.func34, Try.ntmps34
  go_wp2_with fail
  refine (cauchy_any p k w (by omega) (by omega) (by omega) (by omega)).mono ?_
  rintro e w2 ⟨hno, hyes⟩
  by_cases hp : p = 0
  · subst hp
    obtain ⟨rfl, rfl⟩ := hno (.inl (by omega))
    clear hno hyes
    go_wp2
    go_ret
    exact ⟨_, rfl, by rw [show cauL 0 k = [] by unfold cauL; rfl]; exact Lq.nil _ _ _, Below.refl _ _⟩
  · obtain ⟨g, rfl, ho, hb⟩ := hyes ⟨by omega, by omega, by omega⟩
    rw [Int.toNat_natCast, Int.toNat_natCast] at ho
    rw [Int.toNat_natCast]
    have HO := Lib.hid ho
    have HB := Lib.hid hb
    clear hno hyes ho hb
    go_wp2
    go_ret
    exact ⟨_, rfl, Lq.of_out HO.out (by rw [cauL_length]), HB.out⟩
/-- the error that Parity gives -/
def parE (ls : List (List UInt8)) (p : Int) : Int := if vc ls.length p = true then (if sameL ls = true then 0 else 8) else 7
/-- the parity shards, or none -/
def parR (ls : List (List UInt8)) (p : Int) : List (List UInt8) := if vc ls.length p = true then (if sameL ls = true then parL ls p.toNat else []) else []
/-- what Parity gives -/
def ParP (w : World) (ls : List (List UInt8)) (p : Int) (e : Ending) (w' : World) : Prop := ∃ v, e = .returned (.tuple #[v, .int .i64 (parE ls p)]) ∧ Lq w' w.heap.size w.heap.size v (parR ls p) ∧ Below w.heap.size w w'
theorem ParP.range {w w' : World} {ls : List (List UInt8)} {p : Int} (h : vc ls.length p = false) (hb : Below w.heap.size w w') : ParP w ls p (.returned (.tuple #[.slice none 0 0, .int .i64 7])) w' :=
  ⟨_, by unfold parE; rw [h]; rfl, by unfold parR; rw [h]; exact Lq.nil _ _ _, hb⟩
theorem ParP.inval {w w' : World} {ls : List (List UInt8)} {p : Int} (h : vc ls.length p = true) (h2 : sameL ls = false) (hb : Below w.heap.size w w') : ParP w ls p (.returned (.tuple #[.slice none 0 0, .int .i64 8])) w' :=
  ⟨_, by unfold parE; rw [h, h2]; rfl, by unfold parR; rw [h, h2]; exact Lq.nil _ _ _, hb⟩
theorem parE_ok {ls : List (List UInt8)} {p : Int} (h : vc ls.length p = true) (h2 : sameL ls = true) : parE ls p = 0 := by unfold parE; rw [h, h2]; rfl
theorem parR_ok {ls : List (List UInt8)} {p : Int} (h : vc ls.length p = true) (h2 : sameL ls = true) : parR ls p = parL ls p.toNat := by unfold parR; rw [h, h2]; rfl
theorem ParP.ok {w w' : World} {ls : List (List UInt8)} {p : Int} {v : Value} (h : vc ls.length p = true) (h2 : sameL ls = true) (ho : Lq w' w.heap.size w.heap.size v (parL ls p.toNat)) (hb : Below w.heap.size w w') : ParP w ls p (.returned (.tuple #[v, .int .i64 0])) w' :=
  ⟨v, by rw [parE_ok h h2], by rw [parR_ok h h2]; exact ho, hb⟩
theorem cols_le (ls : List (List UInt8)) (M : Nat) (h : ∀ r ∈ ls, r.length ≤ M) : cols ls ≤ M := by
  cases ls with
  | nil => exact Nat.zero_le _
  | cons r ls => exact h r (by simp)
set_option maxRecDepth 100000 in
set_option maxHeartbeats 1000000 in
theorem parity_any (ad : Option Addr) (n cap : Nat) (ls : List (List UInt8)) (p : Int) (w : World) (hl : Lr w ad ls) (hn : n = ls.length) (hm : n ≤ maxLen) (hrow : ∀ r ∈ ls, r.length ≤ 1000) :
    Calls Try.prog 11 #[.slice ad n cap, .int .i64 p] w (ParP w ls p) := by
  have HL := Lib.hid hl
  have HN := Lib.hid hn
  have HM := Lib.hid hm
  have HR := Lib.hid (cols_le ls 1000 hrow)
  unfold maxLen at hm
  clear hl hrow hn
  rcases hv : vc (n : Int) p with _ | _
  · go_enter Try.func11, Try.ntmps11
    go_wp2_with fail
    refine (counts_any (n : Int) p w (by omega) (by omega)).mono ?_
    rintro e w' ⟨rfl, rfl⟩
    rw [hv]
    rw [HN.out] at hv
    go_wp2
    go_ret2
    exact ParP.range hv (Below.refl _ _)
  have HV : Hid (vc (ls.length : Int) p = true) := Lib.hid (by rw [← HN.out]; exact hv)
  rcases hs : sameL ls with _ | _
  · go_enter Try.func11, Try.ntmps11
    go_wp2_with fail
    refine (counts_any (n : Int) p w (by omega) (by omega)).mono ?_
    rintro e w' ⟨rfl, rfl⟩
    rw [hv]
    go_wp2_with fail
    refine (same_any ad n cap ls w HL.out HN.out HM.out).mono ?_
    rintro e w' ⟨rfl, rfl⟩
    rw [hs]
    go_wp2
    go_ret2
    exact ParP.inval HV.out hs (Below.refl _ _)
  have HS := Lib.hid hs
  have hq := (vc_iff _ _).1 hv
  obtain ⟨q, rfl⟩ := Int.eq_ofNat_of_zero_le hq.2.1
  go_enter Try.func11, Try.ntmps11
  go_wp2_with fail
  refine (counts_any (n : Int) q w (by omega) (by omega)).mono ?_
  rintro e w' ⟨rfl, rfl⟩
  rw [hv]
  go_wp2_with fail
  refine (same_any ad n cap ls w HL.out HN.out HM.out).mono ?_
  rintro e w' ⟨rfl, rfl⟩
  rw [hs]
  have hn1 : 1 ≤ n := by omega
  have hn2 : n + q ≤ 16 := by omega
  clear hv hs hq
  go_wp2_with fail
  refine (prows_any n q w hn1 (by omega)).mono ?_
  rintro e w2 ⟨v2, rfl, ho2, hb2⟩
  obtain ⟨ad2, cap2, rfl, hl2, -⟩ := ho2.read
  rw [cauL_length]
  have HL2 := Lib.hid hl2
  have HB2 := Lib.hid hb2
  clear ho2 hl2 hb2
  go_wp2_with fail
  refine (products_q ad2 ad q n cap2 cap (cauL q n) ls _ HL2.out (by rw [cauL_length]) (by omega) (HL.out.below HB2.out) HN.out (by omega) (by omega) (fun i hi => sameL_len HS.out i hi) HR.out (fun i hi => cauL_row q n _ (List.getElem_mem hi))).mono ?_
  rintro e w3 ⟨v3, rfl, ho3, hb3⟩
  have HO3 : Hid (Lq w3 w.heap.size w.heap.size v3 (parL ls ((q : Int).toNat))) := Lib.hid (by
    rw [Int.toNat_natCast]
    have h := ho3.mono HB2.out.size HB2.out.size
    unfold parL
    rw [← HN.out]
    exact h)
  have HB3 := Lib.hid (HB2.out.trans (hb3.mono HB2.out.size))
  clear ho3 hb3
  go_wp2
  go_ret2
  exact ParP.ok HV.out HS.out HO3.out HB3.out
end Go.Proofs.Ytinfjidclkgfnaa
