/-
  The rows of all shards; the parity shards, by the specification.
-/
import Derived.Test.YtinfjidclkgfnaaERVal
import Derived.Test.YtinfjidclkgfnaaERTimes
import Derived.Test.YtinfjidclkgfnaaERIdent
import Derived.Test.YtinfjidclkgfnaaERCau
import Derived.Test.YtinfjidclkgfnaaEProd
namespace Go.Proofs.Ytinfjidclkgfnaa
open Go.RowKit
attribute [local irreducible] combL prodL cauL idL encL
set_option maxRecDepth 100000 in
set_option maxHeartbeats 1000000 in
theorem rrows_any (k p : Nat) (w : World) (hk : 1 ≤ k) (hkp : k + p ≤ 64) : Calls Try.prog 37 #[.int .i64 k, .int .i64 p] w (GivesQ w (encL k p)) := by
  have HEN : Hid (encL k p = idL k ++ cauL p k) := Lib.hid (by unfold encL; rfl)
  go_enter Try.func37, Try.ntmps37
  go_wp2_with fail
  refine (eident_any k w (by omega) (by omega)).mono ?_
  rintro e w1 ⟨-, hyes⟩
  obtain ⟨v1, rfl, ho1, hb1⟩ := hyes ⟨by omega, by omega⟩
  rw [Int.toNat_natCast] at ho1
  have HO1 := Lib.hid ho1
  have HB1 := Lib.hid hb1
  clear hyes ho1 hb1
  have hcau : Calls Try.prog 57 #[.int .i64 p, .int .i64 k] w1 fun e w' => ∃ v b, e = .returned (.tuple #[v, .bool b]) ∧ Lq w' w1.heap.size w1.heap.size v (cauL p k) ∧ Below w1.heap.size w1 w' := by
    refine (ecauchy_any p k w1 (by omega) (by omega) (by omega) (by omega)).mono ?_
    rintro e w2 ⟨hno, hyes⟩
    by_cases hp : p = 0
    · subst hp
      obtain ⟨rfl, rfl⟩ := hno (.inl (by omega))
      exact ⟨_, _, rfl, by rw [show cauL 0 k = [] by unfold cauL; rfl]; exact Lq.nil _ _ _, Below.refl _ _⟩
    · obtain ⟨v, rfl, ho, hb⟩ := hyes ⟨by omega, by omega, by omega⟩
      rw [Int.toNat_natCast, Int.toNat_natCast] at ho
      exact ⟨v, true, rfl, ho, hb⟩
  go_wp2_with fail
  refine hcau.mono ?_
  rintro e w2 ⟨v2, b2, rfl, ho2, hb2⟩
  clear hcau
  obtain ⟨ad2, cap2, rfl, hx2, hc2, hm2, hn2⟩ := ho2.lx
  have HX2 : Hid (Lx w2 w1.heap.size v1.ownBlock ad2 (cauL p k)) := Lib.hid (hx2.other fun g hg => (HO1.out.lt g hg).2)
  have HO2 := Lib.hid (HO1.out.below hb2)
  have HB2 := Lib.hid (HB1.out.trans (hb2.mono HB1.out.size))
  have HN2 := Lib.hid hn2
  rw [cauL_length] at *
  have HZ := Lib.hid HB1.out.size
  clear ho2 hx2 hb2 hn2 hc2 hm2
  go_wp2_with (at_builtin; refine wpList_append_q rfl (.tmp 16) (.tmp 17) rfl w.heap.size w.heap.size w1.heap.size w.heap.size v1 (idL k) rfl HO2.out ad2 p cap2 (cauL p k) HN2.out HX2.out (by rw [cauL_length]) rfl (by rw [idL_length]; omega) HB2.out.size (Nat.le_refl _) HZ.out ?_; intro v3 w3 ho3 hg3 _; rw [← HEN.out] at ho3; have HO3 := Lib.hid ho3; have HB3 := Lib.hid (HO2.out.grow HB2.out (Nat.le_refl _) hg3); clear ho3 hg3)
  go_ret
  exact ⟨_, rfl, HO3.out, HB3.out⟩
attribute [local irreducible] parL
set_option maxRecDepth 100000 in
set_option maxHeartbeats 1000000 in
theorem rparity_any (ad : Option Addr) (n cap : Nat) (ls : List (List UInt8)) (p : Int) (w : World) (hl : Lr w ad ls) (hn : n = ls.length) (hm : n ≤ maxLen) (hrow : ∀ r ∈ ls, r.length ≤ 1000) :
    Calls Try.prog 12 #[.slice ad n cap, .int .i64 p] w (ParP w ls p) := by
  have HL := Lib.hid hl
  have HN := Lib.hid hn
  have HM := Lib.hid hm
  have HR := Lib.hid (cols_le ls 1000 hrow)
  unfold maxLen at hm
  clear hl hrow hn
  rcases hv : vc (n : Int) p with _ | _
  · go_enter Try.func12, Try.ntmps12
    go_wp2_with fail
    refine (rcounts_any (n : Int) p w).mono ?_
    rintro e w' ⟨rfl, rfl⟩
    rw [hv]
    rw [HN.out] at hv
    go_wp2
    go_ret2
    exact ParP.range hv (Below.refl _ _)
  have HV : Hid (vc (ls.length : Int) p = true) := Lib.hid (by rw [← HN.out]; exact hv)
  rcases hs : sameL ls with _ | _
  · go_enter Try.func12, Try.ntmps12
    go_wp2_with fail
    refine (rcounts_any (n : Int) p w).mono ?_
    rintro e w' ⟨rfl, rfl⟩
    rw [hv]
    go_wp2_with fail
    refine (requal_any ad n cap ls w HL.out HN.out HM.out).mono ?_
    rintro e w' ⟨rfl, hb⟩
    rw [hs]
    have HB := Lib.hid hb
    clear hb
    go_wp2
    go_ret2
    exact ParP.inval HV.out hs HB.out
  have HS := Lib.hid hs
  have hq := (vc_iff _ _).1 hv
  obtain ⟨q, rfl⟩ := Int.eq_ofNat_of_zero_le hq.2.1
  have HPE : Hid (prodL ((cauL q n).take q) ls = parL ls ((q : Int).toNat)) := Lib.hid (by rw [Int.toNat_natCast, List.take_of_length_le (by rw [cauL_length]; exact Nat.le_refl _)]; unfold parL; rw [← HN.out])
  go_enter Try.func12, Try.ntmps12
  go_wp2_with fail
  refine (rcounts_any (n : Int) q w).mono ?_
  rintro e w' ⟨rfl, rfl⟩
  rw [hv]
  go_wp2_with fail
  refine (requal_any ad n cap ls w HL.out HN.out HM.out).mono ?_
  rintro e w1 ⟨rfl, hb1⟩
  rw [hs]
  have HB1 := Lib.hid hb1
  have hn1 : 1 ≤ n := by omega
  have hn2 : n + q ≤ 16 := by omega
  clear hv hs hq hb1
  go_wp2_with fail
  refine (rrows_any n q w1 hn1 (by omega)).mono ?_
  rintro e w2 ⟨v2, rfl, ho2, hb2⟩
  obtain ⟨ad2, cap2, rfl, hl2, hc2, hm2, -⟩ := ho2.read
  rw [encL_length] at hc2 ⊢
  have HL2 := Lib.hid hl2
  have HB2 := Lib.hid (HB1.out.trans (hb2.mono HB1.out.size))
  unfold maxLen at hm2
  clear ho2 hl2 hb2
  go_wp2_with fail
  go_loopg [7, 8] q (fun gk vo vk wx => ∃ k : Nat, vk = .int .i64 k ∧ k + gk = q ∧ Hid (Lq wx w2.heap.size w2.heap.size vo (prodL ((cauL q n).take k) ls)) ∧ Hid (Below w2.heap.size w2 wx))
  case atStart => exact ⟨0, rfl, by omega, Lib.hid (by rw [List.take_zero, show prodL [] ls = [] by unfold prodL; rfl]; exact Lq.nil _ _ _), Lib.hid (Below.refl _ _)⟩
  case round =>
    obtain ⟨k, rfl, hk, hO, HB⟩ := hrel
    cases gk with
    | zero =>
      have hlt : ¬ (k : Int) < (q : Int) := by omega
      obtain rfl : k = q := by omega
      have HO := hO.out.mono HB2.out.size HB2.out.size
      rw [HPE.out] at HO
      have HO2 := Lib.hid HO
      have HB3 := Lib.hid (HB2.out.trans (HB.out.mono HB2.out.size))
      clear HO
      go_wp2
      go_ret2
      exact ParP.ok HV.out HS.out HO2.out HB3.out
    | succ gk0 =>
      have hlt : (k : Int) < (q : Int) := by omega
      have hkq : k < q := by omega
      have hx0 : IntKind.i64.wrap ((n : Int) + (k : Int)) = ((n + k : Nat) : Int) := by rw [IntKind.wrap_i64]; omega
      have hi : n + k < n + q := by omega
      have hi2 : ((n + k : Nat) : Int) < ((n + q : Nat) : Int) := by omega
      have hkc : k < (cauL q n).length := by rw [cauL_length]; exact hkq
      have hke : n + k < (encL n q).length := by rw [encL_length]; exact hi
      have HBW := Lib.hid (HB2.out.trans (HB.out.mono HB2.out.size))
      obtain ⟨b, off, rfl, hbl, a1, c1, f1, l1, g1, m1, -⟩ := HL2.out.row (n + k) hke
      rw [encL_cau n q k hke hkc] at f1 l1 g1
      have f2 : wr.cell? ⟨b, off + (n + k), none⟩ = some (.slice a1 ((cauL q n)[k]).length c1) := (HB.out.cell (p := ⟨b, off + (n + k), none⟩) hbl).trans f1
      have HL3 := Lib.hid (l1.below HB.out rfl)
      have HX := Lib.hid (prodL_take (cauL q n) ls k hkc)
      have hrl := cauL_row q n _ (List.getElem_mem hkc)
      have HLN := Lib.hid hrl
      rw [hrl] at f2 g1
      generalize (cauL q n)[k] = row at HL3 HX HLN
      obtain ⟨W0, HW0⟩ : ∃ W0 : World, Hid (W0 = wr) := ⟨_, Lib.hid rfl⟩
      have HO0 : Hid (Lq W0 w2.heap.size w2.heap.size u7 (prodL ((cauL q n).take k) ls)) := Lib.hid (by rw [HW0.out]; exact hO.out)
      have HB0 : Hid (Below w2.heap.size w2 W0) := Lib.hid (by rw [HW0.out]; exact HB.out)
      have HLT : Hid ((prodL ((cauL q n).take k) ls).length ≤ 100) := Lib.hid (by rw [prodL_length, List.length_take]; omega)
      have HZ : Hid (w2.heap.size ≤ W0.heap.size) := Lib.hid HB0.out.size
      unfold maxLen at m1
      clear f1 l1 hrl hkc hke
      generalize hN : n + k = NK at *
      clear hN
      go_wp2_with fail
      refine (times_any a1 ad n n c1 cap row ls _ HL3.out HLN.out.symm (HL.out.below HBW.out) HN.out (by omega) (by omega) (fun i hi => sameL_len HS.out i hi) HR.out (Nat.le_refl _)).mono ?_
      rintro e w4 ⟨v4, rfl, ho4, hb4⟩
      rw [← HW0.out] at ho4 hb4
      have HB4 := Lib.hid (hb4.alloc hb4.size (.cells #[v4] 33))
      have HO4 := Lib.hid (HO0.out.below HB4.out)
      have HX4 := Lib.hid (Lx.one (C := W0.heap.size) (x := u7.ownBlock) w4 v4 (combL row ls) _ rfl (LieX.of_own ho4 fun g hg => (HO0.out.lt g hg).2))
      have HZ4 := Lib.hid (Nat.le_trans HZ.out HB4.out.size)
      obtain ⟨ad4, cap4, rfl, -⟩ := ho4.slice
      clear ho4 hb4
      go_wp2_with (at_builtin; refine wpList_append_q rfl (.tmp 26) (.tmp 36) rfl w2.heap.size w2.heap.size W0.heap.size w2.heap.size u7 _ rfl HO4.out _ 1 1 [combL row ls] (fun h => by cases h) HX4.out rfl rfl (by have := HLT.out; omega) HZ4.out (Nat.le_refl _) HZ.out ?_; intro v5 w5 ho5 hg5 _; rw [← HX.out] at ho5; have HO5 := Lib.hid ho5; have HB5 : Hid (Below w2.heap.size w2 w5) := Lib.hid (HO4.out.grow (HB0.out.trans (HB4.out.mono HB0.out.size)) (Nat.le_refl _) hg5); clear ho5 hg5)
      go_roundg gk0
      case rel => exact ⟨k + 1, by go_num, by omega, HO5, HB5⟩
      case measure => omega
end Go.Proofs.Ytinfjidclkgfnaa
