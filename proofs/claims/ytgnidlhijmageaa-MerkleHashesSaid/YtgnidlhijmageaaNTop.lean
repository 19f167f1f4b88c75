/-
  Proof, Prefix, Verify and Extends, by the program.
-/
import Derived.Test.YtgnidlhijmageaaNTopM
import Derived.Test.YtgnidlhijmageaaNBoth
namespace Go.Proofs.Ytgnidlhijmageaa
open Go.RowKit
attribute [local irreducible] accU fnv basis byteU beU hashU nodeU spl proI preI verI extI
set_option maxRecDepth 100000 in
set_option maxHeartbeats 400000 in
theorem proof_any (xs : List UInt64) (ad : Option Addr) (n cap : Nat) (i : Int) (w : World) (hl : Lin w ad xs) (hn : n = xs.length) (hs : n ≤ 1000000) (hc : n ≤ cap) (hm : cap ≤ maxLen) :
    Calls Try.prog 20 #[.slice ad n cap, .int .i64 i] w (GivesNB w (proI xs i)) := by
  by_cases h1 : i < 0
  · have HE := Lib.hid (proI_no xs i (by omega))
    clear hl hn
    go_enter Try.func20, Try.ntmps20
    go_wp2
    go_ret2
    exact GivesNB.no HE.out
  by_cases h2 : (n : Int) ≤ i
  · have HE := Lib.hid (proI_no xs i (by omega))
    clear hl hn
    go_enter Try.func20, Try.ntmps20
    go_wp2
    go_ret2
    exact GivesNB.no HE.out
  obtain ⟨k, rfl⟩ := Int.eq_ofNat_of_zero_le (show 0 ≤ i by omega)
  have HE := Lib.hid (proI_yes xs k (by omega))
  have HG := Lib.hid (fun W hl => path_go _ xs ad n cap k W (Nat.le_refl _) hl hn hs hc hm (by omega))
  have HL := Lib.hid hl
  clear hl hn
  go_enter Try.func20, Try.ntmps20
  go_wp2_with fail
  refine (HG.out _ HL.out).mono ?_
  rintro e w2 ⟨v, rfl, ho, hb⟩
  have HO := Lib.hid ho
  have HB := Lib.hid hb
  clear ho hb
  go_wp2
  go_ret2
  exact GivesNB.yes HE.out HO.out HB.out
set_option maxRecDepth 100000 in
set_option maxHeartbeats 400000 in
theorem prefix_any (xs : List UInt64) (ad : Option Addr) (n cap : Nat) (i : Int) (w : World) (hl : Lin w ad xs) (hn : n = xs.length) (hs : n ≤ 1000000) (hc : n ≤ cap) (hm : cap ≤ maxLen) :
    Calls Try.prog 24 #[.slice ad n cap, .int .i64 i] w (GivesNB w (preI xs i)) := by
  by_cases h1 : i < 1
  · have HE := Lib.hid (preI_no xs i (by omega))
    clear hl hn
    go_enter Try.func24, Try.ntmps24
    go_wp2
    go_ret2
    exact GivesNB.no HE.out
  by_cases h2 : (n : Int) < i
  · have HE := Lib.hid (preI_no xs i (by omega))
    clear hl hn
    go_enter Try.func24, Try.ntmps24
    go_wp2
    go_ret2
    exact GivesNB.no HE.out
  obtain ⟨k, rfl⟩ := Int.eq_ofNat_of_zero_le (show 0 ≤ i by omega)
  have HE := Lib.hid (preI_yes xs k (by omega) (by omega))
  have HG := Lib.hid (fun W hl => link_go _ xs ad n cap k true W (Nat.le_refl _) hl hn hs hc hm (by omega) (by omega))
  have HL := Lib.hid hl
  clear hl hn
  go_enter Try.func24, Try.ntmps24
  go_wp2_with fail
  refine (HG.out _ HL.out).mono ?_
  rintro e w2 ⟨v, rfl, ho, hb⟩
  have HO := Lib.hid ho
  have HB := Lib.hid hb
  clear ho hb
  go_wp2
  go_ret2
  exact GivesNB.yes HE.out HO.out HB.out
set_option maxRecDepth 100000 in
set_option maxHeartbeats 400000 in
theorem verify_any (root leaf : UInt64) (i n : Int) (p : List UInt64) (ad : Option Addr) (m cap : Nat) (w : World) (hl : Lin w ad p) (hm : m = p.length) (hs : m ≤ 1000000) (hc : m ≤ cap) (hcm : cap ≤ maxLen) (i0 : -9223372036854775808 ≤ i) (i1 : i ≤ 9223372036854775807) (n0 : -9223372036854775808 ≤ n) (n1 : n ≤ 9223372036854775807) :
    Calls Try.prog 22 #[.int .u64 (gv root), .int .u64 (gv leaf), .int .i64 i, .int .i64 n, .slice ad m cap] w (GivesB w (verI root leaf i n p)) := by
  by_cases h1 : i < 0
  · have HE := Lib.hid (verI_no root leaf i n p (by omega))
    clear hl hm
    go_enter Try.func22, Try.ntmps22
    go_wp2
    go_ret
    exact GivesB.mk' HE.out (Below.refl _ _)
  by_cases h2 : n ≤ i
  · have HE := Lib.hid (verI_no root leaf i n p (by omega))
    clear hl hm
    go_enter Try.func22, Try.ntmps22
    go_wp2
    go_ret
    exact GivesB.mk' HE.out (Below.refl _ _)
  obtain ⟨k, rfl⟩ := Int.eq_ofNat_of_zero_le (show 0 ≤ i by omega)
  obtain ⟨N, rfl⟩ := Int.eq_ofNat_of_zero_le (show 0 ≤ n by omega)
  have HE := Lib.hid (verI_yes root leaf k N p (by omega))
  have HG := Lib.hid (fun W hl => follow_go leaf _ p ad m cap k N W rfl hl hm hs hc hcm (by omega) n1)
  have HL := Lib.hid hl
  have hkN : (k : Int) < (N : Int) := by omega
  obtain ⟨x, c, hr⟩ : ∃ x c, reachU leaf k N p = (x, c) := ⟨_, _, rfl⟩
  have HV := Lib.hid (ver_of hr HE.out)
  rw [hr] at HG
  clear hl hm hr HE
  cases c with
  | false =>
    go_enter Try.func22, Try.ntmps22
    go_wp2_with fail
    refine (HG.out _ HL.out).mono ?_
    rintro e w2 ⟨rfl, hb⟩
    have HB := Lib.hid hb
    clear hb
    go_wp2
    go_ret
    exact GivesB.mk' (HV.out.trans (and_no rfl)) HB.out
  | true =>
    by_cases hx : x = root
    · have HF : Hid (verI root leaf k N p = true) := Lib.hid (HV.out.trans (by simp [hx]))
      subst hx
      go_enter Try.func22, Try.ntmps22
      go_wp2_with fail
      refine (HG.out _ HL.out).mono ?_
      rintro e w2 ⟨rfl, hb⟩
      have HB := Lib.hid hb
      clear hb
      go_wp2
      go_ret
      exact GivesB.mk' HF.out HB.out
    · have HF : Hid (verI root leaf k N p = false) := Lib.hid (HV.out.trans (by simp [hx]))
      have hne : (gv x == gv root) = false := by simpa using gv_ne hx
      go_enter Try.func22, Try.ntmps22
      go_wp2_with fail
      refine (HG.out _ HL.out).mono ?_
      rintro e w2 ⟨rfl, hb⟩
      have HB := Lib.hid hb
      clear hb
      go_wp2
      go_ret
      exact GivesB.mk' HF.out HB.out
set_option maxRecDepth 100000 in
set_option maxHeartbeats 400000 in
theorem extends_any (old root : UInt64) (m n : Int) (p : List UInt64) (ad : Option Addr) (l cap : Nat) (w : World) (hl : Lin w ad p) (hm : l = p.length) (hs : l ≤ 1000000) (hc : l ≤ cap) (hcm : cap ≤ maxLen) (i0 : -9223372036854775808 ≤ m) (i1 : m ≤ 9223372036854775807) (n0 : -9223372036854775808 ≤ n) (n1 : n ≤ 9223372036854775807) :
    Calls Try.prog 26 #[.int .u64 (gv old), .int .u64 (gv root), .int .i64 m, .int .i64 n, .slice ad l cap] w (GivesB w (extI old root m n p)) := by
  by_cases h1 : m < 1
  · have HE := Lib.hid (extI_no old root m n p (by omega))
    clear hl hm
    go_enter Try.func26, Try.ntmps26
    go_wp2
    go_ret
    exact GivesB.mk' HE.out (Below.refl _ _)
  by_cases h2 : n < m
  · have HE := Lib.hid (extI_no old root m n p (by omega))
    clear hl hm
    go_enter Try.func26, Try.ntmps26
    go_wp2
    go_ret
    exact GivesB.mk' HE.out (Below.refl _ _)
  obtain ⟨k, rfl⟩ := Int.eq_ofNat_of_zero_le (show 0 ≤ m by omega)
  obtain ⟨N, rfl⟩ := Int.eq_ofNat_of_zero_le (show 0 ≤ n by omega)
  have HE := Lib.hid (extI_yes old root k N p (by omega) (by omega))
  have HG := Lib.hid (fun W hl => both_go old _ p ad l cap k N true W rfl hl hm hs hc hcm (by omega) (by omega) n1)
  have HL := Lib.hid hl
  have hkN : (k : Int) ≤ (N : Int) := by omega
  have hk1 : (1 : Int) ≤ (k : Int) := by omega
  generalize growU old k N true p = r at HG HE
  clear hl hm
  go_enter Try.func26, Try.ntmps26
  go_wp2_with fail
  refine (HG.out _ HL.out).mono ?_
  rintro e w2 ⟨x, y, c, rfl, hc2, hxy, hb⟩
  have HB := Lib.hid hb
  have HC := Lib.hid hc2
  have HXY := Lib.hid hxy
  clear hb hc2 hxy HG
  cases c with
  | false =>
    go_wp2
    go_ret
    exact GivesB.mk' (ext_no HE.out (.inl HC.out.symm)) HB.out
  | true =>
    obtain ⟨hx, hy⟩ := HXY.out rfl
    by_cases ho : x = old
    · by_cases hr : y = root
      · have HF : Hid (extI old root k N p = true) := Lib.hid (ext_yes HE.out HC.out.symm (by rw [← hx]; exact ho) (by rw [← hy]; exact hr))
        have ho2 : (gv x == gv old) = true := by rw [ho]; simp
        have hr2 : (gv y == gv root) = true := by rw [hr]; simp
        clear ho hr hx hy HXY HC HE
        go_wp2
        go_ret
        exact GivesB.mk' HF.out HB.out
      · have HF : Hid (extI old root k N p = false) := Lib.hid (ext_no HE.out (.inr (.inr (by rw [← hy]; exact hr))))
        have ho2 : (gv x == gv old) = true := by rw [ho]; simp
        have hr2 : (gv y == gv root) = false := by simpa using gv_ne hr
        clear ho hr hx hy HXY HC HE
        go_wp2
        go_ret
        exact GivesB.mk' HF.out HB.out
    · have HF : Hid (extI old root k N p = false) := Lib.hid (ext_no HE.out (.inr (.inl (by rw [← hx]; exact ho))))
      have ho2 : (gv x == gv old) = false := by simpa using gv_ne ho
      clear ho hx hy HXY HC HE
      go_wp2
      go_ret
      exact GivesB.mk' HF.out HB.out
end Go.Proofs.Ytgnidlhijmageaa
