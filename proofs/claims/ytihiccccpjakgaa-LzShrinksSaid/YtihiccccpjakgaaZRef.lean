/-
  The document's own Unpack and Size.
-/
import Derived.Test.YtihiccccpjakgaaZUnp
import Derived.Test.YtihiccccpjakgaaCRef
namespace Go.Proofs.Ytihiccccpjakgaa
open Go.RowKit
set_option linter.unusedVariables false
set_option linter.unusedSimpArgs false
def RelR (xs : List UInt8) (room : Nat) (w : World) (u6 u8 : Value) (wr : World) : Prop := ∃ out k, u8 = .int .i64 (k : Nat) ∧ ScAt xs room out k ∧ Own wr w.heap.size u6 out ∧ Below w.heap.size w wr
def RelC (out : List UInt8) (n d : Nat) (w : World) (u6 u15 : Value) (wr : World) : Prop := ∃ i, u15 = .int .u64 (i : Nat) ∧ i ≤ n ∧ Own wr w.heap.size u6 (cpy i d out) ∧ Below w.heap.size w wr
theorem nx_e1 {tl : List UInt8} {before room v m er : Nat} (hq : dec 0 0 tl = (v, m, er)) (h : er ≠ 0) : nx tl before room = ⟨er, 0, 0, 0⟩ := by unfold nx; rw [hq]; exact if_pos h
theorem nx_e2 {tl : List UInt8} {before room v m : Nat} (hq : dec 0 0 tl = (v, m, 0)) (h : v / 2 = 0) : nx tl before room = ⟨1, 0, 0, 0⟩ := by unfold nx; rw [hq]; dsimp only; rw [if_neg (by simp), if_pos h]
theorem nx_l {tl : List UInt8} {before room v m : Nat} (hq : dec 0 0 tl = (v, m, 0)) (h : v / 2 ≠ 0) (h2 : v % 2 = 0) : nx tl before room = nxl tl m (v / 2) room := by unfold nx; rw [hq]; dsimp only; rw [if_neg (by simp), if_neg h, if_pos h2]
theorem nx_c {tl : List UInt8} {before room v m : Nat} (hq : dec 0 0 tl = (v, m, 0)) (h : v / 2 ≠ 0) (h2 : v % 2 ≠ 0) : nx tl before room = nxc tl m (v / 2) before room := by unfold nx; rw [hq]; dsimp only; rw [if_neg (by simp), if_neg h, if_neg h2]
theorem nxc_e {tl : List UInt8} {hd n before room d p er : Nat} (hq : dec 0 0 (tl.drop hd) = (d, p, er)) (h : er ≠ 0) : nxc tl hd n before room = ⟨er, 0, 0, 0⟩ := by unfold nxc; rw [hq]; exact if_pos h
theorem nxc_r {tl : List UInt8} {hd n before room d p : Nat} (hq : dec 0 0 (tl.drop hd) = (d, p, 0)) (h : d = 0 ∨ before < d) : nxc tl hd n before room = ⟨7, 0, 0, 0⟩ := by unfold nxc; rw [hq]; dsimp only; rw [if_neg (by simp), if_pos h]
theorem nxc_l {tl : List UInt8} {hd n before room d p : Nat} (hq : dec 0 0 (tl.drop hd) = (d, p, 0)) (h : ¬ (d = 0 ∨ before < d)) (h2 : room < n) : nxc tl hd n before room = ⟨6, 0, 0, 0⟩ := by unfold nxc; rw [hq]; dsimp only; rw [if_neg (by simp), if_neg h, if_pos h2]
theorem nxc_ok {tl : List UInt8} {hd n before room d p : Nat} (hq : dec 0 0 (tl.drop hd) = (d, p, 0)) (h : ¬ (d = 0 ∨ before < d)) (h2 : ¬ room < n) : nxc tl hd n before room = ⟨0, n, d, hd + p⟩ := by unfold nxc; rw [hq]; dsimp only; rw [if_neg (by simp), if_neg h, if_neg h2]
set_option maxRecDepth 100000 in
set_option maxHeartbeats 2000000 in
theorem runpack_nat (ad : Option Addr) (cap : Nat) (xs : List UInt8) (most : Nat) (w : World) (hl : Lie w ad xs) (hn : xs.length ≤ cap) (hs : xs.length ≤ 1000000) (ha : ad = none → cap = 0) (hm : most ≤ 1000000) :
    Calls Try.prog 11 #[.slice ad xs.length cap, .int .i64 most] w (UnV w (unq most xs [])) := by
  have HU := Lib.hid (fun (W : World) (k : Nat) (h : Lie W ad xs) => ruint_any ad cap xs k W h hs)
  have HL := Lib.hid hl
  have HO0 := Lib.hid (Own.made w)
  have HA := Lib.hid ha
  clear hl ha
  go_enter Try.func11, Try.ntmps11
  go_wp2
  go_loopw [6, 8] (fun u6 u8 wr => RelR xs most w u6 u8 wr) (fun _ u8 _ => xs.length - (intOf u8).toNat)
  case atStart => exact ⟨[], 0, rfl, .start _ _, HO0.out, (Below.refl _ _).alloc (Nat.le_refl _) _⟩
  case round =>
    obtain ⟨out, k, rfl, hat, hown, hb⟩ := hrel
    have hko := hat.kle
    have hoo := hat.outle
    have HAT := Lib.hid hat
    have HLr := Lib.hid (HL.out.below hb rfl)
    have HBr := Lib.hid hb
    have HOr := Lib.hid hown
    by_cases hk : k < xs.length
    · obtain ⟨R, hR⟩ : ∃ R : Nat, (most : Int) - (out.length : Int) = R := ⟨most - out.length, by omega⟩
      have HR := Lib.hid (show most - out.length = R by omega)
      have hR6 : R ≤ 1000000 := by omega
      obtain ⟨a1, c1, rfl, hl1, hyc, hcm, _⟩ := hown.slice
      obtain ⟨L, hL⟩ : ∃ L : Nat, out.length = L := ⟨_, rfl⟩
      have HLL := Lib.hid hL
      have hu := fun W (h : Lie W ad xs) => HU.out W k h
      rw [uR_in xs k hko] at hu
      obtain ⟨q, hq⟩ : ∃ q, dec 0 0 (xs.drop k) = q := ⟨_, rfl⟩
      have hbd := dec_bounds (xs.drop k)
      rw [hq] at hu hbd
      rw [hL] at hR hoo hyc
      rw [hL]
      have hL6 : L ≤ 1000000 := by omega
      obtain ⟨v, m, er⟩ := q
      have HQ := Lib.hid hq
      have HC := Lib.hid hu
      clear hq hu hat hb hown hL
      dsimp only at hbd HC
      by_cases h1 : er ≠ 0
      · have h1' : ((er : Int) == 0) = false := by rw [beq_eq_false_iff_ne]; omega
        have h1'' : endOf k (v, m, er) = 0 := if_neg h1
        have HE := Lib.hid h1
        clear h1 hbd
        go_wp2_with fail
        refine (HC.out _ HLr.out).mono ?_
        rintro e w' ⟨rfl, rfl⟩
        go_wp2
        go_ret2
        rw [HAT.out.err (x := ⟨er, 0, 0, 0⟩) hk (by rw [HR.out]; exact nx_e1 HQ.out HE.out) (by exact HE.out)]
        exact ⟨_, rfl, Own.ofNil _ _, HBr.out⟩
      obtain rfl : er = 0 := by omega
      obtain ⟨hm0, hmx, hd64⟩ := hbd rfl
      rw [List.length_drop] at hmx
      have hend : endOf k (v, m, 0) = (k : Int) + m := by unfold endOf; rw [if_pos rfl]; push_cast; rfl
      rw [hend] at HC
      clear hend h1 hbd
      have hdiv : (v : Int) / 2 = ((v / 2 : Nat) : Int) := by omega
      have hmod : (v : Int) % 2 = ((v % 2 : Nat) : Int) := by omega
      obtain ⟨n, hnv⟩ : ∃ n, v / 2 = n := ⟨_, rfl⟩
      obtain ⟨p, hpv⟩ : ∃ p, v % 2 = p := ⟨_, rfl⟩
      have hn63 : n < 9223372036854775808 := by omega
      have hp2 : p < 2 := by omega
      rw [hnv] at hdiv
      rw [hpv] at hmod
      have HNV := Lib.hid hnv
      have HPV := Lib.hid hpv
      clear hnv hpv
      by_cases h2 : n = 0
      · subst h2
        go_wp2_with fail
        refine (HC.out _ HLr.out).mono ?_
        rintro e w' ⟨rfl, rfl⟩
        go_wp2
        go_ret2
        rw [HAT.out.err (x := ⟨1, 0, 0, 0⟩) hk (by rw [HR.out]; exact nx_e2 HQ.out HNV.out) (by decide)]
        exact ⟨_, rfl, Own.ofNil _ _, HBr.out⟩
      have h5 : ((n : Int) == 0) = false := by rw [beq_eq_false_iff_ne]; omega
      by_cases h3 : p = 0
      · subst h3
        by_cases h4 : R < n
        · go_wp2_with fail
          refine (HC.out _ HLr.out).mono ?_
          rintro e w' ⟨rfl, rfl⟩
          go_wp2
          go_ret2
          rw [HAT.out.err (x := ⟨6, 0, 0, 0⟩) hk (by rw [HR.out]; exact (nx_l HQ.out (by rw [HNV.out]; exact h2) HPV.out).trans (by unfold nxl; rw [HNV.out]; exact if_pos h4)) (by decide)]
          exact ⟨_, rfl, Own.ofNil _ _, HBr.out⟩
        by_cases h6 : xs.length - k - m < n
        · go_wp2_with fail
          refine (HC.out _ HLr.out).mono ?_
          rintro e w' ⟨rfl, rfl⟩
          go_wp2
          go_ret2
          rw [HAT.out.err (x := ⟨2, 0, 0, 0⟩) hk (by rw [HR.out]; exact (nx_l HQ.out (by rw [HNV.out]; exact h2) HPV.out).trans (by unfold nxl; rw [HNV.out, if_neg h4, List.length_drop]; exact if_pos h6)) (by decide)]
          exact ⟨_, rfl, Own.ofNil _ _, HBr.out⟩
        have hx : nx (xs.drop k) out.length (most - out.length) = ⟨0, n, 0, m⟩ := by
          rw [nx_l HQ.out (by rw [HNV.out]; exact h2) HPV.out, HNV.out]
          unfold nxl
          rw [if_neg (by rw [HR.out]; exact h4), if_neg (by rw [List.length_drop]; exact h6)]
        obtain ⟨n1, n2, _⟩ := HAT.out.next (x := ⟨0, n, 0, m⟩) hk hx rfl
        rw [show (Nx.ex ⟨0, n, 0, m⟩ (xs.drop k) out) = out ++ (xs.drop (k + m)).take n by unfold Nx.ex; dsimp only; rw [if_pos rfl, List.drop_drop], show (Nx.len ⟨0, n, 0, m⟩) = m + n by unfold Nx.len; dsimp only; rw [if_pos rfl]] at n1
        have HN1 := Lib.hid n1
        rcases HLr.out.at_ with h7 | ⟨b, off, rfl, _⟩
        · subst h7; rw [List.length_nil] at hk; omega
        have hpl : ((xs.drop (k + m)).take n).length = n := by rw [List.length_take, List.length_drop]; omega
        have HP := Lib.hid hpl
        have HPL := Lib.hid (HLr.out.part2 (k + m) n)
        have hcap : k + m < cap := by omega
        have h8 : ¬ R < n := h4
        have h9 : k + m + n ≤ xs.length := by omega
        clear hx n1 n2 hpl
        go_wp2_with fail
        refine (HC.out _ HLr.out).mono ?_
        rintro e w' ⟨rfl, rfl⟩
        go_wp2_with (at_builtin; refine wpList_append_u rfl (.tmp 55) (.tmp 62) rfl w.heap.size _ out (by rw [HLL.out]; rfl) HOr.out _ (k + m + n - (k + m)) _ _ (fun h => by cases h) HPL.out (by rw [HP.out]; omega) rfl (by have := HLL.out; omega) HBr.out.size ?_; intro v1 w1 hown1 hgrow1)
        have e : (k : Int) + m + n = ((k + (m + n) : Nat) : Int) := by omega
        have HB1 := Lib.hid (HBr.out.grown hgrow1 HBr.out.size (fun q hq => (HOr.out.lt q hq).1))
        refine ⟨⟨_, k + (m + n), by rw [e], HN1.out, hown1, HB1.out⟩, ?_⟩
        have := HN1.out.kle
        rw [e]
        show xs.length - ((k + (m + n) : Nat) : Int).toNat < xs.length - ((k : Nat) : Int).toNat
        rw [Int.toNat_natCast, Int.toNat_natCast]
        omega
      · obtain rfl : p = 1 := by omega
        clear h3
        have hkm : k + m ≤ xs.length := by omega
        have hu2 := fun W (h : Lie W ad xs) => HU.out W (k + m) h
        rw [uR_in xs (k + m) hkm, Int.natCast_add] at hu2
        obtain ⟨q2, hq2⟩ : ∃ q2, dec 0 0 (xs.drop (k + m)) = q2 := ⟨_, rfl⟩
        have hbd2 := dec_bounds (xs.drop (k + m))
        rw [hq2] at hu2 hbd2
        rw [← List.drop_drop] at hq2
        obtain ⟨d, m2, er2⟩ := q2
        have HQ2 := Lib.hid hq2
        have HC2 := Lib.hid hu2
        have hodd : v % 2 ≠ 0 := by rw [HPV.out]; decide
        have HODD := Lib.hid hodd
        clear hq2 hu2 hodd
        dsimp only at hbd2 HC2
        by_cases g1 : er2 ≠ 0
        · have g1' : ((er2 : Int) == 0) = false := by rw [beq_eq_false_iff_ne]; omega
          have g1'' : endOf (k + m) (d, m2, er2) = 0 := if_neg g1
          have HE := Lib.hid g1
          clear g1 hbd2
          go_wp2_with fail
          refine (HC.out _ HLr.out).mono ?_
          rintro e w' ⟨rfl, rfl⟩
          go_wp2_with fail
          refine (HC2.out _ HLr.out).mono ?_
          rintro e w' ⟨rfl, rfl⟩
          go_wp2
          go_ret2
          rw [HAT.out.err (x := ⟨er2, 0, 0, 0⟩) hk (by rw [HR.out]; exact (nx_c HQ.out (by rw [HNV.out]; exact h2) HODD.out).trans (nxc_e HQ2.out HE.out)) (by exact HE.out)]
          exact ⟨_, rfl, Own.ofNil _ _, HBr.out⟩
        obtain rfl : er2 = 0 := by omega
        obtain ⟨gm0, gmx, gd64⟩ := hbd2 rfl
        rw [List.length_drop] at gmx
        have gend : endOf (k + m) (d, m2, 0) = (k : Int) + m + m2 := by unfold endOf; rw [if_pos rfl]; push_cast; rfl
        rw [gend] at HC2
        clear gend g1 hbd2
        by_cases g2 : d = 0 ∨ L < d
        · have HG := Lib.hid g2
          by_cases g3 : d = 0
          · subst g3
            go_wp2_with fail
            refine (HC.out _ HLr.out).mono ?_
            rintro e w' ⟨rfl, rfl⟩
            go_wp2_with fail
            refine (HC2.out _ HLr.out).mono ?_
            rintro e w' ⟨rfl, rfl⟩
            go_wp2
            go_ret2
            rw [HAT.out.err (x := ⟨7, 0, 0, 0⟩) hk (by rw [HR.out]; exact (nx_c HQ.out (by rw [HNV.out]; exact h2) HODD.out).trans (nxc_r HQ2.out (by rw [HLL.out]; first | exact HG.out | exact .inl rfl))) (by decide)]
            exact ⟨_, rfl, Own.ofNil _ _, HBr.out⟩
          · have g4 : L < d := by omega
            have g5 : ((d : Int) == 0) = false := by rw [beq_eq_false_iff_ne]; omega
            clear g2 g3
            go_wp2_with fail
            refine (HC.out _ HLr.out).mono ?_
            rintro e w' ⟨rfl, rfl⟩
            go_wp2_with fail
            refine (HC2.out _ HLr.out).mono ?_
            rintro e w' ⟨rfl, rfl⟩
            go_wp2
            go_ret2
            rw [HAT.out.err (x := ⟨7, 0, 0, 0⟩) hk (by rw [HR.out]; exact (nx_c HQ.out (by rw [HNV.out]; exact h2) HODD.out).trans (nxc_r HQ2.out (by rw [HLL.out]; first | exact HG.out | exact .inl rfl))) (by decide)]
            exact ⟨_, rfl, Own.ofNil _ _, HBr.out⟩
        have HG := Lib.hid g2
        have g5 : ((d : Int) == 0) = false := by rw [beq_eq_false_iff_ne]; omega
        have g6 : d ≤ L := by omega
        have g7 : decide (L < d) = false := by simpa using g6
        have g8 : 0 < d := by omega
        clear g2
        by_cases h4 : R < n
        · go_wp2_with fail
          refine (HC.out _ HLr.out).mono ?_
          rintro e w' ⟨rfl, rfl⟩
          go_wp2_with fail
          refine (HC2.out _ HLr.out).mono ?_
          rintro e w' ⟨rfl, rfl⟩
          go_wp2
          go_ret2
          rw [HAT.out.err (x := ⟨6, 0, 0, 0⟩) hk (by rw [HR.out]; exact (nx_c HQ.out (by rw [HNV.out]; exact h2) HODD.out).trans (nxc_l HQ2.out (by rw [HLL.out]; exact HG.out) (by rw [HNV.out]; exact h4))) (by decide)]
          exact ⟨_, rfl, Own.ofNil _ _, HBr.out⟩
        have hx : nx (xs.drop k) out.length (most - out.length) = ⟨0, n, d, m + m2⟩ := by
          rw [nx_c HQ.out (by rw [HNV.out]; exact h2) HODD.out, HNV.out]
          exact nxc_ok HQ2.out (by rw [HLL.out]; exact HG.out) (by rw [HR.out]; exact h4)
        obtain ⟨n1, n2, _⟩ := HAT.out.next (x := ⟨0, n, d, m + m2⟩) hk hx rfl
        rw [show (Nx.ex ⟨0, n, d, m + m2⟩ (xs.drop k) out) = cpy n d out by unfold Nx.ex; dsimp only; rw [if_neg (by omega)], show (Nx.len ⟨0, n, d, m + m2⟩) = m + m2 by unfold Nx.len; dsimp only; rw [if_neg (by omega)]] at n1
        have HN1 := Lib.hid n1
        clear hx n1 n2
        go_wp2_with fail
        refine (HC.out _ HLr.out).mono ?_
        rintro e w' ⟨rfl, rfl⟩
        go_wp2_with fail
        refine (HC2.out _ HLr.out).mono ?_
        rintro e w' ⟨rfl, rfl⟩
        go_wp2
        go_loopw [6, 15] (fun u6 u15 wr => RelC out n d w u6 u15 wr) (fun _ u15 _ => n - (intOf u15).toNat)
        case atStart => exact ⟨0, rfl, Nat.zero_le _, by rw [← HLL.out]; exact HOr.out, HBr.out⟩
        case round =>
          obtain ⟨i, rfl, hin, ho, hb2⟩ := hrel
          have HBi := Lib.hid hb2
          have HOi := Lib.hid ho
          by_cases hi : i < n
          · obtain ⟨ys, hys⟩ : ∃ ys, cpy i d out = ys := ⟨_, rfl⟩
            have hyl := cpy_length i d out
            have hsn := cpy_snoc i d out
            rw [hys] at ho hyl hsn HOi
            rw [HLL.out] at hyl
            obtain ⟨J, hJ⟩ : ∃ J : Nat, (ys.length : Int) - (d : Int) = J := ⟨ys.length - d, by omega⟩
            have hJn : ys.length - d = J := by omega
            rw [hJn] at hsn
            have HSN := Lib.hid hsn
            have hJl : J < ys.length := by omega
            have hyb : ys.length ≤ 2000000 := by omega
            have hdb : d ≤ 1000000 := by omega
            have HYL := Lib.hid hyl
            obtain ⟨a2, c2, rfl, hl2, hyc2, hcm2, _⟩ := ho.slice
            obtain ⟨x, hx⟩ : ∃ x, ys.getD J 0 = x := ⟨_, rfl⟩
            have hxg : ys[J] = x := by rw [← hx, List.getD_eq_getElem?_getD, List.getElem?_eq_getElem hJl]; rfl
            rw [hx] at HSN
            rcases hl2.at_ with h7 | ⟨b2, off2, rfl, _, hcl⟩
            · subst h7; rw [List.length_nil] at hJl; omega
            have hcell : wr.cell? ⟨b2, off2 + J, none⟩ = some (.int .u8 (x.toNat : Int)) := by rw [hcl J hJl, hxg]
            have H1 := Lib.hid (Lie.one wr (x.toNat : Int) x rfl)
            have HO := Lib.hid (HOi.out.below ((Below.refl _ _).alloc (Nat.le_refl _) (.cells #[.int .u8 (x.toNat : Int)] 5)))
            have hsz := HBi.out.size
            clear hsn hyl hl2 hcl hx hxg ho hb2 hys hJn
            go_wp2_with (at_builtin; refine wpList_append_u rfl (.tmp 99) (.tmp 108) rfl w.heap.size _ ys rfl HO.out _ 1 1 [x] (fun h => by cases h) H1.out rfl rfl (by have := HYL.out; omega) (by simp; omega) ?_; intro v1 w1 hown1 hgrow1)
            have HW1 := Lib.hid hown1
            have HG1 := Lib.hid hgrow1
            clear hown1 hgrow1
            go_wp2
            refine ⟨⟨i + 1, by rw [Int.natCast_add]; rfl, by omega, by rw [HSN.out]; exact HW1.out, (HBi.out.alloc hsz _).grown HG1.out (by simp; omega) (fun q hq => (HO.out.lt q hq).1)⟩, ?_⟩
            show n - ((i : Int) + 1).toNat < n - (i : Int).toNat
            omega
          · obtain rfl : i = n := by omega
            obtain ⟨a2, c2, rfl, _, _, _, _⟩ := ho.slice
            clear ho hb2
            have e : (k : Int) + m + m2 = ((k + (m + m2) : Nat) : Int) := by omega
            have HE := Lib.hid e
            clear e
            go_wp2
            rw [HE.out]
            refine ⟨⟨_, k + (m + m2), rfl, HN1.out, HOi.out, HBi.out⟩, ?_⟩
            have := HN1.out.kle
            show xs.length - ((k + (m + m2) : Nat) : Int).toNat < xs.length - ((k : Nat) : Int).toNat
            rw [Int.toNat_natCast, Int.toNat_natCast]
            omega
    · have hend := HAT.out.stop hk
      have HEND := Lib.hid hend
      obtain ⟨a1, c1, rfl, _, _, _, _⟩ := hown.slice
      clear hend hown
      go_wp2
      go_ret2
      exact ⟨_, by rw [HEND.out]; rfl, by rw [HEND.out]; exact HOr.out, HBr.out⟩
set_option maxRecDepth 100000 in
set_option maxHeartbeats 2000000 in
theorem runpack_neg (ad : Option Addr) (cap : Nat) (xs : List UInt8) (most : Int) (w : World) (hl : Lie w ad xs) (hn : xs.length ≤ cap) (hs : xs.length ≤ 1000000) (ha : ad = none → cap = 0) (hm : most < 0) :
    Calls Try.prog 11 #[.slice ad xs.length cap, .int .i64 most] w (UnV w (unq 0 xs [])) := by
  have HU := Lib.hid (fun (W : World) (k : Nat) (h : Lie W ad xs) => ruint_any ad cap xs k W h hs)
  have HL := Lib.hid hl
  have HO0 := Lib.hid (Own.made w)
  have HA := Lib.hid ha
  clear hl ha
  go_enter Try.func11, Try.ntmps11
  go_wp2
  go_loopw [6, 8] (fun u6 u8 wr => RelR xs 0 w u6 u8 wr) (fun _ u8 _ => xs.length - (intOf u8).toNat)
  case atStart => exact ⟨[], 0, rfl, .start _ _, HO0.out, (Below.refl _ _).alloc (Nat.le_refl _) _⟩
  case round =>
    obtain ⟨out, k, rfl, hat, hown, hb⟩ := hrel
    have hko := hat.kle
    have hoo := hat.outle
    have HAT := Lib.hid hat
    have HLr := Lib.hid (HL.out.below hb rfl)
    have HBr := Lib.hid hb
    have HOr := Lib.hid hown
    by_cases hk : k < xs.length
    · obtain ⟨R, hR⟩ : ∃ R : Nat, (0 : Int) - (out.length : Int) = R := ⟨0 - out.length, by omega⟩
      have HR := Lib.hid (show 0 - out.length = R by omega)
      have hR6 : R ≤ 1000000 := by omega
      obtain ⟨a1, c1, rfl, hl1, hyc, hcm, _⟩ := hown.slice
      obtain ⟨L, hL⟩ : ∃ L : Nat, out.length = L := ⟨_, rfl⟩
      have HLL := Lib.hid hL
      have hu := fun W (h : Lie W ad xs) => HU.out W k h
      rw [uR_in xs k hko] at hu
      obtain ⟨q, hq⟩ : ∃ q, dec 0 0 (xs.drop k) = q := ⟨_, rfl⟩
      have hbd := dec_bounds (xs.drop k)
      rw [hq] at hu hbd
      rw [hL] at hR hoo hyc
      rw [hL]
      have hL6 : L ≤ 1000000 := by omega
      obtain ⟨v, m, er⟩ := q
      have HQ := Lib.hid hq
      have HC := Lib.hid hu
      clear hq hu hat hb hown hL
      dsimp only at hbd HC
      by_cases h1 : er ≠ 0
      · have h1' : ((er : Int) == 0) = false := by rw [beq_eq_false_iff_ne]; omega
        have h1'' : endOf k (v, m, er) = 0 := if_neg h1
        have HE := Lib.hid h1
        clear h1 hbd
        go_wp2_with fail
        refine (HC.out _ HLr.out).mono ?_
        rintro e w' ⟨rfl, rfl⟩
        go_wp2
        go_ret2
        rw [HAT.out.err (x := ⟨er, 0, 0, 0⟩) hk (by rw [HR.out]; exact nx_e1 HQ.out HE.out) (by exact HE.out)]
        exact ⟨_, rfl, Own.ofNil _ _, HBr.out⟩
      obtain rfl : er = 0 := by omega
      obtain ⟨hm0, hmx, hd64⟩ := hbd rfl
      rw [List.length_drop] at hmx
      have hend : endOf k (v, m, 0) = (k : Int) + m := by unfold endOf; rw [if_pos rfl]; push_cast; rfl
      rw [hend] at HC
      clear hend h1 hbd
      have hdiv : (v : Int) / 2 = ((v / 2 : Nat) : Int) := by omega
      have hmod : (v : Int) % 2 = ((v % 2 : Nat) : Int) := by omega
      obtain ⟨n, hnv⟩ : ∃ n, v / 2 = n := ⟨_, rfl⟩
      obtain ⟨p, hpv⟩ : ∃ p, v % 2 = p := ⟨_, rfl⟩
      have hn63 : n < 9223372036854775808 := by omega
      have hp2 : p < 2 := by omega
      rw [hnv] at hdiv
      rw [hpv] at hmod
      have HNV := Lib.hid hnv
      have HPV := Lib.hid hpv
      clear hnv hpv
      by_cases h2 : n = 0
      · subst h2
        go_wp2_with fail
        refine (HC.out _ HLr.out).mono ?_
        rintro e w' ⟨rfl, rfl⟩
        go_wp2
        go_ret2
        rw [HAT.out.err (x := ⟨1, 0, 0, 0⟩) hk (by rw [HR.out]; exact nx_e2 HQ.out HNV.out) (by decide)]
        exact ⟨_, rfl, Own.ofNil _ _, HBr.out⟩
      have h5 : ((n : Int) == 0) = false := by rw [beq_eq_false_iff_ne]; omega
      by_cases h3 : p = 0
      · subst h3
        by_cases h4 : R < n
        · go_wp2_with fail
          refine (HC.out _ HLr.out).mono ?_
          rintro e w' ⟨rfl, rfl⟩
          go_wp2
          go_ret2
          rw [HAT.out.err (x := ⟨6, 0, 0, 0⟩) hk (by rw [HR.out]; exact (nx_l HQ.out (by rw [HNV.out]; exact h2) HPV.out).trans (by unfold nxl; rw [HNV.out]; exact if_pos h4)) (by decide)]
          exact ⟨_, rfl, Own.ofNil _ _, HBr.out⟩
        exfalso
        omega
      · obtain rfl : p = 1 := by omega
        clear h3
        have hkm : k + m ≤ xs.length := by omega
        have hu2 := fun W (h : Lie W ad xs) => HU.out W (k + m) h
        rw [uR_in xs (k + m) hkm, Int.natCast_add] at hu2
        obtain ⟨q2, hq2⟩ : ∃ q2, dec 0 0 (xs.drop (k + m)) = q2 := ⟨_, rfl⟩
        have hbd2 := dec_bounds (xs.drop (k + m))
        rw [hq2] at hu2 hbd2
        rw [← List.drop_drop] at hq2
        obtain ⟨d, m2, er2⟩ := q2
        have HQ2 := Lib.hid hq2
        have HC2 := Lib.hid hu2
        have hodd : v % 2 ≠ 0 := by rw [HPV.out]; decide
        have HODD := Lib.hid hodd
        clear hq2 hu2 hodd
        dsimp only at hbd2 HC2
        by_cases g1 : er2 ≠ 0
        · have g1' : ((er2 : Int) == 0) = false := by rw [beq_eq_false_iff_ne]; omega
          have g1'' : endOf (k + m) (d, m2, er2) = 0 := if_neg g1
          have HE := Lib.hid g1
          clear g1 hbd2
          go_wp2_with fail
          refine (HC.out _ HLr.out).mono ?_
          rintro e w' ⟨rfl, rfl⟩
          go_wp2_with fail
          refine (HC2.out _ HLr.out).mono ?_
          rintro e w' ⟨rfl, rfl⟩
          go_wp2
          go_ret2
          rw [HAT.out.err (x := ⟨er2, 0, 0, 0⟩) hk (by rw [HR.out]; exact (nx_c HQ.out (by rw [HNV.out]; exact h2) HODD.out).trans (nxc_e HQ2.out HE.out)) (by exact HE.out)]
          exact ⟨_, rfl, Own.ofNil _ _, HBr.out⟩
        obtain rfl : er2 = 0 := by omega
        obtain ⟨gm0, gmx, gd64⟩ := hbd2 rfl
        rw [List.length_drop] at gmx
        have gend : endOf (k + m) (d, m2, 0) = (k : Int) + m + m2 := by unfold endOf; rw [if_pos rfl]; push_cast; rfl
        rw [gend] at HC2
        clear gend g1 hbd2
        by_cases g2 : d = 0 ∨ L < d
        · have HG := Lib.hid g2
          by_cases g3 : d = 0
          · subst g3
            go_wp2_with fail
            refine (HC.out _ HLr.out).mono ?_
            rintro e w' ⟨rfl, rfl⟩
            go_wp2_with fail
            refine (HC2.out _ HLr.out).mono ?_
            rintro e w' ⟨rfl, rfl⟩
            go_wp2
            go_ret2
            rw [HAT.out.err (x := ⟨7, 0, 0, 0⟩) hk (by rw [HR.out]; exact (nx_c HQ.out (by rw [HNV.out]; exact h2) HODD.out).trans (nxc_r HQ2.out (by rw [HLL.out]; first | exact HG.out | exact .inl rfl))) (by decide)]
            exact ⟨_, rfl, Own.ofNil _ _, HBr.out⟩
          · have g4 : L < d := by omega
            have g5 : ((d : Int) == 0) = false := by rw [beq_eq_false_iff_ne]; omega
            clear g2 g3
            go_wp2_with fail
            refine (HC.out _ HLr.out).mono ?_
            rintro e w' ⟨rfl, rfl⟩
            go_wp2_with fail
            refine (HC2.out _ HLr.out).mono ?_
            rintro e w' ⟨rfl, rfl⟩
            go_wp2
            go_ret2
            rw [HAT.out.err (x := ⟨7, 0, 0, 0⟩) hk (by rw [HR.out]; exact (nx_c HQ.out (by rw [HNV.out]; exact h2) HODD.out).trans (nxc_r HQ2.out (by rw [HLL.out]; first | exact HG.out | exact .inl rfl))) (by decide)]
            exact ⟨_, rfl, Own.ofNil _ _, HBr.out⟩
        exfalso
        omega
    · have hend := HAT.out.stop hk
      have HEND := Lib.hid hend
      obtain ⟨a1, c1, rfl, _, _, _, _⟩ := hown.slice
      clear hend hown
      go_wp2
      go_ret2
      exact ⟨_, by rw [HEND.out]; rfl, by rw [HEND.out]; exact HOr.out, HBr.out⟩
end Go.Proofs.Ytihiccccpjakgaa
