/-
  The statement LzTokens.
-/
import Derived.Test.YtihiccccpjakgaaZLives
import Derived.Test.YtihiccccpjakgaaZForm
namespace Go.Proofs.Ytihiccccpjakgaa
open Go.RowKit
set_option linter.unusedVariables false
set_option linter.unusedSimpArgs false
/-- the tokens before i are valid, and stand for out -/
structure Sofar (ts : List Tkn) (i : Nat) (out : List UInt8) : Prop where
  ok : oks [] ((ts.take i).map Tkn.tk)
  ex : exs [] ((ts.take i).map Tkn.tk) = out
  fi : ∀ x ∈ ts.take i, x.Fine
  len : out.length ≤ 70000
theorem Sofar.next {ts : List Tkn} {i : Nat} {out : List UInt8} (h : Sofar ts i out) (hi : i < ts.length) {x : Tkn} (hx : ts[i] = x) (hf : x.Fine) (hk : x.tk.ok out) (hl : (x.tk.ex out).length ≤ 70000) : Sofar ts (i + 1) (x.tk.ex out) := by
  have e : (ts.take (i + 1)) = ts.take i ++ [x] := by rw [List.take_succ_eq_append_getElem hi, hx]
  refine ⟨?_, ?_, ?_, hl⟩
  · rw [e, List.map_append]; exact oks_snoc _ _ _ h.ok (by rw [h.ex]; exact hk)
  · rw [e, List.map_append]; show exs [] (_ ++ [_]) = _; rw [exs_snoc, h.ex]
  · intro y hy
    rw [e, List.mem_append, List.mem_singleton] at hy
    rcases hy with hy | rfl
    · exact h.fi y hy
    · exact hf
/-- the inner loop: a copy -/
def RelW (B : Nat) (W : World) (out : List UInt8) (n d : Nat) (u3 u6 : Value) (wr : World) : Prop := ∃ k, u6 = .int .i64 (k : Nat) ∧ k ≤ n ∧ Own wr B u3 (cpy k d out) ∧ KeepU B W wr
def RelT (ts : List Tkn) (w : World) (u3 u4 : Value) (wr : World) : Prop := ∃ i out, u4 = .int .i64 (i : Nat) ∧ i ≤ ts.length ∧ Own wr w.heap.size u3 out ∧ Sofar ts i out ∧ Below w.heap.size w wr
set_option maxRecDepth 100000 in
set_option maxHeartbeats 2000000 in
theorem law_tokens (ad : Option Addr) (cap : Nat) (ts : List Tkn) (w : World) (hl : ToksAt w ad ts) (hok : ∀ x ∈ ts, x.Ok) (hn : ts.length ≤ cap) (hcm : cap ≤ maxLen) :
    Calls Try.prog 4 #[.slice ad ts.length cap] w fun e w' => e = .returned (.bool true) ∧ Below w.heap.size w w' := by
  have HL := Lib.hid hl
  have HOK := Lib.hid hok
  have HN := Lib.hid hn
  unfold maxLen at hcm
  by_cases h200 : 200 < ts.length
  · have h1' : (200 : Int) < (ts.length : Int) := by omega
    have hn' : ts.length ≤ 9223372036854775807 := by omega
    clear hl hok hn
    go_enter Try.func4, Try.ntmps4
    go_wp2_with fail
    refine (lives_any _).mono ?_
    rintro e w2 ⟨rfl, hb⟩
    have HB := Lib.hid hb
    clear hb
    go_wp2
    go_ret
    exact ⟨rfl, HB.out⟩
  have h2' : decide ((200 : Int) < (ts.length : Int)) = false := by simp; omega
  clear hl hok hn
  go_enter Try.func4, Try.ntmps4
  go_wp2_with fail
  refine (lives_any _).mono ?_
  rintro e w2 ⟨rfl, hb⟩
  have HB := Lib.hid hb
  have HOE := Lib.hid ((Own.made w2).mono hb.size)
  have HB2 := Lib.hid (hb.alloc hb.size (.cells #[] 5))
  clear hb
  go_wp2
  go_loopw [3, 4] (fun u3 u4 wr => RelT ts w u3 u4 wr) (fun _ u4 _ => ts.length - (intOf u4).toNat)
  case atStart => exact ⟨0, [], rfl, Nat.zero_le _, HOE.out, ⟨trivial, rfl, fun x hx => by simp at hx, by simp⟩, HB2.out⟩
  case round =>
    obtain ⟨i, out, rfl, hi, ho, hso, hb⟩ := hrel
    have HSO := Lib.hid hso
    have HOw := Lib.hid ho
    have HBr := Lib.hid hb
    by_cases hlt : i < ts.length
    · rcases (HL.out.below hb rfl).at_ with h0 | ⟨b, off, rfl, hbl, hat⟩
      · subst h0; rw [List.length_nil] at hlt; omega
      have hx := hat i hlt
      obtain ⟨x, hxe⟩ : ∃ x, ts[i] = x := ⟨_, rfl⟩
      have hxm : x ∈ ts := by rw [← hxe]; exact List.getElem_mem hlt
      rw [hxe] at hx
      have hok := HOK.out x hxm
      have HNX := Lib.hid (fun (hf : x.Fine) (hk : x.tk.ok out) (hl : (x.tk.ex out).length ≤ 70000) => hso.next hlt hxe hf hk hl)
      obtain ⟨xl, xad, xlc, xc, xd⟩ := x
      have hc0 := hx.c0
      have hc1 := hx.c1
      have hc2 := hx.c2
      have hli := hx.li
      have hna := hok.na
      have k0 := hok.c0
      have k1 := hok.c1
      have k2 := hok.d0
      have k3 := hok.d1
      have k4 := hok.le
      have k5 := hok.lm
      unfold maxLen at k5
      dsimp only at hc0 hc1 hc2 hli hna k0 k1 k2 k3 k4 k5
      obtain ⟨n, hnl⟩ : ∃ n, xl.length = n := ⟨_, rfl⟩
      rw [hnl] at hc0 k4
      have HNL := Lib.hid hnl
      obtain ⟨a1, c1, rfl, hl1, _, hcm1, hn1⟩ := ho.slice
      obtain ⟨L, hL⟩ : ∃ L, out.length = L := ⟨_, rfl⟩
      have HLL := Lib.hid hL
      have hol : L ≤ 70000 := by rw [← hL]; exact hso.len
      rw [hL]
      have hba : Below wr.heap.size wr (wr.alloc (.cells #[.slice xad n xlc, .int .i64 xc, .int .i64 xd] 32)) := (Below.refl _ _).alloc (Nat.le_refl _) _
      have hbt : Bt (wr.alloc (.cells #[.slice xad n xlc, .int .i64 xc, .int .i64 xd] 32)) wr.heap.size (.slice xad n xlc) xc xd := heap_new _ _
      have HX := Lib.hid (hli.below hba rfl)
      have HOW := Lib.hid (HOw.out.below hba)
      have HNA := Lib.hid hna
      have HBW := Lib.hid (hb.trans (hba.mono hb.size))
      obtain ⟨W, hW⟩ : ∃ W, wr.alloc (.cells #[.slice xad n xlc, .int .i64 xc, .int .i64 xd] 32) = W := ⟨_, rfl⟩
      obtain ⟨g, hg⟩ : ∃ g, wr.heap.size = g := ⟨_, rfl⟩
      rw [hW] at HX HOW HBW hba hbt
      rw [hg] at hbt
      rw [hL] at HOW
      have HBT := Lib.hid hbt
      have hw0 := hbt.c0
      have hw1 := hbt.c1
      have hw2 := hbt.c2
      clear hat hx hxe hxm hl1 hn1 hba hbt hok hli hna hnl hso ho hb hL
      by_cases hbig : 4096 < n ∨ 65536 < L
      · by_cases hb1 : 4096 < n
        · have d1 : decide ((4096 : Int) < (n : Int)) = true := by simp; omega
          clear hbig
          go_wp2
          go_ret
          exact ⟨rfl, HBW.out⟩
        · have d1 : decide ((4096 : Int) < (n : Int)) = false := by simp; omega
          have d2 : decide ((65536 : Int) < (L : Int)) = true := by simp; omega
          clear hbig
          go_wp2
          go_ret
          exact ⟨rfl, HBW.out⟩
      have d1 : decide ((4096 : Int) < (n : Int)) = false := by simp; omega
      have d2 : decide ((65536 : Int) < (L : Int)) = false := by simp; omega
      have hn4 : n ≤ 4096 := by omega
      have hL6 : L ≤ 65536 := by omega
      by_cases hl0 : 0 < n
      · have htk : Tkn.tk ⟨xl, xad, xlc, xc, xd⟩ = .lit xl := by unfold Tkn.tk; dsimp only; rw [HNL.out, if_pos hl0]
        have hfi : Tkn.Fine ⟨xl, xad, xlc, xc, xd⟩ := ⟨by show xl.length ≤ 4096; rw [HNL.out]; omega, fun h => by have h : xl.length = 0 := h; rw [HNL.out] at h; omega⟩
        have hnx := HNX.out hfi (by rw [htk]; exact ⟨by rw [HNL.out]; exact hl0, by rw [HNL.out]; omega⟩) (by rw [htk]; show (out ++ xl).length ≤ _; rw [List.length_append, HLL.out, HNL.out]; omega)
        rw [htk] at hnx
        have HNX2 := Lib.hid hnx
        clear hnx hfi htk hbig
        go_wp2_with (at_builtin; refine wpList_append_u rfl (.tmp 38) (.tmp 40) rfl w.heap.size _ out rfl HOW.out xad n xlc xl HNA.out HX.out HNL.out.symm rfl (by rw [HLL.out]; omega) HBW.out.size ?_; intro v3 w3 hown3 hgrow3)
        have HO3 := Lib.hid hown3
        have HG3 := Lib.hid hgrow3
        clear hown3 hgrow3
        go_wp2
        refine ⟨⟨i + 1, _, by rw [Int.natCast_add]; rfl, by omega, HO3.out, HNX2.out, HBW.out.grown HG3.out HBW.out.size (fun q hq => (HOW.out.lt q hq).1)⟩, ?_⟩
        show ts.length - ((i : Int) + 1).toNat < ts.length - (i : Int).toNat
        omega
      · obtain rfl : n = 0 := by omega
        by_cases hbad : xc < 1 ∨ 4096 < xc ∨ xd < 1 ∨ (L : Int) < xd
        · by_cases b1 : xc < 1
          · clear hbad hbig
            go_wp2
            go_ret
            exact ⟨rfl, HBW.out⟩
          have e1 : decide (xc < 1) = false := by simp; omega
          by_cases b2 : 4096 < xc
          · clear hbad hbig
            go_wp2
            go_ret
            exact ⟨rfl, HBW.out⟩
          have e2 : decide (4096 < xc) = false := by simp; omega
          by_cases b3 : xd < 1
          · clear hbad hbig
            go_wp2
            go_ret
            exact ⟨rfl, HBW.out⟩
          have e3 : decide (xd < 1) = false := by simp; omega
          have e4 : decide ((L : Int) < xd) = true := by simp; omega
          clear hbad hbig
          go_wp2
          go_ret
          exact ⟨rfl, HBW.out⟩
        obtain ⟨c, rfl⟩ : ∃ c : Nat, xc = c := ⟨xc.toNat, by omega⟩
        obtain ⟨d, rfl⟩ : ∃ d : Nat, xd = d := ⟨xd.toNat, by omega⟩
        have e1 : decide ((c : Int) < 1) = false := by simp; omega
        have e2 : decide ((4096 : Int) < (c : Int)) = false := by simp; omega
        have e3 : decide ((d : Int) < 1) = false := by simp; omega
        have e4 : decide ((L : Int) < (d : Int)) = false := by simp; omega
        have hcb : c ≤ 4096 := by omega
        have hc1b : 1 ≤ c := by omega
        have hdb : d ≤ L := by omega
        have hd1 : 1 ≤ d := by omega
        have htk : Tkn.tk ⟨xl, xad, xlc, (c : Int), (d : Int)⟩ = .cp c d := by unfold Tkn.tk; dsimp only; rw [HNL.out, if_neg (by omega), Int.toNat_natCast, Int.toNat_natCast]
        have hfi : Tkn.Fine ⟨xl, xad, xlc, (c : Int), (d : Int)⟩ := ⟨by show xl.length ≤ 4096; rw [HNL.out]; omega, fun _ => ⟨by show (1 : Int) ≤ c; omega, by show (c : Int) ≤ 4096; omega, by show (1 : Int) ≤ d; omega, by show (d : Int) ≤ 200000; omega⟩⟩
        have hnx := HNX.out hfi (by rw [htk]; exact ⟨by omega, by omega, by omega, by rw [HLL.out]; exact hdb, by omega⟩) (by rw [htk]; show (cpy c d out).length ≤ _; rw [cpy_length, HLL.out]; omega)
        rw [htk] at hnx
        have HNX2 := Lib.hid hnx
        clear hnx hfi htk hbig hbad
        go_wp2
        have e5 : decide (L < d) = false := by simp; omega
        rw [e5]
        go_loopw [3, 6] (fun u3 u6 wq => RelW w.heap.size W out c d u3 u6 wq) (fun _ u6 _ => c - (intOf u6).toNat)
        case atStart => exact ⟨0, rfl, Nat.zero_le _, HOW.out, .refl _ _⟩
        case round =>
          obtain ⟨k, rfl, hkc, hoK, hkK⟩ := hrel
          have hbtr := HBT.out.u hkK
          have hv1 := hbtr.c1
          have hv2 := hbtr.c2
          have HKK := Lib.hid hkK
          have HOK2 := Lib.hid hoK
          by_cases hkl : k < c
          · obtain ⟨ys, hys⟩ : ∃ ys, cpy k d out = ys := ⟨_, rfl⟩
            have hyl := cpy_length k d out
            have hsn := cpy_snoc k d out
            rw [hys] at hoK hyl hsn HOK2
            rw [HLL.out] at hyl
            obtain ⟨J, hJ⟩ : ∃ J : Nat, (ys.length : Int) - (d : Int) = J := ⟨ys.length - d, by omega⟩
            have hJn : ys.length - d = J := by omega
            rw [hJn] at hsn
            have HSN := Lib.hid hsn
            have hJl : J < ys.length := by omega
            have hyb : ys.length ≤ 2000000 := by omega
            have HYL := Lib.hid hyl
            obtain ⟨a2, c2, rfl, hl2, hyc2, hcm2, _⟩ := hoK.slice
            obtain ⟨x, hx⟩ : ∃ x, ys.getD J 0 = x := ⟨_, rfl⟩
            have hxg : ys[J] = x := by rw [← hx, List.getD_eq_getElem?_getD, List.getElem?_eq_getElem hJl]; rfl
            rw [hx] at HSN
            rcases hl2.at_ with h7 | ⟨b2, off2, rfl, _, hcl⟩
            · subst h7; rw [List.length_nil] at hJl; omega
            have hcell : wr.cell? ⟨b2, off2 + J, none⟩ = some (.int .u8 (x.toNat : Int)) := by rw [hcl J hJl, hxg]
            have H1 := Lib.hid (Lie.one wr (x.toNat : Int) x rfl)
            have HO := Lib.hid (HOK2.out.below ((Below.refl _ _).alloc (Nat.le_refl _) (.cells #[.int .u8 (x.toNat : Int)] 5)))
            have hsz : w.heap.size ≤ wr.heap.size := Nat.le_trans HBW.out.size HKK.out.below.size
            have HKA := Lib.hid (HKK.out.trans (KeepU.new ((Below.refl wr.heap.size wr).alloc (Nat.le_refl _) (.cells #[.int .u8 (x.toNat : Int)] 5)) hsz))
            clear hsn hyl hl2 hcl hx hxg hoK hkK hys hJn hbtr
            go_wp2_with (at_builtin; refine wpList_append_u rfl (.tmp 68) (.tmp 77) rfl w.heap.size _ ys rfl HO.out _ 1 1 [x] (fun h => by cases h) H1.out rfl rfl (by have := HYL.out; omega) (by simp; omega) ?_; intro v1 w1 hown1 hgrow1)
            have HW1 := Lib.hid hown1
            have HG1 := Lib.hid hgrow1
            clear hown1 hgrow1
            go_wp2
            go_roundw
            case rel => exact ⟨k + 1, by rw [Int.natCast_add]; rfl, by omega, by rw [HSN.out]; exact HW1.out, HKA.out.trans (KeepU.grown HO.out HG1.out (by simp; omega))⟩
            case measure => simp [intOf]; omega
          · obtain rfl : c = k := by omega
            obtain ⟨a2, c2, rfl, _, _, _, _⟩ := hoK.slice
            clear hoK hkK hbtr
            go_wp2
            refine ⟨⟨i + 1, _, by rw [Int.natCast_add]; rfl, by omega, HOK2.out, HNX2.out, HBW.out.trans HKK.out.below⟩, ?_⟩
            show ts.length - ((i : Int) + 1).toNat < ts.length - (i : Int).toNat
            omega
    · obtain rfl : ts.length = i := by omega
      have hsok := hso.ok
      have hsex := hso.ex
      have hsfi := hso.fi
      rw [List.take_length] at hsok hsex hsfi
      have hfl := forms_len ts hsfi
      have hu1 := unq_forms out.length (ts.map Tkn.tk) [] hsok (Nat.zero_le _)
      have hu2 := unq_forms (out.length - 1) (ts.map Tkn.tk) [] hsok (Nat.zero_le _)
      rw [hsex] at hu1 hu2
      rw [if_neg (by omega)] at hu1
      have HFO := Lib.hid (fun W (h : ToksAt W ad ts) => form_any ad cap ts W h HN.out (by omega) HOK.out hsfi)
      obtain ⟨fs, hfs⟩ : ∃ fs, forms (ts.map Tkn.tk) = fs := ⟨_, rfl⟩
      rw [hfs] at hu1 hu2 hfl HFO
      have hfs6 : fs.length ≤ 1000000 := by omega
      obtain ⟨a1, c1, rfl, hl1, _, hcm1, hn1⟩ := ho.slice
      obtain ⟨L, hL⟩ : ∃ L, out.length = L := ⟨_, rfl⟩
      have HLL := Lib.hid hL
      have hol : L ≤ 70000 := by rw [← hL]; exact hso.len
      have H1 := Lib.hid (fun (a : Option Addr) (c : Nat) (W : World) (h : Lie W a fs) (h1 : fs.length ≤ c) (h3 : a = none → c = 0) => unpack_any a c fs (L : Int) W h h1 hfs6 h3 (by omega))
      have H2 := Lib.hid (fun (a : Option Addr) (c : Nat) (W : World) (h : Lie W a fs) (h1 : fs.length ≤ c) (h3 : a = none → c = 0) => unpack_any a c fs ((L : Int) - 1) W h h1 hfs6 h3 (by omega))
      rw [hL] at hu1 hu2
      rw [Int.toNat_natCast, hu1] at H1
      rw [show ((L : Int) - 1).toNat = L - 1 by omega, hu2] at H2
      rw [hL]
      have HL1 := Lib.hid hl1
      clear hso ho hb hfs hu1 hu2 hsok hsex hsfi hl1 hn1 hL hfl
      go_wp2_with fail
      refine (HFO.out _ (HL.out.below HBr.out rfl)).mono ?_
      rintro e w3 ⟨v3, rfl, ho3, hb3⟩
      obtain ⟨a3, c3, rfl, hl3, hn3, _, ha3⟩ := ho3.slice
      have HB3 := Lib.hid (HBr.out.trans (hb3.mono HBr.out.size))
      have HR3 := Lib.hid hb3
      have HL3 := Lib.hid hl3
      have HN3 := Lib.hid hn3
      have HA3 := Lib.hid ha3
      clear ho3 hb3 hl3 hn3 ha3
      go_wp2_with fail
      refine (H1.out a3 c3 w3 HL3.out HN3.out HA3.out).mono ?_
      rintro e w4 ⟨v4, rfl, ho4, hb4⟩
      obtain ⟨a4, c4, rfl, hl4, _, _, _⟩ := ho4.slice
      dsimp only at hl4 ⊢
      rw [HLL.out]
      have HB4 := Lib.hid (HB3.out.trans (hb4.mono HB3.out.size))
      have hr4 := HR3.out.trans (hb4.mono HR3.out.size)
      have hq4 := conv_lie c4 hl4
      have hq1 := conv_lie c1 (HL1.out.below hr4 rfl)
      rw [HLL.out] at hq4 hq1
      clear ho4 hb4 hl4 hr4
      go_wp2_with fail
      refine (HFO.out _ (HL.out.below HB4.out rfl)).mono ?_
      rintro e w5 ⟨v5, rfl, ho5, hb5⟩
      obtain ⟨a5, c5, rfl, hl5, hn5, _, ha5⟩ := ho5.slice
      have HB5 := Lib.hid (HB4.out.trans (hb5.mono HB4.out.size))
      have HL5 := Lib.hid hl5
      have HN5 := Lib.hid hn5
      have HA5 := Lib.hid ha5
      clear ho5 hb5 hl5 hn5 ha5 hq4 hq1
      by_cases hz : L = 0
      · subst hz
        go_wp2_with fail
        refine (H2.out a5 c5 w5 HL5.out HN5.out HA5.out).mono ?_
        rintro e w6 ⟨v6, rfl, ho6, hb6⟩
        have HB6 := Lib.hid (HB5.out.trans (hb6.mono HB5.out.size))
        clear ho6 hb6
        go_wp2
        go_ret
        exact ⟨rfl, HB6.out⟩
      · rw [if_pos (by omega)] at H2
        have hz' : ((L : Int) == 0) = false := by rw [beq_eq_false_iff_ne]; omega
        have hl1' : (L : Int) - 1 = ((L - 1 : Nat) : Int) := by omega
        rw [hl1'] at H2
        go_wp2_with fail
        refine (H2.out a5 c5 w5 HL5.out HN5.out HA5.out).mono ?_
        rintro e w6 ⟨v6, rfl, ho6, hb6⟩
        have HB6 := Lib.hid (HB5.out.trans (hb6.mono HB5.out.size))
        clear ho6 hb6
        go_wp2
        go_ret
        exact ⟨rfl, HB6.out⟩
end Go.Proofs.Ytihiccccpjakgaa
