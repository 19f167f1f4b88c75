/-
  The products, by the specification.
-/
import Derived.Test.YtbkjocmldeagdaaRIdent5
import Derived.Test.YtbkjocmldeagdaaHRValid
import Derived.Test.YtbkjocmldeagdaaHApp
import Derived.StillTailTactics
namespace Go.Proofs.Ytbkjocmldeagdaa
open Go.RowKit
theorem drewN_below (w : World) {w' : World} (h : ∃ q, w' = w.drewN q) : Below w.heap.size w w' := by
  obtain ⟨q, rfl⟩ := h
  exact below_drewN (.refl _ _) q
theorem rvalid_b (ad : Option Addr) (n cap : Nat) (ls : List (List UInt8)) (w : World) (hl : Lr w ad ls) (hn : n = ls.length) (hm : n ≤ maxLen) :
    Calls Try.prog 17 #[.slice ad n cap] w fun e w' => e = .returned (.bool (vld ls)) ∧ Below w.heap.size w w' :=
  (rvalid_any ad n cap ls w hl hn hm).mono fun _ _ ⟨h1, h2⟩ => ⟨h1, drewN_below w h2⟩
/-- what lies of a valid matrix, now and later -/
theorem Lr.mat {w : World} {ad : Option Addr} {M : List (List UInt8)} (h : Lr w ad M) (hV : ValidL M) (n K : Nat) (hn : n = M.length) (hK : K = cols M) :
    ∃ b off, ad = some ⟨b, off, none⟩ ∧ Hid (∀ w2, Below w.heap.size w w2 → ∀ i, i < n → ∃ b1 off1 c1, w2.cell? ⟨b, off + i, none⟩ = some (.slice (some ⟨b1, off1, none⟩) K c1) ∧ K ≤ c1 ∧ c1 ≤ 2 ^ 63 - 1 ∧ ∀ k, k < K → w2.cell? ⟨b1, off1 + k, none⟩ = some (.int .u8 (ev (ent M i k)))) := by
  obtain ⟨b, off, rfl, hbl, _⟩ := h.row 0 (by have := hV.pos; omega)
  refine ⟨b, off, rfl, Lib.hid fun w2 hb i hi => ?_⟩
  have hi' : i < M.length := by omega
  obtain ⟨b', off', e', -, a1, c1, f1, l1, g1, m1, -⟩ := h.row i hi'
  cases e'
  have hlen : (M[i]).length = K := by rw [hK]; exact hV.len i hi'
  have hc := hV.cpos
  obtain ⟨b1, off1, rfl, hb1l, hc1⟩ := l1.ev (by omega)
  rw [hlen] at f1 g1
  refine ⟨b1, off1, c1, (hb.cell (p := ⟨b, off + i, none⟩) hbl).trans f1, g1, by unfold maxLen at m1; exact m1, fun k hk => ?_⟩
  rw [hb.cell (p := ⟨b1, off1 + k, none⟩) hb1l, hc1 k (by omega), ent_get]
theorem comb_step (k : Nat) (c : Nat → UInt8) (M : Nat → Nat → UInt8) (q : Nat) : comb k c M q ^^^ mulU (c k) (M k q) = comb (k + 1) c M q := rfl
theorem comb_none (c : Nat → UInt8) (M : Nat → Nat → UInt8) (q : Nat) : comb 0 c M q = 0 := rfl
theorem OMv.lowB {w : World} {B B' D r L : Nat} {v : Value} {M : Nat → Nat → UInt8} (h : OMv w B D v r L M) (hB : B' ≤ B) : OMv w B' D v r L M := by
  obtain ⟨cs, h1, h2, h3⟩ := h
  refine ⟨cs, ⟨h1.1, ?_⟩, fun i hi => ⟨(h2 i hi).1.mono hB, (h2 i hi).2⟩, h3⟩
  rcases h1.2 with h0 | ⟨g, cap, cur, hv, hg0, hg⟩
  · exact .inl h0
  · exact .inr ⟨g, cap, cur, hv, Nat.le_trans hB hg0, hg⟩
def RMulP (w : World) (xs ys : List (List UInt8)) (e : Ending) (w' : World) : Prop :=
  (Fits xs ys ∧ ∃ v, e = .returned (.tuple #[v, .bool true]) ∧ GivesL w xs.length (mulL xs ys) v w') ∨
  (¬ Fits xs ys ∧ e = .returned (.tuple #[.slice none 0 0, .bool false]) ∧ Below w.heap.size w w')
theorem RMulP.no {w w' : World} {xs ys : List (List UInt8)} (h : ¬ Fits xs ys) (hb : Below w.heap.size w w') : RMulP w xs ys (.returned (.tuple #[.slice none 0 0, .bool false])) w' := .inr ⟨h, rfl, hb⟩
attribute [local irreducible] matL rowF progF progX mulF mulL mulU comb
set_option maxRecDepth 100000 in
set_option maxHeartbeats 1000000 in
theorem rmulm_any (ad bd : Option Addr) (n nb cap bc : Nat) (xs ys : List (List UInt8)) (w : World) (hl : Lr w ad xs) (hn : n = xs.length) (hm : n ≤ maxLen) (hl2 : Lr w bd ys) (hn2 : nb = ys.length) (hm2 : nb ≤ maxLen) :
    Calls Try.prog 12 #[.slice ad n cap, .slice bd nb bc] w (RMulP w xs ys) := by
  have HL := Lib.hid hl
  have HN := Lib.hid hn
  have HM := Lib.hid hm
  have HL2 := Lib.hid hl2
  have HN2 := Lib.hid hn2
  have HM2 := Lib.hid hm2
  clear hl hn hm hl2 hn2 hm2
  rcases vld_cases xs with ⟨hv, hV⟩ | ⟨hv, hV⟩
  rotate_left
  · go_enter Try.func12, Try.ntmps12
    go_wp2_with fail
    refine (rvalid_b _ n cap xs w HL.out HN.out HM.out).mono ?_
    rintro e w' ⟨rfl, hb⟩
    rw [hv]
    go_wp2
    go_ret2
    exact RMulP.no (fun h => hV h.1) hb
  rcases vld_cases ys with ⟨hv2, hV2⟩ | ⟨hv2, hV2⟩
  rotate_left
  · go_enter Try.func12, Try.ntmps12
    go_wp2_with fail
    refine (rvalid_b _ n cap xs w HL.out HN.out HM.out).mono ?_
    rintro e w1 ⟨rfl, hb1⟩
    rw [hv]
    go_wp2_with fail
    refine (rvalid_b _ nb bc ys w1 (HL2.out.below hb1) HN2.out HM2.out).mono ?_
    rintro e w2 ⟨rfl, hb2⟩
    rw [hv2]
    go_wp2
    go_ret2
    exact RMulP.no (fun h => hV2 h.2.1) (hb1.trans (hb2.mono hb1.size))
  obtain ⟨K, hK⟩ : ∃ K, K = cols xs := ⟨_, rfl⟩
  obtain ⟨m, hmm⟩ : ∃ m, m = cols ys := ⟨_, rfl⟩
  obtain ⟨b, off, rfl, HCa⟩ := HL.out.mat hV n K HN.out hK
  obtain ⟨b2, off2, rfl, HCb⟩ := HL2.out.mat hV2 nb m HN2.out hmm
  have hn64 : n ≤ 64 := by have := hV.le; have := HN.out; omega
  have hnb64 : nb ≤ 64 := by have := hV2.le; have := HN2.out; omega
  have hn1 : 0 < n := by have := hV.pos; have := HN.out; omega
  have hn0 : (0 : Int) < (n : Int) := by omega
  have hb1 : 0 < nb := by have := hV2.pos; have := HN2.out; omega
  have hb0 : (0 : Int) < (nb : Int) := by omega
  have hK1 : 1 ≤ K := by rw [hK]; exact hV.cpos
  have hK2 : K ≤ 64 := by rw [hK]; exact hV.cle
  have hm1 : 1 ≤ m := by rw [hmm]; exact hV2.cpos
  have hm64 : m ≤ 64 := by rw [hmm]; exact hV2.cle
  have HV := Lib.hid hV
  have HV2 := Lib.hid hV2
  have HK := Lib.hid hK
  have HMM := Lib.hid hmm
  clear hV hV2 hK hmm
  by_cases hKb : K = nb
  rotate_left
  · have hK3 : ¬ (K : Int) = (nb : Int) := by omega
    have HNO : Hid (¬ Fits xs ys) := Lib.hid fun h => hKb (by rw [HK.out, HN2.out]; exact h.2.2)
    go_enter Try.func12, Try.ntmps12
    go_wp2_with fail
    refine (rvalid_b _ n cap xs w HL.out HN.out HM.out).mono ?_
    rintro e w1 ⟨rfl, hb1⟩
    rw [hv]
    have HB1 := Lib.hid hb1
    go_wp2_with fail
    refine (rvalid_b _ nb bc ys w1 (HL2.out.below HB1.out) HN2.out HM2.out).mono ?_
    rintro e w2 ⟨rfl, hb2⟩
    rw [hv2]
    have HB2 := Lib.hid (HB1.out.trans (hb2.mono HB1.out.size))
    obtain ⟨x1, x2, x3, f0, g0, m0, -⟩ := HCa.out w2 HB2.out 0 hn1
    rw [Nat.add_zero] at f0
    clear hb1 hb2
    go_wp2
    go_ret2
    exact RMulP.no HNO.out HB2.out
  subst hKb
  have HF : Hid (Fits xs ys) := Lib.hid ⟨HV.out, HV2.out, by rw [← HK.out]; exact HN2.out⟩
  go_enter Try.func12, Try.ntmps12
  go_wp2_with fail
  refine (rvalid_b _ n cap xs w HL.out HN.out HM.out).mono ?_
  rintro e w1 ⟨rfl, hb1⟩
  rw [hv]
  have HB1 := Lib.hid hb1
  clear hb1
  go_wp2_with fail
  refine (rvalid_b _ K bc ys w1 (HL2.out.below HB1.out) HN2.out HM2.out).mono ?_
  rintro e w2 ⟨rfl, hb2⟩
  rw [hv2]
  have HB2 := Lib.hid (HB1.out.trans (hb2.mono HB1.out.size))
  clear hb2
  obtain ⟨x1, x2, x3, f0, g0, m0, -⟩ := HCa.out w2 HB2.out 0 hn1
  rw [Nat.add_zero] at f0
  have HO1 : Hid (OMv (w2.alloc (.cells #[] 23)) w.heap.size (w2.alloc (.cells #[] 23)).heap.size (.slice (some ⟨w2.heap.size, 0, none⟩) 0 0) 0 m (mulF xs ys)) := Lib.hid (by
    have h := OMv.made w2 (w2.alloc (.cells #[] 23)).heap.size m (mulF xs ys)
    exact h.lowB HB2.out.size)
  have HB3 := Lib.hid (HB2.out.alloc HB2.out.size (.cells #[] 23))
  go_wp2_with fail
  go_loopg [6, 7] n (fun gk vm vk wx => ∃ k : Nat, vk = .int .i64 k ∧ k + gk = n ∧ Hid (OMv wx w.heap.size wx.heap.size vm k m (mulF xs ys)) ∧ Hid (Below w.heap.size w wx))
  case atStart => exact ⟨0, rfl, by omega, HO1, HB3⟩
  case round =>
    clear f0 g0 m0
    obtain ⟨k, rfl, hk, hO, HB⟩ := hrel
    cases gk with
    | zero =>
      have hlt : ¬ (k : Int) < (n : Int) := by omega
      obtain rfl : k = n := by omega
      go_wp2
      go_ret2
      refine .inl ⟨HF.out, _, rfl, ?_⟩
      obtain ⟨ad, cap, e, h2, h3, h4⟩ := hO.out.lr (by omega)
      exact ⟨ad, cap, by rw [← HN.out]; exact e, by rw [mulL_eq, ← HN.out, ← HMM.out]; exact h2, by rw [← HN.out]; exact h3, h4, HB.out⟩
    | succ gk0 =>
      have hlt : (k : Int) < (n : Int) := by omega
      have hkN : k < n := by omega
      obtain ⟨W0, HW0⟩ : ∃ W0 : World, Hid (W0 = wr) := ⟨_, Lib.hid rfl⟩
      have HO0 : Hid (OMv W0 w.heap.size W0.heap.size u6 k m (mulF xs ys)) := Lib.hid (by rw [HW0.out]; exact hO.out)
      have HB0 : Hid (Below w.heap.size w W0) := Lib.hid (by rw [HW0.out]; exact HB.out)
      obtain ⟨y1, y2, y3, f2, g2, m2, -⟩ := HCb.out wr HB.out 0 (by omega)
      rw [Nat.add_zero] at f2
      go_wp2_with (at_make; refine wpList_make_row rfl (.tmp 38) (.tmp 38) rfl _ _ m rfl rfl rfl rfl (by omega) ?_; intro gb w2 hr2 hg2 hb2; rw [← HW0.out] at hg2 hb2; have HR2 := Lib.hid hr2; have HB2 := Lib.hid hb2; have HG2 := Lib.hid hg2; clear hr2 hg2 hb2)
      clear f2 g2 m2
      go_loopg [9, 10] m (fun gj vj vk wx => ∃ j : Nat, vj = .int .i64 j ∧ j + gj = m ∧ Hid (Rowu wx gb (progF m j (mulF xs ys k))) ∧ Hid (Below W0.heap.size W0 wx))
      case atStart => exact ⟨0, rfl, by omega, by rw [progF_zero]; exact HR2, HB2⟩
      case round =>
        obtain ⟨j, rfl, hj, hR4, hB4⟩ := hrel
        cases gk with
        | zero =>
          have hlt2 : ¬ (j : Int) < (m : Int) := by omega
          obtain rfl : j = m := by omega
          have HB5 : Hid (Below W0.heap.size W0 (wr.alloc (.cells #[.slice (some ⟨gb, 0, none⟩) j j] 23))) := Lib.hid (hB4.out.alloc hB4.out.size _)
          have HRO : Hid (Own (wr.alloc (.cells #[.slice (some ⟨gb, 0, none⟩) j j] 23)) W0.heap.size (.slice (some ⟨gb, 0, none⟩) j j) ((List.range j).map (mulF xs ys k))) := Lib.hid (by
            have h := hR4.out.below ((Below.refl wr.heap.size wr).alloc (Nat.le_refl _) (.cells #[.slice (some ⟨gb, 0, none⟩) j j] 23)) hR4.out.blk.lt
            rw [progF_end, rowF_def] at h
            exact h.own (n := j) HG2.out (by simp) (by unfold maxLen; omega))
          go_wp2_with (at_builtin; refine wpList_append_row rfl (.tmp 75) (.tmp 77) rfl w.heap.size u6 (.slice (some ⟨gb, 0, none⟩) j j) k j (mulF xs ys) W0.heap.size rfl (HO0.out.below HB5.out) _ rfl (cell_one_at _ _ _ _ (by simp)) HRO.out (by omega) HB0.out.size (by omega) (Nat.le_trans HB0.out.size HB5.out.size) ?_; intro v3 w3 ho3 hg3; have HO3 := Lib.hid ho3; have HB6 := Lib.hid ((HO0.out.below HB5.out).below_lt (HB0.out.trans (HB5.out.mono HB0.out.size)) (Nat.le_trans HB0.out.size HB5.out.size) hg3); clear ho3 hg3)
          go_roundg gk0
          case rel => exact ⟨k + 1, by go_num, by omega, HO3, HB6⟩
          case measure => omega
        | succ gj0 =>
          have hlt2 : (j : Int) < (m : Int) := by omega
          go_wp2_with fail
          go_loopg [10] K (fun gq vq wx => ∃ q : Nat, vq = .int .i64 q ∧ q + gq = K ∧ Hid (Rowu wx gb (progX m j (mulF xs ys k) (comb q (ent xs k) (ent ys) j))) ∧ Hid (Below W0.heap.size W0 wx))
          case atStart => exact ⟨0, rfl, by omega, by rw [comb_none, progX_start]; exact hR4, hB4⟩
          case round =>
            obtain ⟨q, rfl, hq, hR5, hB5⟩ := hrel
            cases gk with
            | zero =>
              have hlt3 : ¬ (q : Int) < (K : Int) := by omega
              obtain rfl : q = K := by omega
              have HFE : Hid (comb q (ent xs k) (ent ys) j = mulF xs ys k j) := Lib.hid (by rw [HN2.out]; unfold mulF; rfl)
              go_wp2
              go_roundg gj0
              case rel => exact ⟨j + 1, by go_num, by omega, by rw [← progX_end, ← HFE.out]; exact hR5, hB5⟩
              case measure => omega
            | succ gq0 =>
              have hlt3 : (q : Int) < (K : Int) := by omega
              have hkp : j < (progX m j (mulF xs ys k) (comb q (ent xs k) (ent ys) j)).length := by rw [progX_length]; omega
              have HBW := Lib.hid (HB0.out.trans (hB5.out.mono HB0.out.size))
              obtain ⟨p1, p2, p3, f5, -, -, h5⟩ := HCa.out wr.drew HBW.out.drew k hkN
              have f6 := h5 q (by omega)
              obtain ⟨p4, p5, p6, f7, -, -, h7⟩ := HCb.out wr.drew HBW.out.drew q (by omega)
              have f8 := h7 j (by omega)
              have f9 : wr.drew.cell? ⟨gb, j, none⟩ = _ := hR5.out.cell j hkp
              rw [progX_get, ← ev_nat] at f9
              have hz : wr.drew.frozen? ⟨gb, j, none⟩ = false := hR5.out.blk.frozen j
              have HX : Hid (∀ y, y = comb (q + 1) (ent xs k) (ent ys) j → Rowu ((wr.drew).setCell ⟨gb, j, none⟩ (.int .u8 (ev y))) gb (progX m j (mulF xs ys k) (comb (q + 1) (ent xs k) (ent ys) j)) ∧ Below W0.heap.size W0 ((wr.drew).setCell ⟨gb, j, none⟩ (.int .u8 (ev y)))) := Lib.hid fun y e => by
                subst e
                have h := hR5.out.set_ j (ev (comb (q + 1) (ent xs k) (ent ys) j)) _ (ev_nat _)
                rw [progX_set] at h
                exact ⟨h, hB5.out.drew.setCell (p := ⟨gb, j, none⟩) HG2.out _⟩
              have HXE := Lib.hid (comb_step q (ent xs k) (ent ys) j)
              clear h5 h7
              generalize ent xs k q = x at f6 HXE
              generalize ent ys q j = y at f8 HXE
              generalize comb q (ent xs k) (ent ys) j = z at f9 HXE
              have hxor := bits_xor_ev z (mulU x y)
              go_wp2_with fail
              refine wp_region_still_tail 23 (by kernel_rfl) (by kernel_rfl) ?_
              simp only [List.take_succ_cons, List.take_zero, List.drop_succ_cons, List.drop_zero]
              change wpStill _ _ wr.drew (fun a' => wpList _ _ _ _ a' wr.drew) _ _
              generalize wr.drew = w3 at f5 f6 f7 f8 f9 hz HX ⊢
              repeat still_step
              still_call (calls_left (rmul_any _ _ _))
              repeat still_step
              refine wpStill_nil ?_
              go_wp2
              go_roundg gq0
              case rel => exact ⟨q + 1, by go_num, by omega, Lib.hid (HX.out _ HXE.out).1, Lib.hid (HX.out _ HXE.out).2⟩
              case measure => omega
end Go.Proofs.Ytbkjocmldeagdaa
