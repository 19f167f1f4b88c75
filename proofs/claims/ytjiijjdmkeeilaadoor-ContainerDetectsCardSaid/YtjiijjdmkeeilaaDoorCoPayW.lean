/-
  The specification's Payload.
-/
import Derived.Test.YtjiijjdmkeeilaaDoorCAR
import Derived.Test.YtjiijjdmkeeilaaDoorCAU
import Derived.Test.YtjiijjdmkeeilaaDoorCoPar2
import Derived.Deep.LoopGhost
namespace Go.Proofs.YtjiijjdmkeeilaaDoor
open Go.RowKit
set_option linter.unusedVariables false
set_option linter.unusedSimpArgs false
/-- a call gives a header, bytes and an error -/
def RetHBE (w : World) (r : Hdr × List UInt8 × Int) (e : Ending) (w' : World) : Prop :=
  ∃ ad cap v, e = .returned (.tuple #[hdV r.1 ad r.1.es.length cap, v, .int .i64 r.2.2]) ∧ HdOw w' w.heap.size r.1 ad r.1.es.length cap ∧ Own w' w.heap.size v r.2.1 ∧ Below w.heap.size w w'
theorem retHBE {w w' : World} {R : Hdr × List UInt8 × Int} {H : Hdr} {B : List UInt8} {f : Int} (h : R = (H, B, f)) {ad : Option Addr} {cap : Nat} {v : Value} (ho : HdOw w' w.heap.size H ad H.es.length cap) (hv : Own w' w.heap.size v B) (hb : Below w.heap.size w w') : RetHBE w R (.returned (.tuple #[.agg (hdC H ad H.es.length cap), v, .int .i64 f])) w' := by
  subst h
  exact ⟨ad, cap, v, rfl, ho, hv, hb⟩
theorem retHBE0 {w w' : World} {R : Hdr × List UInt8 × Int} {f : Int} (h : R = (.zero, [], f)) (hb : Below w.heap.size w w') : RetHBE w R (.returned (.tuple #[.agg (hdC .zero none 0 0), .slice none 0 0, .int .i64 f])) w' :=
  retHBE h ⟨Of.nil _ _ _ _ _, rfl⟩ (Own.ofNil _ _) hb
theorem setO {w : World} {B : Nat} {v : Value} {l : List UInt8} (h : Own w B v l) {k : Nat} (hk : k < B) (cs : Array Value) : Own (w.setRow k cs) B v l := by
  refine ⟨h.1, ?_⟩
  rcases h.2 with h0 | ⟨g, cap, cur, hv, hB, hg, h4⟩
  · exact .inl h0
  · exact .inr ⟨g, cap, cur, hv, hB, (setRow_other _ _ _ _ (by omega)).trans hg, h4⟩
theorem chsU_nil (v sz i : Int) : chsU v sz i [] = ([], 0) := rfl
attribute [local irreducible] parH chsU chkU prtsB payU blU cntU
set_option maxRecDepth 100000 in
set_option maxHeartbeats 8000000 in
theorem rpayload_any (ad : Option Addr) (n cap : Nat) (l : List Blk) (w : World) (hl : Ki w ad l) (hn : n = l.length) (hs : n ≤ 5000) (hd : ∀ b ∈ l, b.d.length ≤ 1000) (hbl : (bytB l).length ≤ 1000000) :
    Calls Tryd.prog 26 #[.slice ad n cap] w (RetHBE w (payU l)) := by
  have HN := Lib.hid hn
  have HX0 := Lib.hid (HdRow.new w .zero none 0 0)
  have HB0 := Lib.hid (co_box1 w (boxH .zero none 0 0))
  have HL := Lib.hid hl
  have HL0 := Lib.hid (hl.below (co_box1 w (boxH .zero none 0 0)))
  have HD := Lib.hid hd
  have HP := Lib.hid (fun W h => rparseh_any ad n cap l W h hn hs hd hbl)
  rcases hp : parH l with ⟨H, nn, e⟩
  have HGD := Lib.hid (fun h : e = 0 => show GoodH l H nn by have := parH_good (l := l) (by rw [hp]; exact h); rw [hp] at this; exact this)
  rcases hc : chsU H.vr H.sz 0 ((l.drop nn.toNat).take (cntU H).toNat) with ⟨B, f⟩
  have HU := Lib.hid (payU_parts hp hc)
  have HC := Lib.hid hc
  obtain ⟨R, hR⟩ : ∃ R, R = payU l := ⟨_, rfl⟩
  rw [← hR] at HU ⊢
  rw [← hn] at HU
  rw [hp] at HP
  clear hl hn hd hbl hp hc hR
  go_enter Tryd.func26, Tryd.ntmps26
  go_wp2_with fail
  change Calls Tryd.prog 24 _ (w.alloc (boxH .zero none 0 0)) _
  generalize World.alloc w _ = X0 at *
  refine (HP.out _ HL0.out).mono ?_
  rintro e0 X1 ⟨ad1, cap1, rfl, ho1, hb1⟩
  dsimp only at ho1 ⊢
  have HX1 := Lib.hid ((HX0.out.below hb1 HX0.out.lt).below (co_box1 X1 (boxH H ad1 H.es.length cap1)) (Nat.lt_of_lt_of_le HX0.out.lt hb1.size))
  have HG1 := Lib.hid (HdRow.new X1 H ad1 H.es.length cap1)
  have HO1 := Lib.hid ((ho1.below (co_box1 X1 (boxH H ad1 H.es.length cap1))).mono (show w.heap.size + 1 ≤ X0.heap.size from HX0.out.lt))
  have HB1 := Lib.hid ((HB0.out.trans (hb1.mono HB0.out.size)).alloc (HB0.out.trans (hb1.mono HB0.out.size)).size (boxH H ad1 H.es.length cap1))
  have HG5 := Lib.hid (show w.heap.size < X1.heap.size from Nat.lt_of_lt_of_le HX0.out.lt hb1.size)
  clear ho1 hb1 HX0 HB0 HL0 HP
  by_cases he : e = 0
  rotate_left
  · have HR := Lib.hid (HU.out.trans (if_pos he))
    have k1 := ne_t he
    clear he HU
    go_wp2_with (with_reducible refine st_hdr rfl (.tmp 2) (.tmp 20) rfl rfl .zero none 0 0 rfl HX1.out ?_)
    refine post_cell3 (cs := hdC .zero none 0 0) (x := .slice none 0 0) (y := .int .i64 e) rfl rfl (HdRow.put HX1.out .zero none 0 0).row Tryd.underlying25 rfl infoHd rfl rfl rfl ?_
    exact retHBE0 HR.out (below_set HB1.out (Nat.le_refl _) _)
  subst he
  replace HGD := Lib.hid (HGD.out rfl)
  replace HU := Lib.hid (HU.out.trans (if_neg (by simp)))
  go_wp2_with (with_reducible refine ld_hdr rfl (.tmp 5) rfl rfl HG1.out ?_)
  change Calls Tryd.prog 20 _ (X1.alloc (boxH H ad1 H.es.length cap1)) _
  have HLT := Lib.hid (show X1.heap.size < (X1.alloc (boxH H ad1 H.es.length cap1)).heap.size by simp)
  generalize World.alloc X1 _ = Y0 at *
  generalize X1.heap.size = g5 at *
  clear X0 X1
  refine (rblocksh_any H ad1 _ cap1 Y0 HO1.out.hin HGD.out.sm HGD.out.s).mono ?_
  rintro e1 Y1 ⟨rfl, hb1⟩
  have HX2 := Lib.hid (HX1.out.below hb1 HX1.out.lt)
  have HG2 := Lib.hid (HG1.out.below hb1 HG1.out.lt)
  have HO2 := Lib.hid (HO1.out.below hb1)
  have HB2 := Lib.hid (HB1.out.trans (hb1.mono HB1.out.size))
  clear hb1 HX1 HG1 HO1 HB1 HLT
  have HBU := Lib.hid (show blU H = nn + cntU H by rw [HGD.out.n]; unfold blU; rw [vldH_yes HGD.out.v, if_pos rfl])
  by_cases hnb : (n : Int) < blU H
  · have HR := Lib.hid (HU.out.trans (if_pos hnb))
    generalize blU H = bu at *
    clear HU HBU
    go_wp2_with (with_reducible refine st_hdr rfl (.tmp 2) (.tmp 27) rfl rfl .zero none 0 0 rfl HX2.out ?_)
    refine post_cell3 (cs := hdC .zero none 0 0) (x := .slice none 0 0) (y := .int .i64 2) rfl rfl (HdRow.put HX2.out .zero none 0 0).row Tryd.underlying25 rfl infoHd rfl rfl rfl ?_
    exact retHBE0 HR.out (below_set HB2.out (Nat.le_refl _) _)
  replace HU := Lib.hid (HU.out.trans (if_neg hnb))
  have hcb := cntU_bd HGD.out.v
  have hn0 : 0 ≤ nn := by rw [HGD.out.n]; omega
  obtain ⟨K, hK⟩ : ∃ K : Nat, cntU H = (K : Int) := ⟨(cntU H).toNat, by omega⟩
  obtain ⟨M, hM⟩ : ∃ M : Nat, nn = (M : Int) := ⟨nn.toNat, by omega⟩
  subst hM
  have hMK : M + K ≤ n := by have := HBU.out; rw [hK] at this; omega
  have HKK := Lib.hid hK
  rw [hK, Int.toNat_natCast, Int.toNat_natCast] at HC
  have HCN : Hid (∀ W, Calls Tryd.prog 54 #[hdV H ad1 H.es.length cap1] W fun e w' => e = .returned (.int .i64 (K : Int)) ∧ Below W.heap.size W w') := Lib.hid fun W => by
    have := rcount_any H ad1 H.es.length cap1 W (by have := HGD.out.v.1.2.2.2; omega)
    rw [HKK.out] at this
    exact this
  obtain ⟨T, hT⟩ : ∃ T, T = (l.drop M).take K := ⟨_, rfl⟩
  rw [← hT] at HC
  have HTL := Lib.hid (show T.length = K by rw [hT, List.length_take, List.length_drop]; have := HN.out; omega)
  have HTG : Hid (∀ k (h : k < T.length), ∃ h' : M + k < l.length, T[k] = l[M + k]) := Lib.hid fun k h => by
    have hk : k < K := by have := HTL.out; omega
    exact ⟨by have := HN.out; omega, by subst hT; rw [List.getElem_take, List.getElem_drop]⟩
  have HCM := Lib.hid (chs_more H.vr H.sz T 0)
  have HVR := Lib.hid (show H.vr = 1 ∨ H.vr = 2 by have := HGD.out.v.1.2.1; omega)
  have HSZ := Lib.hid (show 0 ≤ H.sz ∧ H.sz ≤ 262144 from HGD.out.v.1.2.2.2)
  have HNU : Hid (∀ k : Nat, k < K → 0 ≤ nU H.vr H.sz (k : Int)) := Lib.hid fun k hk => by
    have hc := HKK.out
    unfold cntU at hc
    unfold nU
    have hP := prtU_cases H.vr
    have hz := HSZ.out
    rcases hP with ⟨_, e⟩ | ⟨_, e⟩ <;> (rw [e] at hc ⊢; omega)
  have hK5 : K ≤ 5000 := by omega
  generalize blU H = bu at *
  clear hcb hn0 hK hT HBU
  go_wp2_with fail
  clear hnb
  go_loopg [8, 9] K (fun gk v8 vk wx => ∃ k : Nat, vk = .int .i64 k ∧ k + gk = K ∧ Hid (Own wx Y1.heap.size v8 (chsU H.vr H.sz 0 (T.take k)).1) ∧ Hid ((chsU H.vr H.sz 0 (T.take k)).2 = 0) ∧ Hid (Below Y1.heap.size Y1 wx))
  case atStart => exact ⟨0, rfl, by omega, Lib.hid (by rw [List.take_zero, chsU_nil]; exact Own.ofNil _ _), Lib.hid (by rw [List.take_zero, chsU_nil]), Lib.hid (Below.refl _ _)⟩
  case round =>
    obtain ⟨k, rfl, hk, hO, hz, hB⟩ := hrel
    have HGR := Lib.hid (HG2.out.below hB.out HG2.out.lt)
    go_wp2_with (with_reducible refine ld_hdr rfl (.tmp 5) rfl rfl HGR.out ?_)
    refine (HCN.out _).mono ?_
    rintro e2 Y2 ⟨rfl, hb2⟩
    have HB3 := Lib.hid (hB.out.trans (hb2.mono hB.out.size))
    have HO3 := Lib.hid (hO.out.below hb2)
    clear hb2 HGR
    cases gk with
    | zero =>
      obtain rfl : k = K := by omega
      have hTT : T.take k = T := List.take_of_length_le (by rw [HTL.out]; exact Nat.le_refl _)
      rw [hTT, HC.out] at hz HO3
      dsimp only at hz HO3
      have hf := hz.out
      subst hf
      have HBL := Lib.hid (show (B.length : Int) = H.sz by have := chs_full HGD.out.v (l := T) (by rw [HTL.out, HKK.out]) (by rw [HC.out]); rw [HC.out] at this; exact this)
      obtain ⟨ad8, cap8, rfl, hl8, hc8, hm8, -⟩ := HO3.out.slice
      have HL8 := Lib.hid hl8
      have HC8 := Lib.hid hc8
      have HM8 := Lib.hid hm8
      obtain ⟨m8, hm⟩ : ∃ m8, m8 = B.length := ⟨_, rfl⟩
      have HM := Lib.hid hm
      have hm5 : m8 ≤ 262144 := by have := HBL.out; have := HSZ.out; omega
      rw [← hm]
      have HG3 := Lib.hid (HG2.out.below HB3.out HG2.out.lt)
      have HX3 := Lib.hid (HX2.out.below HB3.out HX2.out.lt)
      have HO4 := Lib.hid (HO2.out.below HB3.out)
      have HB4 := Lib.hid (HB2.out.trans (HB3.out.mono HB2.out.size))
      have HLT2 := Lib.hid HX2.out.lt
      replace HU := Lib.hid (HU.out.trans (if_neg (by simp)))
      clear hz hO hB hTT hl8 hc8 hm8 hm HCN HTG HCM HNU HX2 HG2 HO2 HB2
      go_wp2_with fail
      have HBX := Lib.hid (Below.refl Y2.heap.size Y2).drew
      refine wp_region_noPanic ?_
      refine wp_region_held_drew (S := fun X => Below Y2.heap.size Y2 X) (by kernel_rfl) (HBX.out) (fun hS0 => ?_)
      generalize World.drew Y2 = Y3 at *
      refine held_take (i := 0) (v := ?_) rfl (by kernel_rfl) (by kernel_rfl) (by kernel_rfl) (fun _ _ _ h => h) (by rfl) ?_ (by assumption) ?_
      rotate_left
      · intro X hSX
        try dsimp only at hSX
        go_simp <;> with_reducible rfl
      simp only [Act.put, List.setIfInBounds_toArray, List.set_cons_zero, List.set_cons_succ]
      refine held_take (i := 2) (v := ?_) rfl (by kernel_rfl) (by kernel_rfl) (by kernel_rfl) (fun _ _ _ h => h) (by rfl) ?_ (by assumption) ?_
      rotate_left
      · intro X hSX
        try dsimp only at hSX
        go_simp <;> with_reducible rfl
      simp only [Act.put, List.setIfInBounds_toArray, List.set_cons_zero, List.set_cons_succ]
      refine held_take (i := 3) (v := ?_) rfl (by kernel_rfl) (by kernel_rfl) (by kernel_rfl) (fun _ _ _ h => h) (by rfl) ?_ (by assumption) ?_
      rotate_left
      · intro X hSX
        try dsimp only at hSX
        obtain ⟨-, c0, c1, c2, c3, c4, c5, c6, c7, c8, c9, c10⟩ := (HG3.out.below hSX HG3.out.lt).at_
        go_simp <;> with_reducible rfl
      simp only [Act.put, List.setIfInBounds_toArray, List.set_cons_zero, List.set_cons_succ]
      refine held_call (i := 1) rfl (by kernel_rfl) (by rfl) (fun K' hK' => ?_)
      go_simp
      refine (rcsum_any ad8 m8 cap8 B _ (HL8.out.below HBX.out rfl) HM.out (by have := HM.out; omega)).mono ?_
      rintro e w' ⟨rfl, rfl⟩
      refine held_go hK' (HBX.out) ?_
      try simp only [Act.put, List.setIfInBounds_toArray, List.set_cons_zero, List.set_cons_succ]
      by_cases hcr : crc B = H.sm
      rotate_left
      · have kne : (((crc B : Nat) : Int) != ((H.sm : Nat) : Int)) = true := by rw [bne_iff_ne]; omega
        have HR := Lib.hid (HU.out.trans (if_pos (.inl hcr)))
        clear hcr HU
        refine held_take (i := 4) (v := ?_) rfl (by kernel_rfl) (by kernel_rfl) (by kernel_rfl) (fun _ _ _ h => h) (by rfl) ?_ (by assumption) ?_
        rotate_left
        · intro X hSX
          try dsimp only at hSX
          go_simp <;> with_reducible rfl
        simp only [Act.put, List.setIfInBounds_toArray, List.set_cons_zero, List.set_cons_succ]
        refine held_take (i := 5) (v := ?_) rfl (by kernel_rfl) (by kernel_rfl) (by kernel_rfl) (fun _ _ _ h => h) (by rfl) ?_ (by assumption) ?_
        rotate_left
        · intro X hSX
          try dsimp only at hSX
          go_simp <;> with_reducible rfl
        simp only [Act.put, List.setIfInBounds_toArray, List.set_cons_zero, List.set_cons_succ]
        refine held_skip (i := 6) rfl (by kernel_rfl) (by kernel_rfl) (by kernel_rfl) (fun _ _ _ h => h) (by rfl) (by assumption) ?_
        simp only [Act.put, List.setIfInBounds_toArray, List.set_cons_zero, List.set_cons_succ]
        refine held_skip (i := 7) rfl (by kernel_rfl) (by kernel_rfl) (by kernel_rfl) (fun _ _ _ h => h) (by rfl) (by assumption) ?_
        simp only [Act.put, List.setIfInBounds_toArray, List.set_cons_zero, List.set_cons_succ]
        refine held_skip (i := 8) rfl (by kernel_rfl) (by kernel_rfl) (by kernel_rfl) (fun _ _ _ h => h) (by rfl) (by assumption) ?_
        simp only [Act.put, List.setIfInBounds_toArray, List.set_cons_zero, List.set_cons_succ]
        refine held_skip (i := 9) rfl (by kernel_rfl) (by kernel_rfl) (by kernel_rfl) (fun _ _ _ h => h) (by rfl) (by assumption) ?_
        simp only [Act.put, List.setIfInBounds_toArray, List.set_cons_zero, List.set_cons_succ]
        refine held_take (i := 10) (v := ?_) rfl (by kernel_rfl) (by kernel_rfl) (by kernel_rfl) (fun _ _ _ h => h) (by rfl) ?_ (by assumption) ?_
        rotate_left
        · intro X hSX
          try dsimp only at hSX
          go_simp <;> with_reducible rfl
        simp only [Act.put, List.setIfInBounds_toArray, List.set_cons_zero, List.set_cons_succ]
        refine wpAnyH_done (by kernel_rfl) ?_ _
        refine NoPanic.normal ?_
        have HX4 := Lib.hid (HX3.out.below HBX.out HX3.out.lt)
        go_wp2_with (with_reducible refine st_hdr rfl (.tmp 2) (.tmp 64) rfl rfl .zero none 0 0 rfl HX4.out ?_)
        refine post_cell3 (cs := hdC .zero none 0 0) (x := .slice none 0 0) (y := .int .i64 4) rfl rfl (HdRow.put HX4.out .zero none 0 0).row Tryd.underlying25 rfl infoHd rfl rfl rfl ?_
        exact retHBE0 HR.out (below_set (HB4.out.trans (HBX.out.mono HB4.out.size)) (Nat.le_refl _) _)
      have kne : (((crc B : Nat) : Int) != ((H.sm : Nat) : Int)) = false := by rw [hcr]; simp
      refine held_take (i := 4) (v := ?_) rfl (by kernel_rfl) (by kernel_rfl) (by kernel_rfl) (fun _ _ _ h => h) (by rfl) ?_ (by assumption) ?_
      rotate_left
      · intro X hSX
        try dsimp only at hSX
        go_simp <;> with_reducible rfl
      simp only [Act.put, List.setIfInBounds_toArray, List.set_cons_zero, List.set_cons_succ]
      refine held_take (i := 5) (v := ?_) rfl (by kernel_rfl) (by kernel_rfl) (by kernel_rfl) (fun _ _ _ h => h) (by rfl) ?_ (by assumption) ?_
      rotate_left
      · intro X hSX
        try dsimp only at hSX
        go_simp <;> with_reducible rfl
      simp only [Act.put, List.setIfInBounds_toArray, List.set_cons_zero, List.set_cons_succ]
      refine held_take (i := 6) (v := ?_) rfl (by kernel_rfl) (by kernel_rfl) (by kernel_rfl) (fun _ _ _ h => h) (by rfl) ?_ (by assumption) ?_
      rotate_left
      · intro X hSX
        try dsimp only at hSX
        obtain ⟨-, c0, c1, c2, c3, c4, c5, c6, c7, c8, c9, c10⟩ := (HG3.out.below hSX HG3.out.lt).at_
        go_simp <;> with_reducible rfl
      simp only [Act.put, List.setIfInBounds_toArray, List.set_cons_zero, List.set_cons_succ]
      refine held_take (i := 7) (v := ?_) rfl (by kernel_rfl) (by kernel_rfl) (by kernel_rfl) (fun _ _ _ h => h) (by rfl) ?_ (by assumption) ?_
      rotate_left
      · intro X hSX
        try dsimp only at hSX
        go_simp <;> with_reducible rfl
      simp only [Act.put, List.setIfInBounds_toArray, List.set_cons_zero, List.set_cons_succ]
      refine held_call (i := 8) rfl (by kernel_rfl) (by rfl) (fun K' hK' => ?_)
      go_simp
      refine (rparts_any H ad1 _ cap1 ad8 m8 cap8 B _ (HO4.out.below HBX.out).hin (fun e he => by have := (VEs.all HGD.out.v e he).2.2.2.1; omega) (by have := sum_full HGD.out.v; have := HBL.out; have := HM.out; omega) (HL8.out.below HBX.out rfl) HM.out (by have := HM.out; have := HC8.out; omega) HM8.out (by omega)).mono ?_
      generalize prtsB H.es B = Q at *
      rintro e Y4 ⟨rfl, hb4⟩
      have HS4 := Lib.hid (HBX.out.trans (hb4.mono HBX.out.size))
      refine held_go hK' (HS4.out) ?_
      try simp only [Act.put, List.setIfInBounds_toArray, List.set_cons_zero, List.set_cons_succ]
      clear hb4
      have HX4 := Lib.hid (HX3.out.below HS4.out HX3.out.lt)
      have HG4 := Lib.hid (HG3.out.below HS4.out HG3.out.lt)
      cases Q
      · have HR := Lib.hid (HU.out.trans (if_pos (.inr rfl)))
        clear hcr HU
        refine held_take (i := 9) (v := ?_) rfl (by kernel_rfl) (by kernel_rfl) (by kernel_rfl) (fun _ _ _ h => h) (by rfl) ?_ (by assumption) ?_
        rotate_left
        · intro X hSX
          try dsimp only at hSX
          go_simp <;> with_reducible rfl
        simp only [Act.put, List.setIfInBounds_toArray, List.set_cons_zero, List.set_cons_succ]
        refine held_take (i := 10) (v := ?_) rfl (by kernel_rfl) (by kernel_rfl) (by kernel_rfl) (fun _ _ _ h => h) (by rfl) ?_ (by assumption) ?_
        rotate_left
        · intro X hSX
          try dsimp only at hSX
          go_simp <;> with_reducible rfl
        simp only [Act.put, List.setIfInBounds_toArray, List.set_cons_zero, List.set_cons_succ]
        refine wpAnyH_done (by kernel_rfl) ?_ _
        refine NoPanic.normal ?_
        go_wp2_with (with_reducible refine st_hdr rfl (.tmp 2) (.tmp 64) rfl rfl .zero none 0 0 rfl HX4.out ?_)
        refine post_cell3 (cs := hdC .zero none 0 0) (x := .slice none 0 0) (y := .int .i64 4) rfl rfl (HdRow.put HX4.out .zero none 0 0).row Tryd.underlying25 rfl infoHd rfl rfl rfl ?_
        exact retHBE0 HR.out (below_set (HB4.out.trans (HS4.out.mono HB4.out.size)) (Nat.le_refl _) _)
      · have HR := Lib.hid (show R = (H, B, 0) from HU.out.trans (if_neg (by rintro (h | h); exact h hcr; cases h)))
        clear hcr HU
        refine held_take (i := 9) (v := ?_) rfl (by kernel_rfl) (by kernel_rfl) (by kernel_rfl) (fun _ _ _ h => h) (by rfl) ?_ (by assumption) ?_
        rotate_left
        · intro X hSX
          try dsimp only at hSX
          go_simp <;> with_reducible rfl
        simp only [Act.put, List.setIfInBounds_toArray, List.set_cons_zero, List.set_cons_succ]
        refine held_take (i := 10) (v := ?_) rfl (by kernel_rfl) (by kernel_rfl) (by kernel_rfl) (fun _ _ _ h => h) (by rfl) ?_ (by assumption) ?_
        rotate_left
        · intro X hSX
          try dsimp only at hSX
          go_simp <;> with_reducible rfl
        simp only [Act.put, List.setIfInBounds_toArray, List.set_cons_zero, List.set_cons_succ]
        refine wpAnyH_done (by kernel_rfl) ?_ _
        refine NoPanic.normal ?_
        go_wp2_with (first | (with_reducible refine ld_hdr rfl (.tmp 5) rfl rfl HG4.out ?_) | (with_reducible refine st_hdr rfl (.tmp 2) (.tmp 65) rfl rfl H ad1 _ cap1 rfl HX4.out ?_))
        refine post_cell3 (cs := hdC H ad1 H.es.length cap1) (x := .slice ad8 m8 cap8) (y := .int .i64 0) rfl rfl (HdRow.put HX4.out H ad1 _ cap1).row Tryd.underlying25 rfl infoHd rfl rfl rfl ?_
        refine retHBE HR.out ?_ ?_ (below_set (HB4.out.trans (HS4.out.mono HB4.out.size)) (Nat.le_refl _) _)
        · exact ((HO4.out.below HS4.out).row (k := w.heap.size) (by omega) _).mono (by omega)
        · rw [HM.out]
          exact (setO (HO3.out.below HS4.out) HLT2.out _).mono (Nat.le_of_lt HLT2.out)
    | succ gk0 =>
      have hkK : (k : Int) < (K : Int) := by omega
      have hkT : k < T.length := by have := HTL.out; omega
      obtain ⟨hkl, hTk⟩ := HTG.out k hkT
      obtain ⟨J, hJ⟩ : ∃ J, J = M + k := ⟨_, rfl⟩
      have kadd : IntKind.i64.wrap ((M : Int) + (k : Int)) = (J : Int) := by rw [hJ]; exact (IntWalk.i64_in _ (by omega)).trans (by push_cast; rfl)
      have hJn : J < n := by omega
      have HJ := Lib.hid hJ
      have HKL := Lib.hid (show J < l.length by rw [hJ]; exact hkl)
      have HTK : Hid (T[k] = l[J]'HKL.out) := Lib.hid (by rw [hTk]; subst hJ; rfl)
      clear hJ hTk hkl
      have HL3 := Lib.hid (HL.out.below (HB2.out.trans (HB3.out.mono HB2.out.size)))
      obtain ⟨b, off, bd, bcap, rfl, -⟩ := HL3.out.get HKL.out
      have HG3 := Lib.hid (HG2.out.below HB3.out HG2.out.lt)
      obtain ⟨C1, C2⟩ := HCM.out k hkT hz.out
      rw [Int.zero_add, HTK.out] at C1 C2
      have HC1 := Lib.hid C1
      have HC2 := Lib.hid C2
      have HXD := Lib.hid (HD.out _ (List.getElem_mem HKL.out))
      have HGET : Hid (∀ X, Below Y2.heap.size Y2 X → ∃ bd bcap, X.cell? ⟨b, off + J * 3, none⟩ = some (.bool l[J].m) ∧ X.cell? ⟨b, off + J * 3 + 1, none⟩ = some (.bool l[J].bad) ∧ X.cell? ⟨b, off + J * 3 + 2, none⟩ = some (.slice bd l[J].d.length bcap)) := Lib.hid fun X hX => by
        obtain ⟨b', off', bd, bcap, e, _, q0, q1, q2, -⟩ := (HL3.out.below hX).get HKL.out
        cases e
        exact ⟨bd, bcap, q0, q1, q2⟩
      obtain ⟨b', off', bd, bcap, eb, hlt, q0, q1, q2, hq, hq2, hq3, hq4⟩ := HL3.out.get HKL.out
      cases eb
      have HQ0 := Lib.hid q0
      have HQ1 := Lib.hid q1
      have HQ2 := Lib.hid q2
      have HQL := Lib.hid hq
      have HLTB := Lib.hid hlt
      have HCK := Lib.hid (fun W (h : Lie W bd l[J].d) => rchunk_any H ad1 H.es.length cap1 (k : Int) l[J] bd bcap W HVR.out (by omega) (by have := HSZ.out; omega) (HNU.out k (by omega)) h hq2 hq3 hq4 (by have := HXD.out; omega))
      clear C1 C2 HCN HGET hlt q0 q1 q2 hq hq2 hq3 hq4
      generalize chkU H.vr H.sz (k : Int) l[J] = C at *
      obtain ⟨cb, ce⟩ := C
      dsimp only at HC1 HC2
      go_wp2_with fail
      have HBX := Lib.hid (Below.refl Y2.heap.size Y2).drew
      refine wp_region_noPanic ?_
      refine wp_region_held_drew (S := fun X => Below Y2.heap.size Y2 X) (by kernel_rfl) (HBX.out) (fun hS0 => ?_)
      generalize World.drew Y2 = Y3 at *
      refine held_take (i := 0) (v := ?_) rfl (by kernel_rfl) (by kernel_rfl) (by kernel_rfl) (fun _ _ _ h => h) (by rfl) ?_ (by assumption) ?_
      rotate_left
      · intro X hSX
        try dsimp only at hSX
        obtain ⟨-, c0, c1, c2, c3, c4, c5, c6, c7, c8, c9, c10⟩ := (HG3.out.below hSX HG3.out.lt).at_
        go_simp <;> with_reducible rfl
      simp only [Act.put, List.setIfInBounds_toArray, List.set_cons_zero, List.set_cons_succ]
      refine held_take (i := 1) (v := ?_) rfl (by kernel_rfl) (by kernel_rfl) (by kernel_rfl) (fun _ _ _ h => h) (by rfl) ?_ (by assumption) ?_
      rotate_left
      · intro X hSX
        try dsimp only at hSX
        go_simp <;> with_reducible rfl
      simp only [Act.put, List.setIfInBounds_toArray, List.set_cons_zero, List.set_cons_succ]
      refine held_take (i := 2) (v := ?_) rfl (by kernel_rfl) (by kernel_rfl) (by kernel_rfl) (fun _ _ _ h => h) (by rfl) ?_ (by assumption) ?_
      rotate_left
      · intro X hSX
        try dsimp only at hSX
        go_simp <;> with_reducible rfl
      simp only [Act.put, List.setIfInBounds_toArray, List.set_cons_zero, List.set_cons_succ]
      refine held_take (i := 3) (v := ?_) rfl (by kernel_rfl) (by kernel_rfl) (by kernel_rfl) (fun _ _ _ h => h) (by rfl) ?_ (by assumption) ?_
      rotate_left
      · intro X hSX
        try dsimp only at hSX
        go_simp <;> with_reducible rfl
      simp only [Act.put, List.setIfInBounds_toArray, List.set_cons_zero, List.set_cons_succ]
      refine held_take (i := 4) (v := ?_) rfl (by kernel_rfl) (by kernel_rfl) (by kernel_rfl) (fun _ _ _ h => h) (by rfl) ?_ (by assumption) ?_
      rotate_left
      · intro X hSX
        try dsimp only at hSX
        go_simp <;> with_reducible rfl
      simp only [Act.put, List.setIfInBounds_toArray, List.set_cons_zero, List.set_cons_succ]
      refine held_take (i := 5) (v := ?_) rfl (by kernel_rfl) (by kernel_rfl) (by kernel_rfl) (fun _ _ _ h => h) (by rfl) ?_ (by assumption) ?_
      rotate_left
      · intro X hSX
        try dsimp only at hSX
        go_simp <;> with_reducible rfl
      simp only [Act.put, List.setIfInBounds_toArray, List.set_cons_zero, List.set_cons_succ]
      refine held_take (i := 6) (v := ?_) rfl (by kernel_rfl) (by kernel_rfl) (by kernel_rfl) (fun _ _ _ h => h) (by rfl) ?_ (by assumption) ?_
      rotate_left
      · intro X hSX
        try dsimp only at hSX
        go_simp <;> with_reducible rfl
      simp only [Act.put, List.setIfInBounds_toArray, List.set_cons_zero, List.set_cons_succ]
      refine held_take (i := 7) (v := ?_) rfl (by kernel_rfl) (by kernel_rfl) (by kernel_rfl) (fun _ _ _ h => h) (by rfl) ?_ (by assumption) ?_
      rotate_left
      · intro X hSX
        try dsimp only at hSX
        have q0 := (hSX.cell (p := ⟨b, off + J * 3, none⟩) HLTB.out).trans HQ0.out
        have q1 := (hSX.cell (p := ⟨b, off + J * 3 + 1, none⟩) HLTB.out).trans HQ1.out
        have q2 := (hSX.cell (p := ⟨b, off + J * 3 + 2, none⟩) HLTB.out).trans HQ2.out
        go_simp <;> with_reducible rfl
      simp only [Act.put, List.setIfInBounds_toArray, List.set_cons_zero, List.set_cons_succ]
      refine held_call (i := 8) rfl (by kernel_rfl) (by rfl) (fun K' hK' => ?_)
      go_simp
      refine (HCK.out _ (HQL.out.below HBX.out rfl)).mono ?_
      rintro e Y4 ⟨v4, rfl, ho4, hb4⟩
      have HS4 := Lib.hid (HBX.out.trans (hb4.mono HBX.out.size))
      refine held_go hK' (HS4.out) ?_
      try simp only [Act.put, List.setIfInBounds_toArray, List.set_cons_zero, List.set_cons_succ]
      refine held_take (i := 9) (v := ?_) rfl (by kernel_rfl) (by kernel_rfl) (by kernel_rfl) (fun _ _ _ h => h) (by rfl) ?_ (by assumption) ?_
      rotate_left
      · intro X hSX
        try dsimp only at hSX
        go_simp <;> with_reducible rfl
      simp only [Act.put, List.setIfInBounds_toArray, List.set_cons_zero, List.set_cons_succ]
      refine held_take (i := 10) (v := ?_) rfl (by kernel_rfl) (by kernel_rfl) (by kernel_rfl) (fun _ _ _ h => h) (by rfl) ?_ (by assumption) ?_
      rotate_left
      · intro X hSX
        try dsimp only at hSX
        go_simp <;> with_reducible rfl
      simp only [Act.put, List.setIfInBounds_toArray, List.set_cons_zero, List.set_cons_succ]
      refine held_take (i := 11) (v := ?_) rfl (by kernel_rfl) (by kernel_rfl) (by kernel_rfl) (fun _ _ _ h => h) (by rfl) ?_ (by assumption) ?_
      rotate_left
      · intro X hSX
        try dsimp only at hSX
        go_simp <;> with_reducible rfl
      simp only [Act.put, List.setIfInBounds_toArray, List.set_cons_zero, List.set_cons_succ]
      refine held_take (i := 12) (v := ?_) rfl (by kernel_rfl) (by kernel_rfl) (by kernel_rfl) (fun _ _ _ h => h) (by rfl) ?_ (by assumption) ?_
      rotate_left
      · intro X hSX
        try dsimp only at hSX
        go_simp <;> with_reducible rfl
      simp only [Act.put, List.setIfInBounds_toArray, List.set_cons_zero, List.set_cons_succ]
      refine held_take (i := 13) (v := ?_) rfl (by kernel_rfl) (by kernel_rfl) (by kernel_rfl) (fun _ _ _ h => h) (by rfl) ?_ (by assumption) ?_
      rotate_left
      · intro X hSX
        try dsimp only at hSX
        go_simp <;> with_reducible rfl
      simp only [Act.put, List.setIfInBounds_toArray, List.set_cons_zero, List.set_cons_succ]
      refine wpAnyH_done (by kernel_rfl) ?_ _
      refine NoPanic.normal ?_
      have HX4 := Lib.hid ((HX2.out.below HB3.out HX2.out.lt).below HS4.out (Nat.lt_of_lt_of_le HX2.out.lt HB3.out.size))
      have HB5 := Lib.hid (HB3.out.trans (HS4.out.mono HB3.out.size))
      have HB6 := Lib.hid (HB2.out.trans (HB5.out.mono HB2.out.size))
      have HO5 := Lib.hid (HO3.out.below HS4.out)
      clear hb4
      dsimp only at ho4 ⊢
      by_cases hce : ce = 0
      rotate_left
      · have HR := Lib.hid (show R = (.zero, [], ce) by
          have h2 := HC2.out hce
          rw [HC.out] at h2
          cases h2
          exact HU.out.trans (if_pos hce))
        have kce := ne_t hce
        clear hce ho4
        go_wp2_with (with_reducible refine st_hdr rfl (.tmp 2) (.tmp 48) rfl rfl .zero none 0 0 rfl HX4.out ?_)
        refine post_cell3 (cs := hdC .zero none 0 0) (x := .slice none 0 0) (y := .int .i64 ce) rfl rfl (HdRow.put HX4.out .zero none 0 0).row Tryd.underlying25 rfl infoHd rfl rfl rfl ?_
        exact retHBE0 HR.out (below_set HB6.out (Nat.le_refl _) _)
      subst hce
      have HNX := Lib.hid (HC1.out rfl)
      have hlp : (chsU H.vr H.sz 0 (T.take k)).1.length ≤ 64 * k := by
        have := chsU_len H.vr H.sz (T.take k) 0
        rw [List.length_take] at this
        omega
      obtain ⟨L4, hL4⟩ : ∃ L4, L4 = cb.length := ⟨_, rfl⟩
      obtain ⟨ad4, cap4, rfl, hl4, -, -, ha4⟩ := ho4.slice
      have hcb : L4 ≤ 400000 := by
        have := congrArg (fun z => z.1.length) HNX.out
        have h2 := chsU_len H.vr H.sz (T.take (k + 1)) 0
        rw [HNX.out] at h2
        simp only [List.length_append, List.length_take] at h2
        omega
      have HL4 := Lib.hid hl4
      have HA4 := Lib.hid ha4
      have HLL := Lib.hid hL4
      have hsum : (chsU H.vr H.sz 0 (T.take k)).1.length + L4 ≤ 10000000 := by omega
      rw [← hL4]
      clear hl4 ha4 ho4 hL4 hlp hcb
      go_wp2_with (at_builtin; refine wpList_append_u rfl (.tmp 50) (.tmp 51) rfl Y1.heap.size _ _ rfl HO5.out _ _ _ cb HA4.out HL4.out HLL.out rfl hsum HB5.out.size ?_; intro v6 w6 ho6 hg6; have HO6 := Lib.hid ho6; have HB7 := Lib.hid (HB5.out.grown hg6 HB5.out.size (fun k hk => (HO5.out.lt k hk).1)); clear ho6 hg6)
      go_roundg gk0
      case rel => exact ⟨k + 1, by go_num, by omega, Lib.hid (by rw [HNX.out]; exact HO6.out), Lib.hid (by rw [HNX.out]), HB7⟩
      case measure => omega
end Go.Proofs.YtjiijjdmkeeilaaDoor
