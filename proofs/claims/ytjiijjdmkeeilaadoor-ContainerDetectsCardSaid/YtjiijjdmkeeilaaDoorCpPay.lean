/-
  The program's Payload.
-/
import Derived.Test.YtjiijjdmkeeilaaDoorCBD
import Derived.Test.YtjiijjdmkeeilaaDoorCBF
import Derived.Test.YtjiijjdmkeeilaaDoorCoPayW
namespace Go.Proofs.YtjiijjdmkeeilaaDoor
open Go.RowKit
set_option linter.unusedVariables false
set_option linter.unusedSimpArgs false
attribute [local irreducible] parH chsU chkU prtsB payU blU cntU
set_option maxRecDepth 100000 in
set_option maxHeartbeats 8000000 in
theorem payload15_any (ad : Option Addr) (n cap : Nat) (l : List Blk) (w : World) (hl : Ki w ad l) (hn : n = l.length) (hc0 : n ≤ cap) (hcm : cap ≤ maxLen) (hs : n ≤ 200) (hd : ∀ b ∈ l, b.d.length ≤ 100) (hmg : Mag w) :
    Calls Tryd.prog 25 #[.slice ad n cap] w (RetHBE w (payU l)) := by
  have HN := Lib.hid hn
  have HX0 := Lib.hid (HdRow.new w .zero none 0 0)
  have HB0 := Lib.hid (co_box1 w (boxH .zero none 0 0))
  have HL := Lib.hid hl
  have HL0 := Lib.hid (hl.below (co_box1 w (boxH .zero none 0 0)))
  have HD := Lib.hid hd
  have HM := Lib.hid hmg
  have HCC := Lib.hid hc0
  have HP := Lib.hid (fun W h hm => parse15_any ad n cap l W h hn hc0 hcm hs hd hm)
  rcases hp : parH l with ⟨H, nn, e⟩
  have HGD := Lib.hid (fun h : e = 0 => show GoodH l H nn by have := parH_good (l := l) (by rw [hp]; exact h); rw [hp] at this; exact this)
  rcases hc : chsU H.vr H.sz 0 ((l.drop nn.toNat).take (cntU H).toNat) with ⟨B, f⟩
  have HU := Lib.hid (payU_parts hp hc)
  have HC := Lib.hid hc
  obtain ⟨R, hR⟩ : ∃ R, R = payU l := ⟨_, rfl⟩
  rw [← hR] at HU ⊢
  rw [← hn] at HU
  rw [hp] at HP
  clear hl hn hd hp hc hR hc0 hcm hmg
  go_enter Tryd.func25, Tryd.ntmps25
  go_wp2_with fail
  change Calls Tryd.prog 23 _ (w.alloc (boxH .zero none 0 0)) _
  generalize World.alloc w _ = X0 at *
  refine (HP.out _ HL0.out (HM.out.step HB0.out)).mono ?_
  rintro e0 X1 ⟨ad1, cap1, rfl, ho1, hb1⟩
  dsimp only at ho1 ⊢
  have HX1 := Lib.hid ((HX0.out.below hb1 HX0.out.lt).below (co_box1 X1 (boxH H ad1 H.es.length cap1)) (Nat.lt_of_lt_of_le HX0.out.lt hb1.size))
  have HG1 := Lib.hid (HdRow.new X1 H ad1 H.es.length cap1)
  have HO1 := Lib.hid ((ho1.below (co_box1 X1 (boxH H ad1 H.es.length cap1))).mono (show w.heap.size + 1 ≤ X0.heap.size from HX0.out.lt))
  have HB1 := Lib.hid ((HB0.out.trans (hb1.mono HB0.out.size)).alloc (HB0.out.trans (hb1.mono HB0.out.size)).size (boxH H ad1 H.es.length cap1))
  have HG5 := Lib.hid (show w.heap.size < X1.heap.size from Nat.lt_of_lt_of_le HX0.out.lt hb1.size)
  clear ho1 hb1 HX0 HB0 HL0 HP
  by_cases he : e = 0
  rotate_left
  · have HR := Lib.hid (HU.out.trans (if_pos he))
    have k1 := ne_t he
    clear he HU
    go_wp2_with (with_reducible refine st_hdr rfl (.tmp 2) (.tmp 18) rfl rfl .zero none 0 0 rfl HX1.out ?_)
    refine post_cell3 (cs := hdC .zero none 0 0) (x := .slice none 0 0) (y := .int .i64 e) rfl rfl (HdRow.put HX1.out .zero none 0 0).row Tryd.underlying25 rfl infoHd rfl rfl rfl ?_
    exact retHBE0 HR.out (below_set HB1.out (Nat.le_refl _) _)
  subst he
  replace HGD := Lib.hid (HGD.out rfl)
  replace HU := Lib.hid (HU.out.trans (if_neg (by simp)))
  go_wp2_with (with_reducible refine ld_hdr rfl (.tmp 5) rfl rfl HG1.out ?_)
  change Calls Tryd.prog 19 _ (X1.alloc (boxH H ad1 H.es.length cap1)) _
  have HLT := Lib.hid (show X1.heap.size < (X1.alloc (boxH H ad1 H.es.length cap1)).heap.size by simp)
  generalize World.alloc X1 _ = Y0 at *
  generalize X1.heap.size = g5 at *
  clear X0 X1
  refine (blocksh_any H ad1 _ cap1 Y0 HO1.out.hin HGD.out.sm HGD.out.s).mono ?_
  rintro e1 Y1 ⟨rfl, hb1⟩
  have HX2 := Lib.hid (HX1.out.below hb1 HX1.out.lt)
  have HG2 := Lib.hid (HG1.out.below hb1 HG1.out.lt)
  have HO2 := Lib.hid (HO1.out.below hb1)
  have HB2 := Lib.hid (HB1.out.trans (hb1.mono HB1.out.size))
  clear hb1 HX1 HG1 HO1 HB1 HLT
  have HBU := Lib.hid (show blU H = nn + cntU H by rw [HGD.out.n]; unfold blU; rw [vldH_yes HGD.out.v, if_pos rfl])
  by_cases hnb : (n : Int) < blU H
  · have HR := Lib.hid (HU.out.trans (if_pos hnb))
    generalize blU H = bu at *
    clear HU HBU
    go_wp2_with (with_reducible refine st_hdr rfl (.tmp 2) (.tmp 26) rfl rfl .zero none 0 0 rfl HX2.out ?_)
    refine post_cell3 (cs := hdC .zero none 0 0) (x := .slice none 0 0) (y := .int .i64 2) rfl rfl (HdRow.put HX2.out .zero none 0 0).row Tryd.underlying25 rfl infoHd rfl rfl rfl ?_
    exact retHBE0 HR.out (below_set HB2.out (Nat.le_refl _) _)
  replace HU := Lib.hid (HU.out.trans (if_neg hnb))
  have hcb := cntU_bd HGD.out.v
  have hn0 : 0 ≤ nn := by rw [HGD.out.n]; omega
  obtain ⟨K, hK⟩ : ∃ K : Nat, cntU H = (K : Int) := ⟨(cntU H).toNat, by omega⟩
  obtain ⟨M, hM⟩ : ∃ M : Nat, nn = (M : Int) := ⟨nn.toNat, by omega⟩
  subst hM
  have hMK : M + K ≤ n := by have := HBU.out; rw [hK] at this; omega
  have HKK := Lib.hid hK
  rw [hK, Int.toNat_natCast, Int.toNat_natCast] at HC
  obtain ⟨T, hT⟩ : ∃ T, T = (l.drop M).take K := ⟨_, rfl⟩
  rw [← hT] at HC
  have HTL := Lib.hid (show K = T.length by rw [hT, List.length_take, List.length_drop]; have := HN.out; omega)
  have HTD := Lib.hid (fun b (hb : b ∈ T) => HD.out b (by rw [hT] at hb; exact List.mem_of_mem_drop (List.mem_of_mem_take hb)))
  have HTK := Lib.hid (HL.out.pt (cap := cap) (by rw [← HN.out]; exact HCC.out) M K)
  rw [← hT] at HTK
  have HVR := Lib.hid (show H.vr = 1 ∨ H.vr = 2 by have := HGD.out.v.1.2.1; omega)
  have HSZ := Lib.hid (show 0 ≤ H.sz ∧ H.sz ≤ 262144 from HGD.out.v.1.2.2.2)
  have HNU : Hid (∀ k : Nat, k < K → 0 ≤ nU H.vr H.sz (((0 : Nat) : Int) + (k : Int))) := Lib.hid fun k hk => by
    have hc := HKK.out
    unfold cntU at hc
    unfold nU
    have hP := prtU_cases H.vr
    have hz := HSZ.out
    rcases hP with ⟨_, e⟩ | ⟨_, e⟩ <;> (rw [e] at hc ⊢; omega)
  obtain ⟨E, hE⟩ : ∃ E, E = M + K := ⟨_, rfl⟩
  have hEM : E - M = K := by omega
  have hEn : E ≤ n := by omega
  have hBE : blU H = (E : Int) := by rw [HBU.out, hK, hE]; push_cast; rfl
  have hcc := HCC.out
  have kpt := fun W => run_partB ad n cap M E W (by omega) (by omega)
  rw [hEM] at kpt
  have HRD := Lib.hid (fun W (hk : Ki W (ptB ad cap M) T) => show Calls Tryd.prog 64 #[hdV H ad1 H.es.length cap1, .int .i64 0, .slice (ptB ad cap M) K (cap - M)] W (RetBE W (chsU H.vr H.sz 0 T)) from read15_any H ad1 H.es.length cap1 0 (ptB ad cap M) K (cap - M) T W HVR.out (by have := HSZ.out; omega) (by omega) hk HTL.out (by omega) HNU.out (fun b hb => by have := HTD.out b hb; omega))
  rw [HC.out] at HRD
  have HBLN := Lib.hid (fun hf : f = 0 => show (B.length : Int) = H.sz by have := chs_full HGD.out.v (l := T) (by rw [← HTL.out, HKK.out]) (by rw [HC.out]; exact hf); rw [HC.out] at this; exact this)
  rw [hBE] at hnb ⊢
  have hMEE : (M : Int) ≤ (E : Int) := by omega
  generalize ptB ad cap M = zd at *
  clear hcb hn0 hK hT HBU hBE hE hEM HNU HTD HN HC hMK
  go_wp2_with fail
  have HBX := Lib.hid (Below.refl Y1.heap.size Y1).drew
  refine wp_region_noPanic ?_
  refine wp_region_held_drew (S := fun X => Below Y1.heap.size Y1 X) (by kernel_rfl) (HBX.out) (fun hS0 => ?_)
  generalize World.drew Y1 = Y2 at *
  refine held_take (i := 0) (v := ?_) rfl (by kernel_rfl) (by kernel_rfl) (by kernel_rfl) (fun _ _ _ h => h) (by rfl) ?_ (by assumption) ?_
  rotate_left
  · intro X hSX
    try dsimp only at hSX
    obtain ⟨-, c0, c1, c2, c3, c4, c5, c6, c7, c8, c9, c10⟩ := (HG2.out.below hSX HG2.out.lt).at_
    go_simp <;> with_reducible rfl
  simp only [Act.put, List.setIfInBounds_toArray, List.set_cons_zero, List.set_cons_succ]
  refine held_take (i := 1) (v := ?_) rfl (by kernel_rfl) (by kernel_rfl) (by kernel_rfl) (fun _ _ _ h => h) (by rfl) ?_ (by assumption) ?_
  rotate_left
  · intro X hSX
    try dsimp only at hSX
    go_simp <;> with_reducible rfl
  simp only [Act.put, List.setIfInBounds_toArray, List.set_cons_zero, List.set_cons_succ]
  refine held_take (i := 2) (v := ?_) rfl (by kernel_rfl) (by kernel_rfl) (by kernel_rfl) (fun _ _ _ h => h) (by rfl) ?_ (by assumption) ?_
  rotate_left
  · intro X hSX
    try dsimp only at hSX
    go_simp <;> with_reducible rfl
  simp only [Act.put, List.setIfInBounds_toArray, List.set_cons_zero, List.set_cons_succ]
  refine held_take (i := 3) (v := ?_) rfl (by kernel_rfl) (by kernel_rfl) (by kernel_rfl) (fun _ _ _ h => h) (by rfl) ?_ (by assumption) ?_
  rotate_left
  · intro X hSX
    try dsimp only at hSX
    go_simp <;> with_reducible rfl
  simp only [Act.put, List.setIfInBounds_toArray, List.set_cons_zero, List.set_cons_succ]
  refine held_take (i := 4) (v := ?_) rfl (by kernel_rfl) (by kernel_rfl) (by kernel_rfl) (fun _ _ _ h => h) (by rfl) ?_ (by assumption) ?_
  rotate_left
  · intro X hSX
    try dsimp only at hSX
    have kp := kpt X
    go_simp <;> with_reducible rfl
  simp only [Act.put, List.setIfInBounds_toArray, List.set_cons_zero, List.set_cons_succ]
  refine held_call (i := 5) rfl (by kernel_rfl) (by rfl) (fun K' hK' => ?_)
  go_simp
  refine (HRD.out _ (HTK.out.below (HB2.out.trans (HBX.out.mono HB2.out.size)))).mono ?_
  rintro e2 Y3 ⟨v3, rfl, ho3, hb3⟩
  have HS3 := Lib.hid (HBX.out.trans (hb3.mono HBX.out.size))
  have HO8 := Lib.hid ho3
  have HZ8 := Lib.hid (Nat.le_trans HBX.out.size (Nat.le_refl _))
  clear ho3 hb3
  refine held_go hK' (HS3.out) ?_
  try simp only [Act.put, List.setIfInBounds_toArray, List.set_cons_zero, List.set_cons_succ]
  refine held_take (i := 6) (v := ?_) rfl (by kernel_rfl) (by kernel_rfl) (by kernel_rfl) (fun _ _ _ h => h) (by rfl) ?_ (by assumption) ?_
  rotate_left
  · intro X hSX
    try dsimp only at hSX
    go_simp <;> with_reducible rfl
  simp only [Act.put, List.setIfInBounds_toArray, List.set_cons_zero, List.set_cons_succ]
  refine held_take (i := 7) (v := ?_) rfl (by kernel_rfl) (by kernel_rfl) (by kernel_rfl) (fun _ _ _ h => h) (by rfl) ?_ (by assumption) ?_
  rotate_left
  · intro X hSX
    try dsimp only at hSX
    go_simp <;> with_reducible rfl
  simp only [Act.put, List.setIfInBounds_toArray, List.set_cons_zero, List.set_cons_succ]
  refine held_take (i := 8) (v := ?_) rfl (by kernel_rfl) (by kernel_rfl) (by kernel_rfl) (fun _ _ _ h => h) (by rfl) ?_ (by assumption) ?_
  rotate_left
  · intro X hSX
    try dsimp only at hSX
    go_simp <;> with_reducible rfl
  simp only [Act.put, List.setIfInBounds_toArray, List.set_cons_zero, List.set_cons_succ]
  refine held_take (i := 9) (v := ?_) rfl (by kernel_rfl) (by kernel_rfl) (by kernel_rfl) (fun _ _ _ h => h) (by rfl) ?_ (by assumption) ?_
  rotate_left
  · intro X hSX
    try dsimp only at hSX
    go_simp <;> with_reducible rfl
  simp only [Act.put, List.setIfInBounds_toArray, List.set_cons_zero, List.set_cons_succ]
  refine held_take (i := 10) (v := ?_) rfl (by kernel_rfl) (by kernel_rfl) (by kernel_rfl) (fun _ _ _ h => h) (by rfl) ?_ (by assumption) ?_
  rotate_left
  · intro X hSX
    try dsimp only at hSX
    go_simp <;> with_reducible rfl
  simp only [Act.put, List.setIfInBounds_toArray, List.set_cons_zero, List.set_cons_succ]
  refine wpAnyH_done (by kernel_rfl) ?_ _
  refine NoPanic.normal ?_
  have HX3 := Lib.hid (HX2.out.below HS3.out HX2.out.lt)
  have HG3 := Lib.hid (HG2.out.below HS3.out HG2.out.lt)
  have HO3 := Lib.hid (HO2.out.below HS3.out)
  have HB3 := Lib.hid (HB2.out.trans (HS3.out.mono HB2.out.size))
  have HLT := Lib.hid (Nat.lt_of_lt_of_le HX2.out.lt HZ8.out)
  clear HX2 HG2 HO2 HB2 HS3 HBX HZ8 kpt hS0
  dsimp only at HO8 HU ⊢
  by_cases hf : f = 0
  rotate_left
  · have HR := Lib.hid (HU.out.trans (if_pos hf))
    have kf := ne_t hf
    clear hf HU
    go_wp2_with (with_reducible refine st_hdr rfl (.tmp 2) (.tmp 38) rfl rfl .zero none 0 0 rfl HX3.out ?_)
    refine post_cell3 (cs := hdC .zero none 0 0) (x := .slice none 0 0) (y := .int .i64 f) rfl rfl (HX3.out.put .zero none 0 0).row Tryd.underlying25 rfl infoHd rfl rfl rfl ?_
    exact retHBE0 HR.out (below_set HB3.out (Nat.le_refl _) _)
  replace HBLN := Lib.hid (HBLN.out hf)
  subst hf
  replace HU := Lib.hid (HU.out.trans (if_neg (by simp)))
  obtain ⟨ad8, cap8, rfl, hl8, hc8, hm8, -⟩ := HO8.out.slice
  have HL8 := Lib.hid hl8
  have HC8 := Lib.hid hc8
  have HM8 := Lib.hid hm8
  obtain ⟨m8, hm⟩ : ∃ m8, m8 = B.length := ⟨_, rfl⟩
  have HM9 := Lib.hid hm
  have hm5 : m8 ≤ 262144 := by have := HBLN.out; have := HSZ.out; omega
  rw [← hm]
  have HEC := Lib.hid (VEs.count HGD.out.v)
  clear hl8 hc8 hm8 hm
  go_wp2_with fail
  have HBX := Lib.hid (Below.refl Y3.heap.size Y3).drew
  refine wp_region_noPanic ?_
  refine wp_region_held_drew (S := fun X => Below Y3.heap.size Y3 X) (by kernel_rfl) (HBX.out) (fun hS0 => ?_)
  generalize World.drew Y3 = Y4 at *
  refine held_take (i := 0) (v := ?_) rfl (by kernel_rfl) (by kernel_rfl) (by kernel_rfl) (fun _ _ _ h => h) (by rfl) ?_ (by assumption) ?_
  rotate_left
  · intro X hSX
    try dsimp only at hSX
    go_simp <;> with_reducible rfl
  simp only [Act.put, List.setIfInBounds_toArray, List.set_cons_zero, List.set_cons_succ]
  refine held_take (i := 2) (v := ?_) rfl (by kernel_rfl) (by kernel_rfl) (by kernel_rfl) (fun _ _ _ h => h) (by rfl) ?_ (by assumption) ?_
  rotate_left
  · intro X hSX
    try dsimp only at hSX
    go_simp <;> with_reducible rfl
  simp only [Act.put, List.setIfInBounds_toArray, List.set_cons_zero, List.set_cons_succ]
  refine held_take (i := 3) (v := ?_) rfl (by kernel_rfl) (by kernel_rfl) (by kernel_rfl) (fun _ _ _ h => h) (by rfl) ?_ (by assumption) ?_
  rotate_left
  · intro X hSX
    try dsimp only at hSX
    have c10 := (HG3.out.below hSX HG3.out.lt).at_.c10
    go_simp <;> with_reducible rfl
  simp only [Act.put, List.setIfInBounds_toArray, List.set_cons_zero, List.set_cons_succ]
  refine held_call (i := 1) rfl (by kernel_rfl) (by rfl) (fun K' hK' => ?_)
  go_simp
  refine (csum_any ad8 m8 cap8 B _ (HL8.out.below HBX.out rfl) HM9.out (by have := HM9.out; omega)).mono ?_
  rintro e3 Y5 ⟨rfl, hb5⟩
  have HS5 := Lib.hid (HBX.out.trans (hb5.mono HBX.out.size))
  clear hb5
  refine held_go hK' (HS5.out) ?_
  try simp only [Act.put, List.setIfInBounds_toArray, List.set_cons_zero, List.set_cons_succ]
  by_cases hcr : crc B = H.sm
  rotate_left
  · have kne : (((crc B : Nat) : Int) != ((H.sm : Nat) : Int)) = true := by rw [bne_iff_ne]; omega
    have HR := Lib.hid (HU.out.trans (if_pos (.inl hcr)))
    clear hcr HU
    refine held_take (i := 4) (v := ?_) rfl (by kernel_rfl) (by kernel_rfl) (by kernel_rfl) (fun _ _ _ h => h) (by rfl) ?_ (by assumption) ?_
    rotate_left
    · intro X hSX
      try dsimp only at hSX
      go_simp <;> with_reducible rfl
    simp only [Act.put, List.setIfInBounds_toArray, List.set_cons_zero, List.set_cons_succ]
    refine held_take (i := 5) (v := ?_) rfl (by kernel_rfl) (by kernel_rfl) (by kernel_rfl) (fun _ _ _ h => h) (by rfl) ?_ (by assumption) ?_
    rotate_left
    · intro X hSX
      try dsimp only at hSX
      go_simp <;> with_reducible rfl
    simp only [Act.put, List.setIfInBounds_toArray, List.set_cons_zero, List.set_cons_succ]
    refine held_skip (i := 6) rfl (by kernel_rfl) (by kernel_rfl) (by kernel_rfl) (fun _ _ _ h => h) (by rfl) (by assumption) ?_
    simp only [Act.put, List.setIfInBounds_toArray, List.set_cons_zero, List.set_cons_succ]
    refine held_skip (i := 7) rfl (by kernel_rfl) (by kernel_rfl) (by kernel_rfl) (fun _ _ _ h => h) (by rfl) (by assumption) ?_
    simp only [Act.put, List.setIfInBounds_toArray, List.set_cons_zero, List.set_cons_succ]
    refine held_skip (i := 8) rfl (by kernel_rfl) (by kernel_rfl) (by kernel_rfl) (fun _ _ _ h => h) (by rfl) (by assumption) ?_
    simp only [Act.put, List.setIfInBounds_toArray, List.set_cons_zero, List.set_cons_succ]
    refine held_skip (i := 9) rfl (by kernel_rfl) (by kernel_rfl) (by kernel_rfl) (fun _ _ _ h => h) (by rfl) (by assumption) ?_
    simp only [Act.put, List.setIfInBounds_toArray, List.set_cons_zero, List.set_cons_succ]
    refine held_skip (i := 10) rfl (by kernel_rfl) (by kernel_rfl) (by kernel_rfl) (fun _ _ _ h => h) (by rfl) (by assumption) ?_
    simp only [Act.put, List.setIfInBounds_toArray, List.set_cons_zero, List.set_cons_succ]
    refine held_take (i := 11) (v := ?_) rfl (by kernel_rfl) (by kernel_rfl) (by kernel_rfl) (fun _ _ _ h => h) (by rfl) ?_ (by assumption) ?_
    rotate_left
    · intro X hSX
      try dsimp only at hSX
      go_simp <;> with_reducible rfl
    simp only [Act.put, List.setIfInBounds_toArray, List.set_cons_zero, List.set_cons_succ]
    refine wpAnyH_done (by kernel_rfl) ?_ _
    refine NoPanic.normal ?_
    have HX4 := Lib.hid (HX3.out.below HS5.out HX3.out.lt)
    go_wp2_with (with_reducible refine st_hdr rfl (.tmp 2) (.tmp 52) rfl rfl .zero none 0 0 rfl HX4.out ?_)
    refine post_cell3 (cs := hdC .zero none 0 0) (x := .slice none 0 0) (y := .int .i64 4) rfl rfl (HX4.out.put .zero none 0 0).row Tryd.underlying25 rfl infoHd rfl rfl rfl ?_
    exact retHBE0 HR.out (below_set (HB3.out.trans (HS5.out.mono HB3.out.size)) (Nat.le_refl _) _)
  have kne : (((crc B : Nat) : Int) != ((H.sm : Nat) : Int)) = false := by rw [hcr]; simp
  refine held_take (i := 4) (v := ?_) rfl (by kernel_rfl) (by kernel_rfl) (by kernel_rfl) (fun _ _ _ h => h) (by rfl) ?_ (by assumption) ?_
  rotate_left
  · intro X hSX
    try dsimp only at hSX
    go_simp <;> with_reducible rfl
  simp only [Act.put, List.setIfInBounds_toArray, List.set_cons_zero, List.set_cons_succ]
  refine held_take (i := 5) (v := ?_) rfl (by kernel_rfl) (by kernel_rfl) (by kernel_rfl) (fun _ _ _ h => h) (by rfl) ?_ (by assumption) ?_
  rotate_left
  · intro X hSX
    try dsimp only at hSX
    go_simp <;> with_reducible rfl
  simp only [Act.put, List.setIfInBounds_toArray, List.set_cons_zero, List.set_cons_succ]
  refine held_take (i := 6) (v := ?_) rfl (by kernel_rfl) (by kernel_rfl) (by kernel_rfl) (fun _ _ _ h => h) (by rfl) ?_ (by assumption) ?_
  rotate_left
  · intro X hSX
    try dsimp only at hSX
    go_simp <;> with_reducible rfl
  simp only [Act.put, List.setIfInBounds_toArray, List.set_cons_zero, List.set_cons_succ]
  refine held_take (i := 7) (v := ?_) rfl (by kernel_rfl) (by kernel_rfl) (by kernel_rfl) (fun _ _ _ h => h) (by rfl) ?_ (by assumption) ?_
  rotate_left
  · intro X hSX
    try dsimp only at hSX
    have c8 := (HG3.out.below hSX HG3.out.lt).at_.c8
    go_simp <;> with_reducible rfl
  simp only [Act.put, List.setIfInBounds_toArray, List.set_cons_zero, List.set_cons_succ]
  refine held_take (i := 8) (v := ?_) rfl (by kernel_rfl) (by kernel_rfl) (by kernel_rfl) (fun _ _ _ h => h) (by rfl) ?_ (by assumption) ?_
  rotate_left
  · intro X hSX
    try dsimp only at hSX
    go_simp <;> with_reducible rfl
  simp only [Act.put, List.setIfInBounds_toArray, List.set_cons_zero, List.set_cons_succ]
  refine held_call (i := 9) rfl (by kernel_rfl) (by rfl) (fun K' hK' => ?_)
  go_simp
  refine (havesums_any ad1 _ cap1 H.es ad8 m8 cap8 B _ (HO3.out.below HS5.out).hin.lf rfl (by have := HEC.out; omega) (fun e he => by have := (VEs.all HGD.out.v e he).2.2.2.1; omega) (by have := sum_full HGD.out.v; have := HBLN.out; have := HM9.out; omega) (HL8.out.below HS5.out rfl) HM9.out (by have := HM9.out; have := HC8.out; omega) HM8.out (by omega)).mono ?_
  generalize prtsB H.es B = Q at *
  rintro e4 Y6 ⟨rfl, hb6⟩
  have HS6 := Lib.hid (HS5.out.trans (hb6.mono HS5.out.size))
  refine held_go hK' (HS6.out) ?_
  try simp only [Act.put, List.setIfInBounds_toArray, List.set_cons_zero, List.set_cons_succ]
  clear hb6
  have HX4 := Lib.hid (HX3.out.below HS6.out HX3.out.lt)
  have HG4 := Lib.hid (HG3.out.below HS6.out HG3.out.lt)
  cases Q
  · have HR := Lib.hid (HU.out.trans (if_pos (.inr rfl)))
    clear hcr HU
    refine held_take (i := 10) (v := ?_) rfl (by kernel_rfl) (by kernel_rfl) (by kernel_rfl) (fun _ _ _ h => h) (by rfl) ?_ (by assumption) ?_
    rotate_left
    · intro X hSX
      try dsimp only at hSX
      go_simp <;> with_reducible rfl
    simp only [Act.put, List.setIfInBounds_toArray, List.set_cons_zero, List.set_cons_succ]
    refine held_take (i := 11) (v := ?_) rfl (by kernel_rfl) (by kernel_rfl) (by kernel_rfl) (fun _ _ _ h => h) (by rfl) ?_ (by assumption) ?_
    rotate_left
    · intro X hSX
      try dsimp only at hSX
      go_simp <;> with_reducible rfl
    simp only [Act.put, List.setIfInBounds_toArray, List.set_cons_zero, List.set_cons_succ]
    refine wpAnyH_done (by kernel_rfl) ?_ _
    refine NoPanic.normal ?_
    go_wp2_with (with_reducible refine st_hdr rfl (.tmp 2) (.tmp 52) rfl rfl .zero none 0 0 rfl HX4.out ?_)
    refine post_cell3 (cs := hdC .zero none 0 0) (x := .slice none 0 0) (y := .int .i64 4) rfl rfl (HX4.out.put .zero none 0 0).row Tryd.underlying25 rfl infoHd rfl rfl rfl ?_
    exact retHBE0 HR.out (below_set (HB3.out.trans (HS6.out.mono HB3.out.size)) (Nat.le_refl _) _)
  · have HR := Lib.hid (show R = (H, B, 0) from HU.out.trans (if_neg (by rintro (h | h); exact h hcr; cases h)))
    clear hcr HU
    refine held_take (i := 10) (v := ?_) rfl (by kernel_rfl) (by kernel_rfl) (by kernel_rfl) (fun _ _ _ h => h) (by rfl) ?_ (by assumption) ?_
    rotate_left
    · intro X hSX
      try dsimp only at hSX
      go_simp <;> with_reducible rfl
    simp only [Act.put, List.setIfInBounds_toArray, List.set_cons_zero, List.set_cons_succ]
    refine held_take (i := 11) (v := ?_) rfl (by kernel_rfl) (by kernel_rfl) (by kernel_rfl) (fun _ _ _ h => h) (by rfl) ?_ (by assumption) ?_
    rotate_left
    · intro X hSX
      try dsimp only at hSX
      go_simp <;> with_reducible rfl
    simp only [Act.put, List.setIfInBounds_toArray, List.set_cons_zero, List.set_cons_succ]
    refine wpAnyH_done (by kernel_rfl) ?_ _
    refine NoPanic.normal ?_
    go_wp2_with (first | (with_reducible refine ld_hdr rfl (.tmp 5) rfl rfl HG4.out ?_) | (with_reducible refine st_hdr rfl (.tmp 2) (.tmp 53) rfl rfl H ad1 _ cap1 rfl HX4.out ?_))
    refine post_cell3 (cs := hdC H ad1 H.es.length cap1) (x := .slice ad8 m8 cap8) (y := .int .i64 0) rfl rfl (HX4.out.put H ad1 _ cap1).row Tryd.underlying25 rfl infoHd rfl rfl rfl ?_
    refine retHBE HR.out ?_ ?_ (below_set (HB3.out.trans (HS6.out.mono HB3.out.size)) (Nat.le_refl _) _)
    · exact ((HO3.out.below HS6.out).row (k := w.heap.size) (by omega) _).mono (by omega)
    · rw [HM9.out]
      exact (setO (HO8.out.below HS6.out) HLT.out _).mono (Nat.le_of_lt HLT.out)
end Go.Proofs.YtjiijjdmkeeilaaDoor
