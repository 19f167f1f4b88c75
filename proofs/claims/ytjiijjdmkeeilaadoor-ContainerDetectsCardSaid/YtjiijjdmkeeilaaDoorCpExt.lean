/-
  The program's Extract.
-/
import Derived.Test.YtjiijjdmkeeilaaDoorCpNeed
import Derived.Test.YtjiijjdmkeeilaaDoorCBF
import Derived.Test.YtjiijjdmkeeilaaDoorCAV
namespace Go.Proofs.YtjiijjdmkeeilaaDoor
open Go.RowKit
set_option linter.unusedVariables false
set_option linter.unusedSimpArgs false
attribute [local irreducible] chsU chkU needU hbL staU prtU
set_option maxRecDepth 100000 in
set_option maxHeartbeats 8000000 in
theorem extract_any (h : Hdr) (ad : Option Addr) (n cap : Nat) (j o l : Int) (bd : Option Addr) (m bcap : Nat) (bl : List Blk) (w : World) (hin : HdIn w h ad n cap) (hs : ∀ e ∈ h.es, e.s < 4294967296) (hsm : h.sm < 4294967296)
    (hl : Ki w bd bl) (hm : m = bl.length) (hm5 : m ≤ 5000) (hd : ∀ b ∈ bl, b.d.length ≤ 1000) :
    Calls Tryd.prog 29 #[hdV h ad n cap, .int .i64 j, .int .i64 o, .int .i64 l, .slice bd m bcap] w (RetBL w (extU h j o l bl)) := by
  have HN := Lib.hid hm
  have HX0 := Lib.hid (HdRow.new w h ad n cap)
  have HB0 := Lib.hid (co_box1 w (boxH h ad n cap))
  have HI0 := Lib.hid (hin.below (co_box1 w (boxH h ad n cap)))
  have HL0 := Lib.hid (hl.below (co_box1 w (boxH h ad n cap)))
  have HS := Lib.hid hs
  have HSM := Lib.hid hsm
  have HD := Lib.hid hd
  have HP := Lib.hid (fun W hi => need_any h ad n cap j o l W hi hs hsm)
  rcases hp : needU h j o l with ⟨F, K, e⟩
  have HGD := Lib.hid (fun (he : e = 0) (h0 : l ≠ 0) => needU_good (h := h) (j := j) (o := o) (l := l) (F := F) (K := K) (by rw [hp, he]) h0)
  rcases hc : chsU h.vr h.sz (F - ((hbL h).length : Int)) bl with ⟨B, f⟩
  have HU := Lib.hid (extU_parts hp hc)
  have HC := Lib.hid hc
  obtain ⟨R, hR⟩ : ∃ R, R = extU h j o l bl := ⟨_, rfl⟩
  rw [← hR] at HU ⊢
  rw [← hm] at HU
  rw [hp] at HP
  clear hl hm hd hs hsm hin hp hc hR
  go_enter Tryd.func29, Tryd.ntmps29
  go_wp2_with (with_reducible refine ld_hdr rfl (.tmp 5) rfl rfl HX0.out ?_)
  change Calls Tryd.prog 27 _ (w.alloc (boxH h ad n cap)) _
  generalize World.alloc w _ = X0 at *
  refine (HP.out _ HI0.out).mono ?_
  rintro e0 X1 ⟨rfl, hb1⟩
  dsimp only
  obtain ⟨X2, hX2⟩ : ∃ X2, X2 = X1.alloc (.cells #[.int .i64 F, .int .i64 K] 46) := ⟨_, rfl⟩
  have hb2 : Below X1.heap.size X1 X2 := by rw [hX2]; exact co_box1 X1 _
  have HRW := Lib.hid (show X2.heap[X1.heap.size]? = some (.cells #[.int .i64 F, .int .i64 K] 46 (0, 0)) by rw [hX2]; exact heap_alloc_new X1 _)
  have HG5 := Lib.hid (show w.heap.size < X1.heap.size from Nat.lt_of_lt_of_le HX0.out.lt hb1.size)
  have HX2 := Lib.hid ((HX0.out.below hb1 HX0.out.lt).below hb2 HG5.out)
  have HI2 := Lib.hid ((HI0.out.below hb1).below hb2)
  have HL2 := Lib.hid ((HL0.out.below hb1).below hb2)
  have HB2 := Lib.hid ((HB0.out.trans (hb1.mono HB0.out.size)).trans (hb2.mono (Nat.le_of_lt HG5.out)))
  have HZ := Lib.hid (show X1.heap.size < X2.heap.size from (Array.getElem?_eq_some_iff.1 HRW.out).1)
  clear hb1 hb2 HX0 HB0 HL0 HI0 HP
  by_cases he : e = 0
  rotate_left
  · have HR := Lib.hid (HU.out.trans (if_pos he))
    have k1 := ne_t he
    clear he HU
    go_wp2_with fail
    rw [← hX2]
    go_ret2
    exact retBL0 HR.out HB2.out
  subst he
  replace HU := Lib.hid (HU.out.trans (if_neg (by simp)))
  have c1 := cell_of_row X2 X1.heap.size 1 _ _ _ HRW.out
  rw [hX2] at c1
  by_cases hmk : (m : Int) = K
  rotate_left
  · have HR := Lib.hid (HU.out.trans (if_pos hmk))
    have k1 := ne_t hmk
    clear hmk HU
    go_wp2_with fail
    rw [← hX2]
    go_ret2
    exact retBL0 HR.out HB2.out
  subst hmk
  replace HU := Lib.hid (HU.out.trans (if_neg (by simp)))
  by_cases hl0 : l = 0
  · have HR := Lib.hid (HU.out.trans (if_pos hl0))
    subst hl0
    clear HU
    go_wp2_with fail
    rw [← hX2]
    go_ret2
    exact retBL0 HR.out HB2.out
  have kl := eq_f hl0
  replace HU := Lib.hid (HU.out.trans (if_neg hl0))
  obtain ⟨q, hg⟩ := HGD.out rfl hl0
  have HG := Lib.hid hg
  clear HGD hg
  have hvr : h.vr = 1 ∨ h.vr = 2 := by have := HG.out.v.1.2.1; omega
  obtain ⟨J, rfl⟩ := Int.eq_ofNat_of_zero_le HG.out.j0
  obtain ⟨L, rfl⟩ := Int.eq_ofNat_of_zero_le (show 0 ≤ l by have := HG.out.l1; omega)
  rw [Int.toNat_natCast, Int.toNat_natCast] at HU
  obtain ⟨m1, m2, m3, m4, m5, m6, m7, m8⟩ := HG.out.nums
  rw [Int.toNat_natCast] at m5 m6 m8
  have hsm9 := HG.out.sm
  have hs09 := HG.out.s0
  have ho09 := HG.out.o0
  have hjl := HG.out.jl
  have hqq := HG.out.hq
  rw [Int.toNat_natCast] at hsm9 hs09 hjl hqq
  have hsz := HG.out.v.1.2.2.2
  have hsz9 : (L : Int) ≤ 262144 := by omega
  have HFQ := Lib.hid (show F - ((hbL h).length : Int) = (q : Int) by rw [HG.out.hf]; omega)
  rw [HFQ.out] at HU HC
  have HFT := Lib.hid (fun hok => HG.out.fits (bl := bl) (by rw [HN.out]) hok)
  rw [Int.toNat_natCast] at HFT
  have HLY := Lib.hid (fun W => layout_any h ad n cap W hvr)
  have HNN := Lib.hid (fun e (he : e ∈ h.es) => (VEs.all HG.out.v e he).2.2.2.1.1)
  have HSM2 := Lib.hid (need_sum HG.out.v)
  have HBG := Lib.hid (fun W hi => begin15_any h ad n cap J W hi (by have := HI2.out.len; omega) HNN.out (by have := HSM2.out; omega))
  have HRD := Lib.hid (fun W hk => read15_any h ad n cap q bd m bcap bl W hvr (by omega) (by omega) hk HN.out hm5 (fun k hk => m4 (k : Int) (by omega) (by omega)) HD.out)
  rw [HC.out] at HRD HFT
  have hp : prtU h.vr = 60 ∨ prtU h.vr = 64 := by rcases prtU_cases h.vr with ⟨_, e⟩ | ⟨_, e⟩ <;> omega
  generalize prtU h.vr = P at *
  generalize decide (h.vr = 2) = dv at *
  generalize staU h.es J = S at *
  obtain ⟨T, hT⟩ : ∃ T, T = S + o := ⟨_, rfl⟩
  have HTT := Lib.hid hT
  rw [← hT] at HU HFT hqq
  have hT0 : 0 ≤ T ∧ T ≤ 262144 := by omega
  have kw1 : IntKind.i64.wrap (S + o) = T := by rw [hT]; exact IntWalk.i64_in _ (by omega)
  have hp0 : ¬ P = 0 := by omega
  have kdv : IntKind.i64.wrap (T.tdiv P) = (q : Int) := by rw [Int.tdiv_eq_ediv_of_nonneg hT0.1, ← hqq]; exact IntWalk.i64_in _ (by omega)
  have hmod : T - (q : Int) * P = T % P := by
    rw [Int.emod_def, ← hqq, Int.mul_comm]
  rw [hmod] at HU HFT
  clear hvr hjl hqq m1 m2 m3 m4 m5 m6 m7 m8 hsm9 hs09 ho09 hT
  have HXW := HX2
  rw [hX2] at HXW
  go_wp2_with (with_reducible refine ld_hdr rfl (.tmp 5) rfl rfl HXW.out ?_)
  rw [← hX2]
  clear hX2 c1 HXW
  refine (HLY.out _).mono ?_
  rintro e X3 ⟨rfl, hb3⟩
  have HX3 := Lib.hid (HX2.out.below hb3 HX2.out.lt)
  have HI3 := Lib.hid (HI2.out.below hb3)
  have HL3 := Lib.hid (HL2.out.below hb3)
  have HB3 := Lib.hid (HB2.out.trans (hb3.mono HB2.out.size))
  clear hb3 HX2 HI2 HL2 HB2 HLY
  have kf := fun X => run_fieldLy P dv X
  go_wp2_with (with_reducible refine ld_hdr rfl (.tmp 5) rfl rfl HX3.out ?_)
  clear kf
  refine (HBG.out _ HI3.out).mono ?_
  rintro e X4 ⟨rfl, hb4⟩
  have HX4 := Lib.hid (HX3.out.below hb4 HX3.out.lt)
  have HL4 := Lib.hid (HL3.out.below hb4)
  have HB4 := Lib.hid (HB3.out.trans (hb4.mono HB3.out.size))
  clear hb4 HX3 HI3 HL3 HB3 HBG
  go_wp2_with fail
  have HBX := Lib.hid (Below.refl X4.heap.size X4).drew
  refine wp_region_noPanic ?_
  refine wp_region_held_drew (S := fun X => Below X4.heap.size X4 X) (by kernel_rfl) (HBX.out) (fun hS0 => ?_)
  generalize World.drew X4 = X5 at *
  refine held_take (i := 0) (v := ?_) rfl (by kernel_rfl) (by kernel_rfl) (by kernel_rfl) (fun _ _ _ h => h) (by rfl) ?_ (by assumption) ?_
  rotate_left
  · intro X hSX
    try dsimp only at hSX
    obtain ⟨-, c0, c1, c2, c3, c4, c5, c6, c7, c8, c9, c10⟩ := (HX4.out.below hSX HX4.out.lt).at_
    go_simp <;> with_reducible rfl
  simp only [Act.put, List.setIfInBounds_toArray, List.set_cons_zero, List.set_cons_succ]
  refine held_take (i := 1) (v := ?_) rfl (by kernel_rfl) (by kernel_rfl) (by kernel_rfl) (fun _ _ _ h => h) (by rfl) ?_ (by assumption) ?_
  rotate_left
  · intro X hSX
    try dsimp only at hSX
    go_simp <;> with_reducible rfl
  simp only [Act.put, List.setIfInBounds_toArray, List.set_cons_zero, List.set_cons_succ]
  refine held_take (i := 2) (v := ?_) rfl (by kernel_rfl) (by kernel_rfl) (by kernel_rfl) (fun _ _ _ h => h) (by rfl) ?_ (by assumption) ?_
  rotate_left
  · intro X hSX
    try dsimp only at hSX
    go_simp <;> with_reducible rfl
  simp only [Act.put, List.setIfInBounds_toArray, List.set_cons_zero, List.set_cons_succ]
  refine held_take (i := 3) (v := ?_) rfl (by kernel_rfl) (by kernel_rfl) (by kernel_rfl) (fun _ _ _ h => h) (by rfl) ?_ (by assumption) ?_
  rotate_left
  · intro X hSX
    try dsimp only at hSX
    go_simp <;> with_reducible rfl
  simp only [Act.put, List.setIfInBounds_toArray, List.set_cons_zero, List.set_cons_succ]
  refine held_take (i := 4) (v := ?_) rfl (by kernel_rfl) (by kernel_rfl) (by kernel_rfl) (fun _ _ _ h => h) (by rfl) ?_ (by assumption) ?_
  rotate_left
  · intro X hSX
    try dsimp only at hSX
    go_simp <;> with_reducible rfl
  simp only [Act.put, List.setIfInBounds_toArray, List.set_cons_zero, List.set_cons_succ]

  refine held_call (i := 5) rfl (by kernel_rfl) (by rfl) (fun K' hK' => ?_)
  go_simp
  refine (HRD.out _ (HL4.out.below HBX.out)).mono ?_
  rintro e X6 ⟨v6, rfl, ho6, hb6⟩
  have HS6 := Lib.hid (HBX.out.trans (hb6.mono HBX.out.size))
  have HO6 := Lib.hid ho6
  clear ho6 hb6
  refine held_go hK' (HS6.out) ?_
  try simp only [Act.put, List.setIfInBounds_toArray, List.set_cons_zero, List.set_cons_succ]
  refine held_take (i := 6) (v := ?_) rfl (by kernel_rfl) (by kernel_rfl) (by kernel_rfl) (fun _ _ _ h => h) (by rfl) ?_ (by assumption) ?_
  rotate_left
  · intro X hSX
    try dsimp only at hSX
    go_simp <;> with_reducible rfl
  simp only [Act.put, List.setIfInBounds_toArray, List.set_cons_zero, List.set_cons_succ]
  refine held_take (i := 7) (v := ?_) rfl (by kernel_rfl) (by kernel_rfl) (by kernel_rfl) (fun _ _ _ h => h) (by rfl) ?_ (by assumption) ?_
  rotate_left
  · intro X hSX
    try dsimp only at hSX
    go_simp <;> with_reducible rfl
  simp only [Act.put, List.setIfInBounds_toArray, List.set_cons_zero, List.set_cons_succ]
  refine held_take (i := 8) (v := ?_) rfl (by kernel_rfl) (by kernel_rfl) (by kernel_rfl) (fun _ _ _ h => h) (by rfl) ?_ (by assumption) ?_
  rotate_left
  · intro X hSX
    try dsimp only at hSX
    go_simp <;> with_reducible rfl
  simp only [Act.put, List.setIfInBounds_toArray, List.set_cons_zero, List.set_cons_succ]
  refine held_take (i := 9) (v := ?_) rfl (by kernel_rfl) (by kernel_rfl) (by kernel_rfl) (fun _ _ _ h => h) (by rfl) ?_ (by assumption) ?_
  rotate_left
  · intro X hSX
    try dsimp only at hSX
    go_simp <;> with_reducible rfl
  simp only [Act.put, List.setIfInBounds_toArray, List.set_cons_zero, List.set_cons_succ]
  refine held_take (i := 10) (v := ?_) rfl (by kernel_rfl) (by kernel_rfl) (by kernel_rfl) (fun _ _ _ h => h) (by rfl) ?_ (by assumption) ?_
  rotate_left
  · intro X hSX
    try dsimp only at hSX
    go_simp <;> with_reducible rfl
  simp only [Act.put, List.setIfInBounds_toArray, List.set_cons_zero, List.set_cons_succ]
  refine wpAnyH_done (by kernel_rfl) ?_ _
  refine NoPanic.normal ?_
  have HB6 := Lib.hid (HB4.out.trans (HS6.out.mono HB4.out.size))
  dsimp only at HO6 HFT ⊢
  by_cases hf0 : f = 0
  rotate_left
  · have HR := Lib.hid (HU.out.trans (if_pos hf0))
    have k1 := ne_t hf0
    clear hf0 HU
    go_wp2_with fail
    go_ret2
    exact retBL0 HR.out HB6.out
  subst hf0
  replace HU := Lib.hid (HU.out.trans (if_neg (by simp)))
  obtain ⟨f1, f2⟩ := HFT.out rfl
  obtain ⟨A, hA⟩ := Int.eq_ofNat_of_zero_le f1
  have kmd : T % P = (A : Int) := hA
  have hA64 : A ≤ 64 := by have h2 := Int.emod_lt_of_pos T (b := P) (by omega); omega
  rw [hA] at HU f2
  rw [Int.toNat_natCast] at HU
  obtain ⟨E, hE⟩ : ∃ E, E = A + L := ⟨_, rfl⟩
  obtain ⟨ad8, cap8, rfl, hl8, hc8, hm8, hn8⟩ := HO6.out.slice
  have hEB : E ≤ B.length := by omega
  have kw4 : IntKind.i64.wrap ((A : Int) + (L : Int)) = (E : Int) := by rw [hE]; exact (IntWalk.i64_in _ (by have := hsz9; omega)).trans (by push_cast; rfl)
  have kpt := fun W => run_part ad8 B.length cap8 A E W (by omega) (by omega)
  have HL8 := Lib.hid hl8
  have hr := retBL (w := w) (l := L) HU.out hl8 hc8 hm8 hn8 (by omega) HB6.out
  rw [show L = E - A by omega] at hr
  have HRR := Lib.hid hr
  clear hr hA f1 f2 hl8 hc8 hm8 hn8 hmod kdv hE
  generalize ptA ad8 cap8 A = qd at *
  generalize B.length = BL at *
  go_wp2_with fail
  go_ret2
  exact HRR.out
end Go.Proofs.YtjiijjdmkeeilaaDoor
