/-
  The specification's Extract.
  Blocks of the call's own, where the blocks that hold them are as they were.
-/
import Derived.Test.YtjiijjdmkeeilaaDoorCAR
import Derived.Test.YtjiijjdmkeeilaaDoorCoExtM
import Derived.Test.YtjiijjdmkeeilaaDoorCAO
import Derived.Deep.LoopGhost
import Derived.Test.YtjiijjdmkeeilaaDoorCAM
namespace Go.Proofs.YtjiijjdmkeeilaaDoor
open Go.RowKit
set_option linter.unusedVariables false
set_option linter.unusedSimpArgs false
/-- a call gives bytes, wherever they lie, and an error -/
def RetBL (w : World) (r : List UInt8 × Int) (e : Ending) (w' : World) : Prop :=
  ∃ ad cap, e = .returned (.tuple #[.slice ad r.1.length cap, .int .i64 r.2]) ∧ Lie w' ad r.1 ∧ r.1.length ≤ cap ∧ cap ≤ maxLen ∧ (ad = none → cap = 0) ∧ Below w.heap.size w w'
theorem retBL0 {w w' : World} {R : List UInt8 × Int} {f : Int} (h : R = ([], f)) (hb : Below w.heap.size w w') : RetBL w R (.returned (.tuple #[.slice none 0 0, .int .i64 f])) w' := by
  subst h
  exact ⟨none, 0, rfl, ⟨.inl rfl⟩, Nat.le_refl _, by decide, fun _ => rfl, hb⟩
theorem retBL {w w' : World} {R : List UInt8 × Int} {B : List UInt8} {a l : Nat} (h : R = ((B.drop a).take l, 0)) {ad : Option Addr} {cap : Nat} (hl : Lie w' ad B) (hc : B.length ≤ cap) (hm : cap ≤ maxLen) (hn : ad = none → cap = 0) (hs : a + l ≤ B.length) (hb : Below w.heap.size w w') :
    RetBL w R (.returned (.tuple #[.slice (ptA ad cap a) l (cap - a), .int .i64 0])) w' := by
  subst h
  refine ⟨ptA ad cap a, cap - a, ?_, hl.pt hc a l, ?_, by omega, ptA_nil hn a, hb⟩
  · have : ((B.drop a).take l).length = l := by simp; omega
    rw [this]
  · simp; omega
theorem chsU_nl (v sz i : Int) : chsU v sz i [] = ([], 0) := rfl
attribute [local irreducible] chsU chkU needU hbL staU prtU
set_option maxRecDepth 100000 in
set_option maxHeartbeats 8000000 in
theorem rextract_any (h : Hdr) (ad : Option Addr) (n cap : Nat) (j o l : Int) (bd : Option Addr) (m bcap : Nat) (bl : List Blk) (w : World) (hin : HdIn w h ad n cap) (hs : ∀ e ∈ h.es, e.s < 4294967296) (hsm : h.sm < 4294967296)
    (hl : Ki w bd bl) (hm : m = bl.length) (hd : ∀ b ∈ bl, b.d.length ≤ 1000) :
    Calls Tryd.prog 30 #[hdV h ad n cap, .int .i64 j, .int .i64 o, .int .i64 l, .slice bd m bcap] w (RetBL w (extU h j o l bl)) := by
  have HN := Lib.hid hm
  have HX0 := Lib.hid (HdRow.new w h ad n cap)
  have HB0 := Lib.hid (co_box1 w (boxH h ad n cap))
  have HI0 := Lib.hid (hin.below (co_box1 w (boxH h ad n cap)))
  have HL0 := Lib.hid (hl.below (co_box1 w (boxH h ad n cap)))
  have HS := Lib.hid hs
  have HSM := Lib.hid hsm
  have HD := Lib.hid hd
  have HP := Lib.hid (fun W hi => rneed_any h ad n cap j o l W hi hs hsm)
  rcases hp : needU h j o l with ⟨F, K, e⟩
  have HGD := Lib.hid (fun (he : e = 0) (h0 : l ≠ 0) => needU_good (h := h) (j := j) (o := o) (l := l) (F := F) (K := K) (by rw [hp, he]) h0)
  rcases hc : chsU h.vr h.sz (F - ((hbL h).length : Int)) bl with ⟨B, f⟩
  have HU := Lib.hid (extU_parts hp hc)
  have HC := Lib.hid hc
  obtain ⟨R, hR⟩ : ∃ R, R = extU h j o l bl := ⟨_, rfl⟩
  rw [← hR] at HU ⊢
  rw [← hm] at HU
  rw [hp] at HP
  clear hl hm hd hs hsm hin hp hc hR
  go_enter Tryd.func30, Tryd.ntmps30
  go_wp2_with (with_reducible refine ld_hdr rfl (.tmp 5) rfl rfl HX0.out ?_)
  change Calls Tryd.prog 28 _ (w.alloc (boxH h ad n cap)) _
  generalize World.alloc w _ = X0 at *
  refine (HP.out _ HI0.out).mono ?_
  rintro e0 X1 ⟨rfl, hb1⟩
  dsimp only
  obtain ⟨X2, hX2⟩ : ∃ X2, X2 = X1.alloc (.cells #[.int .i64 F, .int .i64 K] 46) := ⟨_, rfl⟩
  have hb2 : Below X1.heap.size X1 X2 := by rw [hX2]; exact co_box1 X1 _
  have HRW := Lib.hid (show X2.heap[X1.heap.size]? = some (.cells #[.int .i64 F, .int .i64 K] 46 (0, 0)) by rw [hX2]; exact heap_alloc_new X1 _)
  have HG5 := Lib.hid (show w.heap.size < X1.heap.size from Nat.lt_of_lt_of_le HX0.out.lt hb1.size)
  have HX2 := Lib.hid ((HX0.out.below hb1 HX0.out.lt).below hb2 HG5.out)
  have HI2 := Lib.hid ((HI0.out.below hb1).below hb2)
  have HL2 := Lib.hid ((HL0.out.below hb1).below hb2)
  have HB2 := Lib.hid ((HB0.out.trans (hb1.mono HB0.out.size)).trans (hb2.mono (Nat.le_of_lt HG5.out)))
  have HZ := Lib.hid (show X1.heap.size < X2.heap.size from (Array.getElem?_eq_some_iff.1 HRW.out).1)
  clear hb1 hb2 HX0 HB0 HL0 HI0 HP
  by_cases he : e = 0
  rotate_left
  · have HR := Lib.hid (HU.out.trans (if_pos he))
    have k1 := ne_t he
    clear he HU
    go_wp2_with fail
    rw [← hX2]
    go_ret2
    exact retBL0 HR.out HB2.out
  subst he
  replace HU := Lib.hid (HU.out.trans (if_neg (by simp)))
  have c1 := cell_of_row X2 X1.heap.size 1 _ _ _ HRW.out
  rw [hX2] at c1
  by_cases hmk : (m : Int) = K
  rotate_left
  · have HR := Lib.hid (HU.out.trans (if_pos hmk))
    have k1 := ne_t hmk
    clear hmk HU
    go_wp2_with fail
    rw [← hX2]
    go_ret2
    exact retBL0 HR.out HB2.out
  subst hmk
  replace HU := Lib.hid (HU.out.trans (if_neg (by simp)))
  by_cases hl0 : l = 0
  · have HR := Lib.hid (HU.out.trans (if_pos hl0))
    subst hl0
    clear HU
    go_wp2_with fail
    rw [← hX2]
    go_ret2
    exact retBL0 HR.out HB2.out
  have kl := eq_f hl0
  replace HU := Lib.hid (HU.out.trans (if_neg hl0))
  obtain ⟨q, hg⟩ := HGD.out rfl hl0
  have HG := Lib.hid hg
  clear HGD hg
  go_wp2_with fail
  rw [← hX2]
  clear hX2 c1
  have HBX := Lib.hid (Below.refl X2.heap.size X2).drew
  refine wp_region_noPanic ?_
  refine wp_region_held_drew (S := fun X => Below X2.heap.size X2 X) (by kernel_rfl) (HBX.out) (fun hS0 => ?_)
  generalize World.drew X2 = X3 at *
  refine held_take (i := 0) (v := ?_) rfl (by kernel_rfl) (by kernel_rfl) (by kernel_rfl) (fun _ _ _ h => h) (by rfl) ?_ (by assumption) ?_
  rotate_left
  · intro X hSX
    try dsimp only at hSX
    go_simp <;> with_reducible rfl
  simp only [Act.put, List.setIfInBounds_toArray, List.set_cons_zero, List.set_cons_succ]
  refine held_take (i := 1) (v := ?_) rfl (by kernel_rfl) (by kernel_rfl) (by kernel_rfl) (fun _ _ _ h => h) (by rfl) ?_ (by assumption) ?_
  rotate_left
  · intro X hSX
    try dsimp only at hSX
    have f0 : X.cell? ⟨X1.heap.size, 0, none⟩ = some (.int .i64 F) := cell_of_row X X1.heap.size 0 _ _ _ ((hSX.block _ HZ.out).trans HRW.out)
    go_simp <;> with_reducible rfl
  simp only [Act.put, List.setIfInBounds_toArray, List.set_cons_zero, List.set_cons_succ]
  refine held_take (i := 2) (v := ?_) rfl (by kernel_rfl) (by kernel_rfl) (by kernel_rfl) (fun _ _ _ h => h) (by rfl) ?_ (by assumption) ?_
  rotate_left
  · intro X hSX
    try dsimp only at hSX
    obtain ⟨-, c0, c1, c2, c3, c4, c5, c6, c7, c8, c9, c10⟩ := (HX2.out.below hSX HX2.out.lt).at_
    go_simp <;> with_reducible rfl
  simp only [Act.put, List.setIfInBounds_toArray, List.set_cons_zero, List.set_cons_succ]
  refine held_call (i := 3) rfl (by kernel_rfl) (by rfl) (fun K' hK' => ?_)
  go_simp
  refine (rhead_any h ad n cap _ (HI2.out.below HBX.out) HG.out.v HSM.out HS.out).mono ?_
  rintro e X4 ⟨v4, rfl, hk4, hb4⟩
  obtain ⟨ad4, cap4, rfl, -⟩ := hk4.read
  have HS4 := Lib.hid (HBX.out.trans (hb4.mono HBX.out.size))
  have HLN := Lib.hid (hbL_short HG.out.v HSM.out HS.out)
  have HF := Lib.hid HG.out.hf
  clear hk4 hb4
  have hw : IntKind.i64.wrap (F - ((hbL h).length : Int)) = (q : Int) := by rw [HF.out]; exact (IntWalk.i64_in _ (by have := HG.out.nums.2.2.1; omega)).trans (by omega)
  refine held_go hK' (HS4.out) ?_
  try simp only [Act.put, List.setIfInBounds_toArray, List.set_cons_zero, List.set_cons_succ]
  refine held_take (i := 4) (v := ?_) rfl (by kernel_rfl) (by kernel_rfl) (by kernel_rfl) (fun _ _ _ h => h) (by rfl) ?_ (by assumption) ?_
  rotate_left
  · intro X hSX
    try dsimp only at hSX
    go_simp <;> with_reducible rfl
  simp only [Act.put, List.setIfInBounds_toArray, List.set_cons_zero, List.set_cons_succ]
  refine held_take (i := 5) (v := ?_) rfl (by kernel_rfl) (by kernel_rfl) (by kernel_rfl) (fun _ _ _ h => h) (by rfl) ?_ (by assumption) ?_
  rotate_left
  · intro X hSX
    try dsimp only at hSX
    go_simp <;> with_reducible rfl
  simp only [Act.put, List.setIfInBounds_toArray, List.set_cons_zero, List.set_cons_succ]
  refine held_take (i := 6) (v := ?_) rfl (by kernel_rfl) (by kernel_rfl) (by kernel_rfl) (fun _ _ _ h => h) (by rfl) ?_ (by assumption) ?_
  rotate_left
  · intro X hSX
    try dsimp only at hSX
    go_simp <;> with_reducible rfl
  simp only [Act.put, List.setIfInBounds_toArray, List.set_cons_zero, List.set_cons_succ]
  refine wpAnyH_done (by kernel_rfl) ?_ _
  refine NoPanic.normal ?_
  obtain ⟨J, rfl⟩ := Int.eq_ofNat_of_zero_le HG.out.j0
  obtain ⟨L, rfl⟩ := Int.eq_ofNat_of_zero_le (show 0 ≤ l by have := HG.out.l1; omega)
  rw [Int.toNat_natCast, Int.toNat_natCast] at HU
  have HFQ := Lib.hid (show F - ((hbL h).length : Int) = (q : Int) by rw [HF.out]; omega)
  rw [HFQ.out] at HU HC
  have HX4 := Lib.hid (HX2.out.below HS4.out HX2.out.lt)
  have HI4 := Lib.hid (HI2.out.below HS4.out)
  have HL4 := Lib.hid (HL2.out.below HS4.out)
  have HB4 := Lib.hid (HB2.out.trans (HS4.out.mono HB2.out.size))
  have HCM := Lib.hid (chs_more h.vr h.sz bl (q : Int))
  have HVR := Lib.hid (show h.vr = 1 ∨ h.vr = 2 by have := HG.out.v.1.2.1; omega)
  have HSZ := Lib.hid (show 0 ≤ h.sz ∧ h.sz ≤ 262144 from HG.out.v.1.2.2.2)
  have HNU := Lib.hid HG.out.nums.2.2.2.1
  have hm5 : m ≤ 100000 := by have := HG.out.nums.2.1; omega
  have hq5 : q ≤ 100000 := by have := HG.out.nums.2.2.1; omega
  clear HX2 HI2 HL2 HB2 HRW HBX HZ HS4 HLN hw kl hl0 HF HG5
  go_wp2_with fail
  go_loopg [15, 16] m (fun gk v15 vk wx => ∃ k : Nat, vk = .int .i64 k ∧ k + gk = m ∧ Hid (Own wx X4.heap.size v15 (chsU h.vr h.sz (q : Int) (bl.take k)).1) ∧ Hid ((chsU h.vr h.sz (q : Int) (bl.take k)).2 = 0) ∧ Hid (Below X4.heap.size X4 wx))
  case atStart => exact ⟨0, rfl, by omega, Lib.hid (by rw [List.take_zero, chsU_nl]; exact Own.ofNil _ _), Lib.hid (by rw [List.take_zero, chsU_nl]), Lib.hid (Below.refl _ _)⟩
  case round =>
    obtain ⟨k, rfl, hk, hO, hz, hB⟩ := hrel
    cases gk with
    | zero =>
      obtain rfl : k = m := by omega
      have hTT : bl.take k = bl := List.take_of_length_le (by rw [← HN.out]; exact Nat.le_refl _)
      rw [hTT] at hz hO
      have HFT := Lib.hid (HG.out.fits (by rw [HN.out]) hz.out)
      rw [HC.out] at hz hO HFT
      dsimp only at hz hO HFT
      have hf := hz.out
      subst hf
      obtain ⟨ad8, cap8, rfl, hl8, hc8, hm8, hn8⟩ := hO.out.slice
      have HL8 := Lib.hid hl8
      have HC8 := Lib.hid hc8
      have HM8 := Lib.hid hm8
      have HN8 := Lib.hid hn8
      replace HU := Lib.hid (HU.out.trans (if_neg (by simp)))
      have HX5 := Lib.hid (HX4.out.below hB.out HX4.out.lt)
      have HI5 := Lib.hid (HI4.out.below hB.out)
      have HB5 := Lib.hid (HB4.out.trans (hB.out.mono HB4.out.size))
      clear hz hO hB hTT hl8 hc8 hm8 hn8 HCM HNU HX4 HI4 HB4 HL4
      go_wp2_with fail
      have HBX := Lib.hid (Below.refl wr.heap.size wr).drew
      refine wp_region_noPanic ?_
      refine wp_region_held_drew (S := fun X => Below wr.heap.size wr X) (by kernel_rfl) (HBX.out) (fun hS0 => ?_)
      generalize World.drew wr = Y3 at *
      refine held_take (i := 0) (v := ?_) rfl (by kernel_rfl) (by kernel_rfl) (by kernel_rfl) (fun _ _ _ h => h) (by rfl) ?_ (by assumption) ?_
      rotate_left
      · intro X hSX
        try dsimp only at hSX
        obtain ⟨-, c0, c1, c2, c3, c4, c5, c6, c7, c8, c9, c10⟩ := (HX5.out.below hSX HX5.out.lt).at_
        go_simp <;> with_reducible rfl
      simp only [Act.put, List.setIfInBounds_toArray, List.set_cons_zero, List.set_cons_succ]
      refine held_take (i := 1) (v := ?_) rfl (by kernel_rfl) (by kernel_rfl) (by kernel_rfl) (fun _ _ _ h => h) (by rfl) ?_ (by assumption) ?_
      rotate_left
      · intro X hSX
        try dsimp only at hSX
        go_simp <;> with_reducible rfl
      simp only [Act.put, List.setIfInBounds_toArray, List.set_cons_zero, List.set_cons_succ]
      refine held_take (i := 3) (v := ?_) rfl (by kernel_rfl) (by kernel_rfl) (by kernel_rfl) (fun _ _ _ h => h) (by rfl) ?_ (by assumption) ?_
      rotate_left
      · intro X hSX
        try dsimp only at hSX
        go_simp <;> with_reducible rfl
      simp only [Act.put, List.setIfInBounds_toArray, List.set_cons_zero, List.set_cons_succ]
      refine held_take (i := 5) (v := ?_) rfl (by kernel_rfl) (by kernel_rfl) (by kernel_rfl) (fun _ _ _ h => h) (by rfl) ?_ (by assumption) ?_
      rotate_left
      · intro X hSX
        try dsimp only at hSX
        go_simp <;> with_reducible rfl
      simp only [Act.put, List.setIfInBounds_toArray, List.set_cons_zero, List.set_cons_succ]
      refine held_take (i := 6) (v := ?_) rfl (by kernel_rfl) (by kernel_rfl) (by kernel_rfl) (fun _ _ _ h => h) (by rfl) ?_ (by assumption) ?_
      rotate_left
      · intro X hSX
        try dsimp only at hSX
        go_simp <;> with_reducible rfl
      simp only [Act.put, List.setIfInBounds_toArray, List.set_cons_zero, List.set_cons_succ]
      refine held_take (i := 7) (v := ?_) rfl (by kernel_rfl) (by kernel_rfl) (by kernel_rfl) (fun _ _ _ h => h) (by rfl) ?_ (by assumption) ?_
      rotate_left
      · intro X hSX
        try dsimp only at hSX
        obtain ⟨-, c0, c1, c2, c3, c4, c5, c6, c7, c8, c9, c10⟩ := (HX5.out.below hSX HX5.out.lt).at_
        go_simp <;> with_reducible rfl
      simp only [Act.put, List.setIfInBounds_toArray, List.set_cons_zero, List.set_cons_succ]
      have HNN := Lib.hid (fun e (he : e ∈ h.es) => (VEs.all HG.out.v e he).2.2.2.1.1)
      have HSM2 := Lib.hid (need_sum HG.out.v)
      obtain ⟨-, -, -, -, n5, -, -, -⟩ := HG.out.nums
      have g1 := HG.out.sm
      have g2 := HG.out.s0
      have g3 := HG.out.o0
      have g4 := HSZ.out
      have g5 := HG.out.jl
      have g6 := HFT.out
      rw [Int.toNat_natCast] at n5 g1 g2 g5 g6
      refine held_call (i := 2) rfl (by kernel_rfl) (by rfl) (fun K' hK' => ?_)
      go_simp
      refine (rstart_any h ad n cap J _ (HI5.out.below HBX.out) (by have := HI5.out.len; omega) HNN.out (by have := HSM2.out; omega)).mono ?_
      rintro e Y4 ⟨rfl, hb4⟩
      have HS4 := Lib.hid (HBX.out.trans (hb4.mono HBX.out.size))
      have hq0 : 0 ≤ (q : Int) * prtU h.vr := by rcases prtU_cases h.vr with ⟨_, e⟩ | ⟨_, e⟩ <;> (rw [e]; omega)
      obtain ⟨T, hT⟩ : ∃ T, T = (q : Int) * prtU h.vr := ⟨_, rfl⟩
      have HPT := Lib.hid (fun W => rpart_any h.vr W)
      rw [← hT] at n5 g6 hq0 HU
      generalize prtU h.vr = P at *
      generalize staU h.es J = S at *
      obtain ⟨A, hA⟩ : ∃ A : Nat, S + o - T = (A : Int) := ⟨(S + o - T).toNat, by omega⟩
      rw [hA] at g6 HU
      rw [Int.toNat_natCast] at HU
      have kw1 : IntKind.i64.wrap (S + o) = S + o := IntWalk.i64_in _ (by omega)
      have kw2 : IntKind.i64.wrap ((q : Int) * P) = T := by rw [← hT]; exact IntWalk.i64_in _ (by omega)
      have kw3 : IntKind.i64.wrap (S + o - T) = (A : Int) := (IntWalk.i64_in _ (by omega)).trans hA
      have kw4 : IntKind.i64.wrap ((A : Int) + (L : Int)) = (A : Int) + (L : Int) := IntWalk.i64_in _ (by omega)
      refine held_go hK' (HS4.out) ?_
      try simp only [Act.put, List.setIfInBounds_toArray, List.set_cons_zero, List.set_cons_succ]
      clear hb4
      refine held_take (i := 4) (v := ?_) rfl (by kernel_rfl) (by kernel_rfl) (by kernel_rfl) (fun _ _ _ h => h) (by rfl) ?_ (by assumption) ?_
      rotate_left
      · intro X hSX
        try dsimp only at hSX
        go_simp <;> with_reducible rfl
      simp only [Act.put, List.setIfInBounds_toArray, List.set_cons_zero, List.set_cons_succ]
      refine held_call (i := 8) rfl (by kernel_rfl) (by rfl) (fun K' hK' => ?_)
      go_simp
      refine (HPT.out _).mono ?_
      rintro e w' ⟨rfl, rfl⟩
      refine held_go hK' (HS4.out) ?_
      try simp only [Act.put, List.setIfInBounds_toArray, List.set_cons_zero, List.set_cons_succ]
      refine held_take (i := 9) (v := ?_) rfl (by kernel_rfl) (by kernel_rfl) (by kernel_rfl) (fun _ _ _ h => h) (by rfl) ?_ (by assumption) ?_
      rotate_left
      · intro X hSX
        try dsimp only at hSX
        go_simp <;> with_reducible rfl
      simp only [Act.put, List.setIfInBounds_toArray, List.set_cons_zero, List.set_cons_succ]
      refine held_take (i := 10) (v := ?_) rfl (by kernel_rfl) (by kernel_rfl) (by kernel_rfl) (fun _ _ _ h => h) (by rfl) ?_ (by assumption) ?_
      rotate_left
      · intro X hSX
        try dsimp only at hSX
        go_simp <;> with_reducible rfl
      simp only [Act.put, List.setIfInBounds_toArray, List.set_cons_zero, List.set_cons_succ]
      refine held_take (i := 11) (v := ?_) rfl (by kernel_rfl) (by kernel_rfl) (by kernel_rfl) (fun _ _ _ h => h) (by rfl) ?_ (by assumption) ?_
      rotate_left
      · intro X hSX
        try dsimp only at hSX
        go_simp <;> with_reducible rfl
      simp only [Act.put, List.setIfInBounds_toArray, List.set_cons_zero, List.set_cons_succ]
      refine wpAnyH_done (by kernel_rfl) ?_ _
      refine NoPanic.normal ?_
      rw [← hT, hA]
      have hr := retBL (w := w) HU.out (HL8.out.below HS4.out rfl) HC8.out HM8.out HN8.out (by omega) (HB5.out.trans (HS4.out.mono HB5.out.size))
      unfold ptA at hr
      have HC9 := HC8.out
      by_cases hcA : cap8 = A
      · rw [if_pos hcA, show cap8 - A = 0 by omega] at hr
        go_wp2_with fail
        go_ret2
        exact hr
      · rw [if_neg hcA] at hr
        go_wp2_with fail
        go_ret2
        exact hr
    | succ gk0 =>
      have hkm : (k : Int) < (m : Int) := by omega
      have hkl : k < bl.length := by have := HN.out; omega
      have HKL := Lib.hid hkl
      obtain ⟨z, hz2⟩ : ∃ z, z = q + k := ⟨_, rfl⟩
      have kadd : IntKind.i64.wrap ((q : Int) + (k : Int)) = (z : Int) := by rw [hz2]; exact (IntWalk.i64_in _ (by omega)).trans (by push_cast; rfl)
      have HL3 := Lib.hid (HL4.out.below hB.out)
      have HX3 := Lib.hid (HX4.out.below hB.out HX4.out.lt)
      obtain ⟨b, off, bd, bcap, rfl, -⟩ := HL3.out.get HKL.out
      obtain ⟨C1, C2⟩ := HCM.out k hkl hz.out
      rw [show (q : Int) + (k : Int) = (z : Int) by omega] at C1 C2
      have HC1 := Lib.hid C1
      have HC2 := Lib.hid C2
      have HXD := Lib.hid (HD.out _ (List.getElem_mem HKL.out))
      obtain ⟨b', off', bd, bcap, eb, hlt, q0, q1, q2, hq, hq2, hq3, hq4⟩ := HL3.out.get HKL.out
      cases eb
      have HQ0 := Lib.hid q0
      have HQ1 := Lib.hid q1
      have HQ2 := Lib.hid q2
      have HQL := Lib.hid hq
      have HLTB := Lib.hid hlt
      have HCK := Lib.hid (fun W (h' : Lie W bd bl[k].d) => rchunk_any h ad n cap (z : Int) bl[k] bd bcap W HVR.out (by omega) (by have := HSZ.out; omega) (by have := HNU.out (k : Int) (by omega) (by omega); rw [show (q : Int) + (k : Int) = (z : Int) by omega] at this; exact this) h' hq2 hq3 hq4 (by have := HXD.out; omega))
      clear C1 C2 hlt q0 q1 q2 hq hq2 hq3 hq4
      generalize chkU h.vr h.sz (z : Int) bl[k] = C at *
      obtain ⟨cb, ce⟩ := C
      dsimp only at HC1 HC2
      go_wp2_with fail
      have HBX := Lib.hid (Below.refl wr.heap.size wr).drew
      refine wp_region_noPanic ?_
      refine wp_region_held_drew (S := fun X => Below wr.heap.size wr X) (by kernel_rfl) (HBX.out) (fun hS0 => ?_)
      generalize World.drew wr = Y3 at *
      refine held_take (i := 0) (v := ?_) rfl (by kernel_rfl) (by kernel_rfl) (by kernel_rfl) (fun _ _ _ h => h) (by rfl) ?_ (by assumption) ?_
      rotate_left
      · intro X hSX
        try dsimp only at hSX
        obtain ⟨-, c0, c1, c2, c3, c4, c5, c6, c7, c8, c9, c10⟩ := (HX3.out.below hSX HX3.out.lt).at_
        go_simp <;> with_reducible rfl
      simp only [Act.put, List.setIfInBounds_toArray, List.set_cons_zero, List.set_cons_succ]
      refine held_take (i := 1) (v := ?_) rfl (by kernel_rfl) (by kernel_rfl) (by kernel_rfl) (fun _ _ _ h => h) (by rfl) ?_ (by assumption) ?_
      rotate_left
      · intro X hSX
        try dsimp only at hSX
        go_simp <;> with_reducible rfl
      simp only [Act.put, List.setIfInBounds_toArray, List.set_cons_zero, List.set_cons_succ]
      refine held_take (i := 2) (v := ?_) rfl (by kernel_rfl) (by kernel_rfl) (by kernel_rfl) (fun _ _ _ h => h) (by rfl) ?_ (by assumption) ?_
      rotate_left
      · intro X hSX
        try dsimp only at hSX
        go_simp <;> with_reducible rfl
      simp only [Act.put, List.setIfInBounds_toArray, List.set_cons_zero, List.set_cons_succ]
      refine held_take (i := 3) (v := ?_) rfl (by kernel_rfl) (by kernel_rfl) (by kernel_rfl) (fun _ _ _ h => h) (by rfl) ?_ (by assumption) ?_
      rotate_left
      · intro X hSX
        try dsimp only at hSX
        go_simp <;> with_reducible rfl
      simp only [Act.put, List.setIfInBounds_toArray, List.set_cons_zero, List.set_cons_succ]
      refine held_take (i := 4) (v := ?_) rfl (by kernel_rfl) (by kernel_rfl) (by kernel_rfl) (fun _ _ _ h => h) (by rfl) ?_ (by assumption) ?_
      rotate_left
      · intro X hSX
        try dsimp only at hSX
        go_simp <;> with_reducible rfl
      simp only [Act.put, List.setIfInBounds_toArray, List.set_cons_zero, List.set_cons_succ]
      refine held_take (i := 5) (v := ?_) rfl (by kernel_rfl) (by kernel_rfl) (by kernel_rfl) (fun _ _ _ h => h) (by rfl) ?_ (by assumption) ?_
      rotate_left
      · intro X hSX
        try dsimp only at hSX
        go_simp <;> with_reducible rfl
      simp only [Act.put, List.setIfInBounds_toArray, List.set_cons_zero, List.set_cons_succ]
      refine held_take (i := 6) (v := ?_) rfl (by kernel_rfl) (by kernel_rfl) (by kernel_rfl) (fun _ _ _ h => h) (by rfl) ?_ (by assumption) ?_
      rotate_left
      · intro X hSX
        try dsimp only at hSX
        go_simp <;> with_reducible rfl
      simp only [Act.put, List.setIfInBounds_toArray, List.set_cons_zero, List.set_cons_succ]
      refine held_take (i := 7) (v := ?_) rfl (by kernel_rfl) (by kernel_rfl) (by kernel_rfl) (fun _ _ _ h => h) (by rfl) ?_ (by assumption) ?_
      rotate_left
      · intro X hSX
        try dsimp only at hSX
        have q0 := (hSX.cell (p := ⟨b, off + k * 3, none⟩) HLTB.out).trans HQ0.out
        have q1 := (hSX.cell (p := ⟨b, off + k * 3 + 1, none⟩) HLTB.out).trans HQ1.out
        have q2 := (hSX.cell (p := ⟨b, off + k * 3 + 2, none⟩) HLTB.out).trans HQ2.out
        go_simp <;> with_reducible rfl
      simp only [Act.put, List.setIfInBounds_toArray, List.set_cons_zero, List.set_cons_succ]
      refine held_call (i := 8) rfl (by kernel_rfl) (by rfl) (fun K' hK' => ?_)
      go_simp
      rw [show (q : Int) + (k : Int) = (z : Int) by omega]
      refine (HCK.out _ (HQL.out.below HBX.out rfl)).mono ?_
      rintro e Y4 ⟨v4, rfl, ho4, hb4⟩
      have HS4 := Lib.hid (HBX.out.trans (hb4.mono HBX.out.size))
      refine held_go hK' (HS4.out) ?_
      try simp only [Act.put, List.setIfInBounds_toArray, List.set_cons_zero, List.set_cons_succ]
      refine held_take (i := 9) (v := ?_) rfl (by kernel_rfl) (by kernel_rfl) (by kernel_rfl) (fun _ _ _ h => h) (by rfl) ?_ (by assumption) ?_
      rotate_left
      · intro X hSX
        try dsimp only at hSX
        go_simp <;> with_reducible rfl
      simp only [Act.put, List.setIfInBounds_toArray, List.set_cons_zero, List.set_cons_succ]
      refine held_take (i := 10) (v := ?_) rfl (by kernel_rfl) (by kernel_rfl) (by kernel_rfl) (fun _ _ _ h => h) (by rfl) ?_ (by assumption) ?_
      rotate_left
      · intro X hSX
        try dsimp only at hSX
        go_simp <;> with_reducible rfl
      simp only [Act.put, List.setIfInBounds_toArray, List.set_cons_zero, List.set_cons_succ]
      refine held_take (i := 11) (v := ?_) rfl (by kernel_rfl) (by kernel_rfl) (by kernel_rfl) (fun _ _ _ h => h) (by rfl) ?_ (by assumption) ?_
      rotate_left
      · intro X hSX
        try dsimp only at hSX
        go_simp <;> with_reducible rfl
      simp only [Act.put, List.setIfInBounds_toArray, List.set_cons_zero, List.set_cons_succ]
      refine held_take (i := 12) (v := ?_) rfl (by kernel_rfl) (by kernel_rfl) (by kernel_rfl) (fun _ _ _ h => h) (by rfl) ?_ (by assumption) ?_
      rotate_left
      · intro X hSX
        try dsimp only at hSX
        go_simp <;> with_reducible rfl
      simp only [Act.put, List.setIfInBounds_toArray, List.set_cons_zero, List.set_cons_succ]
      refine held_take (i := 13) (v := ?_) rfl (by kernel_rfl) (by kernel_rfl) (by kernel_rfl) (fun _ _ _ h => h) (by rfl) ?_ (by assumption) ?_
      rotate_left
      · intro X hSX
        try dsimp only at hSX
        go_simp <;> with_reducible rfl
      simp only [Act.put, List.setIfInBounds_toArray, List.set_cons_zero, List.set_cons_succ]
      refine wpAnyH_done (by kernel_rfl) ?_ _
      refine NoPanic.normal ?_
      have HB5 := Lib.hid (hB.out.trans (HS4.out.mono hB.out.size))
      have HB6 := Lib.hid (HB4.out.trans (HB5.out.mono HB4.out.size))
      have HO5 := Lib.hid (hO.out.below HS4.out)
      clear hb4
      dsimp only at ho4 ⊢
      by_cases hce : ce = 0
      rotate_left
      · have HR := Lib.hid (show R = ([], ce) by
          have h2 := HC2.out hce
          rw [HC.out] at h2
          cases h2
          exact HU.out.trans (if_pos hce))
        have kce := ne_t hce
        clear hce ho4
        go_wp2_with fail
        go_ret2
        exact retBL0 HR.out HB6.out
      subst hce
      have HNX := Lib.hid (HC1.out rfl)
      have hlp : (chsU h.vr h.sz (q : Int) (bl.take k)).1.length ≤ 64 * k := by
        have := chsU_len h.vr h.sz (bl.take k) q
        rw [List.length_take] at this
        omega
      obtain ⟨L4, hL4⟩ : ∃ L4, L4 = cb.length := ⟨_, rfl⟩
      obtain ⟨ad4, cap4, rfl, hl4, -, -, ha4⟩ := ho4.slice
      have hcb : L4 ≤ 6500000 := by
        have := congrArg (fun z => z.1.length) HNX.out
        have h2 := chsU_len h.vr h.sz (bl.take (k + 1)) q
        rw [HNX.out] at h2
        simp only [List.length_append, List.length_take] at h2
        omega
      have HL4 := Lib.hid hl4
      have HA4 := Lib.hid ha4
      have HLL := Lib.hid hL4
      have hsum : (chsU h.vr h.sz (q : Int) (bl.take k)).1.length + L4 ≤ 10000000 := by
        have h2 := chsU_len h.vr h.sz (bl.take (k + 1)) q
        rw [HNX.out] at h2
        simp only [List.length_append, List.length_take] at h2
        omega
      rw [← hL4]
      clear hl4 ha4 ho4 hL4 hlp hcb
      go_wp2_with (at_builtin; refine wpList_append_u rfl (.tmp 65) (.tmp 66) rfl X4.heap.size _ _ rfl HO5.out _ _ _ cb HA4.out HL4.out HLL.out rfl hsum HB5.out.size ?_; intro v6 w6 ho6 hg6; have HO6 := Lib.hid ho6; have HB7 := Lib.hid (HB5.out.grown hg6 HB5.out.size (fun k hk => (HO5.out.lt k hk).1)); clear ho6 hg6)
      go_roundg gk0
      case rel => exact ⟨k + 1, by go_num, by omega, Lib.hid (by rw [HNX.out]; exact HO6.out), Lib.hid (by rw [HNX.out]), HB7⟩
      case measure => omega
end Go.Proofs.YtjiijjdmkeeilaaDoor
namespace Go.Proofs.YtjiijjdmkeeilaaDoor
open Go.RowKit
set_option linter.unusedVariables false
theorem Kq.keep {w w' : World} {D : Nat} {v : Value} {l : List Blk} (h : Kq w D D v l) (hb : ∀ k, D ≤ k → k < w.heap.size → w'.heap[k]? = w.heap[k]?) (hs : w.heap.size ≤ w'.heap.size) : Kq w' D D v l := by
  obtain ⟨E, e, h1, h2⟩ := h
  refine ⟨E, e, ⟨h1.1, ?_⟩, fun k hk => ⟨?_, (h2 k hk).le, (h2 k hk).mx, (h2 k hk).nn⟩⟩
  · rcases h1.2 with h0 | ⟨g, cap, cur, hv, hB, hg, h4⟩
    · exact .inl h0
    · exact .inr ⟨g, cap, cur, hv, hB, (hb g hB (Array.getElem?_eq_some_iff.1 hg).1).trans hg, h4⟩
  · rcases (h2 k hk).lie with h0 | ⟨b, off, e, h3, h4, h5, h6⟩
    · exact .inl h0
    · exact .inr ⟨b, off, e, h3, Nat.lt_of_lt_of_le h4 hs, h5, fun j hj => (World.cell?_of_block (a := ⟨b, off + j, none⟩) (hb b h3 h4)).trans (h6 j hj)⟩
end Go.Proofs.YtjiijjdmkeeilaaDoor
