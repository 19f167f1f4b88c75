/-
  The program's read: the bytes of successive payload blocks.
  The program's HeaderBlocks, Blocks.
-/
import Derived.Test.YtjiijjdmkeeilaaDoorCBE
import Derived.Test.YtjiijjdmkeeilaaDoorCAM
import Derived.Deep.LoopGhost
import Derived.Test.YtjiijjdmkeeilaaDoorCpBeg
import Derived.Test.YtjiijjdmkeeilaaDoorCBA
import Derived.Test.YtjiijjdmkeeilaaDoorCBD
namespace Go.Proofs.YtjiijjdmkeeilaaDoor
open Go.RowKit
set_option linter.unusedVariables false
set_option linter.unusedSimpArgs false
attribute [local irreducible] chsU chkU prtU
set_option maxRecDepth 100000 in
set_option maxHeartbeats 8000000 in
theorem read15_any (h : Hdr) (ad : Option Addr) (n cap first : Nat) (bd : Option Addr) (m bcap : Nat) (bl : List Blk) (w : World) (hv : h.vr = 1 ∨ h.vr = 2) (hz : 0 ≤ h.sz ∧ h.sz ≤ 1000000) (hf : first ≤ 100000) (hl : Ki w bd bl) (hm : m = bl.length) (hm5 : m ≤ 5000)
    (hnu : ∀ k : Nat, k < m → 0 ≤ nU h.vr h.sz ((first : Int) + (k : Int))) (hd : ∀ b ∈ bl, b.d.length ≤ 1000) :
    Calls Tryd.prog 64 #[hdV h ad n cap, .int .i64 first, .slice bd m bcap] w (RetBE w (chsU h.vr h.sz (first : Int) bl)) := by
  have HX0 := Lib.hid (HdRow.new w h ad n cap)
  have HB0 := Lib.hid (co_box1 w (boxH h ad n cap))
  have HL := Lib.hid hl
  have HM := Lib.hid hm
  have HNU := Lib.hid hnu
  have HD := Lib.hid hd
  have HV := Lib.hid hv
  have HLY := Lib.hid (fun W => layout_any h ad n cap W hv)
  have HCM := Lib.hid (chs_more h.vr h.sz bl (first : Int))
  have HOP := Lib.hid (fun (i : Int) (N : Nat) (x : Blk) bd bcap W h1 h2 h3 h4 h5 h6 h7 => open_any h.vr h.sz i N x bd bcap W hv h1 h2 h3 h4 h5 h6 h7)
  have HPT := Lib.hid (show (prtU h.vr = 60 ∨ prtU h.vr = 64) by rcases prtU_cases h.vr with ⟨_, e⟩ | ⟨_, e⟩ <;> omega)
  have HNE := Lib.hid (fun i => show nU h.vr h.sz i = min (prtU h.vr) (h.sz - i * prtU h.vr) by unfold nU; rfl)
  clear hl hm hnu hd hv
  generalize prtU h.vr = P at *
  generalize decide (h.vr = 2) = dv at *
  go_enter Tryd.func64, Tryd.ntmps64
  go_wp2_with (with_reducible refine ld_hdr rfl (.tmp 3) rfl rfl HX0.out ?_)
  change Calls Tryd.prog 36 _ (w.alloc (boxH h ad n cap)) _
  generalize World.alloc w _ = X0 at *
  refine (HLY.out _).mono ?_
  rintro e Z0 ⟨rfl, hb1⟩
  have HX1 := Lib.hid ((HX0.out.below hb1 HX0.out.lt).below (co_box1 Z0 (.cells #[.int .i64 P, .bool dv] 65)) (Nat.lt_of_lt_of_le HX0.out.lt hb1.size))
  have HB1 := Lib.hid ((HB0.out.trans (hb1.mono HB0.out.size)).alloc (Nat.le_trans HB0.out.size hb1.size) (.cells #[.int .i64 P, .bool dv] 65))
  have HW1 := Lib.hid (heap_alloc_new Z0 (.cells #[.int .i64 P, .bool dv] 65))
  clear hb1 HX0 HB0 HLY
  go_wp2_with fail
  generalize Z0.heap.size = g8 at *
  generalize World.alloc Z0 _ = X1 at *
  have HL1 := Lib.hid (HL.out.below HB1.out)
  go_loopg [9, 18] m (fun gk v9 vk wx => ∃ k : Nat, vk = .int .i64 k ∧ k + gk = m ∧ Hid (Own wx X1.heap.size v9 (chsU h.vr h.sz (first : Int) (bl.take k)).1) ∧ Hid ((chsU h.vr h.sz (first : Int) (bl.take k)).2 = 0) ∧ Hid (Below X1.heap.size X1 wx))
  case atStart => exact ⟨0, rfl, by omega, Lib.hid (by rw [List.take_zero, show chsU h.vr h.sz (first : Int) [] = ([], 0) by unfold chsU; rfl]; exact Own.ofNil _ _), Lib.hid (by rw [List.take_zero, show chsU h.vr h.sz (first : Int) [] = ([], 0) by unfold chsU; rfl]), Lib.hid (Below.refl _ _)⟩
  case round =>
    obtain ⟨k, rfl, hk, hO, hz, hB⟩ := hrel
    cases gk with
    | zero =>
      obtain rfl : k = m := by omega
      have hTT : bl.take k = bl := List.take_of_length_le (by rw [← HM.out]; exact Nat.le_refl _)
      rw [hTT] at hz hO
      have HR := Lib.hid hz.out
      have HO := Lib.hid (hO.out.mono HB1.out.size)
      have HB2 := Lib.hid (HB1.out.trans (hB.out.mono HB1.out.size))
      clear hz hO hB hTT
      go_wp2
      go_ret2
      exact ⟨_, by rw [HR.out]; rfl, HO.out, HB2.out⟩
    | succ gk0 =>
      have hkm : (k : Int) < (m : Int) := by omega
      have hkl : k < bl.length := by have := HM.out; omega
      have HKL := Lib.hid hkl
      obtain ⟨J, hJ⟩ : ∃ J, J = first + k := ⟨_, rfl⟩
      have kadd : IntKind.i64.wrap ((first : Int) + (k : Int)) = (J : Int) := by rw [hJ]; exact (IntWalk.i64_in _ (by omega)).trans (by push_cast; rfl)
      have HL3 := Lib.hid (HL1.out.below hB.out)
      have HX3 := Lib.hid (HX1.out.below hB.out HX1.out.lt)
      have hl8 := (Array.getElem?_eq_some_iff.1 HW1.out).1
      have HW3 := Lib.hid ((hB.out.block _ hl8).trans HW1.out)
      obtain ⟨C1, C2⟩ := HCM.out k hkl hz.out
      rw [show (first : Int) + (k : Int) = (J : Int) by omega] at C1 C2
      have HC1 := Lib.hid C1
      have HC2 := Lib.hid C2
      have HXD := Lib.hid (HD.out _ (List.getElem_mem HKL.out))
      have hn0 := HNU.out k (by omega)
      rw [show (first : Int) + (k : Int) = (J : Int) by omega] at hn0
      obtain ⟨N, hN⟩ := Int.eq_ofNat_of_zero_le hn0
      have hmn := HNE.out (J : Int)
      rw [hN] at hmn
      have hN64 : N ≤ 64 := by have := HPT.out; omega
      obtain ⟨T, hT⟩ : ∃ T, T = (J : Int) * P := ⟨_, rfl⟩
      have hT0 : 0 ≤ T ∧ T ≤ 7000000 := by rcases HPT.out with e | e <;> (rw [hT, e]; omega)
      have kw2 : IntKind.i64.wrap ((J : Int) * P) = T := by rw [← hT]; exact IntWalk.i64_in _ (by omega)
      obtain ⟨U, hU⟩ : ∃ U, U = h.sz - T := ⟨_, rfl⟩
      have kw3 : IntKind.i64.wrap (h.sz - T) = U := by rw [hU]; exact IntWalk.i64_in _ (by omega)
      have kif : (if U < P then U else P) = (N : Int) := by rw [hmn, ← hT, ← hU]; split <;> omega
      obtain ⟨b, off, xd, xcap, rfl, hlt, q0, q1, q2, hq, hq2, hq3, hq4⟩ := HL3.out.get HKL.out
      have HBX := Lib.hid (co_box1 wr (.cells #[.bool bl[k].m, .bool bl[k].bad, .slice xd bl[k].d.length xcap] 57))
      have HCK := Lib.hid (fun W (h : Lie W xd bl[k].d) => HOP.out (J : Int) N bl[k] xd xcap W hN hN64 h hq2 hq3 hq4 (by have := HXD.out; omega))
      have HLQ := Lib.hid (hq.below HBX.out rfl)
      have HR11 := Lib.hid (show BkRow _ _ _ _ _ _ _ from heap_alloc_new wr (.cells #[.bool bl[k].m, .bool bl[k].bad, .slice xd bl[k].d.length xcap] 57))
      have HX4 := Lib.hid (HX3.out.below HBX.out HX3.out.lt)
      have HW4 := Lib.hid ((HBX.out.block _ (Array.getElem?_eq_some_iff.1 HW3.out).1).trans HW3.out)
      have c9 := HX4.out.at_.c9
      have c9' := HX3.out.at_.c9
      have d0' := cell_of_row _ g8 0 _ _ _ HW3.out
      have d1' := cell_of_row _ g8 1 _ _ _ HW3.out
      change _ = some (Value.int .i64 P) at d0'
      change _ = some (Value.bool dv) at d1'
      have d0 := cell_of_row _ g8 0 _ _ _ HW4.out
      have d1 := cell_of_row _ g8 1 _ _ _ HW4.out
      change _ = some (Value.int .i64 P) at d0
      change _ = some (Value.bool dv) at d1
      clear hl8 C1 C2 hn0 hmn hT hU hlt hq hq2 hq3 hq4 hN hJ
      generalize chkU h.vr h.sz (J : Int) bl[k] = C at *
      obtain ⟨cb, ce⟩ := C
      dsimp only at HC1 HC2
      generalize bl[k].m = xm at *
      generalize bl[k].bad = xb at *
      generalize bl[k].d = xdd at *
      generalize hxl : xdd.length = xl at *
      clear hkl hxl
      go_wp2_with fail
      refine (HCK.out _ HLQ.out).mono ?_
      rintro e X5 ⟨ad1, cap1, rfl, hl1, ha1, hb1⟩
      have HB5 := Lib.hid (hB.out.trans ((HBX.out.trans (hb1.mono HBX.out.size)).mono hB.out.size))
      have HO5 := Lib.hid (hO.out.below (HBX.out.trans (hb1.mono HBX.out.size)))
      have HBW := Lib.hid (HB1.out.trans (HB5.out.mono HB1.out.size))
      have HSZ5 := Lib.hid HB5.out.size
      have HL5 := Lib.hid hl1
      have HA5 := Lib.hid ha1
      have hlp : (chsU h.vr h.sz (first : Int) (bl.take k)).1.length ≤ 64 * k := by
        have := chsU_len h.vr h.sz (bl.take k) (first : Int)
        rw [List.length_take] at this
        omega
      clear hl1 ha1 hb1 HBX HLQ HR11 HX4 HW4 HX3 HW3 HL3 c9 c9' d0 d0' d1 d1' q0 q1 q2 kif kw2 kw3 kadd HCK hO hB
      dsimp only at HL5 ⊢
      by_cases hce : ce = 0
      rotate_left
      · have HR := Lib.hid (HC2.out hce)
        have kce := ne_t hce
        clear hce
        go_wp2_with fail
        go_ret2
        exact retBE0 HR.out HBW.out
      subst hce
      have HNX := Lib.hid (HC1.out rfl)
      obtain ⟨L4, hL4⟩ : ∃ L4, L4 = cb.length := ⟨_, rfl⟩
      have HLL := Lib.hid hL4
      have hcb : L4 ≤ 400000 := by
        have h2 := chsU_len h.vr h.sz (bl.take (k + 1)) (first : Int)
        rw [HNX.out] at h2
        simp only [List.length_append, List.length_take] at h2
        omega
      have hsum : (chsU h.vr h.sz (first : Int) (bl.take k)).1.length + L4 ≤ 10000000 := by omega
      rw [← hL4]
      clear hL4 hlp hcb
      go_wp2_with (at_builtin; refine wpList_append_u rfl (.tmp 44) (.tmp 45) rfl X1.heap.size _ _ rfl HO5.out _ _ _ cb HA5.out HL5.out HLL.out rfl hsum HSZ5.out ?_; intro v6 w6 ho6 hg6; have HO6 := Lib.hid ho6; have HB7 := Lib.hid (HB5.out.grown hg6 HB5.out.size (fun k hk => (HO5.out.lt k hk).1)); clear ho6 hg6)
      go_roundg gk0
      case rel => exact ⟨k + 1, by go_num, by omega, Lib.hid (by rw [HNX.out]; exact HO6.out), Lib.hid (by rw [HNX.out]), HB7⟩
      case measure => omega
end Go.Proofs.YtjiijjdmkeeilaaDoor
namespace Go.Proofs.YtjiijjdmkeeilaaDoor
open Go.RowKit
set_option linter.unusedVariables false
set_option linter.unusedSimpArgs false
attribute [local irreducible] encH hbL
set_option maxRecDepth 100000 in
set_option maxHeartbeats 1000000 in
theorem headblocks_any (h : Hdr) (ad : Option Addr) (n cap : Nat) (w : World) (hin : HdIn w h ad n cap) (hsm : h.sm < 4294967296) (hs : ∀ e ∈ h.es, e.s < 4294967296) :
    Calls Tryd.prog 17 #[hdV h ad n cap] w fun e w' => e = .returned (.int .i64 (hbU h)) ∧ Below w.heap.size w w' := by
  have HX0 := Lib.hid (HdRow.new w h ad n cap)
  have HB0 := Lib.hid (co_box1 w (boxH h ad n cap))
  have HI0 := Lib.hid (hin.below (co_box1 w (boxH h ad n cap)))
  have HS := Lib.hid hs
  have HSM := Lib.hid hsm
  have HU := Lib.hid (show hbU h = if vldH h = true then ((hbL h).length : Int) else 0 from rfl)
  have HV := Lib.hid (@vldH_iff h)
  have HEL := Lib.hid (fun hv => @encH_len h hv hsm hs)
  have HBL := Lib.hid (hbL_length h)
  clear hin hs hsm
  generalize hbU h = U at *
  go_enter Tryd.func17, Tryd.ntmps17
  go_wp2_with (with_reducible refine ld_hdr rfl (.tmp 1) rfl rfl HX0.out ?_)
  generalize World.alloc w _ = X0 at *
  refine (valid15_any h ad n cap _ HI0.out HS.out).mono ?_
  rintro e X1 ⟨rfl, hb1⟩
  have HX1 := Lib.hid (HX0.out.below hb1 HX0.out.lt)
  have HB1 := Lib.hid (HB0.out.trans (hb1.mono HB0.out.size))
  have HI1 := Lib.hid (HI0.out.below hb1)
  clear hb1 HX0 HB0 HI0
  generalize vldH h = V at *
  cases V
  · go_wp2
    go_ret
    exact ⟨retI (by rw [HU.out]; rfl), HB1.out⟩
  have HL := Lib.hid (HEL.out (HV.out.1 (by simp)))
  go_wp2_with (with_reducible refine ld_hdr rfl (.tmp 1) rfl rfl HX1.out ?_)
  refine (encoding_any h ad n cap _ HI1.out (HV.out.1 (by simp)) HSM.out HS.out).mono ?_
  rintro e X2 ⟨v2, rfl, ho2, hb2⟩
  obtain ⟨ad2, cap2, rfl, -⟩ := ho2.slice
  have HB2 := Lib.hid (HB1.out.trans (hb2.mono HB1.out.size))
  clear ho2 hb2
  obtain ⟨M, hM⟩ : ∃ M, M = (encH h).length := ⟨_, rfl⟩
  rw [← hM]
  have HM := Lib.hid hM
  have hM4 : M ≤ 4000 := by have := HL.out; omega
  clear hM
  go_wp2_with fail
  refine (len_any (M : Int) _ (by omega) (by omega)).mono ?_
  rw [show lenF (M : Int) = (M : Int) + 10 by unfold lenF; rw [if_neg (by omega)]]
  rintro e w' ⟨rfl, rfl⟩
  obtain ⟨P, hP⟩ : ∃ P : Int, P = (M : Int) + 10 := ⟨_, rfl⟩
  rw [← hP]
  have HR := Lib.hid (show (P + 64 - 1) / 64 = U by rw [HU.out, if_pos (by simp), HBL.out, ← HM.out, hP]; unfold cntB; omega)
  have hp5 : 0 ≤ P ∧ P ≤ 1000000000 := by omega
  clear hP
  go_wp2_with fail
  refine (pieces_any P 64 _ hp5 (.inr rfl)).mono ?_
  rw [HR.out]
  rintro e w' ⟨rfl, rfl⟩
  go_wp2_with fail
  go_ret
  exact ⟨rfl, HB2.out⟩
theorem hbU_bd {h : Hdr} (hsm : h.sm < 4294967296) (hs : ∀ e ∈ h.es, e.s < 4294967296) : 0 ≤ hbU h ∧ hbU h ≤ 70 ∧ (hbU h = 0 ↔ ¬ VHdr h) := by
  have hh : hbU h = if vldH h = true then ((hbL h).length : Int) else 0 := rfl
  by_cases hv : VHdr h
  · have := hbL_short hv hsm hs
    rw [hh, if_pos (vldH_yes hv)]
    exact ⟨by omega, by omega, ⟨fun e => by omega, fun e => (e hv).elim⟩⟩
  · rw [hh, vldH_no hv, if_neg (by simp)]
    exact ⟨by omega, by omega, ⟨fun _ => hv, fun _ => rfl⟩⟩
set_option maxRecDepth 100000 in
set_option maxHeartbeats 2000000 in
theorem blocksh_any (h : Hdr) (ad : Option Addr) (n cap : Nat) (w : World) (hin : HdIn w h ad n cap) (hsm : h.sm < 4294967296) (hs : ∀ e ∈ h.es, e.s < 4294967296) :
    Calls Tryd.prog 19 #[hdV h ad n cap] w fun e w' => e = .returned (.int .i64 (blU h)) ∧ Below w.heap.size w w' := by
  have HX0 := Lib.hid (HdRow.new w h ad n cap)
  have HB0 := Lib.hid (co_box1 w (boxH h ad n cap))
  have HHB := Lib.hid (headblocks_any h ad n cap _ (hin.below (co_box1 w (boxH h ad n cap))) hsm hs)
  have HBD := Lib.hid (hbU_bd hsm hs)
  have HU := Lib.hid (show blU h = if vldH h = true then hbU h + cntU h else 0 by
    show (if vldH h = true then ((hbL h).length : Int) + cntU h else 0) = if vldH h = true then (if vldH h = true then ((hbL h).length : Int) else 0) + cntU h else 0
    split <;> rfl)
  have HCU := Lib.hid (show cntU h = (h.sz + prtU h.vr - 1) / prtU h.vr from rfl)
  have HCB := Lib.hid (@cntU_bd h)
  have HVY := Lib.hid (@vldH_yes h)
  have HVN := Lib.hid (@vldH_no h)
  clear hin hs hsm
  generalize blU h = U at *
  go_enter Tryd.func19, Tryd.ntmps19
  go_wp2_with (with_reducible refine ld_hdr rfl (.tmp 1) rfl rfl HX0.out ?_)
  change Calls Tryd.prog 17 _ (w.alloc (boxH h ad n cap)) _
  generalize World.alloc w _ = X0 at *
  refine HHB.out.mono ?_
  clear HHB
  obtain ⟨P, hP⟩ : ∃ P, P = hbU h := ⟨_, rfl⟩
  rw [← hP]
  rw [← hP] at HBD HU
  clear hP
  rintro e X1 ⟨rfl, hb1⟩
  have HX1 := Lib.hid (HX0.out.below hb1 HX0.out.lt)
  have HB1 := Lib.hid (HB0.out.trans (hb1.mono HB0.out.size))
  clear hb1 HX0 HB0
  obtain ⟨p0, p1, p2⟩ := HBD.out
  by_cases hp : P = 0
  · have HR := Lib.hid (HU.out.trans (if_neg (by rw [HVN.out (p2.1 hp)]; simp)))
    have k0 := eq_t hp
    clear hp p2 p0 p1
    go_wp2
    go_ret
    exact ⟨retI HR.out.symm, HB1.out⟩
  have HVV := Lib.hid (show VHdr h from Classical.byContradiction fun q => hp (p2.2 q))
  have HR := Lib.hid (HU.out.trans (if_pos (HVY.out HVV.out)))
  have k0 := eq_f hp
  clear hp p2 HVY HVN HU
  obtain ⟨c0', c1'⟩ := HCB.out HVV.out
  have hvr : h.vr = 1 ∨ h.vr = 2 := by have := HVV.out.1.2.1; omega
  have HLY := Lib.hid (fun W => layout_any h ad n cap W hvr)
  have HPC := Lib.hid (fun W => pieces_any h.sz (prtU h.vr) W (by have := HVV.out.1.2.2.2; omega) (by rcases prtU_cases h.vr with ⟨_, e⟩ | ⟨_, e⟩ <;> omega))
  rw [← HCU.out] at HPC
  clear hvr HCU
  generalize prtU h.vr = R at *
  generalize decide (h.vr = 2) = D at *
  generalize cntU h = C at *
  have kw : IntKind.i64.wrap (P + C) = P + C := IntWalk.i64_in _ (by omega)
  clear HCB HVV
  go_wp2_with fail
  have HBX := Lib.hid (Below.refl X1.heap.size X1).drew
  have HGG := Lib.hid (fun X (hX : Below X1.heap.size X1 X) => HX1.out.below hX HX1.out.lt)
  refine wp_region_noPanic ?_
  refine wp_region_held_drew (S := fun X => Below X1.heap.size X1 X) (by kernel_rfl) (HBX.out) (fun hS0 => ?_)
  generalize World.drew X1 = X2 at *
  refine held_take (i := 0) (v := ?_) rfl (by kernel_rfl) (by kernel_rfl) (by kernel_rfl) (fun _ _ _ h => h) (by rfl) ?_ (by assumption) ?_
  rotate_left
  · intro X hSX
    try dsimp only at hSX
    go_simp <;> with_reducible rfl
  simp only [Act.put, List.setIfInBounds_toArray, List.set_cons_zero, List.set_cons_succ]
  refine held_take (i := 1) (v := ?_) rfl (by kernel_rfl) (by kernel_rfl) (by kernel_rfl) (fun _ _ _ h => h) (by rfl) ?_ (by assumption) ?_
  rotate_left
  · intro X hSX
    try dsimp only at hSX
    go_simp <;> with_reducible rfl
  simp only [Act.put, List.setIfInBounds_toArray, List.set_cons_zero, List.set_cons_succ]
  refine held_take (i := 2) (v := ?_) rfl (by kernel_rfl) (by kernel_rfl) (by kernel_rfl) (fun _ _ _ h => h) (by rfl) ?_ (by assumption) ?_
  rotate_left
  · intro X hSX
    try dsimp only at hSX
    have c9 := (HGG.out X hSX).at_.c9
    go_simp <;> with_reducible rfl
  simp only [Act.put, List.setIfInBounds_toArray, List.set_cons_zero, List.set_cons_succ]
  refine held_take (i := 3) (v := ?_) rfl (by kernel_rfl) (by kernel_rfl) (by kernel_rfl) (fun _ _ _ h => h) (by rfl) ?_ (by assumption) ?_
  rotate_left
  · intro X hSX
    try dsimp only at hSX
    obtain ⟨-, c0, c1, c2, c3, c4, c5, c6, c7, c8, c9, c10⟩ := (HGG.out X hSX).at_
    go_simp <;> with_reducible rfl
  simp only [Act.put, List.setIfInBounds_toArray, List.set_cons_zero, List.set_cons_succ]
  refine held_call (i := 4) rfl (by kernel_rfl) (by rfl) (fun K' hK' => ?_)
  go_simp
  refine (HLY.out _).mono ?_
  rintro e X3 ⟨rfl, hb3⟩
  have HS3 := Lib.hid (HBX.out.trans (hb3.mono HBX.out.size))
  clear hb3
  refine held_go hK' (HS3.out) ?_
  try simp only [Act.put, List.setIfInBounds_toArray, List.set_cons_zero, List.set_cons_succ]
  refine held_take (i := 5) (v := ?_) rfl (by kernel_rfl) (by kernel_rfl) (by kernel_rfl) (fun _ _ _ h => h) (by rfl) ?_ (by assumption) ?_
  rotate_left
  · intro X hSX
    try dsimp only at hSX
    have hf := run_fieldLy R D X
    go_simp <;> with_reducible rfl
  simp only [Act.put, List.setIfInBounds_toArray, List.set_cons_zero, List.set_cons_succ]
  refine held_call (i := 6) rfl (by kernel_rfl) (by rfl) (fun K' hK' => ?_)
  go_simp
  refine (HPC.out _).mono ?_
  rintro e w' ⟨rfl, rfl⟩
  refine held_go hK' (HS3.out) ?_
  try simp only [Act.put, List.setIfInBounds_toArray, List.set_cons_zero, List.set_cons_succ]
  refine held_take (i := 7) (v := ?_) rfl (by kernel_rfl) (by kernel_rfl) (by kernel_rfl) (fun _ _ _ h => h) (by rfl) ?_ (by assumption) ?_
  rotate_left
  · intro X hSX
    try dsimp only at hSX
    go_simp <;> with_reducible rfl
  simp only [Act.put, List.setIfInBounds_toArray, List.set_cons_zero, List.set_cons_succ]
  refine held_take (i := 8) (v := ?_) rfl (by kernel_rfl) (by kernel_rfl) (by kernel_rfl) (fun _ _ _ h => h) (by rfl) ?_ (by assumption) ?_
  rotate_left
  · intro X hSX
    try dsimp only at hSX
    go_simp <;> with_reducible rfl
  simp only [Act.put, List.setIfInBounds_toArray, List.set_cons_zero, List.set_cons_succ]
  refine wpAnyH_done (by kernel_rfl) ?_ _
  refine NoPanic.normal ?_
  have HB3 := Lib.hid (HB1.out.trans (HS3.out.mono HB1.out.size))
  go_wp2_with fail
  go_ret
  exact ⟨retI HR.out.symm, HB3.out⟩
end Go.Proofs.YtjiijjdmkeeilaaDoor
