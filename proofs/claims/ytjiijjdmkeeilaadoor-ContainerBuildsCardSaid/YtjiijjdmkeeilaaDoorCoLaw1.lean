/-
  The statement ContainerBuilds, over the contracts.
-/
import Derived.Test.YtjiijjdmkeeilaaDoorCAZ
import Derived.Test.YtjiijjdmkeeilaaDoorCoSmB
namespace Go.Proofs.YtjiijjdmkeeilaaDoor
open Go.RowKit
set_option linter.unusedVariables false
set_option linter.unusedSimpArgs false
theorem bldR_cnt (h : Hdr) (p : List UInt8) (hs : ∀ e ∈ h.es, e.s < 4294967296) (hp : p.length ≤ 600) : (bldR h p).1.length ≤ 100 := by
  rcases bldR_ok h p with e | e | ⟨e, hv, -⟩
  · rw [e]; exact Nat.zero_le _
  · rw [e]; exact Nat.zero_le _
  · rw [e]
    show (hbL (hdP h p) ++ payB h.vr p).length ≤ 100
    have h1 := (hbL_short hv (crc_lt p) hs).2
    have h2 : (payB h.vr p).length ≤ 30 := by
      unfold payB
      rw [List.length_map, List.length_range]
      rcases szP_cases h.vr with ⟨_, e, _⟩ | ⟨_, e, _⟩ <;> (rw [e]; omega)
    rw [List.length_append]
    omega
attribute [local irreducible] bldR eqH eqK smlH vldH hbU blU
set_option maxRecDepth 100000 in
set_option maxHeartbeats 16000000 in
theorem law_cbuilds {I : World → Prop} (H : CoSide I) (h : Hdr) (hd : Option Addr) (hn hcap : Nat) (pd : Option Addr) (pn pcap : Nat) (p : List UInt8) (w : World) (hin : HdIn w h hd hn hcap) (hfit : h.Fit)
    (hlp : Lie w pd p) (hpn : pn = p.length) (hpc : pn ≤ pcap) (hpm : pcap ≤ maxLen) (hpa : pd = none → pcap = 0) (hi : I w) :
    Calls Tryd.prog 3 #[hdV h hd hn hcap, .slice pd pn pcap] w fun e w' => e = .returned (.bool true) ∧ Below w.heap.size w w' := by
  have HS := Lib.hid H
  have HI := Lib.hid hi
  have HX0 := Lib.hid (HdRow.new w h hd hn hcap)
  have HI0 := Lib.hid (hin.below (co_box1 w (boxH h hd hn hcap)))
  have HB0 := Lib.hid (co_box1 w (boxH h hd hn hcap))
  have HIN := Lib.hid hin.sml
  have HFT := Lib.hid (smlH_fit hfit)
  have HLP := Lib.hid hlp
  have HPN := Lib.hid hpn
  have HPC := Lib.hid hpc
  have HPM := Lib.hid hpm
  have HPA := Lib.hid hpa
  have HM66 := Lib.hid (smlH_len h)
  clear H hi hin hfit hlp hpn hpc hpm hpa
  go_enter Tryd.func3, Tryd.ntmps3
  go_wp2_with (with_reducible refine ld_hdr rfl (.tmp 2) rfl rfl HX0.out ?_)
  change Calls Tryd.prog 9 _ (w.alloc (boxH h hd hn hcap)) _
  generalize World.alloc w _ = X0 at *
  refine (small_at h hd hn hcap X0 HI0.out).mono ?_
  rintro e X1 ⟨rfl, hb1⟩
  have HR1 := Lib.hid (HX0.out.below hb1 HX0.out.lt)
  generalize smlH h = S at *
  obtain ⟨M, hM⟩ : ∃ M, M = S.es.length := ⟨_, rfl⟩
  rw [← hM] at HIN HM66 ⊢
  have HX1 := Lib.hid (HR1.out.put S hd M hcap)
  have HB1 := Lib.hid (below_set (HB0.out.trans (hb1.mono HB0.out.size)) (Nat.le_refl w.heap.size) (hdC S hd M hcap))
  have HSL := Lib.hid hM
  clear hM hb1 HX0 HI0 HB0
  go_wp2_with (with_reducible refine st_hdr rfl (.tmp 2) (.tmp 12) rfl rfl S hd M hcap rfl HR1.out ?_)
  generalize World.setRow X1 _ _ = X2 at *
  clear HR1
  refine (short_any pd pn pcap p X2 (HLP.out.below HB1.out rfl) HPN.out HPC.out HPM.out HPA.out).mono ?_
  rintro e w2 ⟨pe, pc, rfl, hl2, hc2, hm2, ha2, rfl⟩
  have hb6 : (p.take 600).length ≤ 600 := by rw [List.length_take]; omega
  generalize p.take 600 = b at *
  obtain ⟨m, hm⟩ : ∃ m, m = b.length := ⟨_, rfl⟩
  rw [← hm] at hc2 hb6 ⊢
  have HLB := Lib.hid hl2
  have HBN := Lib.hid hm
  have HBC := Lib.hid hc2
  have HBM := Lib.hid hm2
  have HBA := Lib.hid ha2
  have HB6 := Lib.hid hb6
  clear hl2 hm hc2 hm2 ha2 hb6 HLP HPN HPC HPM HPA
  go_wp2_with (with_reducible refine ld_hdr rfl (.tmp 2) rfl rfl HX1.out ?_)
  refine (HS.out.build S hd M hcap pe m pc b X2 (HIN.out.below HB1.out) HFT.out HM66.out HLB.out HBN.out HBC.out HBM.out HBA.out HB6.out (HS.out.step w X2 HI.out HB1.out)).mono ?_
  have HRB := Lib.hid (fun (X : World) (k : Below w.heap.size w X) (k2 : Lie X pe b) => rbuild_any S hd M hcap pe m pc b X (HIN.out.below k) HFT.out.2 (by have := HM66.out; omega) k2 HBN.out HBC.out HBM.out HBA.out (by have := HB6.out; omega))
  have HR64 := Lib.hid (bldR_len S b)
  have HRC := Lib.hid (bldR_cnt S b HFT.out.2 (by have := HBN.out; have := HB6.out; omega))
  generalize bldR S b = R at *
  obtain ⟨L, G, q⟩ := R
  dsimp only at HR64 HRC
  rintro e X3 ⟨v3, ad3, cap3, rfl, hk3, hi3, hb3⟩
  dsimp only at hk3 hi3 ⊢
  obtain ⟨ld3, lc3, rfl, hx3, -⟩ := hk3.read
  obtain ⟨K, hK⟩ : ∃ K, K = G.es.length := ⟨_, rfl⟩
  obtain ⟨N, hN⟩ : ∃ N, N = L.length := ⟨_, rfl⟩
  rw [← hK] at hi3 HR64 ⊢
  rw [← hN] at HRC ⊢
  have HKG := Lib.hid hK
  have HNL := Lib.hid hN
  have HK3 := Lib.hid (hx3.ki.below (co_box1 X3 (boxH G ad3 K cap3)))
  have HG3 := Lib.hid (HdRow.new X3 G ad3 K cap3)
  have HJ3 := Lib.hid (hi3.below (co_box1 X3 (boxH G ad3 K cap3)))
  have HX3 := Lib.hid ((HX1.out.below hb3 HX1.out.lt).below (co_box1 X3 (boxH G ad3 K cap3)) (Nat.lt_of_lt_of_le HX1.out.lt hb3.size))
  have HB3 := Lib.hid ((HB1.out.trans (hb3.mono HB1.out.size)).alloc (Nat.le_trans HB1.out.size hb3.size) (boxH G ad3 K cap3))
  have HL3 := Lib.hid ((HLB.out.below hb3 rfl).below (co_box1 X3 (boxH G ad3 K cap3)) rfl)
  clear hK hN hk3 hi3 hb3 hx3 HX1 HB1
  go_wp2_with (with_reducible refine ld_hdr rfl (.tmp 2) rfl rfl HX3.out ?_)
  change Calls Tryd.prog 12 _ (X3.alloc (boxH G ad3 K cap3)) _
  generalize World.alloc X3 _ = X4 at *
  generalize X3.heap.size = g4 at *
  refine (HRB.out X4 HB3.out HL3.out).mono ?_
  rintro e X5 ⟨v5, ad5, cap5, rfl, hk5, hi5, hb5⟩
  dsimp only at hk5 hi5 ⊢
  obtain ⟨ld5, lc5, rfl, hx5, -⟩ := hk5.read
  rw [← HKG.out] at hi5 ⊢
  rw [← HNL.out]
  have HW5 := Lib.hid (hx5.ki.below (co_box1 X5 (boxH G ad5 K cap5)))
  have HK5 := Lib.hid ((HK3.out.below hb5).below (co_box1 X5 (boxH G ad5 K cap5)))
  have HG5 := Lib.hid ((HG3.out.below hb5 HG3.out.lt).below (co_box1 X5 (boxH G ad5 K cap5)) (Nat.lt_of_lt_of_le HG3.out.lt hb5.size))
  have HJ5 := Lib.hid ((HJ3.out.below hb5).below (co_box1 X5 (boxH G ad5 K cap5)))
  have HH5 := Lib.hid (HdRow.new X5 G ad5 K cap5)
  have HU5 := Lib.hid (hi5.below (co_box1 X5 (boxH G ad5 K cap5)))
  have HX5 := Lib.hid ((HX3.out.below hb5 HX3.out.lt).below (co_box1 X5 (boxH G ad5 K cap5)) (Nat.lt_of_lt_of_le HX3.out.lt hb5.size))
  have HB5 := Lib.hid ((HB3.out.trans (hb5.mono HB3.out.size)).alloc (Nat.le_trans HB3.out.size hb5.size) (boxH G ad5 K cap5))
  clear hk5 hi5 hx5 hb5 HK3 HG3 HJ3 HX3 HB3 HL3 HRB
  have k1 : (q == q) = true := by simp
  go_wp2_with fail
  generalize World.alloc X5 _ = X6 at *
  generalize X5.heap.size = g6 at *
  have HBX := Lib.hid (Below.refl X6.heap.size X6).drew
  refine wp_region_noPanic ?_
  refine wp_region_held_drew (S := fun X => Below X6.heap.size X6 X) (by kernel_rfl) (HBX.out) (fun hS0 => ?_)
  refine held_take (i := 0) (v := ?_) rfl (by kernel_rfl) (by kernel_rfl) (by kernel_rfl) (fun _ _ _ h => h) (by rfl) ?_ (by assumption) ?_
  rotate_left
  · intro X hSX
    try dsimp only at hSX
    go_simp <;> with_reducible rfl
  simp only [Act.put, List.setIfInBounds_toArray, List.set_cons_zero, List.set_cons_succ]
  refine held_take (i := 1) (v := ?_) rfl (by kernel_rfl) (by kernel_rfl) (by kernel_rfl) (fun _ _ _ h => h) (by rfl) ?_ (by assumption) ?_
  rotate_left
  · intro X hSX
    try dsimp only at hSX
    go_simp <;> with_reducible rfl
  simp only [Act.put, List.setIfInBounds_toArray, List.set_cons_zero, List.set_cons_succ]
  refine held_call (i := 2) rfl (by kernel_rfl) (by rfl) (fun K' hK' => ?_)
  go_simp
  refine (rsameb_any ld3 ld5 N N lc3 lc5 L L _ (HK5.out.below HBX.out) (HW5.out.below HBX.out) HNL.out HNL.out (by have := HRC.out; omega)).mono ?_
  rw [eqK_refl]
  rintro e X7 ⟨rfl, hb7⟩
  have hS7 : Below X6.heap.size X6 X7 := HBX.out.trans (hb7.mono (HBX.out).size)
  refine held_go hK' (hS7) ?_
  try simp only [Act.put, List.setIfInBounds_toArray, List.set_cons_zero, List.set_cons_succ]
  refine held_take (i := 3) (v := ?_) rfl (by kernel_rfl) (by kernel_rfl) (by kernel_rfl) (fun _ _ _ h => h) (by rfl) ?_ (by assumption) ?_
  rotate_left
  · intro X hSX
    try dsimp only at hSX
    go_simp <;> with_reducible rfl
  simp only [Act.put, List.setIfInBounds_toArray, List.set_cons_zero, List.set_cons_succ]
  refine held_take (i := 4) (v := ?_) rfl (by kernel_rfl) (by kernel_rfl) (by kernel_rfl) (fun _ _ _ h => h) (by rfl) ?_ (by assumption) ?_
  rotate_left
  · intro X hSX
    try dsimp only at hSX
    obtain ⟨-, c0, c1, c2, c3, c4, c5, c6, c7, c8, c9, c10⟩ := (HG5.out.below hSX HG5.out.lt).at_
    go_simp <;> with_reducible rfl
  simp only [Act.put, List.setIfInBounds_toArray, List.set_cons_zero, List.set_cons_succ]
  refine held_take (i := 5) (v := ?_) rfl (by kernel_rfl) (by kernel_rfl) (by kernel_rfl) (fun _ _ _ h => h) (by rfl) ?_ (by assumption) ?_
  rotate_left
  · intro X hSX
    try dsimp only at hSX
    obtain ⟨-, c0, c1, c2, c3, c4, c5, c6, c7, c8, c9, c10⟩ := (HH5.out.below hSX HH5.out.lt).at_
    go_simp <;> with_reducible rfl
  simp only [Act.put, List.setIfInBounds_toArray, List.set_cons_zero, List.set_cons_succ]
  refine held_call (i := 6) rfl (by kernel_rfl) (by rfl) (fun K' hK' => ?_)
  go_simp
  refine (rsameh_any G G ad3 K cap3 ad5 K cap5 _ (HJ5.out.below hS7) (HU5.out.below hS7) (by have := HR64.out; omega)).mono ?_
  rw [eqH_refl]
  rintro e X8 ⟨rfl, hb8⟩
  have hS8 : Below X6.heap.size X6 X8 := hS7.trans (hb8.mono hS7.size)
  refine held_go hK' (hS8) ?_
  try simp only [Act.put, List.setIfInBounds_toArray, List.set_cons_zero, List.set_cons_succ]
  refine held_take (i := 7) (v := ?_) rfl (by kernel_rfl) (by kernel_rfl) (by kernel_rfl) (fun _ _ _ h => h) (by rfl) ?_ (by assumption) ?_
  rotate_left
  · intro X hSX
    try dsimp only at hSX
    go_simp <;> with_reducible rfl
  simp only [Act.put, List.setIfInBounds_toArray, List.set_cons_zero, List.set_cons_succ]
  refine held_take (i := 8) (v := ?_) rfl (by kernel_rfl) (by kernel_rfl) (by kernel_rfl) (fun _ _ _ h => h) (by rfl) ?_ (by assumption) ?_
  rotate_left
  · intro X hSX
    try dsimp only at hSX
    go_simp <;> with_reducible rfl
  simp only [Act.put, List.setIfInBounds_toArray, List.set_cons_zero, List.set_cons_succ]
  refine held_take (i := 9) (v := ?_) rfl (by kernel_rfl) (by kernel_rfl) (by kernel_rfl) (fun _ _ _ h => h) (by rfl) ?_ (by assumption) ?_
  rotate_left
  · intro X hSX
    try dsimp only at hSX
    go_simp <;> with_reducible rfl
  simp only [Act.put, List.setIfInBounds_toArray, List.set_cons_zero, List.set_cons_succ]
  refine held_take (i := 10) (v := ?_) rfl (by kernel_rfl) (by kernel_rfl) (by kernel_rfl) (fun _ _ _ h => h) (by rfl) ?_ (by assumption) ?_
  rotate_left
  · intro X hSX
    try dsimp only at hSX
    go_simp <;> with_reducible rfl
  simp only [Act.put, List.setIfInBounds_toArray, List.set_cons_zero, List.set_cons_succ]
  refine held_take (i := 11) (v := ?_) rfl (by kernel_rfl) (by kernel_rfl) (by kernel_rfl) (fun _ _ _ h => h) (by rfl) ?_ (by assumption) ?_
  rotate_left
  · intro X hSX
    try dsimp only at hSX
    go_simp <;> with_reducible rfl
  simp only [Act.put, List.setIfInBounds_toArray, List.set_cons_zero, List.set_cons_succ]
  refine held_take (i := 12) (v := ?_) rfl (by kernel_rfl) (by kernel_rfl) (by kernel_rfl) (fun _ _ _ h => h) (by rfl) ?_ (by assumption) ?_
  rotate_left
  · intro X hSX
    try dsimp only at hSX
    go_simp <;> with_reducible rfl
  simp only [Act.put, List.setIfInBounds_toArray, List.set_cons_zero, List.set_cons_succ]
  refine held_take (i := 13) (v := ?_) rfl (by kernel_rfl) (by kernel_rfl) (by kernel_rfl) (fun _ _ _ h => h) (by rfl) ?_ (by assumption) ?_
  rotate_left
  · intro X hSX
    try dsimp only at hSX
    go_simp <;> with_reducible rfl
  simp only [Act.put, List.setIfInBounds_toArray, List.set_cons_zero, List.set_cons_succ]
  refine held_take (i := 14) (v := ?_) rfl (by kernel_rfl) (by kernel_rfl) (by kernel_rfl) (fun _ _ _ h => h) (by rfl) ?_ (by assumption) ?_
  rotate_left
  · intro X hSX
    try dsimp only at hSX
    obtain ⟨-, c0, c1, c2, c3, c4, c5, c6, c7, c8, c9, c10⟩ := (HX5.out.below hSX HX5.out.lt).at_
    go_simp <;> with_reducible rfl
  simp only [Act.put, List.setIfInBounds_toArray, List.set_cons_zero, List.set_cons_succ]
  refine held_take (i := 16) (v := ?_) rfl (by kernel_rfl) (by kernel_rfl) (by kernel_rfl) (fun _ _ _ h => h) (by rfl) ?_ (by assumption) ?_
  rotate_left
  · intro X hSX
    try dsimp only at hSX
    obtain ⟨-, c0, c1, c2, c3, c4, c5, c6, c7, c8, c9, c10⟩ := (HX5.out.below hSX HX5.out.lt).at_
    go_simp <;> with_reducible rfl
  simp only [Act.put, List.setIfInBounds_toArray, List.set_cons_zero, List.set_cons_succ]
  refine held_call (i := 15) rfl (by kernel_rfl) (by rfl) (fun K' hK' => ?_)
  go_simp
  refine (HS.out.valid S hd M hcap _ (HIN.out.below (HB5.out.trans (hS8.mono HB5.out.size))) HFT.out (HS.out.step w _ HI.out (HB5.out.trans (hS8.mono HB5.out.size)))).mono ?_
  rintro e X9 ⟨rfl, hb9⟩
  have hS9 : Below X6.heap.size X6 X9 := hS8.trans (hb9.mono hS8.size)
  refine held_go hK' (hS9) ?_
  try simp only [Act.put, List.setIfInBounds_toArray, List.set_cons_zero, List.set_cons_succ]
  refine held_call (i := 17) rfl (by kernel_rfl) (by rfl) (fun K' hK' => ?_)
  go_simp
  refine (rvalidh_any S hd M hcap _ (HIN.out.below (HB5.out.trans (hS9.mono HB5.out.size))) HFT.out.2).mono ?_
  rintro e XA ⟨rfl, hbA⟩
  have hSA : Below X6.heap.size X6 XA := hS9.trans (hbA.mono hS9.size)
  refine held_go hK' (hSA) ?_
  try simp only [Act.put, List.setIfInBounds_toArray, List.set_cons_zero, List.set_cons_succ]
  have k2 : (vldH S == vldH S) = true := by simp
  refine held_take (i := 18) (v := ?_) rfl (by kernel_rfl) (by kernel_rfl) (by kernel_rfl) (fun _ _ _ h => h) (by rfl) ?_ (by assumption) ?_
  rotate_left
  · intro X hSX
    try dsimp only at hSX
    go_simp <;> with_reducible rfl
  simp only [Act.put, List.setIfInBounds_toArray, List.set_cons_zero, List.set_cons_succ]
  refine held_take (i := 19) (v := ?_) rfl (by kernel_rfl) (by kernel_rfl) (by kernel_rfl) (fun _ _ _ h => h) (by rfl) ?_ (by assumption) ?_
  rotate_left
  · intro X hSX
    try dsimp only at hSX
    go_simp <;> with_reducible rfl
  simp only [Act.put, List.setIfInBounds_toArray, List.set_cons_zero, List.set_cons_succ]
  refine held_take (i := 20) (v := ?_) rfl (by kernel_rfl) (by kernel_rfl) (by kernel_rfl) (fun _ _ _ h => h) (by rfl) ?_ (by assumption) ?_
  rotate_left
  · intro X hSX
    try dsimp only at hSX
    go_simp <;> with_reducible rfl
  simp only [Act.put, List.setIfInBounds_toArray, List.set_cons_zero, List.set_cons_succ]
  refine held_take (i := 21) (v := ?_) rfl (by kernel_rfl) (by kernel_rfl) (by kernel_rfl) (fun _ _ _ h => h) (by rfl) ?_ (by assumption) ?_
  rotate_left
  · intro X hSX
    try dsimp only at hSX
    obtain ⟨-, c0, c1, c2, c3, c4, c5, c6, c7, c8, c9, c10⟩ := (HX5.out.below hSX HX5.out.lt).at_
    go_simp <;> with_reducible rfl
  simp only [Act.put, List.setIfInBounds_toArray, List.set_cons_zero, List.set_cons_succ]
  refine held_take (i := 23) (v := ?_) rfl (by kernel_rfl) (by kernel_rfl) (by kernel_rfl) (fun _ _ _ h => h) (by rfl) ?_ (by assumption) ?_
  rotate_left
  · intro X hSX
    try dsimp only at hSX
    obtain ⟨-, c0, c1, c2, c3, c4, c5, c6, c7, c8, c9, c10⟩ := (HX5.out.below hSX HX5.out.lt).at_
    go_simp <;> with_reducible rfl
  simp only [Act.put, List.setIfInBounds_toArray, List.set_cons_zero, List.set_cons_succ]
  refine held_call (i := 22) rfl (by kernel_rfl) (by rfl) (fun K' hK' => ?_)
  go_simp
  refine (HS.out.head S hd M hcap _ (HIN.out.below (HB5.out.trans (hSA.mono HB5.out.size))) HFT.out (HS.out.step w _ HI.out (HB5.out.trans (hSA.mono HB5.out.size)))).mono ?_
  rintro e XB ⟨rfl, hbB⟩
  have hSB : Below X6.heap.size X6 XB := hSA.trans (hbB.mono hSA.size)
  refine held_go hK' (hSB) ?_
  try simp only [Act.put, List.setIfInBounds_toArray, List.set_cons_zero, List.set_cons_succ]
  refine held_call (i := 24) rfl (by kernel_rfl) (by rfl) (fun K' hK' => ?_)
  go_simp
  refine (rheadblocks_any S hd M hcap _ (HIN.out.below (HB5.out.trans (hSB.mono HB5.out.size))) HFT.out.1 HFT.out.2).mono ?_
  rintro e XC ⟨rfl, hbC⟩
  have hSC : Below X6.heap.size X6 XC := hSB.trans (hbC.mono hSB.size)
  refine held_go hK' (hSC) ?_
  try simp only [Act.put, List.setIfInBounds_toArray, List.set_cons_zero, List.set_cons_succ]
  have k3 : (hbU S == hbU S) = true := by simp
  refine held_take (i := 25) (v := ?_) rfl (by kernel_rfl) (by kernel_rfl) (by kernel_rfl) (fun _ _ _ h => h) (by rfl) ?_ (by assumption) ?_
  rotate_left
  · intro X hSX
    try dsimp only at hSX
    go_simp <;> with_reducible rfl
  simp only [Act.put, List.setIfInBounds_toArray, List.set_cons_zero, List.set_cons_succ]
  refine held_take (i := 26) (v := ?_) rfl (by kernel_rfl) (by kernel_rfl) (by kernel_rfl) (fun _ _ _ h => h) (by rfl) ?_ (by assumption) ?_
  rotate_left
  · intro X hSX
    try dsimp only at hSX
    go_simp <;> with_reducible rfl
  simp only [Act.put, List.setIfInBounds_toArray, List.set_cons_zero, List.set_cons_succ]
  refine held_take (i := 27) (v := ?_) rfl (by kernel_rfl) (by kernel_rfl) (by kernel_rfl) (fun _ _ _ h => h) (by rfl) ?_ (by assumption) ?_
  rotate_left
  · intro X hSX
    try dsimp only at hSX
    go_simp <;> with_reducible rfl
  simp only [Act.put, List.setIfInBounds_toArray, List.set_cons_zero, List.set_cons_succ]
  refine held_take (i := 28) (v := ?_) rfl (by kernel_rfl) (by kernel_rfl) (by kernel_rfl) (fun _ _ _ h => h) (by rfl) ?_ (by assumption) ?_
  rotate_left
  · intro X hSX
    try dsimp only at hSX
    obtain ⟨-, c0, c1, c2, c3, c4, c5, c6, c7, c8, c9, c10⟩ := (HX5.out.below hSX HX5.out.lt).at_
    go_simp <;> with_reducible rfl
  simp only [Act.put, List.setIfInBounds_toArray, List.set_cons_zero, List.set_cons_succ]
  refine held_take (i := 30) (v := ?_) rfl (by kernel_rfl) (by kernel_rfl) (by kernel_rfl) (fun _ _ _ h => h) (by rfl) ?_ (by assumption) ?_
  rotate_left
  · intro X hSX
    try dsimp only at hSX
    obtain ⟨-, c0, c1, c2, c3, c4, c5, c6, c7, c8, c9, c10⟩ := (HX5.out.below hSX HX5.out.lt).at_
    go_simp <;> with_reducible rfl
  simp only [Act.put, List.setIfInBounds_toArray, List.set_cons_zero, List.set_cons_succ]
  refine held_call (i := 29) rfl (by kernel_rfl) (by rfl) (fun K' hK' => ?_)
  go_simp
  refine (HS.out.blocks S hd M hcap _ (HIN.out.below (HB5.out.trans (hSC.mono HB5.out.size))) HFT.out (HS.out.step w _ HI.out (HB5.out.trans (hSC.mono HB5.out.size)))).mono ?_
  rintro e XD ⟨rfl, hbD⟩
  have hSD : Below X6.heap.size X6 XD := hSC.trans (hbD.mono hSC.size)
  refine held_go hK' (hSD) ?_
  try simp only [Act.put, List.setIfInBounds_toArray, List.set_cons_zero, List.set_cons_succ]
  refine held_call (i := 31) rfl (by kernel_rfl) (by rfl) (fun K' hK' => ?_)
  go_simp
  refine (rblocksh_any S hd M hcap _ (HIN.out.below (HB5.out.trans (hSD.mono HB5.out.size))) HFT.out.1 HFT.out.2).mono ?_
  rintro e XE ⟨rfl, hbE⟩
  have hSE : Below X6.heap.size X6 XE := hSD.trans (hbE.mono hSD.size)
  refine held_go hK' (hSE) ?_
  try simp only [Act.put, List.setIfInBounds_toArray, List.set_cons_zero, List.set_cons_succ]
  have k4 : (blU S == blU S) = true := by simp
  refine held_take (i := 32) (v := ?_) rfl (by kernel_rfl) (by kernel_rfl) (by kernel_rfl) (fun _ _ _ h => h) (by rfl) ?_ (by assumption) ?_
  rotate_left
  · intro X hSX
    try dsimp only at hSX
    go_simp <;> with_reducible rfl
  simp only [Act.put, List.setIfInBounds_toArray, List.set_cons_zero, List.set_cons_succ]
  refine held_take (i := 33) (v := ?_) rfl (by kernel_rfl) (by kernel_rfl) (by kernel_rfl) (fun _ _ _ h => h) (by rfl) ?_ (by assumption) ?_
  rotate_left
  · intro X hSX
    try dsimp only at hSX
    go_simp <;> with_reducible rfl
  simp only [Act.put, List.setIfInBounds_toArray, List.set_cons_zero, List.set_cons_succ]
  refine held_take (i := 34) (v := ?_) rfl (by kernel_rfl) (by kernel_rfl) (by kernel_rfl) (fun _ _ _ h => h) (by rfl) ?_ (by assumption) ?_
  rotate_left
  · intro X hSX
    try dsimp only at hSX
    go_simp <;> with_reducible rfl
  simp only [Act.put, List.setIfInBounds_toArray, List.set_cons_zero, List.set_cons_succ]
  refine held_call (i := 35) rfl (by kernel_rfl) (by rfl) (fun K' hK' => ?_)
  go_simp
  refine (awake15_any HS.out _ (HS.out.step w _ HI.out (HB5.out.trans (hSE.mono HB5.out.size)))).mono ?_
  rintro e XF ⟨rfl, hbF⟩
  have hSF : Below X6.heap.size X6 XF := hSE.trans (hbF.mono hSE.size)
  refine held_go hK' (hSF) ?_
  try simp only [Act.put, List.setIfInBounds_toArray, List.set_cons_zero, List.set_cons_succ]
  refine held_take (i := 36) (v := ?_) rfl (by kernel_rfl) (by kernel_rfl) (by kernel_rfl) (fun _ _ _ h => h) (by rfl) ?_ (by assumption) ?_
  rotate_left
  · intro X hSX
    try dsimp only at hSX
    go_simp <;> with_reducible rfl
  simp only [Act.put, List.setIfInBounds_toArray, List.set_cons_zero, List.set_cons_succ]
  refine held_take (i := 37) (v := ?_) rfl (by kernel_rfl) (by kernel_rfl) (by kernel_rfl) (fun _ _ _ h => h) (by rfl) ?_ (by assumption) ?_
  rotate_left
  · intro X hSX
    try dsimp only at hSX
    go_simp <;> with_reducible rfl
  simp only [Act.put, List.setIfInBounds_toArray, List.set_cons_zero, List.set_cons_succ]
  refine wpAnyH_done (by kernel_rfl) ?_ _
  refine NoPanic.normal ?_
  have HBF := Lib.hid (HB5.out.trans (hSF.mono HB5.out.size))
  clear HBX hS7 hS8 hS9 hSA hSB hSC hSD hSE hSF hb7 hb8 hb9 hbA hbB hbC hbD hbE hbF
  go_wp2
  go_ret
  exact ⟨rfl, HBF.out⟩
end Go.Proofs.YtjiijjdmkeeilaaDoor
