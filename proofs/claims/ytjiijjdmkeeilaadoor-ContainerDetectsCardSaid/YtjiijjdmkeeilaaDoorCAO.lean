/-
  The specification's head, part, count, HeaderBlocks, Blocks, four, start.
  A part of a slice of bytes, whatever its place: one value, and the bytes that it holds.
  A struct as the one result, or as the first of two; a place stored into a block of its own.
  The specification's copied, start, parts.
-/
import Derived.Test.YtjiijjdmkeeilaaDoorCAE
import Derived.Test.YtjiijjdmkeeilaaDoorCAJ
import Derived.Test.YtjiijjdmkeeilaaDoorCAN
import Derived.Test.YtjiijjdmkeeilaaDoorCAC
import Derived.Laws.Slices
import Derived.Test.YtjiijjdmkeeilaaDoorCAA
namespace Go.Proofs.YtjiijjdmkeeilaaDoor
open Go.RowKit
set_option linter.unusedVariables false
set_option linter.unusedSimpArgs false
/-- the blocks of a header -/
def hbL (h : Hdr) : List Blk := divB (frm (encH h))
def prtU (v : Int) : Int := if v = 2 then 60 else 64
/-- how many payload blocks -/
def cntU (h : Hdr) : Int := (h.sz + prtU h.vr - 1) / prtU h.vr
noncomputable def hbU (h : Hdr) : Int := if vldH h = true then ((hbL h).length : Int) else 0
noncomputable def blU (h : Hdr) : Int := if vldH h = true then ((hbL h).length : Int) + cntU h else 0
theorem encH_len {h : Hdr} (hv : VHdr h) (hsm : h.sm < 4294967296) (hs : ∀ e ∈ h.es, e.s < 4294967296) : (encH h).length ≤ 4000 := by
  have h1 := encN_len _ (hdN_ok hv)
  have h2 := encN_len _ (tlN_ok hv hsm)
  have hc := VEs.count hv
  have ha := VEs.all hv
  have h3 : ∀ l : List Ent, (∀ e ∈ l, VEnt e ∧ e.s < 4294967296) → (encEs l).length ≤ 50 * l.length := by
    intro l
    induction l with
    | nil => simp [encEs]
    | cons e l ih =>
      intro hl
      have i1 := ih (fun x hx => hl x (by simp [hx]))
      have i2 := encN_len _ (enN_ok (hl e (by simp)).1 (hl e (by simp)).2)
      have i3 : (enN e).length = 5 := rfl
      unfold encEs at i1 ⊢
      rw [List.flatMap_cons, List.length_append, List.length_cons]
      omega
  have h4 := h3 h.es (fun e he => ⟨ha e he, hs e he⟩)
  have e1 : (hdN h).length = 9 := rfl
  have e2 : (tlN h).length = 2 := rfl
  rw [encH_eq, List.length_append, List.length_append]
  omega
theorem hbL_length (h : Hdr) : (hbL h).length = cntB ((encH h).length + 10) := by unfold hbL; rw [divB_length, frm_length]
theorem hbL_short {h : Hdr} (hv : VHdr h) (hsm : h.sm < 4294967296) (hs : ∀ e ∈ h.es, e.s < 4294967296) : 1 ≤ (hbL h).length ∧ (hbL h).length ≤ 70 := by
  have := encH_len hv hsm hs
  rw [hbL_length]
  unfold cntB
  omega
theorem prtU_cases (v : Int) : (v = 2 ∧ prtU v = 60) ∨ (v ≠ 2 ∧ prtU v = 64) := by
  unfold prtU
  by_cases h : v = 2
  · exact .inl ⟨h, if_pos h⟩
  · exact .inr ⟨h, if_neg h⟩
theorem cntU_bd {h : Hdr} (hv : VHdr h) : 0 ≤ cntU h ∧ cntU h ≤ 5000 := by
  have h4 := hv.1.2.2.2
  unfold cntU
  rcases prtU_cases h.vr with ⟨_, e⟩ | ⟨_, e⟩ <;> rw [e] <;> omega
set_option maxRecDepth 100000 in
set_option maxHeartbeats 400000 in
theorem rpart_any (v : Int) (w : World) :
    Calls Tryd.prog 44 #[.int .i64 v] w fun e w' => e = .returned (.int .i64 (prtU v)) ∧ w = w' := by
  unfold prtU
  by_cases h : v = 2
  · rw [if_pos h]
    have k := eq_t h
    clear h
    go_enter Tryd.func44, Tryd.ntmps44
    go_wp2
    go_ret
    exact ⟨rfl, rfl⟩
  · rw [if_neg h]
    have k := eq_f h
    clear h
    go_enter Tryd.func44, Tryd.ntmps44
    go_wp2
    go_ret
    exact ⟨rfl, rfl⟩
theorem retI {a b : Int} (h : a = b) : Ending.returned (.int .i64 a) = .returned (.int .i64 b) := by rw [h]
set_option maxRecDepth 100000 in
set_option maxHeartbeats 1000000 in
theorem rcount_any (h : Hdr) (ad : Option Addr) (n cap : Nat) (w : World) (h0 : 0 ≤ h.sz ∧ h.sz ≤ 1000000) :
    Calls Tryd.prog 54 #[hdV h ad n cap] w fun e w' => e = .returned (.int .i64 (cntU h)) ∧ Below w.heap.size w w' := by
  obtain ⟨-, c0, c1, c2, c3, c4, c5, c6, c7, c8, c9, c10⟩ := (HdRow.new w h ad n cap).at_
  have HC := Lib.hid (show cntU h = (h.sz + prtU h.vr - 1) / prtU h.vr from rfl)
  have hp : prtU h.vr = 60 ∨ prtU h.vr = 64 := by rcases prtU_cases h.vr with ⟨_, e⟩ | ⟨_, e⟩ <;> omega
  obtain ⟨h1, h2⟩ := h0
  generalize cntU h = C at *
  go_enter Tryd.func54, Tryd.ntmps54
  go_wp2_with fail
  refine (rpart_any h.vr _).mono ?_
  rintro e w' ⟨rfl, rfl⟩
  generalize prtU h.vr = p at *
  rcases hp with rfl | rfl
  all_goals
    go_wp2
    go_ret
    exact ⟨retI HC.out.symm, co_box1 _ _⟩
set_option maxRecDepth 100000 in
set_option maxHeartbeats 1000000 in
theorem rhead_any (h : Hdr) (ad : Option Addr) (n cap : Nat) (w : World) (hin : HdIn w h ad n cap) (hv : VHdr h) (hsm : h.sm < 4294967296) (hs : ∀ e ∈ h.es, e.s < 4294967296) :
    Calls Tryd.prog 43 #[hdV h ad n cap] w (GivesK w (hbL h)) := by
  have HX0 := Lib.hid (HdRow.new w h ad n cap)
  have HB0 := Lib.hid (co_box1 w (boxH h ad n cap))
  have HE := Lib.hid (rencode_any h ad n cap _ (hin.below (co_box1 w (boxH h ad n cap))) hv hsm hs)
  have HL := Lib.hid (encH_len hv hsm hs)
  have HQ := Lib.hid (show hbL h = divB (frm (encH h)) from rfl)
  clear hin hv hsm hs
  generalize hbL h = L at *
  generalize encH h = E at *
  go_enter Tryd.func43, Tryd.ntmps43
  go_wp2_with (with_reducible refine ld_hdr rfl (.tmp 1) rfl rfl HX0.out ?_)
  refine HE.out.mono ?_
  rintro e X1 ⟨v1, rfl, ho1, hb1⟩
  obtain ⟨ad1, cap1, rfl, hl1, -, -, ha1⟩ := ho1.slice
  have HL1 := Lib.hid hl1
  have HB1 := Lib.hid (HB0.out.trans (hb1.mono HB0.out.size))
  clear ho1 hl1 hb1 HB0 HX0 HE
  obtain ⟨N, hN⟩ : ∃ N, E.length = N := ⟨_, rfl⟩
  rw [hN] at HL ⊢
  have HN := Lib.hid hN
  clear hN
  go_wp2_with fail
  refine (rappend_any none ad1 0 0 N cap1 [] E _ (.nil _ _) rfl (by simp) (fun _ => rfl) HL1.out HN.out.symm (by rw [HN.out]; have := HL.out; omega) ha1).mono ?_
  rintro e X2 ⟨v2, rfl, ho2, hb2⟩
  rw [List.nil_append] at ho2
  have HFL := Lib.hid (show (frm E).length ≤ 4100 by rw [frm_length, HN.out]; have := HL.out; omega)
  generalize frm E = F at *
  obtain ⟨ad2, cap2, rfl, hl2, hc2, hm2, ha2⟩ := ho2.slice
  have HL2 := Lib.hid hl2
  have HC2 := Lib.hid hc2
  have HM2 := Lib.hid hm2
  have HA2 := Lib.hid ha2
  have HB2 := Lib.hid (HB1.out.trans (hb2.mono HB1.out.size))
  clear ho2 hl2 hb2 hc2 hm2 ha2 ha1
  obtain ⟨M, hM⟩ : ∃ M, F.length = M := ⟨_, rfl⟩
  rw [hM] at HC2 HFL ⊢
  have HM := Lib.hid hM
  clear hM
  go_wp2_with fail
  refine (rdivide_any ad2 M cap2 F _ HL2.out HM.out.symm HC2.out HM2.out HA2.out (by have := HFL.out; omega)).mono ?_
  rintro e X3 ⟨v3, rfl, hk3, hb3⟩
  have HB3 := Lib.hid (HB2.out.trans (hb3.mono HB2.out.size))
  have HK3 := Lib.hid (hk3.mono HB2.out.size HB2.out.size)
  clear hk3 hb3
  go_wp2
  go_ret
  exact ⟨_, rfl, by rw [HQ.out]; exact HK3.out, HB3.out⟩
set_option maxRecDepth 100000 in
set_option maxHeartbeats 1000000 in
theorem rheadblocks_any (h : Hdr) (ad : Option Addr) (n cap : Nat) (w : World) (hin : HdIn w h ad n cap) (hsm : h.sm < 4294967296) (hs : ∀ e ∈ h.es, e.s < 4294967296) :
    Calls Tryd.prog 18 #[hdV h ad n cap] w fun e w' => e = .returned (.int .i64 (hbU h)) ∧ Below w.heap.size w w' := by
  have HX0 := Lib.hid (HdRow.new w h ad n cap)
  have HB0 := Lib.hid (co_box1 w (boxH h ad n cap))
  have HI0 := Lib.hid (hin.below (co_box1 w (boxH h ad n cap)))
  have HS := Lib.hid hs
  have HSM := Lib.hid hsm
  have HU := Lib.hid (show hbU h = if vldH h = true then ((hbL h).length : Int) else 0 from rfl)
  have HV := Lib.hid (@vldH_iff h)
  clear hin hs hsm
  generalize hbU h = U at *
  go_enter Tryd.func18, Tryd.ntmps18
  go_wp2_with (with_reducible refine ld_hdr rfl (.tmp 1) rfl rfl HX0.out ?_)
  generalize World.alloc w _ = X0 at *
  refine (rvalidh_any h ad n cap _ HI0.out HS.out).mono ?_
  rintro e X1 ⟨rfl, hb1⟩
  have HX1 := Lib.hid (HX0.out.below hb1 HX0.out.lt)
  have HB1 := Lib.hid (HB0.out.trans (hb1.mono HB0.out.size))
  have HI1 := Lib.hid (HI0.out.below hb1)
  clear hb1 HX0 HB0 HI0
  generalize vldH h = V at *
  cases V
  · go_wp2
    go_ret
    exact ⟨retI (by rw [HU.out]; rfl), HB1.out⟩
  go_wp2_with (with_reducible refine ld_hdr rfl (.tmp 1) rfl rfl HX1.out ?_)
  refine (rhead_any h ad n cap _ HI1.out (HV.out.1 (by simp)) HSM.out HS.out).mono ?_
  rintro e X2 ⟨v2, rfl, hk2, hb2⟩
  obtain ⟨ad2, cap2, rfl, -⟩ := hk2.read
  have HB2 := Lib.hid (HB1.out.trans (hb2.mono HB1.out.size))
  clear hk2 hb2
  generalize (hbL h).length = M at *
  go_wp2
  go_ret
  exact ⟨retI (by rw [HU.out]; rfl), HB2.out⟩
set_option maxRecDepth 100000 in
set_option maxHeartbeats 2000000 in
theorem rblocksh_any (h : Hdr) (ad : Option Addr) (n cap : Nat) (w : World) (hin : HdIn w h ad n cap) (hsm : h.sm < 4294967296) (hs : ∀ e ∈ h.es, e.s < 4294967296) :
    Calls Tryd.prog 20 #[hdV h ad n cap] w fun e w' => e = .returned (.int .i64 (blU h)) ∧ Below w.heap.size w w' := by
  have HX0 := Lib.hid (HdRow.new w h ad n cap)
  have HB0 := Lib.hid (co_box1 w (boxH h ad n cap))
  have HI0 := Lib.hid (hin.below (co_box1 w (boxH h ad n cap)))
  have HS := Lib.hid hs
  have HSM := Lib.hid hsm
  have HU := Lib.hid (show blU h = if vldH h = true then ((hbL h).length : Int) + cntU h else 0 from rfl)
  have HV := Lib.hid (@vldH_iff h)
  have HCB := Lib.hid (@cntU_bd h)
  have HHS := Lib.hid (fun hv => @hbL_short h hv hsm hs)
  clear hin hs hsm
  generalize blU h = U at *
  go_enter Tryd.func20, Tryd.ntmps20
  go_wp2_with (with_reducible refine ld_hdr rfl (.tmp 1) rfl rfl HX0.out ?_)
  generalize World.alloc w _ = X0 at *
  refine (rvalidh_any h ad n cap _ HI0.out HS.out).mono ?_
  rintro e X1 ⟨rfl, hb1⟩
  have HX1 := Lib.hid (HX0.out.below hb1 HX0.out.lt)
  have HB1 := Lib.hid (HB0.out.trans (hb1.mono HB0.out.size))
  have HI1 := Lib.hid (HI0.out.below hb1)
  clear hb1 HX0 HB0 HI0
  generalize vldH h = V at *
  cases V
  · go_wp2
    go_ret
    exact ⟨retI (by rw [HU.out]; rfl), HB1.out⟩
  have HVV := Lib.hid (HV.out.1 (by simp))
  have HBX := Lib.hid (Below.refl X1.heap.size X1).drew
  go_wp2_with fail
  refine wp_region_noPanic ?_
  refine wp_region_held_drew (S := fun X => Below X1.heap.size X1 X) (by kernel_rfl) (HBX.out) (fun hS0 => ?_)
  refine held_take (i := 0) (v := ?_) rfl (by kernel_rfl) (by kernel_rfl) (by kernel_rfl) (fun _ _ _ h => h) (by rfl) ?_ (by assumption) ?_
  rotate_left
  · intro X hSX
    try dsimp only at hSX
    obtain ⟨-, c0, c1, c2, c3, c4, c5, c6, c7, c8, c9, c10⟩ := (HX1.out.below hSX HX1.out.lt).at_
    go_simp <;> with_reducible rfl
  simp only [Act.put, List.setIfInBounds_toArray, List.set_cons_zero, List.set_cons_succ]
  refine held_take (i := 3) (v := ?_) rfl (by kernel_rfl) (by kernel_rfl) (by kernel_rfl) (fun _ _ _ h => h) (by rfl) ?_ (by assumption) ?_
  rotate_left
  · intro X hSX
    try dsimp only at hSX
    obtain ⟨-, c0, c1, c2, c3, c4, c5, c6, c7, c8, c9, c10⟩ := (HX1.out.below hSX HX1.out.lt).at_
    go_simp <;> with_reducible rfl
  simp only [Act.put, List.setIfInBounds_toArray, List.set_cons_zero, List.set_cons_succ]
  refine held_call (i := 1) rfl (by kernel_rfl) (by rfl) (fun K' hK' => ?_)
  go_simp
  refine (rhead_any h ad n cap _ (HI1.out.below HBX.out) HVV.out HSM.out HS.out).mono ?_
  rintro e X2 ⟨v2, rfl, hk2, hb2⟩
  obtain ⟨ad2, cap2, rfl, -⟩ := hk2.read
  have hS2 : Below X1.heap.size X1 X2 := HBX.out.trans (hb2.mono HBX.out.size)
  have HM := Lib.hid (HHS.out HVV.out)
  clear hk2
  generalize (hbL h).length = M at *
  refine held_go hK' (hS2) ?_
  try simp only [Act.put, List.setIfInBounds_toArray, List.set_cons_zero, List.set_cons_succ]
  refine held_take (i := 2) (v := ?_) rfl (by kernel_rfl) (by kernel_rfl) (by kernel_rfl) (fun _ _ _ h => h) (by rfl) ?_ (by assumption) ?_
  rotate_left
  · intro X hSX
    try dsimp only at hSX
    go_simp <;> with_reducible rfl
  simp only [Act.put, List.setIfInBounds_toArray, List.set_cons_zero, List.set_cons_succ]
  refine held_call (i := 4) rfl (by kernel_rfl) (by rfl) (fun K' hK' => ?_)
  go_simp
  refine (rcount_any h ad n cap _ (by have := HVV.out.1.2.2.2; omega)).mono ?_
  rintro e X3 ⟨rfl, hb3⟩
  have hS3 : Below X1.heap.size X1 X3 := hS2.trans (hb3.mono hS2.size)
  have HC := Lib.hid (HCB.out HVV.out)
  generalize cntU h = C at *
  refine held_go hK' (hS3) ?_
  try simp only [Act.put, List.setIfInBounds_toArray, List.set_cons_zero, List.set_cons_succ]
  have hw : IntKind.i64.wrap ((M : Int) + C) = (M : Int) + C := IntWalk.i64_in _ (by have := HC.out; have := HM.out; omega)
  refine held_take (i := 5) (v := ?_) rfl (by kernel_rfl) (by kernel_rfl) (by kernel_rfl) (fun _ _ _ h => h) (by rfl) ?_ (by assumption) ?_
  rotate_left
  · intro X hSX
    try dsimp only at hSX
    go_simp <;> with_reducible rfl
  simp only [Act.put, List.setIfInBounds_toArray, List.set_cons_zero, List.set_cons_succ]
  refine held_take (i := 6) (v := ?_) rfl (by kernel_rfl) (by kernel_rfl) (by kernel_rfl) (fun _ _ _ h => h) (by rfl) ?_ (by assumption) ?_
  rotate_left
  · intro X hSX
    try dsimp only at hSX
    go_simp <;> with_reducible rfl
  simp only [Act.put, List.setIfInBounds_toArray, List.set_cons_zero, List.set_cons_succ]
  refine wpAnyH_done (by kernel_rfl) ?_ _
  refine NoPanic.normal ?_
  have HB3 := Lib.hid (HB1.out.trans (hS3.mono HB1.out.size))
  clear HBX hS2 hS3 hb2 hb3 hw
  go_wp2
  go_ret
  exact ⟨retI (by rw [HU.out]; rfl), HB3.out⟩
set_option maxRecDepth 100000 in
set_option maxHeartbeats 600000 in
theorem rfour15_any (n : Nat) (w : World) (hn : n < 4294967296) :
    Calls Tryd.prog 45 #[.int .u32 n] w fun e w' => e = .returned (.slice (some ⟨w.heap.size, 0, none⟩) 4 4) ∧ Lie w' (some ⟨w.heap.size, 0, none⟩) (be4 n) ∧ Own w' w.heap.size (.slice (some ⟨w.heap.size, 0, none⟩) 4 4) (be4 n) ∧ Below w.heap.size w w' := by
  go_enter Tryd.func45, Tryd.ntmps45
  go_wp2
  go_ret
  have hf := four_cells n hn ((n : Int) / 16777216) ((n : Int) / 65536 % 256) ((n : Int) / 256 % 256) ((n : Int) % 256) rfl rfl rfl rfl
  exact ⟨rfl, Lie.lits w _ _ hf, Own.lits w _ _ hf (by rw [be4_length]; decide), (Below.refl _ _).alloc (Nat.le_refl _) _⟩
end Go.Proofs.YtjiijjdmkeeilaaDoor
namespace Go.Proofs.YtjiijjdmkeeilaaDoor
open Go.RowKit
set_option maxRecDepth 100000
/-- where a part lies -/
@[irreducible] def ptA (ad : Option Addr) (cap a : Nat) : Option Addr := if cap = a then ad else ad.map (·.add a)
theorem cellsU1 : (sizeOf (Tryd.prog.elem 26)).run Tryd.prog = fun w => .ok 1 w := by funext w; go_simp
theorem run_part (ad : Option Addr) (n cap a b : Nat) (w : World) (h0 : a ≤ b) (h1 : b ≤ cap) :
    (Instr.sliceAt 26 (.slice ad n cap) (some (.int .i64 (a : Int))) (some (.int .i64 (b : Int))) none).run Tryd.prog w = .ok (.slice (ptA ad cap a) (b - a) (cap - a)) w := by
  rw [run_sliceAt_slice w _ _ _ _ _ Tryd.underlying26, run_slice_lh w _ ad n cap Tryd.underlying26 .i64 .i64 a b (by omega) (by omega) (by omega), cellsU1]
  simp [Result.andThen, sliced, ptA]
theorem run_front (ad : Option Addr) (n cap b : Nat) (w : World) (h1 : b ≤ cap) :
    (Instr.sliceAt 26 (.slice ad n cap) none (some (.int .i64 (b : Int))) none).run Tryd.prog w = .ok (.slice (ptA ad cap 0) b cap) w := by
  rw [run_sliceAt_slice w _ _ _ _ _ Tryd.underlying26, run_slice_h w _ ad n cap Tryd.underlying26 .i64 b (by omega) (by omega), cellsU1]
  simp [Result.andThen, sliced, ptA]
theorem run_rest (ad : Option Addr) (n cap a : Nat) (w : World) (h0 : a ≤ n) :
    (Instr.sliceAt 26 (.slice ad n cap) (some (.int .i64 (a : Int))) none none).run Tryd.prog w = .ok (.slice (ptA ad cap a) (n - a) (cap - a)) w := by
  rw [run_sliceAt_slice w _ _ _ _ _ Tryd.underlying26, run_slice_l w _ ad n cap Tryd.underlying26 .i64 a (by omega) (by omega), cellsU1]
  simp [Result.andThen, sliced, ptA]
theorem Lie.pt {w : World} {ad : Option Addr} {xs : List UInt8} (h : Lie w ad xs) {cap : Nat} (hc : xs.length ≤ cap) (a m : Nat) : Lie w (ptA ad cap a) ((xs.drop a).take m) := by
  unfold ptA
  by_cases e : cap = a
  · rw [if_pos e, List.drop_eq_nil_of_le (by omega)]
    exact ⟨.inl (by simp)⟩
  · rw [if_neg e]
    rcases h.at_ with h0 | ⟨b, off, rfl, hlt, hcell⟩
    · subst h0
      exact ⟨.inl (by simp)⟩
    · refine ⟨.inr ⟨b, off + a, congrArg some (Go.WideShapes.add_plain b off a), hlt, fun j hj => ?_⟩⟩
      simp only [List.length_take, List.length_drop] at hj
      have := hcell (a + j) (by omega)
      rw [Nat.add_assoc, this]
      simp
theorem ptA_nil {ad : Option Addr} {cap : Nat} (h : ad = none → cap = 0) (a : Nat) : ptA ad cap a = none → cap - a = 0 := by
  unfold ptA
  intro e
  split at e
  · omega
  · cases ad with
    | none => have := h rfl; omega
    | some x => cases e
end Go.Proofs.YtjiijjdmkeeilaaDoor
namespace Go.Proofs.YtjiijjdmkeeilaaDoor
open Go.RowKit
set_option linter.unusedVariables false
theorem post_cell1 {P : Program} {fn : Func} {R : Ending → World → Prop} {p : Tmp} {ty : TypeId} (h : fn.results = #[.cell p ty]) {a : Act} {w : World} {g : Nat} {cs : Array Value} {t : TypeId} {d : TypeDesc}
    (hp : a.tmps.getD p undef = .pointer (some ⟨g, 0, none⟩)) (hg : w.heap[g]? = some (.cells cs t (0, 0))) (hu : P.underlying ty = some d) (hd : (match d with | .struct _ | .array _ _ => true | _ => false) = true)
    (hi : (P.info? ty).map (·.size) = some cs.size) (hdef : a.defers = []) (hR : R (.returned (.agg cs)) w) : bodyPost P fn R .ret a w := by
  refine bodyPost_ret (v := .agg cs) ?_ hdef hR
  have e : (results fn a.tmps).run P w = ((asAddr (a.tmps.getD p undef)).run P w).andThen fun b w1 => (loadVar ty b).run P w1 := by
    simp only [results, h]
    simp [Sem.run_bind, Result.andThen]
  rw [e, hp]
  simp only [asAddr, Sem.run_pure, Result.andThen, run_loadVar_row w g t ty cs (0, 0) d hg hu hd hi]
theorem post_cell2 {P : Program} {fn : Func} {R : Ending → World → Prop} {p q : Tmp} {ty : TypeId} (h : fn.results = #[.cell p ty, .tmp q]) {a : Act} {w : World} {g : Nat} {cs : Array Value} {t : TypeId} {d : TypeDesc}
    (hp : a.tmps.getD p undef = .pointer (some ⟨g, 0, none⟩)) (hg : w.heap[g]? = some (.cells cs t (0, 0))) (hu : P.underlying ty = some d) (hd : (match d with | .struct _ | .array _ _ => true | _ => false) = true)
    (hi : (P.info? ty).map (·.size) = some cs.size) (hdef : a.defers = []) {x : Value} (hx : a.tmps.getD q undef = x) (hR : R (.returned (.tuple #[.agg cs, x])) w) : bodyPost P fn R .ret a w := by
  subst hx
  refine bodyPost_ret (v := .tuple #[.agg cs, a.tmps.getD q undef]) ?_ hdef hR
  have e : (results fn a.tmps).run P w = ((asAddr (a.tmps.getD p undef)).run P w).andThen fun b w1 => ((loadVar ty b).run P w1).andThen fun v w2 => .ok (.tuple #[v, a.tmps.getD q undef]) w2 := by
    simp only [results, h]
    simp [Sem.run_bind, Result.andThen]
  rw [e, hp]
  simp only [asAddr, Sem.run_pure, Result.andThen, run_loadVar_row w g t ty cs (0, 0) d hg hu hd hi]
end Go.Proofs.YtjiijjdmkeeilaaDoor
namespace Go.Proofs.YtjiijjdmkeeilaaDoor
open Go.RowKit
set_option linter.unusedVariables false
set_option linter.unusedSimpArgs false
/-- the header's list is the call's own, behind block B -/
structure HdOw (w : World) (B : Nat) (h : Hdr) (ad : Option Addr) (n cap : Nat) : Prop where
  own : Of 54 5 enC w B (.slice ad n cap) h.es
  len : n = h.es.length
theorem HdOw.hin {w : World} {B : Nat} {h : Hdr} {ad : Option Addr} {n cap : Nat} (ho : HdOw w B h ad n cap) : HdIn w h ad n cap := by
  obtain ⟨ad2, cap2, e, hl, hc, hm, ha⟩ := ho.own.read
  cases e
  exact ⟨hl, ho.len, by rw [ho.len]; exact hc, hm, ha⟩
theorem HdOw.below {w w' : World} {B : Nat} {h : Hdr} {ad : Option Addr} {n cap : Nat} (ho : HdOw w B h ad n cap) (hb : Below w.heap.size w w') : HdOw w' B h ad n cap := ⟨ho.own.below hb, ho.len⟩
theorem HdOw.mono {w : World} {B B' : Nat} {h : Hdr} {ad : Option Addr} {n cap : Nat} (ho : HdOw w B h ad n cap) (hB : B' ≤ B) : HdOw w B' h ad n cap := ⟨ho.own.mono hB, ho.len⟩
theorem HdOw.keep {w w' : World} {B : Nat} {h : Hdr} {ad : Option Addr} {n cap : Nat} (ho : HdOw w B h ad n cap) (hk : ∀ g, B ≤ g → g < w.heap.size → w'.heap[g]? = w.heap[g]?) : HdOw w' B h ad n cap := ⟨ho.own.keep hk, ho.len⟩
theorem HdOw.row {w : World} {B : Nat} {h : Hdr} {ad : Option Addr} {n cap k : Nat} (ho : HdOw w B h ad n cap) (hk : k < B) (cs : Array Value) : HdOw (w.setRow k cs) B h ad n cap := ho.keep fun g hg _ => setRow_other _ _ _ _ (by omega)
theorem HdOw.cell {w : World} {B : Nat} {h : Hdr} {ad : Option Addr} {n cap k : Nat} (ho : HdOw w B h ad n cap) (hk : k < B) (j : Nat) (v : Value) : HdOw (w.setCell ⟨k, j, none⟩ v) B h ad n cap := ho.keep fun g hg _ => Below.heap_setCell _ _ _ _ (by show g ≠ k; omega)
/-- a call gives a header with a list of its own -/
def RetHd (w : World) (h : Hdr) (n : Nat) (e : Ending) (w' : World) : Prop := ∃ ad cap, e = .returned (hdV h ad n cap) ∧ HdOw w' w.heap.size h ad n cap ∧ Below w.heap.size w w'
set_option maxRecDepth 100000 in
set_option maxHeartbeats 2000000 in
theorem rcopiedh_any (h : Hdr) (ad : Option Addr) (n cap : Nat) (w : World) (hin : HdIn w h ad n cap) (hn : n ≤ 1000000) :
    Calls Tryd.prog 40 #[hdV h ad n cap] w (RetHd w h n) := by
  have HX0 := Lib.hid ((HdRow.new w h ad n cap).below (co_box1 _ (boxH .zero none 0 0)) (by simp))
  have HY0 := Lib.hid (HdRow.new (w.alloc (boxH h ad n cap)) .zero none 0 0)
  have HB0 := Lib.hid (co_box2 w (boxH h ad n cap) (boxH .zero none 0 0))
  have HI0 := Lib.hid (hin.below (co_box2 w (boxH h ad n cap) (boxH .zero none 0 0)))
  have HSZ := Lib.hid (show ((w.alloc (boxH h ad n cap)).alloc (boxH .zero none 0 0)).heap.size = w.heap.size + 2 by simp)
  rw [World.size_alloc] at HY0
  clear hin
  go_enter Tryd.func40, Tryd.ntmps40
  obtain ⟨X0, hX0⟩ : ∃ X, X = (w.alloc (boxH h ad n cap)).alloc (boxH .zero none 0 0) := ⟨_, rfl⟩
  rw [← hX0] at HX0 HY0 HB0 HI0 HSZ
  have HX1 := Lib.hid (HX0.out.below (co_box1 X0 (.cells #[] 54)) HX0.out.lt)
  have HY1 := Lib.hid (HY0.out.below (co_box1 X0 (.cells #[] 54)) HY0.out.lt)
  have HI1 := Lib.hid (HI0.out.below (co_box1 X0 (.cells #[] 54)))
  have HB1 := Lib.hid (HB0.out.alloc HB0.out.size (.cells #[] 54))
  have HO1 := Lib.hid (Of.made 54 5 enC X0 (w.heap.size + 2) (w.heap.size + 2) HSZ.out.symm (Nat.le_refl _))
  have HW1 := Lib.hid (show w.heap.size + 2 ≤ (X0.alloc (.cells #[] 54)).heap.size by have := HSZ.out; simp; omega)
  obtain ⟨-, c0, c1, c2, c3, c4, c5, c6, c7, c8, c9, c10⟩ := HX1.out.at_
  have f8 := HX1.out.frozen 8
  rw [hX0] at HX1 HY1 HI1 HB1 HO1 HW1 c0 c1 c2 c3 c4 c5 c6 c7 c8 c9 c10 f8
  clear HX0 HY0 HB0 HI0 HSZ hX0
  have HLE := Lib.hid (show ([] : List Ent).length + n ≤ 10000000 by simp; omega)
  go_wp2_with (first
    | (at_builtin; refine wpList_append_f typE celE rfl (.tmp 3) (.tmp 5) rfl (w.heap.size + 2) _ [] rfl HO1.out ad n cap h.es HI1.out.nn HI1.out.lf HI1.out.len rfl HLE.out HW1.out ?_; intro v2 w2 ho2 hg2; rw [List.nil_append] at ho2; have HOO := Lib.hid ho2; obtain ⟨ad2, cap2, rfl, -⟩ := ho2.read; rw [← HI1.out.len] at HOO ⊢; have hbb := (Below.refl (w.heap.size + 2) _).grown hg2 HW1.out (fun k hk => by cases hk; exact Nat.le_refl _); have HX2 := Lib.hid (HX1.out.below hbb (by omega)); have HY2 := Lib.hid (HY1.out.below hbb (by omega)); have HB2 := Lib.hid (HB1.out.trans (hbb.mono (by omega))); have HN := Lib.hid HI1.out.len; clear ho2 hg2 hbb c0 c1 c2 c3 c4 c5 c6 c7 c8 c9 c10 f8 HX1 HY1 HB1 HI1 HO1; obtain ⟨-, c0, c1, c2, c3, c4, c5, c6, c7, c8, c9, c10⟩ := HX2.out.at_; have f8 := HX2.out.frozen 8; have HY3 := Lib.hid (HY2.out.other (k := w.heap.size) (by omega) 8 (.slice ad2 n cap2)); have HB3 := Lib.hid (HB2.out.setCell (p := ⟨w.heap.size, 8, none⟩) (Nat.le_refl _) (.slice ad2 n cap2)))
    | ((with_reducible refine st_hdr rfl (.tmp 2) (.tmp 8) rfl rfl h ad2 n cap2 rfl HY3.out ?_)))
  refine post_cell1 (cs := hdC h ad2 n cap2) rfl rfl (HY3.out.put h ad2 n cap2).row Tryd.underlying25 rfl infoHd rfl ?_
  refine ⟨ad2, cap2, rfl, ?_, below_set HB3.out (by omega) _⟩
  have ho : HdOw w2 (w.heap.size + 2) h ad2 n cap2 := ⟨HOO.out, HN.out⟩
  exact ((ho.cell (k := w.heap.size) (by omega) _ _).row (k := w.heap.size + 1) (by omega) _).mono (by omega)
/-- the offset of an entry's part -/
def staU (l : List Ent) (i : Nat) : Int := sumE (l.take i)
theorem sumE_take_le (l : List Ent) (h : ∀ e ∈ l, 0 ≤ e.n) (i : Nat) : 0 ≤ sumE (l.take i) ∧ sumE (l.take i) ≤ sumE l := by
  induction l generalizing i with
  | nil => simp [sumE]
  | cons x l ih =>
    have hx := h x (by simp)
    cases i with
    | zero =>
      have := (ih (fun e he => h e (by simp [he])) 0).2
      simp only [List.take_zero, sumE] at this ⊢
      omega
    | succ i =>
      have := ih (fun e he => h e (by simp [he])) i
      simp only [List.take_succ_cons, sumE]
      omega
set_option maxRecDepth 100000 in
set_option maxHeartbeats 2000000 in
theorem rstart_any (h : Hdr) (ad : Option Addr) (n cap : Nat) (j : Nat) (w : World) (hin : HdIn w h ad n cap) (hj : j ≤ n) (hv : ∀ e ∈ h.es, 0 ≤ e.n) (hs : sumE h.es ≤ 1000000) :
    Calls Tryd.prog 68 #[hdV h ad n cap, .int .i64 j] w fun e w' => e = .returned (.int .i64 (staU h.es j)) ∧ Below w.heap.size w w' := by
  have HX0 := Lib.hid (HdRow.new w h ad n cap)
  have HB0 := Lib.hid (co_box1 w (boxH h ad n cap))
  have HI0 := Lib.hid (hin.below (co_box1 w (boxH h ad n cap)))
  have HN := Lib.hid hin.len
  have HT := Lib.hid (sumE_take_le h.es hv)
  have hcm := Nat.le_trans hin.le hin.mx
  unfold maxLen at hcm
  clear hin hv
  go_enter Tryd.func68, Tryd.ntmps68
  go_wp2_with fail
  generalize World.alloc w _ = X0 at *
  obtain ⟨-, c0, c1, c2, c3, c4, c5, c6, c7, c8, c9, c10⟩ := HX0.out.at_
  go_loopg [5, 6] j (fun gk v5 v6 wx => ∃ (i : Nat) (S : Int), v6 = .int .i64 i ∧ v5 = .int .i64 S ∧ i + gk = j ∧ 0 ≤ S ∧ S ≤ 1000000 ∧ Hid (S = sumE (h.es.take i)) ∧ wx = X0)
  case atStart => exact ⟨0, 0, rfl, rfl, by omega, by omega, by omega, Lib.hid (by simp [sumE]), rfl⟩
  case round =>
    obtain ⟨i, S, rfl, rfl, hi, hS0, hS1, hS, rfl⟩ := hrel
    cases gk with
    | zero =>
      obtain rfl : i = j := by omega
      go_wp2
      go_ret
      exact ⟨retI (by unfold staU; exact hS.out), HB0.out⟩
    | succ gk0 =>
      have hij : i < j := by omega
      have hin2 : i < n := by omega
      have hil : i < h.es.length := by have := HN.out; omega
      obtain ⟨b, off, rfl, hlt, hcell⟩ := HI0.out.lf.get celE hil
      have e3 := hcell 3 _ (by decide) rfl
      have HSN := Lib.hid (show h.es.take (i + 1) = h.es.take i ++ [h.es[i]] by rw [List.take_succ_eq_append_getElem hil])
      have ht := HT.out (i + 1)
      rw [HSN.out, sumE_snoc, ← hS.out] at ht
      clear hcell hlt
      generalize h.es[i] = x at *
      clear hil
      obtain ⟨t1, t2⟩ := ht
      have t3 : S + x.n ≤ 1000000 := by omega
      have hxn : IntKind.i64.wrap (S + x.n) = S + x.n := IntWalk.i64_in _ (by omega)
      clear t2
      go_wp2
      go_roundg gk0
      case rel => exact ⟨i + 1, S + x.n, by go_num, rfl, by omega, t1, t3, Lib.hid (by rw [HSN.out, sumE_snoc, ← hS.out]), rfl⟩
      case measure => omega
end Go.Proofs.YtjiijjdmkeeilaaDoor
