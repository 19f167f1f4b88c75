/-
  The program's begin, hasEntries, Valid.
-/
import Derived.Test.YtjiijjdmkeeilaaDoorCAO
import Derived.Test.YtjiijjdmkeeilaaDoorCBA
import Derived.Test.YtjiijjdmkeeilaaDoorCpVal
import Derived.Laws.Slices
import Derived.BigQuiet
namespace Go.Proofs.YtjiijjdmkeeilaaDoor
open Go.RowKit
set_option linter.unusedVariables false
set_option linter.unusedSimpArgs false
set_option maxRecDepth 100000
theorem cellsE1 : (sizeOf (Tryd.prog.elem 22)).run Tryd.prog = fun w => .ok 5 w := by funext w; go_simp
theorem run_frontE (ad : Option Addr) (n cap b : Nat) (w : World) (h1 : b ≤ cap) :
    (Instr.sliceAt 22 (.slice ad n cap) none (some (.int .i64 (b : Int))) none).run Tryd.prog w = .ok (.slice (ptA ad cap 0) b cap) w := by
  rw [run_sliceAt_slice w _ _ _ _ _ Tryd.underlying22, run_slice_h w _ ad n cap Tryd.underlying22 .i64 b (by omega) (by omega), cellsE1]
  simp [Result.andThen, sliced, ptA]
theorem Lf.pt0 {α : Type} {c : α → List Value} {w : World} {ad : Option Addr} {l : List α} (h : Lf c w ad l) (cap : Nat) : Lf c w (ptA ad cap 0) l := by
  rcases h with h0 | ⟨b, off, rfl, hlt, hc⟩
  · exact .inl h0
  · refine .inr ⟨b, off, ?_, hlt, hc⟩
    unfold ptA
    split <;> rfl
set_option maxRecDepth 100000 in
set_option maxHeartbeats 2000000 in
theorem begin15_any (h : Hdr) (ad : Option Addr) (n cap : Nat) (j : Nat) (w : World) (hin : HdIn w h ad n cap) (hj : j ≤ n) (hv : ∀ e ∈ h.es, 0 ≤ e.n) (hs : sumE h.es ≤ 1000000) :
    Calls Tryd.prog 67 #[hdV h ad n cap, .int .i64 j] w fun e w' => e = .returned (.int .i64 (staU h.es j)) ∧ Below w.heap.size w w' := by
  have HX0 := Lib.hid (HdRow.new w h ad n cap)
  have HB0 := Lib.hid (co_box1 w (boxH h ad n cap))
  have HI0 := Lib.hid (hin.below (co_box1 w (boxH h ad n cap)))
  have HN := Lib.hid hin.len
  have HT := Lib.hid (sumE_take_le h.es hv)
  have hcm := Nat.le_trans hin.le hin.mx
  have kfr := fun W => run_frontE ad n cap j W (Nat.le_trans hj hin.le)
  have hq := fun W (hh : Lf enC W ad h.es) => Lf.pt0 hh cap
  unfold maxLen at hcm
  clear hin hv
  generalize ptA ad cap 0 = qd at *
  have HQ := Lib.hid (hq _ HI0.out.lf)
  clear hq
  go_enter Tryd.func67, Tryd.ntmps67
  obtain ⟨-, c0, c1, c2, c3, c4, c5, c6, c7, c8, c9, c10⟩ := HX0.out.at_
  go_wp2_with fail
  clear c0 c1 c2 c3 c4 c5 c6 c7 c8 c9 c10
  generalize World.alloc w _ = X0 at *
  clear kfr
  go_loopg [5, 13] j (fun gk v5 v13 wx => ∃ (i : Nat) (S : Int), v13 = .int .i64 i ∧ v5 = .int .i64 S ∧ i + gk = j ∧ 0 ≤ S ∧ S ≤ 1000000 ∧ Hid (S = sumE (h.es.take i)) ∧ Hid (Below X0.heap.size X0 wx))
  case atStart => exact ⟨0, 0, rfl, rfl, by omega, by omega, by omega, Lib.hid (by simp [sumE]), Lib.hid (Below.refl _ _)⟩
  case round =>
    obtain ⟨i, S, rfl, rfl, hi, hS0, hS1, hS, hB⟩ := hrel
    cases gk with
    | zero =>
      obtain rfl : i = j := by omega
      have HB1 := Lib.hid (HB0.out.trans (hB.out.mono HB0.out.size))
      go_wp2
      go_ret
      exact ⟨retI (by unfold staU; exact hS.out), HB1.out⟩
    | succ gk0 =>
      have hij : i < j := by omega
      have hin2 : i < n := by omega
      have hil : i < h.es.length := by have := HN.out; omega
      obtain ⟨b, off, rfl, hlt, hcell⟩ := (HQ.out.below hB.out).get celE hil
      have e0 : wr.cell? ⟨b, off + i * 5, none⟩ = _ := hcell 0 _ (by decide) rfl
      have e1 := hcell 1 _ (by decide) rfl
      have e2 := hcell 2 _ (by decide) rfl
      have e3 := hcell 3 _ (by decide) rfl
      have e4 := hcell 4 _ (by decide) rfl
      have HSN := Lib.hid (show h.es.take (i + 1) = h.es.take i ++ [h.es[i]] by rw [List.take_succ_eq_append_getElem hil])
      have ht := HT.out (i + 1)
      rw [HSN.out, sumE_snoc, ← hS.out] at ht
      clear hcell hlt
      generalize h.es[i] = x at *
      clear hil
      obtain ⟨t1, t2⟩ := ht
      have t3 : S + x.n ≤ 1000000 := by omega
      have hxn : IntKind.i64.wrap (S + x.n) = S + x.n := IntWalk.i64_in _ (by omega)
      have HB1 := Lib.hid (hB.out.alloc hB.out.size (.cells #[.int .i64 x.f, .int .i64 x.v, .int .i64 x.o, .int .i64 x.n, .int .u32 (x.s : Int)] 54))
      clear t2
      go_wp2
      go_roundg gk0
      case rel => exact ⟨i + 1, S + x.n, by go_num, rfl, by omega, t1, t3, Lib.hid (by rw [HSN.out, sumE_snoc, ← hS.out]), HB1⟩
      case measure => omega
theorem says_outside : SaysE 80 (fun x => !entB x) := ⟨fun args w => by go_simp, outside_any⟩
open Classical in
/-- the entries are valid -/
noncomputable def esB (h : Hdr) : Bool := decide (VEs h)
open Classical in
theorem esB_yes {e : Hdr} (h : VEs e) : esB e = true := by unfold esB; exact decide_eq_true h
open Classical in
theorem esB_no {e : Hdr} (h : ¬ VEs e) : esB e = false := by unfold esB; exact decide_eq_false h
open Classical in
theorem esB_iff {e : Hdr} : esB e = true ↔ VEs e := by unfold esB; exact decide_eq_true_iff
set_option maxRecDepth 100000 in
set_option maxHeartbeats 2000000 in
theorem hasent_any (h : Hdr) (ad : Option Addr) (n cap : Nat) (w : World) (hin : HdIn w h ad n cap) (hs : ∀ e ∈ h.es, e.s < 4294967296) :
    Calls Tryd.prog 48 #[hdV h ad n cap] w fun e w' => e = .returned (.bool (esB h)) ∧ Below w.heap.size w w' := by
  have HY := Lib.hid (@esB_yes h)
  have HN := Lib.hid (@esB_no h)
  have HX0 := Lib.hid (HdRow.new w h ad n cap)
  have HB0 := Lib.hid (co_box1 w (boxH h ad n cap))
  have HI0 := Lib.hid (hin.below (co_box1 w (boxH h ad n cap)))
  have HNL := Lib.hid hin.len
  have hcm := Nat.le_trans hin.le hin.mx
  unfold maxLen at hcm
  have HS := Lib.hid hs
  clear hin hs
  unfold VEs at HY HN
  generalize esB h = V at *
  obtain ⟨-, c0, c1, c2, c3, c4, c5, c6, c7, c8, c9, c10⟩ := HX0.out.at_
  by_cases g0 : h.kd = 0
  rotate_left
  · have k0 := ne_t g0
    replace HY := Lib.hid (fun e => HY.out (by rw [if_pos g0]; exact e))
    replace HN := Lib.hid (fun e => HN.out (by rw [if_pos g0]; exact e))
    clear g0
    by_cases gn : n ≤ 0
    · have HR := Lib.hid (HY.out (List.eq_nil_of_length_eq_zero (by have := HNL.out; omega)))
      have kn : ((n : Int) == 0) = true := eq_t (by omega)
      go_enter Tryd.func48, Tryd.ntmps48
      go_wp2
      go_ret
      exact ⟨by rw [HR.out]; try rfl, HB0.out⟩
    · have HR := Lib.hid (HN.out (fun e => gn (by have := HNL.out; rw [e] at this; simp at this; omega)))
      have kn : ((n : Int) == 0) = false := eq_f (by omega)
      go_enter Tryd.func48, Tryd.ntmps48
      go_wp2
      go_ret
      exact ⟨by rw [HR.out]; try rfl, HB0.out⟩
  have k0 := ne_f g0
  replace HY := Lib.hid (fun e => HY.out (by rw [if_neg (by simpa using g0)]; exact e))
  replace HN := Lib.hid (fun e => HN.out (by rw [if_neg (by simpa using g0)]; exact e))
  clear g0
  by_cases g1 : 64 < n
  · have HR := Lib.hid (HN.out (fun e => by have := e.1; have := HNL.out; omega))
    go_enter Tryd.func48, Tryd.ntmps48
    go_wp2
    go_ret
    exact ⟨by rw [HR.out]; try rfl, HB0.out⟩
  go_enter Tryd.func48, Tryd.ntmps48
  go_wp2_with fail
  generalize World.alloc w _ = X0 at *
  clear c0 c1 c2 c3 c4 c5 c6 c7 c8 c9 c10
  refine (econtains_any 80 _ says_outside ad n cap h.es _ HI0.out.lf HNL.out (by omega) HS.out).mono ?_
  generalize hA : h.es.any (fun x => !entB x) = A
  rintro e X1 ⟨rfl, hb1⟩
  have HX1 := Lib.hid (HX0.out.below hb1 HX0.out.lt)
  have HI1 := Lib.hid (HI0.out.below hb1)
  have HB1 := Lib.hid (HB0.out.trans (hb1.mono HB0.out.size))
  have HA := Lib.hid hA
  clear hb1 HX0 HI0 HB0 hA
  cases A
  rotate_left
  · have HR := Lib.hid (HN.out (fun e => by
      obtain ⟨x, hx, hb⟩ := List.any_eq_true.1 HA.out
      rw [entB_yes (e.2.1 x hx)] at hb
      cases hb))
    clear HY HN
    go_wp2
    go_ret
    exact ⟨by rw [HR.out]; try rfl, HB1.out⟩
  have HE : Hid (∀ e ∈ h.es, VEnt e) := Lib.hid (fun e he => by
    have := List.any_eq_false.1 HA.out e he
    exact entB_iff.1 (by simpa using this))
  have HSU := Lib.hid (show sumE h.es ≤ 4096 * n by
    have key : ∀ l : List Ent, (∀ e ∈ l, VEnt e) → sumE l ≤ 4096 * l.length := by
      intro l
      induction l with
      | nil => intro _; simp [sumE]
      | cons x l ih =>
        intro h
        have h1 := (h x (by simp)).2.2.2.1
        have h2 := ih (fun e he => h e (by simp [he]))
        simp only [sumE, List.length_cons]
        omega
    have := key h.es HE.out
    have := HNL.out
    omega)
  obtain ⟨-, c0, c1, c2, c3, c4, c5, c6, c7, c8, c9, c10⟩ := HX1.out.at_
  have HBG := Lib.hid (fun W (hW : HdIn W h ad n cap) => begin15_any h ad n cap n W hW (Nat.le_refl _) (fun e he => (HE.out e he).2.2.2.1.1) (by have := HSU.out; omega))
  rw [show staU h.es n = sumE h.es by unfold staU; rw [List.take_of_length_le (by have := HNL.out; omega)]] at HBG
  replace HY := Lib.hid (fun (e : sumE h.es = h.sz) => HY.out ⟨by have := HNL.out; omega, HE.out, e⟩)
  replace HN := Lib.hid (fun (e : ¬ sumE h.es = h.sz) => HN.out (fun q => e q.2.2))
  generalize sumE h.es = S at *
  go_wp2_with fail
  clear c0 c1 c2 c3 c4 c5 c6 c7 c8 c9 c10
  have HBX := Lib.hid (Below.refl X1.heap.size X1).drew
  have HGG := Lib.hid (fun X (hX : Below X1.heap.size X1 X) => HX1.out.below hX HX1.out.lt)
  refine wp_region_noPanic ?_
  refine wp_region_held_drew (S := fun X => Below X1.heap.size X1 X) (by kernel_rfl) (HBX.out) (fun hS0 => ?_)
  generalize World.drew X1 = X2 at *
  refine held_take (i := 0) (v := ?_) rfl (by kernel_rfl) (by kernel_rfl) (by kernel_rfl) (fun _ _ _ h => h) (by rfl) ?_ (by assumption) ?_
  rotate_left
  · intro X hSX
    try dsimp only at hSX
    obtain ⟨-, c0, c1, c2, c3, c4, c5, c6, c7, c8, c9, c10⟩ := (HGG.out X hSX).at_
    go_simp <;> with_reducible rfl
  simp only [Act.put, List.setIfInBounds_toArray, List.set_cons_zero, List.set_cons_succ]
  refine held_take (i := 1) (v := ?_) rfl (by kernel_rfl) (by kernel_rfl) (by kernel_rfl) (fun _ _ _ h => h) (by rfl) ?_ (by assumption) ?_
  rotate_left
  · intro X hSX
    try dsimp only at hSX
    go_simp <;> with_reducible rfl
  simp only [Act.put, List.setIfInBounds_toArray, List.set_cons_zero, List.set_cons_succ]
  refine held_take (i := 5) (v := ?_) rfl (by kernel_rfl) (by kernel_rfl) (by kernel_rfl) (fun _ _ _ h => h) (by rfl) ?_ (by assumption) ?_
  rotate_left
  · intro X hSX
    try dsimp only at hSX
    go_simp <;> with_reducible rfl
  simp only [Act.put, List.setIfInBounds_toArray, List.set_cons_zero, List.set_cons_succ]
  refine held_take (i := 2) (v := ?_) rfl (by kernel_rfl) (by kernel_rfl) (by kernel_rfl) (fun _ _ _ h => h) (by rfl) ?_ (by assumption) ?_
  rotate_left
  · intro X hSX
    try dsimp only at hSX
    have c8 := (HGG.out X hSX).at_.c8
    have c9 := (HGG.out X hSX).at_.c9
    go_simp <;> with_reducible rfl
  simp only [Act.put, List.setIfInBounds_toArray, List.set_cons_zero, List.set_cons_succ]
  refine held_take (i := 6) (v := ?_) rfl (by kernel_rfl) (by kernel_rfl) (by kernel_rfl) (fun _ _ _ h => h) (by rfl) ?_ (by assumption) ?_
  rotate_left
  · intro X hSX
    try dsimp only at hSX
    have c8 := (HGG.out X hSX).at_.c8
    have c9 := (HGG.out X hSX).at_.c9
    go_simp <;> with_reducible rfl
  simp only [Act.put, List.setIfInBounds_toArray, List.set_cons_zero, List.set_cons_succ]
  refine held_take (i := 3) (v := ?_) rfl (by kernel_rfl) (by kernel_rfl) (by kernel_rfl) (fun _ _ _ h => h) (by rfl) ?_ (by assumption) ?_
  rotate_left
  · intro X hSX
    try dsimp only at hSX
    go_simp <;> with_reducible rfl
  simp only [Act.put, List.setIfInBounds_toArray, List.set_cons_zero, List.set_cons_succ]
  refine held_call (i := 4) rfl (by kernel_rfl) (by rfl) (fun K' hK' => ?_)
  go_simp
  refine (HBG.out _ (HI1.out.below HBX.out)).mono ?_
  rintro e X3 ⟨rfl, hb3⟩
  have HS3 := Lib.hid (HBX.out.trans (hb3.mono HBX.out.size))
  clear hb3
  refine held_go hK' (HS3.out) ?_
  try simp only [Act.put, List.setIfInBounds_toArray, List.set_cons_zero, List.set_cons_succ]
  refine held_take (i := 7) (v := ?_) rfl (by kernel_rfl) (by kernel_rfl) (by kernel_rfl) (fun _ _ _ h => h) (by rfl) ?_ (by assumption) ?_
  rotate_left
  · intro X hSX
    try dsimp only at hSX
    go_simp <;> with_reducible rfl
  simp only [Act.put, List.setIfInBounds_toArray, List.set_cons_zero, List.set_cons_succ]
  refine held_take (i := 8) (v := ?_) rfl (by kernel_rfl) (by kernel_rfl) (by kernel_rfl) (fun _ _ _ h => h) (by rfl) ?_ (by assumption) ?_
  rotate_left
  · intro X hSX
    try dsimp only at hSX
    go_simp <;> with_reducible rfl
  simp only [Act.put, List.setIfInBounds_toArray, List.set_cons_zero, List.set_cons_succ]
  refine wpAnyH_done (by kernel_rfl) ?_ _
  refine NoPanic.normal ?_
  have HB3 := Lib.hid (HB1.out.trans (HS3.out.mono HB1.out.size))
  by_cases hq : S = h.sz
  · have HR := Lib.hid (HY.out hq)
    have kq := eq_t hq
    clear hq
    go_wp2_with fail
    go_ret
    exact ⟨by rw [HR.out, kq]; try rfl, HB3.out⟩
  · have HR := Lib.hid (HN.out hq)
    have kq := eq_f hq
    clear hq
    go_wp2_with fail
    go_ret
    exact ⟨by rw [HR.out, kq]; try rfl, HB3.out⟩
set_option maxRecDepth 100000 in
set_option maxHeartbeats 2000000 in
theorem valid15_any (h : Hdr) (ad : Option Addr) (n cap : Nat) (w : World) (hin : HdIn w h ad n cap) (hs : ∀ e ∈ h.es, e.s < 4294967296) :
    Calls Tryd.prog 15 #[hdV h ad n cap] w fun e w' => e = .returned (.bool (vldH h)) ∧ Below w.heap.size w w' := by
  have HX0 := Lib.hid (HdRow.new w h ad n cap)
  have HB0 := Lib.hid (co_box1 w (boxH h ad n cap))
  have HNM := Lib.hid (fun W => hasnum_any h ad n cap W)
  have HPL := Lib.hid (fun hk W => hasplace_any h ad n cap W hk)
  have HEN := Lib.hid (fun W (hW : Below w.heap.size w W) => hasent_any h ad n cap W (hin.below hW) hs)
  have HV := Lib.hid (show vldH h = (numB h && plcB h && esB h) by
    rw [Bool.eq_iff_iff, vldH_iff, Bool.and_eq_true, Bool.and_eq_true, numB_iff, plcB_iff, esB_iff]
    unfold VHdr
    constructor
    · rintro ⟨a, b, c, d⟩; exact ⟨⟨⟨a, c⟩, b⟩, d⟩
    · rintro ⟨⟨⟨a, c⟩, b⟩, d⟩; exact ⟨a, b, c, d⟩)
  have HK := Lib.hid (fun q : numB h = true => show 0 ≤ h.kd ∧ h.kd ≤ 2 from (numB_iff.1 q).1.1)
  generalize vldH h = V at *
  generalize numB h = A at *
  generalize plcB h = B at *
  generalize esB h = C at *
  clear hin hs
  go_enter Tryd.func15, Tryd.ntmps15
  go_wp2_with (with_reducible refine ld_hdr rfl (.tmp 1) rfl rfl HX0.out ?_)
  generalize World.alloc w _ = X0 at *
  refine (HNM.out _).mono ?_
  rintro e X1 ⟨rfl, hb1⟩
  have HX1 := Lib.hid (HX0.out.below hb1 HX0.out.lt)
  have HB1 := Lib.hid (HB0.out.trans (hb1.mono HB0.out.size))
  clear hb1 HX0 HB0 HNM
  cases A
  · go_wp2_with fail
    go_ret
    exact ⟨by rw [HV.out]; rfl, HB1.out⟩
  go_wp2_with (with_reducible refine wpList_unguard rfl (ld_hdr rfl (.tmp 1) rfl rfl HX1.out ?_))
  refine (HPL.out (HK.out (by trivial)) _).mono ?_
  rintro e X2 ⟨rfl, hb2⟩
  have HX2 := Lib.hid (HX1.out.below hb2 HX1.out.lt)
  have HB2 := Lib.hid (HB1.out.trans (hb2.mono HB1.out.size))
  clear hb2 HX1 HB1 HPL
  cases B
  · go_wp2_with fail
    go_ret
    exact ⟨by rw [HV.out]; rfl, HB2.out⟩
  go_wp2_with (with_reducible refine wpList_unguard rfl (ld_hdr rfl (.tmp 1) rfl rfl HX2.out ?_))
  refine (HEN.out _ HB2.out).mono ?_
  rintro e X3 ⟨rfl, hb3⟩
  have HB3 := Lib.hid (HB2.out.trans (hb3.mono HB2.out.size))
  clear hb3
  go_wp2_with fail
  go_ret
  exact ⟨by rw [HV.out]; rfl, HB3.out⟩
end Go.Proofs.YtjiijjdmkeeilaaDoor
