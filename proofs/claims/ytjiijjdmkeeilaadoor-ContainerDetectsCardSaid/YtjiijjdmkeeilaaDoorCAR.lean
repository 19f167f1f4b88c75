/-
  The specification's chunk: what a payload block says.
  Nothing but one block changes.
-/
import Derived.Test.YtjiijjdmkeeilaaDoorCAP
import Derived.Test.YtjiijjdmkeeilaaDoorCAO
import Derived.Test.YtjiijjdmkeeilaaDoorCAE
import Derived.Test.YtjiijjdmkeeilaaDoorCtSame
import Derived.BigQuiet
import Derived.Test.YtjiijjdmkeeilaaDoorCAA
namespace Go.Proofs.YtjiijjdmkeeilaaDoor
open Go.RowKit
set_option linter.unusedVariables false
set_option linter.unusedSimpArgs false
/-- a call gives bytes of its own and an error -/
def RetBE (w : World) (r : List UInt8 × Int) (e : Ending) (w' : World) : Prop := ∃ v, e = .returned (.tuple #[v, .int .i64 r.2]) ∧ Own w' w.heap.size v r.1 ∧ Below w.heap.size w w'
theorem retBE {w w' : World} {R r : List UInt8 × Int} (h : R = r) {v : Value} (ho : Own w' w.heap.size v r.1) (hb : Below w.heap.size w w') : RetBE w R (.returned (.tuple #[v, .int .i64 r.2])) w' := by subst h; exact ⟨v, rfl, ho, hb⟩
theorem retBE0 {w w' : World} {R : List UInt8 × Int} {k : Int} (h : R = ([], k)) (hb : Below w.heap.size w w') : RetBE w R (.returned (.tuple #[.slice none 0 0, .int .i64 k])) w' := by subst h; exact ⟨_, rfl, Own.ofNil _ _, hb⟩
/-- a block lies in block g -/
def BkRow (w : World) (g : Nat) (m bad : Bool) (bd : Option Addr) (n cap : Nat) : Prop := w.heap[g]? = some (.cells #[.bool m, .bool bad, .slice bd n cap] 57 (0, 0))
theorem BkRow.below {W w : World} {g B : Nat} {m bad : Bool} {bd : Option Addr} {n cap : Nat} (h : BkRow W g m bad bd n cap) (hb : Below B W w) (hB : g < B) : BkRow w g m bad bd n cap := (hb.block g hB).trans h
theorem BkRow.lt {w : World} {g : Nat} {m bad : Bool} {bd : Option Addr} {n cap : Nat} (h : BkRow w g m bad bd n cap) : g < w.heap.size := (Array.getElem?_eq_some_iff.1 h).1
theorem BkRow.at_ {w : World} {g : Nat} {m bad : Bool} {bd : Option Addr} {n cap : Nat} (h : BkRow w g m bad bd n cap) :
    w.cell? ⟨g, 0, none⟩ = some (.bool m) ∧ w.cell? ⟨g, 1, none⟩ = some (.bool bad) ∧ w.cell? ⟨g, 2, none⟩ = some (.slice bd n cap) :=
  ⟨cell_of_row w g 0 _ _ _ h, cell_of_row w g 1 _ _ _ h, cell_of_row w g 2 _ _ _ h⟩
theorem be4_four (n : Nat) : (be4 n).length = 4 := rfl
attribute [local irreducible] be4
set_option maxRecDepth 100000 in
set_option maxHeartbeats 8000000 in
theorem rchunk_any (h : Hdr) (ad : Option Addr) (n cap : Nat) (i : Int) (x : Blk) (bd : Option Addr) (bcap : Nat) (w : World) (hv : h.vr = 1 ∨ h.vr = 2) (hi : -1000000000 ≤ i ∧ i ≤ 1000000000) (hz : 0 ≤ h.sz ∧ h.sz ≤ 1000000) (hn : 0 ≤ nU h.vr h.sz i)
    (hl : Lie w bd x.d) (hc : x.d.length ≤ bcap) (hcm : bcap ≤ maxLen) (hbd : bd = none → bcap = 0) (hd : x.d.length ≤ 1000000) :
    Calls Tryd.prog 65 #[hdV h ad n cap, .int .i64 i, .agg #[.bool x.m, .bool x.bad, .slice bd x.d.length bcap]] w (RetBE w (chkU h.vr h.sz i x)) := by
  obtain ⟨xm, xb, xd⟩ := x
  dsimp only at hl hc hd ⊢
  have HX0 := Lib.hid ((HdRow.new w h ad n cap).below (co_box1 _ (.cells #[.bool xm, .bool xb, .slice bd xd.length bcap] 57)) (by simp))
  have HY0 := Lib.hid (show BkRow ((w.alloc (boxH h ad n cap)).alloc (.cells #[.bool xm, .bool xb, .slice bd xd.length bcap] 57)) (w.heap.size + 1) xm xb bd xd.length bcap by have := heap_alloc_new (w.alloc (boxH h ad n cap)) (.cells #[.bool xm, .bool xb, .slice bd xd.length bcap] 57); rw [World.size_alloc] at this; exact this)
  have HB0 := Lib.hid (co_box2 w (boxH h ad n cap) (.cells #[.bool xm, .bool xb, .slice bd xd.length bcap] 57))
  have HL := Lib.hid hl
  have HC := Lib.hid hc
  have HCM := Lib.hid hcm
  have HBD := Lib.hid hbd
  have HU := Lib.hid (show chkU h.vr h.sz i ⟨xm, xb, xd⟩ = if xb = true then ([], 15) else
    if xm = true ∨ (h.vr = 1 ∧ (xd.length : Int) ≠ nU h.vr h.sz i) ∨ (h.vr = 2 ∧ (xd.length : Int) ≠ nU h.vr h.sz i + 4) then ([], 1) else
    if h.vr = 2 ∧ be4 (crc (xd.take (nU h.vr h.sz i).toNat)) ≠ xd.drop (nU h.vr h.sz i).toNat then ([], 4) else (xd.take (nU h.vr h.sz i).toNat, 0) from rfl)
  obtain ⟨R, hR⟩ : ∃ R, R = chkU h.vr h.sz i ⟨xm, xb, xd⟩ := ⟨_, rfl⟩
  rw [← hR] at HU ⊢
  clear hR hl hbd
  obtain ⟨X0, hX0⟩ : ∃ X, X = (w.alloc (boxH h ad n cap)).alloc (.cells #[.bool xm, .bool xb, .slice bd xd.length bcap] 57) := ⟨_, rfl⟩
  rw [← hX0] at HX0 HY0 HB0
  cases xb
  rotate_left
  · have HR := Lib.hid (HU.out.trans (if_pos rfl))
    obtain ⟨c0, c1, c2⟩ := HY0.out.at_
    rw [hX0] at c0 c1 c2 HB0
    clear HU hX0
    go_enter Tryd.func65, Tryd.ntmps65
    go_wp2
    go_ret2
    exact retBE0 HR.out HB0.out
  replace HU := Lib.hid (HU.out.trans (if_neg (by simp)))
  obtain ⟨id, kd, vr, st, ix, da, pa, cm, es, sz, sm⟩ := h
  dsimp only at hv hz hn HU
  obtain ⟨N, hN⟩ : ∃ N : Nat, nU vr sz i = (N : Int) := ⟨(nU vr sz i).toNat, by omega⟩
  have hN64 : N ≤ 64 := by unfold nU prtU at hN; split at hN <;> omega
  rw [hN] at HU
  rw [Int.toNat_natCast] at HU
  obtain ⟨L, hL⟩ : ∃ L, L = xd.length := ⟨_, rfl⟩
  have HLL := Lib.hid hL
  rw [← hL] at HU HY0 hX0 hc ⊢
  have hLm : L ≤ 1000000 := by omega
  obtain ⟨P, hP⟩ : ∃ P, P = prtU vr := ⟨_, rfl⟩
  have HP := Lib.hid hP.symm
  have hP2 : P = 60 ∨ P = 64 := by rw [hP]; unfold prtU; split <;> omega
  have hip : -64000000000 ≤ i * P ∧ i * P ≤ 64000000000 := by rcases hP2 with e | e <;> (rw [e]; omega)
  have kw1 : IntKind.i64.wrap (i * P) = i * P := IntWalk.i64_in _ (by omega)
  have kw2 : IntKind.i64.wrap (sz - i * P) = sz - i * P := IntWalk.i64_in _ (by omega)
  have kmn : min P (sz - i * P) = (N : Int) := by rw [← hN, hP]; rfl
  clear hL hd hP hn hip hP2 hN
  rw [hX0] at HX0 HY0 HB0
  go_enter Tryd.func65, Tryd.ntmps65
  obtain ⟨c0, c1, c2⟩ := HY0.out.at_
  go_wp2_with fail
  clear c0 c1 c2
  rw [← hX0] at HX0 HY0 HB0 ⊢
  clear hX0
  have HBX := Lib.hid (Below.refl X0.heap.size X0).drew
  refine wp_region_noPanic ?_
  refine wp_region_held_drew (S := fun X => Below X0.heap.size X0 X) (by kernel_rfl) (HBX.out) (fun hS0 => ?_)
  refine held_take (i := 0) (v := ?_) rfl (by kernel_rfl) (by kernel_rfl) (by kernel_rfl) (fun _ _ _ h => h) (by rfl) ?_ (by assumption) ?_
  rotate_left
  · intro X hSX
    try dsimp only at hSX
    go_simp <;> with_reducible rfl
  simp only [Act.put, List.setIfInBounds_toArray, List.set_cons_zero, List.set_cons_succ]
  refine held_take (i := 3) (v := ?_) rfl (by kernel_rfl) (by kernel_rfl) (by kernel_rfl) (fun _ _ _ h => h) (by rfl) ?_ (by assumption) ?_
  rotate_left
  · intro X hSX
    try dsimp only at hSX
    go_simp <;> with_reducible rfl
  simp only [Act.put, List.setIfInBounds_toArray, List.set_cons_zero, List.set_cons_succ]
  refine held_take (i := 5) (v := ?_) rfl (by kernel_rfl) (by kernel_rfl) (by kernel_rfl) (fun _ _ _ h => h) (by rfl) ?_ (by assumption) ?_
  rotate_left
  · intro X hSX
    try dsimp only at hSX
    go_simp <;> with_reducible rfl
  simp only [Act.put, List.setIfInBounds_toArray, List.set_cons_zero, List.set_cons_succ]
  refine held_take (i := 6) (v := ?_) rfl (by kernel_rfl) (by kernel_rfl) (by kernel_rfl) (fun _ _ _ h => h) (by rfl) ?_ (by assumption) ?_
  rotate_left
  · intro X hSX
    try dsimp only at hSX
    go_simp <;> with_reducible rfl
  simp only [Act.put, List.setIfInBounds_toArray, List.set_cons_zero, List.set_cons_succ]
  refine held_take (i := 1) (v := ?_) rfl (by kernel_rfl) (by kernel_rfl) (by kernel_rfl) (fun _ _ _ h => h) (by rfl) ?_ (by assumption) ?_
  rotate_left
  · intro X hSX
    try dsimp only at hSX
    obtain ⟨-, c0, c1, c2, c3, c4, c5, c6, c7, c8, c9, c10⟩ := (HX0.out.below hSX HX0.out.lt).at_
    go_simp <;> with_reducible rfl
  simp only [Act.put, List.setIfInBounds_toArray, List.set_cons_zero, List.set_cons_succ]
  refine held_take (i := 4) (v := ?_) rfl (by kernel_rfl) (by kernel_rfl) (by kernel_rfl) (fun _ _ _ h => h) (by rfl) ?_ (by assumption) ?_
  rotate_left
  · intro X hSX
    try dsimp only at hSX
    obtain ⟨-, c0, c1, c2, c3, c4, c5, c6, c7, c8, c9, c10⟩ := (HX0.out.below hSX HX0.out.lt).at_
    go_simp <;> with_reducible rfl
  simp only [Act.put, List.setIfInBounds_toArray, List.set_cons_zero, List.set_cons_succ]
  refine held_take (i := 7) (v := ?_) rfl (by kernel_rfl) (by kernel_rfl) (by kernel_rfl) (fun _ _ _ h => h) (by rfl) ?_ (by assumption) ?_
  rotate_left
  · intro X hSX
    try dsimp only at hSX
    obtain ⟨-, c0, c1, c2, c3, c4, c5, c6, c7, c8, c9, c10⟩ := (HX0.out.below hSX HX0.out.lt).at_
    go_simp <;> with_reducible rfl
  simp only [Act.put, List.setIfInBounds_toArray, List.set_cons_zero, List.set_cons_succ]
  refine held_call (i := 2) rfl (by kernel_rfl) (by rfl) (fun K' hK' => ?_)
  go_simp
  refine (rpart_any vr _).mono ?_
  rw [HP.out]
  rintro e w' ⟨rfl, rfl⟩
  refine held_go hK' (HBX.out) ?_
  try simp only [Act.put, List.setIfInBounds_toArray, List.set_cons_zero, List.set_cons_succ]
  refine held_call (i := 8) rfl (by kernel_rfl) (by rfl) (fun K' hK' => ?_)
  go_simp
  refine (rpart_any vr _).mono ?_
  rw [HP.out]
  rintro e w' ⟨rfl, rfl⟩
  refine held_go hK' (HBX.out) ?_
  try simp only [Act.put, List.setIfInBounds_toArray, List.set_cons_zero, List.set_cons_succ]
  refine held_take (i := 9) (v := ?_) rfl (by kernel_rfl) (by kernel_rfl) (by kernel_rfl) (fun _ _ _ h => h) (by rfl) ?_ (by assumption) ?_
  rotate_left
  · intro X hSX
    try dsimp only at hSX
    go_simp <;> with_reducible rfl
  simp only [Act.put, List.setIfInBounds_toArray, List.set_cons_zero, List.set_cons_succ]
  refine held_take (i := 10) (v := ?_) rfl (by kernel_rfl) (by kernel_rfl) (by kernel_rfl) (fun _ _ _ h => h) (by rfl) ?_ (by assumption) ?_
  rotate_left
  · intro X hSX
    try dsimp only at hSX
    go_simp <;> with_reducible rfl
  simp only [Act.put, List.setIfInBounds_toArray, List.set_cons_zero, List.set_cons_succ]
  refine held_take (i := 11) (v := ?_) rfl (by kernel_rfl) (by kernel_rfl) (by kernel_rfl) (fun _ _ _ h => h) (by rfl) ?_ (by assumption) ?_
  rotate_left
  · intro X hSX
    try dsimp only at hSX
    go_simp <;> with_reducible rfl
  simp only [Act.put, List.setIfInBounds_toArray, List.set_cons_zero, List.set_cons_succ]
  refine held_take (i := 12) (v := ?_) rfl (by kernel_rfl) (by kernel_rfl) (by kernel_rfl) (fun _ _ _ h => h) (by rfl) ?_ (by assumption) ?_
  rotate_left
  · intro X hSX
    try dsimp only at hSX
    go_simp <;> with_reducible rfl
  simp only [Act.put, List.setIfInBounds_toArray, List.set_cons_zero, List.set_cons_succ]
  refine wpAnyH_done (by kernel_rfl) ?_ _
  refine NoPanic.normal ?_
  have HX1 := Lib.hid (HX0.out.below HBX.out HX0.out.lt)
  have HY1 := Lib.hid (HY0.out.below HBX.out HY0.out.lt)
  have HB1 := Lib.hid (HB0.out.trans (HBX.out.mono HB0.out.size))
  clear HX0 HY0 HB0 HBX hS0
  generalize World.drew X0 = X1 at *
  have kif : (if sz - i * P < P then sz - i * P else P) = (N : Int) := by rw [← kmn]; split <;> omega
  rw [kif]
  clear kif kmn kw1 kw2 HP hi
  obtain ⟨-, h0, h1, h2, h3, h4, h5, h6, h7, h8, h9, h10⟩ := HX1.out.at_
  obtain ⟨c0, c1, c2⟩ := HY1.out.at_
  cases xm
  rotate_left
  · have HR := Lib.hid (HU.out.trans (if_pos (.inl rfl)))
    clear HU
    rcases hv with rfl | rfl
    all_goals
      go_wp2_with fail
      go_ret2
      exact retBE0 HR.out HB1.out
  rcases hv with rfl | rfl
  · by_cases hLN : (L : Int) = (N : Int)
    rotate_left
    · have HR := Lib.hid (HU.out.trans (if_pos (.inr (.inl ⟨rfl, hLN⟩))))
      have kne : ((L : Int) != (N : Int)) = true := by simpa using hLN
      clear HU hLN
      go_wp2_with fail
      go_ret2
      exact retBE0 HR.out HB1.out
    have HR := Lib.hid (show R = (xd.take N, 0) from (HU.out.trans (if_neg (by rintro (h | ⟨_, h⟩ | ⟨h, _⟩); cases h; exact h hLN; cases h))).trans (if_neg (by rintro ⟨h, _⟩; cases h)))
    obtain rfl : L = N := by omega
    have kne : ((L : Int) != (L : Int)) = false := by simp
    have HTL := Lib.hid (show (xd.take L).length = L by rw [List.length_take]; have := HLL.out; omega)
    have kfr := fun W : World => run_front bd L bcap L W hc
    have HP1 := Lib.hid ((HL.out.pt (cap := bcap) HC.out 0 L))
    rw [List.drop_zero] at HP1
    have HPN := Lib.hid (ptA_nil HBD.out 0)
    clear HU hLN
    obtain ⟨d0, d1, d2⟩ := (HY1.out.below (co_box1 X1 (.cells #[] 5)) HY1.out.lt).at_
    go_wp2_with (at_builtin; refine wpList_append_u rfl (.tmp 51) (.tmp 55) rfl X1.heap.size _ [] rfl (Own.made X1) _ _ _ (xd.take L) HPN.out (HP1.out.below (HB1.out.alloc HB1.out.size (.cells #[] 5)) rfl) HTL.out.symm rfl (by simp; omega) (by simp) ?_; intro v2 w2 ho2 hg2; rw [List.nil_append] at ho2; have hb12 := (co_box1 X1 (.cells #[] 5)).grown hg2 (by simp) (fun k hk => by cases hk; exact Nat.le_refl _); have HO2 := Lib.hid ho2; have HB2 := Lib.hid (HB1.out.trans (hb12.mono HB1.out.size)); have HX2 := Lib.hid (HX1.out.below hb12 HX1.out.lt); have HY2 := Lib.hid (HY1.out.below hb12 HY1.out.lt); clear ho2 hg2 hb12)
    clear h0 h1 h2 h3 h4 h5 h6 h7 h8 h9 h10 c0 c1 c2 d0 d1 d2 HX1 HY1
    have HBX := Lib.hid (Below.refl w2.heap.size w2).drew
    refine wp_region_noPanic ?_
    refine wp_region_held_drew (S := fun X => Below w2.heap.size w2 X) (by kernel_rfl) (HBX.out) (fun hS0 => ?_)
    refine held_take (i := 0) (v := ?_) rfl (by kernel_rfl) (by kernel_rfl) (by kernel_rfl) (fun _ _ _ h => h) (by rfl) ?_ (by assumption) ?_
    rotate_left
    · intro X hSX
      try dsimp only at hSX
      go_simp <;> with_reducible rfl
    simp only [Act.put, List.setIfInBounds_toArray, List.set_cons_zero, List.set_cons_succ]
    refine held_take (i := 1) (v := ?_) rfl (by kernel_rfl) (by kernel_rfl) (by kernel_rfl) (fun _ _ _ h => h) (by rfl) ?_ (by assumption) ?_
    rotate_left
    · intro X hSX
      try dsimp only at hSX
      obtain ⟨-, c0, c1, c2, c3, c4, c5, c6, c7, c8, c9, c10⟩ := (HX2.out.below hSX HX2.out.lt).at_
      go_simp <;> with_reducible rfl
    simp only [Act.put, List.setIfInBounds_toArray, List.set_cons_zero, List.set_cons_succ]
    refine held_take (i := 2) (v := ?_) rfl (by kernel_rfl) (by kernel_rfl) (by kernel_rfl) (fun _ _ _ h => h) (by rfl) ?_ (by assumption) ?_
    rotate_left
    · intro X hSX
      try dsimp only at hSX
      go_simp <;> with_reducible rfl
    simp only [Act.put, List.setIfInBounds_toArray, List.set_cons_zero, List.set_cons_succ]
    refine held_take (i := 3) (v := ?_) rfl (by kernel_rfl) (by kernel_rfl) (by kernel_rfl) (fun _ _ _ h => h) (by rfl) ?_ (by assumption) ?_
    rotate_left
    · intro X hSX
      try dsimp only at hSX
      go_simp <;> with_reducible rfl
    simp only [Act.put, List.setIfInBounds_toArray, List.set_cons_zero, List.set_cons_succ]
    refine held_skip (i := 4) rfl (by kernel_rfl) (by kernel_rfl) (by kernel_rfl) (fun _ _ _ h => h) (by rfl) (by assumption) ?_
    simp only [Act.put, List.setIfInBounds_toArray, List.set_cons_zero, List.set_cons_succ]
    refine held_skip (i := 8) rfl (by kernel_rfl) (by kernel_rfl) (by kernel_rfl) (fun _ _ _ h => h) (by rfl) (by assumption) ?_
    simp only [Act.put, List.setIfInBounds_toArray, List.set_cons_zero, List.set_cons_succ]
    refine held_skip (i := 10) rfl (by kernel_rfl) (by kernel_rfl) (by kernel_rfl) (fun _ _ _ h => h) (by rfl) (by assumption) ?_
    simp only [Act.put, List.setIfInBounds_toArray, List.set_cons_zero, List.set_cons_succ]
    refine held_skip (i := 9) rfl (by kernel_rfl) (by kernel_rfl) (by kernel_rfl) (fun _ _ _ h => h) (by rfl) (by assumption) ?_
    simp only [Act.put, List.setIfInBounds_toArray, List.set_cons_zero, List.set_cons_succ]
    refine held_skip (i := 11) rfl (by kernel_rfl) (by kernel_rfl) (by kernel_rfl) (fun _ _ _ h => h) (by rfl) (by assumption) ?_
    simp only [Act.put, List.setIfInBounds_toArray, List.set_cons_zero, List.set_cons_succ]
    refine held_skip (i := 12) rfl (by kernel_rfl) (by kernel_rfl) (by kernel_rfl) (fun _ _ _ h => h) (by rfl) (by assumption) ?_
    simp only [Act.put, List.setIfInBounds_toArray, List.set_cons_zero, List.set_cons_succ]
    refine held_skip (i := 5) rfl (by kernel_rfl) (by kernel_rfl) (by kernel_rfl) (fun _ _ _ h => h) (by rfl) (by assumption) ?_
    simp only [Act.put, List.setIfInBounds_toArray, List.set_cons_zero, List.set_cons_succ]
    refine held_skip (i := 6) rfl (by kernel_rfl) (by kernel_rfl) (by kernel_rfl) (fun _ _ _ h => h) (by rfl) (by assumption) ?_
    simp only [Act.put, List.setIfInBounds_toArray, List.set_cons_zero, List.set_cons_succ]
    refine held_skip (i := 7) rfl (by kernel_rfl) (by kernel_rfl) (by kernel_rfl) (fun _ _ _ h => h) (by rfl) (by assumption) ?_
    simp only [Act.put, List.setIfInBounds_toArray, List.set_cons_zero, List.set_cons_succ]
    refine held_skip (i := 13) rfl (by kernel_rfl) (by kernel_rfl) (by kernel_rfl) (fun _ _ _ h => h) (by rfl) (by assumption) ?_
    simp only [Act.put, List.setIfInBounds_toArray, List.set_cons_zero, List.set_cons_succ]
    refine held_take (i := 14) (v := ?_) rfl (by kernel_rfl) (by kernel_rfl) (by kernel_rfl) (fun _ _ _ h => h) (by rfl) ?_ (by assumption) ?_
    rotate_left
    · intro X hSX
      try dsimp only at hSX
      go_simp <;> with_reducible rfl
    simp only [Act.put, List.setIfInBounds_toArray, List.set_cons_zero, List.set_cons_succ]
    refine wpAnyH_done (by kernel_rfl) ?_ _
    refine NoPanic.normal ?_
    obtain ⟨ad2, cap2, e2, -⟩ := HO2.out.slice
    subst e2
    go_wp2_with fail
    go_ret2
    exact retBE HR.out ((HO2.out.below HBX.out).mono HB1.out.size) (HB2.out.trans (HBX.out.mono HB2.out.size))
  · by_cases hLN : (L : Int) = (N : Int) + 4
    rotate_left
    · have HR := Lib.hid (HU.out.trans (if_pos (.inr (.inr ⟨rfl, hLN⟩))))
      have kne : ((L : Int) != (N : Int) + 4) = true := by simpa using hLN
      clear HU hLN
      go_wp2_with fail
      go_ret2
      exact retBE0 HR.out HB1.out
    have HV := Lib.hid (show R = if be4 (crc (xd.take N)) ≠ xd.drop N then ([], 4) else (xd.take N, 0) from (HU.out.trans (if_neg (by rintro (h | ⟨h, _⟩ | ⟨_, h⟩); cases h; cases h; exact h hLN))).trans (by
      by_cases hq : be4 (crc (xd.take N)) = xd.drop N
      · rw [if_neg (fun h => h.2 hq), if_neg (fun h => h hq)]
      · rw [if_pos ⟨rfl, hq⟩, if_pos hq]))
    obtain rfl : L = N + 4 := by omega
    clear HU hLN
    have kne : (((N + 4 : Nat) : Int) != (N : Int) + 4) = false := by simp
    have kne2 : ((N : Int) + 4 != (N : Int) + 4) = false := by simp
    have hNc : N ≤ bcap := by omega
    have HTL := Lib.hid (show (xd.take N).length = N by rw [List.length_take]; have := HLL.out; omega)
    have kfr := fun W : World => run_front bd (N + 4) bcap N W hNc
    have kre : ∀ W : World, (Instr.sliceAt 26 (.slice bd (N + 4) bcap) (some (.int .i64 (N : Int))) none none).run Tryd.prog W = .ok (.slice (ptA bd bcap N) 4 (bcap - N)) W := fun W => by
      have := run_rest bd (N + 4) bcap N W (by omega)
      rwa [show N + 4 - N = 4 by omega] at this
    have HP1 := Lib.hid ((HL.out.pt (cap := bcap) HC.out 0 N))
    rw [List.drop_zero] at HP1
    have HPN := Lib.hid (ptA_nil HBD.out 0)
    have HP3 := Lib.hid ((HL.out.pt (cap := bcap) HC.out N 4))
    have HD4 := Lib.hid (show (xd.drop N).take 4 = xd.drop N from List.take_of_length_le (by rw [List.length_drop]; have := HLL.out; omega))
    have HDL := Lib.hid (show (xd.drop N).length = 4 by rw [List.length_drop]; have := HLL.out; omega)
    rw [HD4.out] at HP3
    obtain ⟨d0, d1, d2⟩ := (HY1.out.below (co_box1 X1 (.cells #[] 5)) HY1.out.lt).at_
    go_wp2_with (at_builtin; refine wpList_append_u rfl (.tmp 51) (.tmp 55) rfl X1.heap.size _ [] rfl (Own.made X1) _ _ _ (xd.take N) HPN.out (HP1.out.below (HB1.out.alloc HB1.out.size (.cells #[] 5)) rfl) HTL.out.symm rfl (by simp; omega) (by simp) ?_; intro v2 w2 ho2 hg2; rw [List.nil_append] at ho2; have hb12 := (co_box1 X1 (.cells #[] 5)).grown hg2 (by simp) (fun k hk => by cases hk; exact Nat.le_refl _); have HO2 := Lib.hid ho2; have HB2 := Lib.hid (HB1.out.trans (hb12.mono HB1.out.size)); have HX2 := Lib.hid (HX1.out.below hb12 HX1.out.lt); have HY2 := Lib.hid (HY1.out.below hb12 HY1.out.lt); clear ho2 hg2 hb12)
    clear h0 h1 h2 h3 h4 h5 h6 h7 h8 h9 h10 c0 c1 c2 d0 d1 d2 HX1 HY1
    obtain ⟨ad2, cap2, e2, hl2, -, -, -⟩ := HO2.out.slice
    rw [HTL.out] at e2
    subst e2
    have HL2 := Lib.hid hl2
    clear hl2
    obtain ⟨TS, hTS⟩ : ∃ TS, TS = (⟨(be4 (crc (xd.take N))).toArray⟩ : ByteArray) := ⟨_, rfl⟩
    obtain ⟨TT, hTT⟩ : ∃ TT, TT = (⟨(xd.drop N).toArray⟩ : ByteArray) := ⟨_, rfl⟩
    have HCT : Hid (∀ X, Lie X (ptA bd bcap N) (xd.drop N) → (convert 26 9 (.slice (ptA bd bcap N) 4 (bcap - N))).run Tryd.prog X = .ok (.string TT) X) := Lib.hid fun X h => by
      have := conv_lie (bcap - N) h
      rw [HDL.out, ← hTT] at this
      exact this
    have HCS : Hid (∀ X g, Lie X (some ⟨g, 0, none⟩) (be4 (crc (xd.take N))) → (convert 26 9 (.slice (some ⟨g, 0, none⟩) 4 4)).run Tryd.prog X = .ok (.string TS) X) := Lib.hid fun X g h => by
      have := conv_lie 4 h
      rw [be4_four, ← hTS] at this
      exact this
    have HCR := Lib.hid (crc_lt (xd.take N))
    have HBX := Lib.hid (Below.refl w2.heap.size w2).drew
    refine wp_region_noPanic ?_
    refine wp_region_held_drew (S := fun X => Below w2.heap.size w2 X) (by kernel_rfl) (HBX.out) (fun hS0 => ?_)
    generalize World.drew w2 = X3 at *
    refine held_take (i := 0) (v := ?_) rfl (by kernel_rfl) (by kernel_rfl) (by kernel_rfl) (fun _ _ _ h => h) (by rfl) ?_ (by assumption) ?_
    rotate_left
    · intro X hSX
      try dsimp only at hSX
      go_simp <;> with_reducible rfl
    simp only [Act.put, List.setIfInBounds_toArray, List.set_cons_zero, List.set_cons_succ]
    refine held_take (i := 1) (v := ?_) rfl (by kernel_rfl) (by kernel_rfl) (by kernel_rfl) (fun _ _ _ h => h) (by rfl) ?_ (by assumption) ?_
    rotate_left
    · intro X hSX
      try dsimp only at hSX
      obtain ⟨-, c0, c1, c2, c3, c4, c5, c6, c7, c8, c9, c10⟩ := (HX2.out.below hSX HX2.out.lt).at_
      go_simp <;> with_reducible rfl
    simp only [Act.put, List.setIfInBounds_toArray, List.set_cons_zero, List.set_cons_succ]
    refine held_take (i := 2) (v := ?_) rfl (by kernel_rfl) (by kernel_rfl) (by kernel_rfl) (fun _ _ _ h => h) (by rfl) ?_ (by assumption) ?_
    rotate_left
    · intro X hSX
      try dsimp only at hSX
      go_simp <;> with_reducible rfl
    simp only [Act.put, List.setIfInBounds_toArray, List.set_cons_zero, List.set_cons_succ]
    refine held_take (i := 3) (v := ?_) rfl (by kernel_rfl) (by kernel_rfl) (by kernel_rfl) (fun _ _ _ h => h) (by rfl) ?_ (by assumption) ?_
    rotate_left
    · intro X hSX
      try dsimp only at hSX
      go_simp <;> with_reducible rfl
    simp only [Act.put, List.setIfInBounds_toArray, List.set_cons_zero, List.set_cons_succ]
    refine held_take (i := 4) (v := ?_) rfl (by kernel_rfl) (by kernel_rfl) (by kernel_rfl) (fun _ _ _ h => h) (by rfl) ?_ (by assumption) ?_
    rotate_left
    · intro X hSX
      try dsimp only at hSX
      go_simp <;> with_reducible rfl
    simp only [Act.put, List.setIfInBounds_toArray, List.set_cons_zero, List.set_cons_succ]
    refine held_take (i := 8) (v := ?_) rfl (by kernel_rfl) (by kernel_rfl) (by kernel_rfl) (fun _ _ _ h => h) (by rfl) ?_ (by assumption) ?_
    rotate_left
    · intro X hSX
      try dsimp only at hSX
      go_simp <;> with_reducible rfl
    simp only [Act.put, List.setIfInBounds_toArray, List.set_cons_zero, List.set_cons_succ]
    refine held_take (i := 10) (v := ?_) rfl (by kernel_rfl) (by kernel_rfl) (by kernel_rfl) (fun _ _ _ h => h) (by rfl) ?_ (by assumption) ?_
    rotate_left
    · intro X hSX
      try dsimp only at hSX
      go_simp <;> with_reducible rfl
    simp only [Act.put, List.setIfInBounds_toArray, List.set_cons_zero, List.set_cons_succ]
    refine held_take (i := 9) (v := ?_) rfl (by kernel_rfl) (by kernel_rfl) (by kernel_rfl) (fun _ _ _ h => h) (by rfl) ?_ (by assumption) ?_
    rotate_left
    · intro X hSX
      try dsimp only at hSX
      obtain ⟨c0, c1, c2⟩ := (HY2.out.below hSX HY2.out.lt).at_
      go_simp <;> with_reducible rfl
    simp only [Act.put, List.setIfInBounds_toArray, List.set_cons_zero, List.set_cons_succ]
    refine held_take (i := 11) (v := ?_) rfl (by kernel_rfl) (by kernel_rfl) (by kernel_rfl) (fun _ _ _ h => h) (by rfl) ?_ (by assumption) ?_
    rotate_left
    · intro X hSX
      try dsimp only at hSX
      go_simp <;> with_reducible rfl
    simp only [Act.put, List.setIfInBounds_toArray, List.set_cons_zero, List.set_cons_succ]
    refine held_take (i := 12) (v := ?_) rfl (by kernel_rfl) (by kernel_rfl) (by kernel_rfl) (fun _ _ _ h => h) (by rfl) ?_ (by assumption) ?_
    rotate_left
    · intro X hSX
      try dsimp only at hSX
      have cv := HCT.out X ((HP3.out.below HB2.out rfl).below hSX rfl)
      go_simp <;> with_reducible rfl
    simp only [Act.put, List.setIfInBounds_toArray, List.set_cons_zero, List.set_cons_succ]
    refine held_call (i := 5) rfl (by kernel_rfl) (by rfl) (fun K' hK' => ?_)
    go_simp
    refine (rcsum_any _ _ cap2 (xd.take N) _ (HL2.out.below HBX.out rfl) HTL.out.symm (by have := HTL.out; omega)).mono ?_
    rintro e w' ⟨rfl, rfl⟩
    refine held_go hK' (HBX.out) ?_
    try simp only [Act.put, List.setIfInBounds_toArray, List.set_cons_zero, List.set_cons_succ]
    refine held_call (i := 6) rfl (by kernel_rfl) (by rfl) (fun K' hK' => ?_)
    go_simp
    refine (rfour15_any _ _ HCR.out).mono ?_
    rintro e w3 ⟨rfl, hl3, -, hb3⟩
    have HS3 := Lib.hid (HBX.out.trans (hb3.mono HBX.out.size))
    have cv3 := HCS.out _ _ hl3
    clear hl3 hb3
    refine held_go hK' (HS3.out) ?_
    try simp only [Act.put, List.setIfInBounds_toArray, List.set_cons_zero, List.set_cons_succ]
    refine held_call (i := 7) rfl (by kernel_rfl) (by rfl) (fun K' hK' => ?_)
    go_simp
    refine held_go hK' (HS3.out) ?_
    try simp only [Act.put, List.setIfInBounds_toArray, List.set_cons_zero, List.set_cons_succ]
    clear cv3
    by_cases hq : be4 (crc (xd.take N)) = xd.drop N
    · have HR := Lib.hid (HV.out.trans (if_neg (fun h => h hq)))
      have kst : (TS.toList == TT.toList) = true := by rw [hTS, hTT, hq]; simp
      have kst2 : (be4 (crc (xd.take N)) == xd.drop N) = true := by simpa using hq
      clear hq HV hTS hTT
      refine held_take (i := 13) (v := ?_) rfl (by kernel_rfl) (by kernel_rfl) (by kernel_rfl) (fun _ _ _ h => h) (by rfl) ?_ (by assumption) ?_
      rotate_left
      · intro X hSX
        try dsimp only at hSX
        go_simp <;> with_reducible rfl
      simp only [Act.put, List.setIfInBounds_toArray, List.set_cons_zero, List.set_cons_succ]
      refine held_take (i := 14) (v := ?_) rfl (by kernel_rfl) (by kernel_rfl) (by kernel_rfl) (fun _ _ _ h => h) (by rfl) ?_ (by assumption) ?_
      rotate_left
      · intro X hSX
        try dsimp only at hSX
        go_simp <;> with_reducible rfl
      simp only [Act.put, List.setIfInBounds_toArray, List.set_cons_zero, List.set_cons_succ]
      refine wpAnyH_done (by kernel_rfl) ?_ _
      refine NoPanic.normal ?_
      go_wp2_with fail
      go_ret2
      exact retBE HR.out ((HO2.out.below HS3.out).mono HB1.out.size) (HB2.out.trans (HS3.out.mono HB2.out.size))
    · have HR := Lib.hid (HV.out.trans (if_pos hq))
      have kst : (TS.toList == TT.toList) = false := by rw [hTS, hTT]; exact textC_beq (textC_inj hq)
      have kst2 : (be4 (crc (xd.take N)) == xd.drop N) = false := by simpa using hq
      clear hq HV hTS hTT
      refine held_take (i := 13) (v := ?_) rfl (by kernel_rfl) (by kernel_rfl) (by kernel_rfl) (fun _ _ _ h => h) (by rfl) ?_ (by assumption) ?_
      rotate_left
      · intro X hSX
        try dsimp only at hSX
        go_simp <;> with_reducible rfl
      simp only [Act.put, List.setIfInBounds_toArray, List.set_cons_zero, List.set_cons_succ]
      refine held_take (i := 14) (v := ?_) rfl (by kernel_rfl) (by kernel_rfl) (by kernel_rfl) (fun _ _ _ h => h) (by rfl) ?_ (by assumption) ?_
      rotate_left
      · intro X hSX
        try dsimp only at hSX
        go_simp <;> with_reducible rfl
      simp only [Act.put, List.setIfInBounds_toArray, List.set_cons_zero, List.set_cons_succ]
      refine wpAnyH_done (by kernel_rfl) ?_ _
      refine NoPanic.normal ?_
      go_wp2_with fail
      go_ret2
      exact retBE0 HR.out (HB2.out.trans (HS3.out.mono HB2.out.size))
end Go.Proofs.YtjiijjdmkeeilaaDoor
namespace Go.Proofs.YtjiijjdmkeeilaaDoor
open Go.RowKit
set_option linter.unusedVariables false
/-- nothing but block g has changed -/
structure RdKeep (g : Nat) (w w' : World) : Prop where
  below : Below g w w'
  keep : ∀ k, k ≠ g → k < w.heap.size → w'.heap[k]? = w.heap[k]?
  size : w.heap.size ≤ w'.heap.size
theorem RdKeep.set {g : Nat} {w W : World} (h : RdKeep g W w) (j : Nat) (v : Value) : RdKeep g W (w.setCell ⟨g, j, none⟩ v) :=
  ⟨h.below.setCell (p := ⟨g, j, none⟩) (Nat.le_refl _) v, fun k hk hl => (Below.heap_setCell _ _ _ _ (by show k ≠ g; exact hk)).trans (h.keep k hk hl), by simpa using h.size⟩
theorem RdKeep.trans {g : Nat} {w w1 w2 : World} (h : RdKeep g w w1) (h2 : RdKeep g w1 w2) : RdKeep g w w2 :=
  ⟨h.below.trans h2.below, fun k hk hl => (h2.keep k hk (Nat.lt_of_lt_of_le hl h.size)).trans (h.keep k hk hl), Nat.le_trans h.size h2.size⟩
theorem RdKeep.of_below {g : Nat} {w w' : World} (h : Below w.heap.size w w') (hg : g < w.heap.size) : RdKeep g w w' := ⟨h.mono (Nat.le_of_lt hg), fun k _ hl => h.block k hl, h.size⟩
end Go.Proofs.YtjiijjdmkeeilaaDoor
