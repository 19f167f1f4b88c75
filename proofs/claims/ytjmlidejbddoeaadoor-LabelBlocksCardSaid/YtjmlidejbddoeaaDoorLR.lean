/-
  A law of a row's operation, for one operation of a region that draws its order; steps of such regions.
  The program's unpack.
-/
import Derived.Test.YtjmlidejbddoeaaDoorLN
import Derived.Deep.RegionWith
import Derived.Test.YtjmlidejbddoeaaDoorLQ
import Derived.Test.YtjmlidejbddoeaaDoorLI
namespace Go.Proofs.YtjmlidejbddoeaaDoor
open Go.RowKit
set_option linter.unusedVariables false
def onlyN (K : Act → World → Prop) : Exit → Act → World → Prop
  | .normal, a, w => K a w
  | _, _, _ => False
theorem oper_of_list {P : Program} {ops : Array Oper} {o : Oper} {a : Act} {w : World} {K : Act → World → Prop} {Q : Exit → Act → World → Prop} (hg : Region.wanted o (yielded ops a.tmps) = true) (h : wpList P ops (onlyN K) [o] a w) : o.wp P a w K Q := by
  unfold wpList at h
  rw [if_pos hg] at h
  have hl : ¬ LetsOut (onlyN K) := fun ⟨_, _, h⟩ => h
  rcases h with h | ⟨_, h⟩
  · replace h : Oper.wp P o a w K (onlyN K) := h
    unfold Oper.wp at *
    generalize (execOp a.eval o).run P w = r at *
    cases r with
    | ok n w' =>
      cases n <;> simp only [Oper.upon] at h ⊢
      all_goals first
        | exact h
        | exact Calls.mono h (fun e w'' he => by
            cases e
            · exact he
            · exact False.elim he
            · exact absurd he hl)
    | halt x w' =>
      cases x <;> simp only [Oper.upon] at h ⊢
      all_goals first | exact h | exact False.elim h
  · exact absurd h hl
theorem onlyN_end {P : Program} {ops : Array Oper} {K : Act → World → Prop} {a : Act} {w : World} (h : K a w) : wpList P ops (onlyN K) [] a w := h
end Go.Proofs.YtjmlidejbddoeaaDoor
namespace Go.Proofs.YtjmlidejbddoeaaDoor
open Go.RowKit
set_option linter.unusedVariables false
/-- a chain of what a body's reader reads -/
structure Rds (xs : List UInt8) where
  s1 : ByteArray
  p1 : Int
  e1 : Int
  s2 : ByteArray
  p2 : Int
  e2 : Int
  s3 : ByteArray
  p3 : Int
  e3 : Int
  n4 : Int
  p4 : Int
  e4 : Int
  n5 : Int
  p5 : Int
  e5 : Int
  h1 : txU xs 0 0 = (s1, p1, e1)
  h2 : txU xs p1 e1 = (s2, p2, e2)
  h3 : txU xs p2 e2 = (s3, p3, e3)
  h4 : nmU xs p3 e3 = (n4, p4, e4)
  h5 : nmU xs p4 e4 = (n5, p5, e5)
theorem rds_any (xs : List UInt8) : Nonempty (Rds xs) := by
  rcases h1 : txU xs 0 0 with ⟨s1, p1, e1⟩
  rcases h2 : txU xs p1 e1 with ⟨s2, p2, e2⟩
  rcases h3 : txU xs p2 e2 with ⟨s3, p3, e3⟩
  rcases h4 : nmU xs p3 e3 with ⟨n4, p4, e4⟩
  rcases h5 : nmU xs p4 e4 with ⟨n5, p5, e5⟩
  exact ⟨⟨s1, p1, e1, s2, p2, e2, s3, p3, e3, n4, p4, e4, n5, p5, e5, h1, h2, h3, h4, h5⟩⟩
/-- what unpack answers -/
noncomputable def Rds.ans {xs : List UInt8} (r : Rds xs) : Lbl × Int :=
  if r.e1 = 0 ∧ r.s1 ≠ volume then (.zero, 1) else if r.e5 ≠ 0 then (.zero, r.e5) else if r.p5 < xs.length then (.zero, 3) else (⟨r.s2, r.s3, r.n4, r.n5⟩, 0)
theorem txU_z (xs : List UInt8) (A : Int) : txU xs A 0 = tR xs A 24 := by unfold txU; rw [if_pos rfl]
theorem nmU_z (xs : List UInt8) (A : Int) : nmU xs A 0 = iR xs A := by unfold nmU; rw [if_pos rfl]
theorem txU_e {xs : List UInt8} {A E : Int} (h : E ≠ 0) : txU xs A E = (emS, A, E) := by unfold txU; rw [if_neg h]
theorem nmU_e {xs : List UInt8} {A E : Int} (h : E ≠ 0) : nmU xs A E = (0, A, E) := by unfold nmU; rw [if_neg h]
theorem Rds.fld {xs : List UInt8} (r : Rds xs) : fldT xs = if r.ans.2 ≠ 0 then (.zero, r.ans.2) else if vldT r.ans.1 = false then (.zero, 8) else r.ans := by
  obtain ⟨s1, p1, e1, s2, p2, e2, s3, p3, e3, n4, p4, e4, n5, p5, e5, h1, h2, h3, h4, h5⟩ := r
  unfold Rds.ans
  dsimp only
  rw [txU_z] at h1
  rcases t2 : tR xs p1 24 with ⟨S2, P2, E2⟩
  rcases t3 : tR xs P2 24 with ⟨S3, P3, E3⟩
  rcases t4 : iR xs P3 with ⟨N4, P4, E4⟩
  rcases t5 : iR xs P4 with ⟨N5, P5, E5⟩
  rw [fldT_parts h1 t2 t3 t4 t5]
  by_cases g1 : e1 = 0
  rotate_left
  · rw [txU_e g1] at h2; cases h2
    rw [txU_e g1] at h3; cases h3
    rw [nmU_e g1] at h4; cases h4
    rw [nmU_e g1] at h5; cases h5
    simp [g1]
  subst g1
  by_cases gv : s1 = volume
  rotate_left
  · simp [gv]
  subst gv
  rw [txU_z, t2] at h2; cases h2
  by_cases g2 : e2 = 0
  rotate_left
  · rw [txU_e g2] at h3; cases h3
    rw [nmU_e g2] at h4; cases h4
    rw [nmU_e g2] at h5; cases h5
    simp [g2]
  subst g2
  rw [txU_z, t3] at h3; cases h3
  by_cases g3 : e3 = 0
  rotate_left
  · rw [nmU_e g3] at h4; cases h4
    rw [nmU_e g3] at h5; cases h5
    simp [g3]
  subst g3
  rw [nmU_z, t4] at h4; cases h4
  by_cases g4 : e4 = 0
  rotate_left
  · rw [nmU_e g4] at h5; cases h5
    simp [g4]
  subst g4
  rw [nmU_z, t5] at h5; cases h5
  by_cases g5 : e5 = 0
  rotate_left
  · simp [g5]
  subst g5
  by_cases g6 : p5 < xs.length
  · simp [g6]
  · simp [g6]
theorem LrRow.putOther {w : World} {g k : Nat} {ad : Option Addr} {n cap : Nat} {A E : Int} (h : LrRow w g ad n cap A E) (hk : g ≠ k) (cs : Array Value) : LrRow (w.setRow k cs) g ad n cap A E := (setRow_other _ _ _ _ hk).trans h
theorem LrRow.new (w : World) (ad : Option Addr) (n cap : Nat) (A E : Int) : LrRow (w.alloc (.cells #[.slice ad n cap, .int .i64 A, .int .i64 E] 84)) w.heap.size ad n cap A E := heap_alloc_new w _
/-- unpack on its way: the label's box, the reader's box -/
structure Ust (w : World) (ad : Option Addr) (n cap : Nat) (Y : World) (A E : Int) : Prop where
  l : LbRow Y w.heap.size .zero
  r : LrRow Y (w.heap.size + 1) ad n cap A E
  b : Below w.heap.size w Y
theorem Ust.next {w Y Y' : World} {ad : Option Addr} {n cap : Nat} {A E A' E' : Int} (h : Ust w ad n cap Y A E) (hr : LrRow Y' (w.heap.size + 1) ad n cap A' E') (hk : RdKeep (w.heap.size + 1) Y Y') : Ust w ad n cap Y' A' E' :=
  ⟨(hk.keep _ (by omega) h.l.at_.lt).trans h.l, hr, h.b.trans (hk.below.mono (by omega))⟩
theorem Ust.start (w : World) (ad : Option Addr) (n cap : Nat) : Ust w ad n cap ((w.alloc (.cells #[.string ⟨#[]⟩, .string ⟨#[]⟩, .int .i64 0, .int .i64 0] 23)).alloc (.cells #[.slice ad n cap, .int .i64 0, .int .i64 0] 84)) 0 0 :=
  ⟨(LbRow.new w .zero).below (vl_box1 _ _) (by simp), by have := LrRow.new (w.alloc (.cells #[.string ⟨#[]⟩, .string ⟨#[]⟩, .int .i64 0, .int .i64 0] 23)) ad n cap 0 0; rwa [World.size_alloc] at this, vl_box2 _ _ _⟩
theorem Ust.drew {w Y : World} {ad : Option Addr} {n cap : Nat} {A E : Int} (h : Ust w ad n cap Y A E) : Ust w ad n cap Y.drew A E := ⟨h.l, h.r, h.b.drew⟩
attribute [local irreducible] txU nmU
set_option maxRecDepth 100000 in
set_option maxHeartbeats 4000000 in
theorem unpack_any (ad : Option Addr) (n cap : Nat) (xs : List UInt8) (r : Rds xs) (w : World) (hl : Lie w ad xs) (hn : n = xs.length) (hc : n ≤ cap) (hs : n ≤ 1000000) (ha : ad = none → cap = 0) :
    Calls Tryd.prog 36 #[.slice ad n cap] w (RetL2 w r.ans) := by
  obtain ⟨R, hR⟩ : ∃ R, R = r.ans := ⟨_, rfl⟩
  rw [← hR]
  obtain ⟨s1, p1, e1, s2, p2, e2, s3, p3, e3, n4, p4, e4, n5, p5, e5, h1, h2, h3, h4, h5⟩ := r
  have HA := Lib.hid (show R = if e1 = 0 ∧ s1 ≠ volume then (.zero, 1) else if e5 ≠ 0 then (.zero, e5) else if p5 < (n : Int) then (.zero, 3) else (⟨s2, s3, n4, n5⟩, 0) by rw [hR, hn]; rfl)
  have HT : ∀ g A E s p e, txU xs A E = (s, p, e) → Hid (∀ W, LrRow W g ad n cap A E → Lie W ad xs → Calls Tryd.prog 59 #[.pointer (some ⟨g, 0, none⟩)] W fun en w' => en = .returned (.string s) ∧ LrRow w' g ad n cap p e ∧ RdKeep g W w') := fun g A E s p e h => Lib.hid fun W h1 h2 => by
    have := rtx_any g ad n cap xs A E W h1 h2 hn hc hs ha
    rw [h] at this
    exact this
  have HNM : ∀ g A E s p e, nmU xs A E = (s, p, e) → Hid (∀ W, LrRow W g ad n cap A E → Lie W ad xs → Calls Tryd.prog 60 #[.pointer (some ⟨g, 0, none⟩)] W fun en w' => en = .returned (.int .i64 s) ∧ LrRow w' g ad n cap p e ∧ RdKeep g W w') := fun g A E s p e h => Lib.hid fun W h1 h2 => by
    have := rnm_any g ad n cap xs A E W h1 h2 hn hc hs ha
    rw [h] at this
    exact this
  have C1 := HT (w.heap.size + 1) _ _ _ _ _ h1
  have C2 := HT (w.heap.size + 1) _ _ _ _ _ h2
  have C3 := HT (w.heap.size + 1) _ _ _ _ _ h3
  have C4 := HNM (w.heap.size + 1) _ _ _ _ _ h4
  have C5 := HNM (w.heap.size + 1) _ _ _ _ _ h5
  have HL := Lib.hid hl
  have HVE := Lib.hid (@volume_beq s1)
  clear hR h1 h2 h3 h4 h5 hl hn ha HT HNM
  have HU0 := Lib.hid (Ust.start w ad n cap)
  go_enter Tryd.func36, Tryd.ntmps36
  go_wp2_with fail
  generalize World.alloc _ _ = Y0 at *
  refine (C1.out _ HU0.out.r (HL.out.below HU0.out.b rfl)).mono ?_
  rintro e Y1 ⟨rfl, hr, hk⟩
  have HU1 := Lib.hid (HU0.out.next hr hk)
  clear hr hk HU0
  obtain ⟨c0, c1, c2⟩ := HU1.out.r.at_
  by_cases g1 : e1 = 0
  · by_cases gv : s1 = volume
    · have HB1 := Lib.hid (HA.out.trans (if_neg (fun h => h.2 gv)))
      subst g1
      subst gv
      have kv : (volume.toList == [118, 111, 108, 117, 109, 101]) = true := by decide +kernel
      clear HA HVE
      go_wp2_with fail
      refine (C2.out _ HU1.out.r (HL.out.below HU1.out.b rfl)).mono ?_
      rintro e Y2 ⟨rfl, hr, hk⟩
      have HU2 := Lib.hid (HU1.out.next hr hk)
      clear hr hk c0 c1 c2 HU1
      go_wp2_with fail
      refine (C3.out _ HU2.out.r (HL.out.below HU2.out.b rfl)).mono ?_
      rintro e Y3 ⟨rfl, hr, hk⟩
      have HU3 := Lib.hid (HU2.out.next hr hk)
      clear hr hk HU2
      go_wp2_with fail
      refine (C4.out _ HU3.out.r (HL.out.below HU3.out.b rfl)).mono ?_
      rintro e Y4 ⟨rfl, hr, hk⟩
      have HU4 := Lib.hid (HU3.out.next hr hk)
      clear hr hk HU3
      go_wp2_with fail
      refine (C5.out _ HU4.out.r (HL.out.below HU4.out.b rfl)).mono ?_
      rintro e Y5 ⟨rfl, hr, hk⟩
      have HU5 := Lib.hid (HU4.out.next hr hk)
      clear hr hk HU4 C1 C2 C3 C4 C5
      obtain ⟨c0, c1, c2⟩ := HU5.out.r.at_
      by_cases g5 : e5 = 0
      rotate_left
      · have k5 : (e5 != 0) = true := by simpa using g5
        have HR := Lib.hid (HB1.out.trans (if_pos g5))
        clear g5
        go_wp2_with fail
        have HU6 := Lib.hid HU5.out.drew
        clear c0 c1 c2 HU5
        refine wp_region_noPanic ?_
        refine wp_region_held_drew (S := fun X => LrRow X (w.heap.size + 1) ad n cap p5 e5) (by kernel_rfl) (HU6.out.r) (fun hS0 => ?_)
        generalize World.drew Y5 = X0 at *
        refine held_take (i := 0) (v := ?_) rfl (by kernel_rfl) (by kernel_rfl) (by kernel_rfl) (fun _ _ _ h => h) (by rfl) ?_ (by assumption) ?_
        rotate_left
        · intro X hSX
          try dsimp only at hSX
          go_simp <;> with_reducible rfl
        simp only [Act.put, List.setIfInBounds_toArray, List.set_cons_zero, List.set_cons_succ]
        refine held_take (i := 1) (v := ?_) rfl (by kernel_rfl) (by kernel_rfl) (by kernel_rfl) (fun _ _ _ h => h) (by rfl) ?_ (by assumption) ?_
        rotate_left
        · intro X hSX
          try dsimp only at hSX
          go_simp <;> with_reducible rfl
        simp only [Act.put, List.setIfInBounds_toArray, List.set_cons_zero, List.set_cons_succ]
        refine held_take (i := 2) (v := ?_) rfl (by kernel_rfl) (by kernel_rfl) (by kernel_rfl) (fun _ _ _ h => h) (by rfl) ?_ (by assumption) ?_
        rotate_left
        · intro X hSX
          try dsimp only at hSX
          obtain ⟨c0, c1, c2⟩ := LrRow.at_ hSX
          go_simp <;> with_reducible rfl
        simp only [Act.put, List.setIfInBounds_toArray, List.set_cons_zero, List.set_cons_succ]
        refine held_call (i := 3) rfl (by kernel_rfl) (by rfl) (fun K' hK' => ?_)
        refine oper_of_list (ops := #[]) rfl (wpList_store_lb rfl (.tmp 2) (.tmp 28) rfl w.heap.size rfl .zero .zero rfl HU6.out.l (onlyN_end ?_))
        have hS3 := HU6.out.r.putOther (k := w.heap.size) (by omega) (lbC .zero)
        refine held_go hK' (hS3) ?_
        try dsimp only
        refine held_take (i := 4) (v := ?_) rfl (by kernel_rfl) (by kernel_rfl) (by kernel_rfl) (fun _ _ _ h => h) (by rfl) ?_ (by assumption) ?_
        rotate_left
        · intro X hSX
          try dsimp only at hSX
          go_simp <;> with_reducible rfl
        simp only [Act.put, List.setIfInBounds_toArray, List.set_cons_zero, List.set_cons_succ]
        refine wpAnyH_done (by kernel_rfl) ?_ _
        refine NoPanic.normal ?_
        go_wp2_with fail
        refine post_cell2 (cs := lbC .zero) (x := .int .i64 e5) rfl rfl (HU6.out.l.put .zero).row Tryd.underlying23 rfl infoLb rfl rfl ?_
        exact retL2 HR.out (below_set HU6.out.b (Nat.le_refl _) _)
      subst g5
      by_cases g6 : p5 < (n : Int)
      · have HR := Lib.hid ((HB1.out.trans (if_neg (by simp))).trans (if_pos g6))
        go_wp2_with (with_reducible refine wpList_store_lb rfl (.tmp 2) (.tmp 36) rfl w.heap.size rfl .zero .zero rfl HU5.out.l ?_)
        refine post_cell2 (cs := lbC .zero) (x := .int .i64 3) rfl rfl (HU5.out.l.put .zero).row Tryd.underlying23 rfl infoLb rfl rfl ?_
        exact retL2 HR.out (below_set HU5.out.b (Nat.le_refl _) _)
      · have HR := Lib.hid ((HB1.out.trans (if_neg (by simp))).trans (if_neg g6))
        go_wp2_with (with_reducible refine wpList_store_lb rfl (.tmp 2) (.tmp 41) rfl w.heap.size rfl ⟨s2, s3, n4, n5⟩ .zero rfl HU5.out.l ?_)
        refine post_cell2 (cs := lbC ⟨s2, s3, n4, n5⟩) (x := .int .i64 0) rfl rfl (HU5.out.l.put ⟨s2, s3, n4, n5⟩).row Tryd.underlying23 rfl infoLb rfl rfl ?_
        exact retL2 HR.out (below_set HU5.out.b (Nat.le_refl _) _)
    · have HR := Lib.hid (HA.out.trans (if_pos ⟨g1, gv⟩))
      subst g1
      have k1 := HVE.out gv
      clear gv
      go_wp2_with (with_reducible refine wpList_store_lb rfl (.tmp 2) (.tmp 20) rfl w.heap.size rfl .zero .zero rfl HU1.out.l ?_)
      refine post_cell2 (cs := lbC .zero) (x := .int .i64 1) rfl rfl (HU1.out.l.put .zero).row Tryd.underlying23 rfl infoLb rfl rfl ?_
      exact retL2 HR.out (below_set HU1.out.b (Nat.le_refl _) _)
  · have HB1 := Lib.hid (HA.out.trans (if_neg (fun h => g1 h.1)))
    have k1 : (e1 == 0) = false := by simpa using g1
    clear HA HVE g1
    go_wp2_with fail
    refine (C2.out _ HU1.out.r (HL.out.below HU1.out.b rfl)).mono ?_
    rintro e Y2 ⟨rfl, hr, hk⟩
    have HU2 := Lib.hid (HU1.out.next hr hk)
    clear hr hk c0 c1 c2 HU1
    go_wp2_with fail
    refine (C3.out _ HU2.out.r (HL.out.below HU2.out.b rfl)).mono ?_
    rintro e Y3 ⟨rfl, hr, hk⟩
    have HU3 := Lib.hid (HU2.out.next hr hk)
    clear hr hk HU2
    go_wp2_with fail
    refine (C4.out _ HU3.out.r (HL.out.below HU3.out.b rfl)).mono ?_
    rintro e Y4 ⟨rfl, hr, hk⟩
    have HU4 := Lib.hid (HU3.out.next hr hk)
    clear hr hk HU3
    go_wp2_with fail
    refine (C5.out _ HU4.out.r (HL.out.below HU4.out.b rfl)).mono ?_
    rintro e Y5 ⟨rfl, hr, hk⟩
    have HU5 := Lib.hid (HU4.out.next hr hk)
    clear hr hk HU4 C1 C2 C3 C4 C5
    obtain ⟨c0, c1, c2⟩ := HU5.out.r.at_
    by_cases g5 : e5 = 0
    rotate_left
    · have k5 : (e5 != 0) = true := by simpa using g5
      have HR := Lib.hid (HB1.out.trans (if_pos g5))
      clear g5
      go_wp2_with fail
      have HU6 := Lib.hid HU5.out.drew
      clear c0 c1 c2 HU5
      refine wp_region_noPanic ?_
      refine wp_region_held_drew (S := fun X => LrRow X (w.heap.size + 1) ad n cap p5 e5) (by kernel_rfl) (HU6.out.r) (fun hS0 => ?_)
      generalize World.drew Y5 = X0 at *
      refine held_take (i := 0) (v := ?_) rfl (by kernel_rfl) (by kernel_rfl) (by kernel_rfl) (fun _ _ _ h => h) (by rfl) ?_ (by assumption) ?_
      rotate_left
      · intro X hSX
        try dsimp only at hSX
        go_simp <;> with_reducible rfl
      simp only [Act.put, List.setIfInBounds_toArray, List.set_cons_zero, List.set_cons_succ]
      refine held_take (i := 1) (v := ?_) rfl (by kernel_rfl) (by kernel_rfl) (by kernel_rfl) (fun _ _ _ h => h) (by rfl) ?_ (by assumption) ?_
      rotate_left
      · intro X hSX
        try dsimp only at hSX
        go_simp <;> with_reducible rfl
      simp only [Act.put, List.setIfInBounds_toArray, List.set_cons_zero, List.set_cons_succ]
      refine held_take (i := 2) (v := ?_) rfl (by kernel_rfl) (by kernel_rfl) (by kernel_rfl) (fun _ _ _ h => h) (by rfl) ?_ (by assumption) ?_
      rotate_left
      · intro X hSX
        try dsimp only at hSX
        obtain ⟨c0, c1, c2⟩ := LrRow.at_ hSX
        go_simp <;> with_reducible rfl
      simp only [Act.put, List.setIfInBounds_toArray, List.set_cons_zero, List.set_cons_succ]
      refine held_call (i := 3) rfl (by kernel_rfl) (by rfl) (fun K' hK' => ?_)
      refine oper_of_list (ops := #[]) rfl (wpList_store_lb rfl (.tmp 2) (.tmp 28) rfl w.heap.size rfl .zero .zero rfl HU6.out.l (onlyN_end ?_))
      have hS3 := HU6.out.r.putOther (k := w.heap.size) (by omega) (lbC .zero)
      refine held_go hK' (hS3) ?_
      try dsimp only
      refine held_take (i := 4) (v := ?_) rfl (by kernel_rfl) (by kernel_rfl) (by kernel_rfl) (fun _ _ _ h => h) (by rfl) ?_ (by assumption) ?_
      rotate_left
      · intro X hSX
        try dsimp only at hSX
        go_simp <;> with_reducible rfl
      simp only [Act.put, List.setIfInBounds_toArray, List.set_cons_zero, List.set_cons_succ]
      refine wpAnyH_done (by kernel_rfl) ?_ _
      refine NoPanic.normal ?_
      go_wp2_with fail
      refine post_cell2 (cs := lbC .zero) (x := .int .i64 e5) rfl rfl (HU6.out.l.put .zero).row Tryd.underlying23 rfl infoLb rfl rfl ?_
      exact retL2 HR.out (below_set HU6.out.b (Nat.le_refl _) _)
    subst g5
    by_cases g6 : p5 < (n : Int)
    · have HR := Lib.hid ((HB1.out.trans (if_neg (by simp))).trans (if_pos g6))
      go_wp2_with (with_reducible refine wpList_store_lb rfl (.tmp 2) (.tmp 36) rfl w.heap.size rfl .zero .zero rfl HU5.out.l ?_)
      refine post_cell2 (cs := lbC .zero) (x := .int .i64 3) rfl rfl (HU5.out.l.put .zero).row Tryd.underlying23 rfl infoLb rfl rfl ?_
      exact retL2 HR.out (below_set HU5.out.b (Nat.le_refl _) _)
    · have HR := Lib.hid ((HB1.out.trans (if_neg (by simp))).trans (if_neg g6))
      go_wp2_with (with_reducible refine wpList_store_lb rfl (.tmp 2) (.tmp 41) rfl w.heap.size rfl ⟨s2, s3, n4, n5⟩ .zero rfl HU5.out.l ?_)
      refine post_cell2 (cs := lbC ⟨s2, s3, n4, n5⟩) (x := .int .i64 0) rfl rfl (HU5.out.l.put ⟨s2, s3, n4, n5⟩).row Tryd.underlying23 rfl infoLb rfl rfl ?_
      exact retL2 HR.out (below_set HU5.out.b (Nat.le_refl _) _)
end Go.Proofs.YtjmlidejbddoeaaDoor
