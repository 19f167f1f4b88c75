/-
  The program's Read.
-/
import Derived.Test.YtepmmlnopdjjdaaDpRun3
import Derived.Test.YtepmmlnopdjjdaaDpOut
import Derived.Deep.DeepCutAuto
namespace Go.Proofs.Ytepmmlnopdjjdaa
open Go.RowKit
set_option linter.unusedVariables false
set_option linter.unusedSimpArgs false
set_option maxRecDepth 100000
/-- behind the operation: what lies in Read's boxes -/
structure RdC (w X : World) (d1 : Drv) (y1 : Crt) (ad1 : Option Addr) (cap1 : Nat) (q1 : List Blk) (q2 : Int) (zd : Option Addr) (zn zc : Nat) : Prop where
  d : X.heap[w.heap.size + 1]? = some (.cells (drK d1) 25 (0, 0))
  c : X.heap[w.heap.size + 2]? = some (.cells (crQ y1 ad1 cap1) 30 (0, 0))
  x : X.heap[w.heap.size + 4]? = some (.cells (drK drZ) 25 (0, 0))
  y : X.heap[w.heap.size + 5]? = some (.cells (crQ crZ none 0) 30 (0, 0))
  gb : X.heap[w.heap.size + 6]? = some (.cells #[.slice zd zn zc] 28 (0, 0))
  ge : X.heap[w.heap.size + 7]? = some (.cells #[.int .i64 q2] 37 (0, 0))
  b : Below w.heap.size w X
  i : CrIn X y1 ad1 cap1
  k : Kfr X (w.heap.size + 8) ad1 y1.l
  z : Kfr X (w.heap.size + 8) zd q1
  zl : zn = q1.length
  zb : zn ≤ zc ∧ zc ≤ maxLen ∧ (zd = none → zc = 0)
theorem RdC.drew {w X : World} {d1 : Drv} {y1 : Crt} {ad1 : Option Addr} {cap1 : Nat} {q1 : List Blk} {q2 : Int} {zd : Option Addr} {zn zc : Nat} (h : RdC w X d1 y1 ad1 cap1 q1 q2 zd zn zc) : RdC w X.drew d1 y1 ad1 cap1 q1 q2 zd zn zc :=
  ⟨h.d, h.c, h.x, h.y, h.gb, h.ge, h.b.drew, h.i.below (Below.refl X.heap.size X).drew, h.k, h.z, h.zl, h.zb⟩
theorem Kfr.low {X : World} {C C' : Nat} {ad : Option Addr} {l : List Blk} (h : Kfr X C ad l) (hC : C' ≤ C) : Kfr X C' ad l := h.st (fun _ _ _ => rfl) (Nat.le_refl _) hC
theorem rdc_end {w X : World} {ad0 : Option Addr} {l0 : List Blk} {d1 : Drv} {y1 : Crt} {ad1 : Option Addr} {cap1 : Nat} {q1 : List Blk} {q2 t1 er : Int} {zd : Option Addr} {zn zc : Nat} (h : RdC w X d1 y1 ad1 cap1 q1 q2 zd zn zc) :
    RetDK w ad0 l0 (d1, y1, q1, t1, er) (.returned (.tuple #[.agg (drK d1), .agg (crQ y1 ad1 cap1), .slice zd zn zc, .int .i64 t1, .int .i64 er])) ((X.setRow (w.heap.size + 4) (drK d1)).setRow (w.heap.size + 5) (crQ y1 ad1 cap1)) := by
  have ha : ∀ k, w.heap.size + 8 ≤ k → ((X.setRow (w.heap.size + 4) (drK d1)).setRow (w.heap.size + 5) (crQ y1 ad1 cap1)).heap[k]? = X.heap[k]? := fun k hk => by rw [setRow_other _ _ _ _ (by omega), setRow_other _ _ _ _ (by omega)]
  have hs : X.heap.size ≤ ((X.setRow (w.heap.size + 4) (drK d1)).setRow (w.heap.size + 5) (crQ y1 ad1 cap1)).heap.size := by simp [World.setRow]
  refine ⟨ad1, cap1, zd, zn, zc, rfl, h.zl, ⟨h.k _ (fun k hk _ => ha k hk) hs, h.i.le, h.i.mx, h.i.nn, h.i.bs⟩, KpS.new (fun Y hY hys => h.k Y (fun k h1 h2 => (hY k (by omega) (Nat.lt_of_lt_of_le h2 hs)).trans (ha k h1)) (Nat.le_trans hs hys)), h.z.st (fun k hk _ => ha k hk) hs (by omega), h.zb.1, h.zb.2.1, h.zb.2.2, below_set (below_set h.b (by omega) _) (by omega) _⟩
theorem rdc_make {w X1 w2 : World} {d d1 : Drv} {c y1 : Crt} {ad ad' : Option Addr} {cap cap' : Nat} {rq : List Blk × Int} {zd : Option Addr} {zn zc : Nat} (hsz : w.heap.size + 8 ≤ X1.heap.size) (hs2 : X1.heap.size ≤ w2.heap.size) (hd : w2.heap[w.heap.size + 1]? = some (.cells (drK d) 25 (0, 0))) (hc : w2.heap[w.heap.size + 2]? = some (.cells (crQ c ad cap) 30 (0, 0)))
    (hx : w2.heap[w.heap.size + 4]? = some (.cells (drK drZ) 25 (0, 0))) (hy : w2.heap[w.heap.size + 5]? = some (.cells (crQ crZ none 0) 30 (0, 0))) (hg : w2.heap[w.heap.size + 6]? = some (.cells #[.slice zd zn zc] 28 (0, 0))) (he : w2.heap[w.heap.size + 7]? = some (.cells #[.int .i64 rq.2] 37 (0, 0)))
    (hb : Below w.heap.size w w2) (hi : CrIn w2 y1 ad' cap') (hk : Kfr w2 X1.heap.size ad' y1.l) (hz : zn = rq.1.length ∧ Kfr w2 (X1.heap.size + 5) zd rq.1 ∧ zn ≤ zc ∧ zc ≤ maxLen ∧ (zd = none → zc = 0)) :
    RdC w ((w2.setRow (w.heap.size + 1) (drK d1)).setRow (w.heap.size + 2) (crQ y1 ad' cap')) d1 y1 ad' cap' rq.1 rq.2 zd zn zc := by
  have ho : ∀ k, k ≠ w.heap.size + 1 → k ≠ w.heap.size + 2 → ((w2.setRow (w.heap.size + 1) (drK d1)).setRow (w.heap.size + 2) (crQ y1 ad' cap')).heap[k]? = w2.heap[k]? := fun k h1 h2 => by rw [setRow_other _ _ _ _ h2, setRow_other _ _ _ _ h1]
  have hs : w2.heap.size ≤ ((w2.setRow (w.heap.size + 1) (drK d1)).setRow (w.heap.size + 2) (crQ y1 ad' cap')).heap.size := by simp [World.setRow]
  refine ⟨?_, setRow_heap _ _ _ _ _ _ (row_keep hc (by omega)), (ho _ (by omega) (by omega)).trans hx, (ho _ (by omega) (by omega)).trans hy, (ho _ (by omega) (by omega)).trans hg, (ho _ (by omega) (by omega)).trans he, below_set (below_set hb (by omega) _) (by omega) _,
    ⟨hk _ (fun k h1 h2 => ho k (by omega) (by omega)) hs, hi.le, hi.mx, hi.nn, hi.bs⟩, hk.st (fun k h1 h2 => ho k (by omega) (by omega)) hs hsz, hz.2.1.st (fun k h1 h2 => ho k (by omega) (by omega)) hs (by omega), hz.1, hz.2.2⟩
  rw [setRow_other _ _ _ _ (by omega)]
  exact setRow_heap _ _ _ _ _ _ hd
attribute [local irreducible] tim vld bar cnt okB capU allB vldC mdlU drvU due worn inc pas loc rd frs fstU mvD mvC rdS rdQ
set_option maxHeartbeats 8000000 in
theorem dread_any (m : Mdl) (d : Drv) (c : Crt) (ad : Option Addr) (cap : Nat) (n : Int) (w : World) (hin : CrIn w c ad cap) (hn : n ≤ 9223372036854775807) :
    Calls Try.prog 23 #[mdV m, drV d, crV c ad cap, .int .i64 n] w fun e w' => RetDK w ad c.l (rdU m d c n) e w' := by
  have HF := Lib.hid (rdU_parts m d c n)
  have HPT := Lib.hid (fun h => fstU_parts (m := m) (d := d) (c := c) h)
  have HFC := Lib.hid (fun X h => firstchecks_any m d c ad cap X h)
  generalize rdU m d c n = res at *
  generalize fstU m d c = fq at *
  have HIN := Lib.hid hin
  have HT := Lib.hid (show Bx w ((((((((w.alloc (boxMx m)).alloc (boxDr d)).alloc (boxCx c ad cap)).alloc (.cells #[.int .i64 n] 3)).alloc (.cells #[.int .i64 0, .string ⟨#[]⟩, .int .i64 0, .int .i64 0, .int .i64 0, .int .i64 0] 25)).alloc (boxK ⟨#[]⟩ 0 0 0 0 0 0 false false none 0 0 0 0 0)).alloc (.cells #[.slice none 0 0] 28)).alloc (.cells #[.int .i64 0] 37)) ([(mdK m, 23), (drK d, 25), (crQ c ad cap, 30)] ++ [(#[.int .i64 n], 3), (drK drZ, 25), (crQ crZ none 0, 30), (#[.slice none 0 0], 28), (#[.int .i64 0], 37)]) from Bx.start w [(mdK m, 23), (drK d, 25), (crQ c ad cap, 30), (#[.int .i64 n], 3), (drK drZ, 25), (crQ crZ none 0, 30), (#[.slice none 0 0], 28), (#[.int .i64 0], 37)])
  clear hin
  go_enter Try.func23, Try.ntmps23
  go_upto_region 3 with fail
  generalize World.alloc _ _ = Y0 at *
  go_cut [15, 16] (fun s15 s16 wx => ∃ t1 e1, s15 = .int .i64 t1 ∧ s16 = .int .i64 e1 ∧ Hid (∃ d1 y1 ad1 cap1 q1 q2 zd zn zc, RdC w wx d1 y1 ad1 cap1 q1 q2 zd zn zc ∧ res = (d1, y1, q1, t1, if e1 = 0 then q2 else e1)))
  case first =>
    replace HT := Lib.hid (HT.out.next (Below.refl Y0.heap.size Y0).drew)
    refine wp_region_noPanic ?_
    refine region_untl (by kernel_rfl) 7 ((fun X => Bx w X [(mdK m, 23), (drK d, 25), (crQ c ad cap, 30)])) (HT.out.pre) (fun hS0 => ?_)
    generalize World.drew Y0 = X0 at *
    refine untl_take (i := 0) 3 (v := ?_) rfl (by kernel_rfl) (by kernel_rfl) (by kernel_rfl) (by kernel_rfl) (by kernel_rfl) (by rfl) (by rfl) (by rfl) (fun _ _ _ h => h) (by rfl) ?_ (by assumption) ?_
    rotate_left
    · intro X hSX
      try dsimp only at hSX
      obtain ⟨_, m0, m1, m2, m3, m4⟩ := hSX.m
      go_simp <;> with_reducible rfl
    simp only [Act.put, List.setIfInBounds_toArray, List.set_cons_zero, List.set_cons_succ]
    refine untl_take (i := 1) 3 (v := ?_) rfl (by kernel_rfl) (by kernel_rfl) (by kernel_rfl) (by kernel_rfl) (by kernel_rfl) (by rfl) (by rfl) (by rfl) (fun _ _ _ h => h) (by rfl) ?_ (by assumption) ?_
    rotate_left
    · intro X hSX
      try dsimp only at hSX
      obtain ⟨_, d0, d1, d2, d3, d4, d5⟩ := hSX.d
      go_simp <;> with_reducible rfl
    simp only [Act.put, List.setIfInBounds_toArray, List.set_cons_zero, List.set_cons_succ]
    refine untl_take (i := 2) 3 (v := ?_) rfl (by kernel_rfl) (by kernel_rfl) (by kernel_rfl) (by kernel_rfl) (by kernel_rfl) (by rfl) (by rfl) (by rfl) (fun _ _ _ h => h) (by rfl) ?_ (by assumption) ?_
    rotate_left
    · intro X hSX
      try dsimp only at hSX
      obtain ⟨_, k0, k1, k2, k3, k4, k5, k6, k7, k8, k9, k10, k11, k12⟩ := hSX.c
      go_simp <;> with_reducible rfl
    simp only [Act.put, List.setIfInBounds_toArray, List.set_cons_zero, List.set_cons_succ]
    refine untl_take (i := 4) 4 (v := ?_) rfl (by kernel_rfl) (by kernel_rfl) (by kernel_rfl) (by kernel_rfl) (by kernel_rfl) (by rfl) (by rfl) (by rfl) (fun _ _ _ h => h) (by rfl) ?_ (by assumption) ?_
    rotate_left
    · intro X hSX
      try dsimp only at hSX
      obtain ⟨_, d0, d1, d2, d3, d4, d5⟩ := hSX.d
      go_simp <;> with_reducible rfl
    simp only [Act.put, List.setIfInBounds_toArray, List.set_cons_zero, List.set_cons_succ]
    refine untl_take (i := 5) 5 (v := ?_) rfl (by kernel_rfl) (by kernel_rfl) (by kernel_rfl) (by kernel_rfl) (by kernel_rfl) (by rfl) (by rfl) (by rfl) (fun _ _ _ h => h) (by rfl) ?_ (by assumption) ?_
    rotate_left
    · intro X hSX
      try dsimp only at hSX
      obtain ⟨_, k0, k1, k2, k3, k4, k5, k6, k7, k8, k9, k10, k11, k12⟩ := hSX.c
      go_simp <;> with_reducible rfl
    simp only [Act.put, List.setIfInBounds_toArray, List.set_cons_zero, List.set_cons_succ]
    refine untl_take (i := 6) 6 (v := ?_) rfl (by kernel_rfl) (by kernel_rfl) (by kernel_rfl) (by kernel_rfl) (by kernel_rfl) (by rfl) (by rfl) (by rfl) (fun _ _ _ h => h) (by rfl) ?_ (by assumption) ?_
    rotate_left
    · intro X hSX
      try dsimp only at hSX
      go_simp <;> with_reducible rfl
    simp only [Act.put, List.setIfInBounds_toArray, List.set_cons_zero, List.set_cons_succ]
    refine untl_call (i := 3) rfl (by kernel_rfl) (by rfl) (fun K' hK' => ?_)
    go_simp
    refine (HFC.out X0 (HIN.out.below HT.out.b)).mono ?_
    rintro e X1 ⟨ca, cb, cc, cd, ce, cf, cg, rfl, hfr, hb⟩
    replace HT := Lib.hid (HT.out.next hb)
    refine untl_go hK' (fun _ => HT.out.pre) ?_
    try simp only [Act.put, List.setIfInBounds_toArray, List.set_cons_zero, List.set_cons_succ]
    clear hb hS0 HFC
    have HSZ := Lib.hid (show w.heap.size + 8 ≤ X1.heap.size from HT.out.size)
    have HFR := Lib.hid hfr
    clear hfr
    by_cases hf0 : fq = 0
    rotate_left
    · have HR := Lib.hid (show res = (drZ, crZ, [], 0, fq) by rw [HF.out, if_neg hf0])
      refine untl_call (i := 7) rfl (by kernel_rfl) (by rfl) (fun K' hK' => ?_)
      go_simp
      refine (perform_no ca cb cc cd ce cf cg d c ad cap _ fq X1 HFR.out hf0).mono ?_
      rintro e w2 ⟨rfl, hb⟩
      replace HT := Lib.hid (HT.out.next hb)
      refine untl_go hK' (fun h => by cases h) ?_
      try simp only [Act.put, List.setIfInBounds_toArray, List.set_cons_zero, List.set_cons_succ]
      clear hb
      refine untl_past _ _ _ _ (by rfl) ?_
      have hS0 : True := trivial
      refine held_take (i := 8) (v := ?_) rfl (by kernel_rfl) (by kernel_rfl) (by kernel_rfl) (fun _ _ _ h => h) (by rfl) ?_ (by assumption) ?_
      rotate_left
      · intro X hSX
        try dsimp only at hSX
        go_simp <;> with_reducible rfl
      simp only [Act.put, List.setIfInBounds_toArray, List.set_cons_zero, List.set_cons_succ]
      refine held_take (i := 9) (v := ?_) rfl (by kernel_rfl) (by kernel_rfl) (by kernel_rfl) (fun _ _ _ h => h) (by rfl) ?_ (by assumption) ?_
      rotate_left
      · intro X hSX
        try dsimp only at hSX
        go_simp <;> with_reducible rfl
      simp only [Act.put, List.setIfInBounds_toArray, List.set_cons_zero, List.set_cons_succ]
      refine held_take (i := 10) (v := ?_) rfl (by kernel_rfl) (by kernel_rfl) (by kernel_rfl) (fun _ _ _ h => h) (by rfl) ?_ (by assumption) ?_
      rotate_left
      · intro X hSX
        try dsimp only at hSX
        go_simp <;> with_reducible rfl
      simp only [Act.put, List.setIfInBounds_toArray, List.set_cons_zero, List.set_cons_succ]
      refine held_take (i := 11) (v := ?_) rfl (by kernel_rfl) (by kernel_rfl) (by kernel_rfl) (fun _ _ _ h => h) (by rfl) ?_ (by assumption) ?_
      rotate_left
      · intro X hSX
        try dsimp only at hSX
        go_simp <;> with_reducible rfl
      simp only [Act.put, List.setIfInBounds_toArray, List.set_cons_zero, List.set_cons_succ]
      refine held_take (i := 12) (v := ?_) rfl (by kernel_rfl) (by kernel_rfl) (by kernel_rfl) (fun _ _ _ h => h) (by rfl) ?_ (by assumption) ?_
      rotate_left
      · intro X hSX
        try dsimp only at hSX
        go_simp <;> with_reducible rfl
      simp only [Act.put, List.setIfInBounds_toArray, List.set_cons_zero, List.set_cons_succ]
      refine held_call (i := 13) rfl (by kernel_rfl) (by rfl) (fun K' hK' => ?_)
      refine oper_store_dr (.tmp 5) (.tmp 26) rfl (w.heap.size + 1) rfl drZ rfl d (HT.out.at_ 1 _ rfl) ?_
      have HT2 := Lib.hid (HT.out.row 1 _ _ (drK drZ) rfl)
      refine held_go hK' (trivial) ?_
      try simp only [Act.put, List.setIfInBounds_toArray, List.set_cons_zero, List.set_cons_succ]
      generalize World.setRow w2 _ _ = w3 at *
      refine held_call (i := 14) rfl (by kernel_rfl) (by rfl) (fun K' hK' => ?_)
      refine oper_store_cq (.tmp 6) (.tmp 27) rfl (w.heap.size + 2) rfl crZ none 0 rfl c ad cap (HT2.out.at_ 2 _ rfl) ?_
      have HT3 := Lib.hid (HT2.out.row 2 _ _ (crQ crZ none 0) rfl)
      refine held_go hK' (trivial) ?_
      try simp only [Act.put, List.setIfInBounds_toArray, List.set_cons_zero, List.set_cons_succ]
      generalize World.setRow w3 _ _ = w4 at *
      refine held_take (i := 15) (v := ?_) rfl (by kernel_rfl) (by kernel_rfl) (by kernel_rfl) (fun _ _ _ h => h) (by rfl) ?_ (by assumption) ?_
      rotate_left
      · intro X hSX
        try dsimp only at hSX
        go_simp <;> with_reducible rfl
      simp only [Act.put, List.setIfInBounds_toArray, List.set_cons_zero, List.set_cons_succ]
      refine held_take (i := 16) (v := ?_) rfl (by kernel_rfl) (by kernel_rfl) (by kernel_rfl) (fun _ _ _ h => h) (by rfl) ?_ (by assumption) ?_
      rotate_left
      · intro X hSX
        try dsimp only at hSX
        go_simp <;> with_reducible rfl
      simp only [Act.put, List.setIfInBounds_toArray, List.set_cons_zero, List.set_cons_succ]
      refine wpAnyH_done (by kernel_rfl) ?_ _
      refine NoPanic.normal ?_
      go_wp2_with fail
      go_meet
      exact ⟨0, fq, rfl, rfl, Lib.hid ⟨drZ, crZ, none, 0, [], 0, none, 0, 0, ⟨HT3.out.at_ 1 _ rfl, HT3.out.at_ 2 _ rfl, HT3.out.at_ 4 _ rfl, HT3.out.at_ 5 _ rfl, HT3.out.at_ 6 _ rfl, HT3.out.at_ 7 _ rfl, HT3.out.b, ⟨Ki.nil _ _, Nat.le_refl _, Nat.zero_le _, fun _ => rfl, Nat.zero_le _⟩, fun _ _ _ => Ki.nil _ _, fun _ _ _ => Ki.nil _ _, rfl, Nat.le_refl _, Nat.zero_le _, fun _ => rfl⟩, by rw [HR.out, if_neg hf0]⟩⟩
    subst hf0
    have hp := HPT.out rfl
    have HR := Lib.hid (show res = ((rdS d c n).1, (rdS d c n).2.1, (rdQ d c n).1, (rdS d c n).2.2.1, if (rdS d c n).2.2.2 = 0 then (rdQ d c n).2 else (rdS d c n).2.2.2) by rw [HF.out, if_pos rfl])
    clear HF HPT
    have HRUN := Lib.hid (fun X (hX : Bx X1 X (pfL ca cb cc cd ce cf cg d c ad cap)) => run_read (w.heap.size + 3) (w.heap.size + 6) (w.heap.size + 7) w n ca cb cc cd ce cf cg d c ad cap X1 (by have h1 := HSZ.out; omega) (by have h1 := HSZ.out; omega) (by have h1 := HSZ.out; omega) (by omega) (by omega) (by omega) HT.out.b (by omega) (by omega) (row_cell (HT.out.at_ 3 _ rfl) 0) (HT.out.at_ 6 _ rfl) (HT.out.at_ 7 _ rfl) HIN.out hp.2.1 hn hp.2.2.2.2.2.1 hp.2.2.2.1 hp.2.2.2.2.1 hp.2.2.2.2.2.2.2.1 X hX)
    have HZ : Hid ((rdS d c n).2.2.2 ≠ 0 → rdS d c n = (drZ, crZ, 0, (rdS d c n).2.2.2)) := Lib.hid rdS_res
    have HSL : Hid ((rdS d c n).2.2.2 = 0 → (rdS d c n).2.1.l.length ≤ 4096 ∧ ∀ b ∈ (rdS d c n).2.1.l, b.d.length ≤ 10000) := Lib.hid (rdS_small hp.2.2.2.2.2.2.2.2.1 hp.2.2.2.2.2.2.2.2.2.1)
    clear hp
    generalize rdS d c n = rr at *
    generalize rdQ d c n = rq at *
    have HEK := Lib.hid (fun (X Y : World) (hE : RdE X1 (w.heap.size + 6) (w.heap.size + 7) rq X) (ho : ∀ k, k < X.heap.size → ¬ (X1.heap.size ≤ k ∧ k < X1.heap.size + 5) → Y.heap[k]? = X.heap[k]?) (hs : X.heap.size ≤ Y.heap.size) => hE.keep (by have h1 := HSZ.out; omega) (by have h1 := HSZ.out; omega) ho hs)
    refine untl_call (i := 7) rfl (by kernel_rfl) (by rfl) (fun K' hK' => ?_)
    go_simp
    refine (perform_read (w.heap.size + 3) (w.heap.size + 6) (w.heap.size + 7) ca cb cc cd ce cf cg d c ad cap X1 rr w.heap.size (RdE X1 (w.heap.size + 6) (w.heap.size + 7) rq) HFR.out HT.out.b.size HZ.out HSL.out HEK.out HRUN.out).mono ?_
    rintro e w2 ⟨ad', cap', rfl, hi, hkf, hb, ho, zd, zn, zc, g1, g2, g3, g4, g5⟩
    have HI := Lib.hid hi
    have HKF := Lib.hid hkf
    have HO := Lib.hid ho
    have HG := Lib.hid (show w2.heap[w.heap.size + 6]? = some (.cells #[.slice zd zn zc] 28 (0, 0)) ∧ w2.heap[w.heap.size + 7]? = some (.cells #[.int .i64 rq.2] 37 (0, 0)) from ⟨g1, g2⟩)
    have HGZ := Lib.hid (show zn = rq.1.length ∧ Kfr w2 (X1.heap.size + 5) zd rq.1 ∧ zn ≤ zc ∧ zc ≤ maxLen ∧ (zd = none → zc = 0) from ⟨g3, g4, g5⟩)
    have HB2 := Lib.hid (HT.out.b.trans hb)
    have HS2 := Lib.hid hb.size
    refine untl_go hK' (fun h => by cases h) ?_
    try simp only [Act.put, List.setIfInBounds_toArray, List.set_cons_zero, List.set_cons_succ]
    have HD2 := Lib.hid (show w2.heap[w.heap.size + 1]? = some (.cells (drK d) 25 (0, 0)) from (HO.out _ (by have h1 := HSZ.out; omega) (by omega) (by omega)).trans (HT.out.at_ 1 _ rfl))
    have HC2 := Lib.hid (show w2.heap[w.heap.size + 2]? = some (.cells (crQ c ad cap) 30 (0, 0)) from (HO.out _ (by have h1 := HSZ.out; omega) (by omega) (by omega)).trans (HT.out.at_ 2 _ rfl))
    have HX2 := Lib.hid (show w2.heap[w.heap.size + 4]? = some (.cells (drK drZ) 25 (0, 0)) from (HO.out _ (by have h1 := HSZ.out; omega) (by omega) (by omega)).trans (HT.out.at_ 4 _ rfl))
    have HY2 := Lib.hid (show w2.heap[w.heap.size + 5]? = some (.cells (crQ crZ none 0) 30 (0, 0)) from (HO.out _ (by have h1 := HSZ.out; omega) (by omega) (by omega)).trans (HT.out.at_ 5 _ rfl))
    clear hb hi hkf ho g1 g2 g3 g4 g5 HRUN HZ HSL HFR HEK HT HO
    obtain ⟨d1, y1, t1, e1⟩ := rr
    simp only at HR HI HKF
    refine untl_past _ _ _ _ (by rfl) ?_
    have hS0 : True := trivial
    refine held_take (i := 8) (v := ?_) rfl (by kernel_rfl) (by kernel_rfl) (by kernel_rfl) (fun _ _ _ h => h) (by rfl) ?_ (by assumption) ?_
    rotate_left
    · intro X hSX
      try dsimp only at hSX
      go_simp <;> with_reducible rfl
    simp only [Act.put, List.setIfInBounds_toArray, List.set_cons_zero, List.set_cons_succ]
    refine held_take (i := 9) (v := ?_) rfl (by kernel_rfl) (by kernel_rfl) (by kernel_rfl) (fun _ _ _ h => h) (by rfl) ?_ (by assumption) ?_
    rotate_left
    · intro X hSX
      try dsimp only at hSX
      go_simp <;> with_reducible rfl
    simp only [Act.put, List.setIfInBounds_toArray, List.set_cons_zero, List.set_cons_succ]
    refine held_take (i := 10) (v := ?_) rfl (by kernel_rfl) (by kernel_rfl) (by kernel_rfl) (fun _ _ _ h => h) (by rfl) ?_ (by assumption) ?_
    rotate_left
    · intro X hSX
      try dsimp only at hSX
      go_simp <;> with_reducible rfl
    simp only [Act.put, List.setIfInBounds_toArray, List.set_cons_zero, List.set_cons_succ]
    refine held_take (i := 11) (v := ?_) rfl (by kernel_rfl) (by kernel_rfl) (by kernel_rfl) (fun _ _ _ h => h) (by rfl) ?_ (by assumption) ?_
    rotate_left
    · intro X hSX
      try dsimp only at hSX
      go_simp <;> with_reducible rfl
    simp only [Act.put, List.setIfInBounds_toArray, List.set_cons_zero, List.set_cons_succ]
    refine held_take (i := 12) (v := ?_) rfl (by kernel_rfl) (by kernel_rfl) (by kernel_rfl) (fun _ _ _ h => h) (by rfl) ?_ (by assumption) ?_
    rotate_left
    · intro X hSX
      try dsimp only at hSX
      go_simp <;> with_reducible rfl
    simp only [Act.put, List.setIfInBounds_toArray, List.set_cons_zero, List.set_cons_succ]
    refine held_call (i := 13) rfl (by kernel_rfl) (by rfl) (fun K' hK' => ?_)
    refine oper_store_dr (.tmp 5) (.tmp 26) rfl (w.heap.size + 1) rfl d1 rfl d HD2.out ?_
    refine held_go hK' (trivial) ?_
    try simp only [Act.put, List.setIfInBounds_toArray, List.set_cons_zero, List.set_cons_succ]
    refine held_call (i := 14) rfl (by kernel_rfl) (by rfl) (fun K' hK' => ?_)
    refine oper_store_cq (.tmp 6) (.tmp 27) rfl (w.heap.size + 2) rfl y1 ad' cap' rfl c ad cap (row_keep HC2.out (by omega)) ?_
    refine held_go hK' (trivial) ?_
    try simp only [Act.put, List.setIfInBounds_toArray, List.set_cons_zero, List.set_cons_succ]
    refine held_take (i := 15) (v := ?_) rfl (by kernel_rfl) (by kernel_rfl) (by kernel_rfl) (fun _ _ _ h => h) (by rfl) ?_ (by assumption) ?_
    rotate_left
    · intro X hSX
      try dsimp only at hSX
      go_simp <;> with_reducible rfl
    simp only [Act.put, List.setIfInBounds_toArray, List.set_cons_zero, List.set_cons_succ]
    refine held_take (i := 16) (v := ?_) rfl (by kernel_rfl) (by kernel_rfl) (by kernel_rfl) (fun _ _ _ h => h) (by rfl) ?_ (by assumption) ?_
    rotate_left
    · intro X hSX
      try dsimp only at hSX
      go_simp <;> with_reducible rfl
    simp only [Act.put, List.setIfInBounds_toArray, List.set_cons_zero, List.set_cons_succ]
    refine wpAnyH_done (by kernel_rfl) ?_ _
    refine NoPanic.normal ?_
    go_wp2_with fail
    go_meet
    exact ⟨t1, e1, rfl, rfl, Lib.hid ⟨d1, y1, ad', cap', rq.1, rq.2, zd, zn, zc, rdc_make HSZ.out HS2.out HD2.out HC2.out HX2.out HY2.out HG.out.1 HG.out.2 HB2.out HI.out HKF.out HGZ.out, HR.out⟩⟩
  case rest =>
    obtain ⟨t1, e1, rfl, rfl, hq⟩ := hcut
    have HQ := Lib.hid hq.out
    clear hq HF HPT HFC HIN HT
    obtain ⟨d1, y1, ad1, cap1, q1, q2, zd, zn, zc, hrc, hres⟩ := HQ.out
    have HC := Lib.hid hrc
    have HRS := Lib.hid hres
    clear hrc hres HQ
    by_cases he0 : e1 = 0
    · subst he0
      have HR := Lib.hid (show res = (d1, y1, q1, t1, q2) by rw [HRS.out, if_pos rfl])
      have e0 := row_cell HC.out.ge 0
      go_wp2_with fail
      clear e0
      replace HC := Lib.hid HC.out.drew
      refine wp_region_noPanic ?_
      refine wp_region_held_drew (S := (fun X => DrAt X (w.heap.size + 1) d1.st d1.bc d1.hd d1.lo d1.pa d1.si ∧ CrAt X (w.heap.size + 2) y1.bc y1.W y1.L y1.S y1.T y1.J y1.R y1.wo y1.lk ad1 y1.l.length cap1 y1.ep y1.lo y1.pa ∧ X.cell? ⟨w.heap.size + 6, 0, none⟩ = some (.slice zd zn zc))) (by kernel_rfl) (⟨DrAt.of HC.out.d, CrAt.of HC.out.c, row_cell HC.out.gb 0⟩) (fun hS0 => ?_)
      generalize World.drew wc = Z at *
      refine held_take (i := 0) (v := ?_) rfl (by kernel_rfl) (by kernel_rfl) (by kernel_rfl) (fun _ _ _ h => h) (by rfl) ?_ (by assumption) ?_
      rotate_left
      · intro X hSX
        try dsimp only at hSX
        obtain ⟨⟨_, d0, d1, d2, d3, d4, d5⟩, -, -⟩ := hSX
        go_simp <;> with_reducible rfl
      simp only [Act.put, List.setIfInBounds_toArray, List.set_cons_zero, List.set_cons_succ]
      refine held_take (i := 1) (v := ?_) rfl (by kernel_rfl) (by kernel_rfl) (by kernel_rfl) (fun _ _ _ h => h) (by rfl) ?_ (by assumption) ?_
      rotate_left
      · intro X hSX
        try dsimp only at hSX
        obtain ⟨-, ⟨_, k0, k1, k2, k3, k4, k5, k6, k7, k8, k9, k10, k11, k12⟩, -⟩ := hSX
        go_simp <;> with_reducible rfl
      simp only [Act.put, List.setIfInBounds_toArray, List.set_cons_zero, List.set_cons_succ]
      refine held_take (i := 2) (v := ?_) rfl (by kernel_rfl) (by kernel_rfl) (by kernel_rfl) (fun _ _ _ h => h) (by rfl) ?_ (by assumption) ?_
      rotate_left
      · intro X hSX
        try dsimp only at hSX
        obtain ⟨-, -, s0⟩ := hSX
        go_simp <;> with_reducible rfl
      simp only [Act.put, List.setIfInBounds_toArray, List.set_cons_zero, List.set_cons_succ]
      refine held_take (i := 3) (v := ?_) rfl (by kernel_rfl) (by kernel_rfl) (by kernel_rfl) (fun _ _ _ h => h) (by rfl) ?_ (by assumption) ?_
      rotate_left
      · intro X hSX
        try dsimp only at hSX
        go_simp <;> with_reducible rfl
      simp only [Act.put, List.setIfInBounds_toArray, List.set_cons_zero, List.set_cons_succ]
      refine held_take (i := 4) (v := ?_) rfl (by kernel_rfl) (by kernel_rfl) (by kernel_rfl) (fun _ _ _ h => h) (by rfl) ?_ (by assumption) ?_
      rotate_left
      · intro X hSX
        try dsimp only at hSX
        go_simp <;> with_reducible rfl
      simp only [Act.put, List.setIfInBounds_toArray, List.set_cons_zero, List.set_cons_succ]
      refine held_call (i := 5) rfl (by kernel_rfl) (by rfl) (fun K' hK' => ?_)
      refine oper_store_dr (.tmp 8) (.tmp 33) rfl (w.heap.size + 4) rfl d1 rfl drZ HC.out.x ?_
      refine held_go hK' (⟨DrAt.of (row_keep HC.out.d (by omega)), CrAt.of (row_keep HC.out.c (by omega)), row_cell (row_keep HC.out.gb (by omega)) 0⟩) ?_
      try simp only [Act.put, List.setIfInBounds_toArray, List.set_cons_zero, List.set_cons_succ]
      clear hS0
      have hS0 : DrAt (Z.setRow (w.heap.size + 4) (drK d1)) (w.heap.size + 1) d1.st d1.bc d1.hd d1.lo d1.pa d1.si ∧ CrAt (Z.setRow (w.heap.size + 4) (drK d1)) (w.heap.size + 2) y1.bc y1.W y1.L y1.S y1.T y1.J y1.R y1.wo y1.lk ad1 y1.l.length cap1 y1.ep y1.lo y1.pa ∧ (Z.setRow (w.heap.size + 4) (drK d1)).cell? ⟨w.heap.size + 6, 0, none⟩ = some (.slice zd zn zc) := ⟨DrAt.of (row_keep HC.out.d (by omega)), CrAt.of (row_keep HC.out.c (by omega)), row_cell (row_keep HC.out.gb (by omega)) 0⟩
      refine held_call (i := 6) rfl (by kernel_rfl) (by rfl) (fun K' hK' => ?_)
      refine oper_store_cq (.tmp 9) (.tmp 34) rfl (w.heap.size + 5) rfl y1 ad1 cap1 rfl crZ none 0 (row_keep HC.out.y (by omega)) ?_
      refine held_go hK' (⟨DrAt.of (row_keep (row_keep HC.out.d (by omega)) (by omega)), CrAt.of (row_keep (row_keep HC.out.c (by omega)) (by omega)), row_cell (row_keep (row_keep HC.out.gb (by omega)) (by omega)) 0⟩) ?_
      try simp only [Act.put, List.setIfInBounds_toArray, List.set_cons_zero, List.set_cons_succ]
      clear hS0
      have hS0 : DrAt ((Z.setRow (w.heap.size + 4) (drK d1)).setRow (w.heap.size + 5) (crQ y1 ad1 cap1)) (w.heap.size + 1) d1.st d1.bc d1.hd d1.lo d1.pa d1.si ∧ CrAt ((Z.setRow (w.heap.size + 4) (drK d1)).setRow (w.heap.size + 5) (crQ y1 ad1 cap1)) (w.heap.size + 2) y1.bc y1.W y1.L y1.S y1.T y1.J y1.R y1.wo y1.lk ad1 y1.l.length cap1 y1.ep y1.lo y1.pa ∧ ((Z.setRow (w.heap.size + 4) (drK d1)).setRow (w.heap.size + 5) (crQ y1 ad1 cap1)).cell? ⟨w.heap.size + 6, 0, none⟩ = some (.slice zd zn zc) := ⟨DrAt.of (row_keep (row_keep HC.out.d (by omega)) (by omega)), CrAt.of (row_keep (row_keep HC.out.c (by omega)) (by omega)), row_cell (row_keep (row_keep HC.out.gb (by omega)) (by omega)) 0⟩
      refine held_take (i := 7) (v := ?_) rfl (by kernel_rfl) (by kernel_rfl) (by kernel_rfl) (fun _ _ _ h => h) (by rfl) ?_ (by assumption) ?_
      rotate_left
      · intro X hSX
        try dsimp only at hSX
        go_simp <;> with_reducible rfl
      simp only [Act.put, List.setIfInBounds_toArray, List.set_cons_zero, List.set_cons_succ]
      refine held_take (i := 8) (v := ?_) rfl (by kernel_rfl) (by kernel_rfl) (by kernel_rfl) (fun _ _ _ h => h) (by rfl) ?_ (by assumption) ?_
      rotate_left
      · intro X hSX
        try dsimp only at hSX
        go_simp <;> with_reducible rfl
      simp only [Act.put, List.setIfInBounds_toArray, List.set_cons_zero, List.set_cons_succ]
      refine held_take (i := 9) (v := ?_) rfl (by kernel_rfl) (by kernel_rfl) (by kernel_rfl) (fun _ _ _ h => h) (by rfl) ?_ (by assumption) ?_
      rotate_left
      · intro X hSX
        try dsimp only at hSX
        go_simp <;> with_reducible rfl
      simp only [Act.put, List.setIfInBounds_toArray, List.set_cons_zero, List.set_cons_succ]
      refine wpAnyH_done (by kernel_rfl) ?_ _
      refine NoPanic.normal ?_
      clear hS0
      go_wp2_with fail
      refine post_cells3 rfl rfl (row_keep (setRow_heap _ _ _ (drK d1) _ _ HC.out.x) (show w.heap.size + 4 ≠ w.heap.size + 5 by omega)) Try.underlying25 rfl infoD rfl (setRow_heap _ _ _ (crQ y1 ad1 cap1) _ _ (row_keep HC.out.y (by omega))) Try.underlying30 rfl infoC rfl rfl rfl rfl ?_
      rw [HR.out]
      exact rdc_end HC.out
    have HR := Lib.hid (show res = (d1, y1, q1, t1, e1) by rw [HRS.out, if_neg he0])
    have hne : (e1 == 0) = false := by simp [he0]
    go_wp2_with fail
    replace HC := Lib.hid HC.out.drew
    refine wp_region_noPanic ?_
    refine wp_region_held_drew (S := (fun X => DrAt X (w.heap.size + 1) d1.st d1.bc d1.hd d1.lo d1.pa d1.si ∧ CrAt X (w.heap.size + 2) y1.bc y1.W y1.L y1.S y1.T y1.J y1.R y1.wo y1.lk ad1 y1.l.length cap1 y1.ep y1.lo y1.pa ∧ X.cell? ⟨w.heap.size + 6, 0, none⟩ = some (.slice zd zn zc))) (by kernel_rfl) (⟨DrAt.of HC.out.d, CrAt.of HC.out.c, row_cell HC.out.gb 0⟩) (fun hS0 => ?_)
    generalize World.drew wc = Z at *
    refine held_take (i := 0) (v := ?_) rfl (by kernel_rfl) (by kernel_rfl) (by kernel_rfl) (fun _ _ _ h => h) (by rfl) ?_ (by assumption) ?_
    rotate_left
    · intro X hSX
      try dsimp only at hSX
      obtain ⟨⟨_, d0, d1, d2, d3, d4, d5⟩, -, -⟩ := hSX
      go_simp <;> with_reducible rfl
    simp only [Act.put, List.setIfInBounds_toArray, List.set_cons_zero, List.set_cons_succ]
    refine held_take (i := 1) (v := ?_) rfl (by kernel_rfl) (by kernel_rfl) (by kernel_rfl) (fun _ _ _ h => h) (by rfl) ?_ (by assumption) ?_
    rotate_left
    · intro X hSX
      try dsimp only at hSX
      obtain ⟨-, ⟨_, k0, k1, k2, k3, k4, k5, k6, k7, k8, k9, k10, k11, k12⟩, -⟩ := hSX
      go_simp <;> with_reducible rfl
    simp only [Act.put, List.setIfInBounds_toArray, List.set_cons_zero, List.set_cons_succ]
    refine held_take (i := 2) (v := ?_) rfl (by kernel_rfl) (by kernel_rfl) (by kernel_rfl) (fun _ _ _ h => h) (by rfl) ?_ (by assumption) ?_
    rotate_left
    · intro X hSX
      try dsimp only at hSX
      obtain ⟨-, -, s0⟩ := hSX
      go_simp <;> with_reducible rfl
    simp only [Act.put, List.setIfInBounds_toArray, List.set_cons_zero, List.set_cons_succ]
    refine held_take (i := 3) (v := ?_) rfl (by kernel_rfl) (by kernel_rfl) (by kernel_rfl) (fun _ _ _ h => h) (by rfl) ?_ (by assumption) ?_
    rotate_left
    · intro X hSX
      try dsimp only at hSX
      go_simp <;> with_reducible rfl
    simp only [Act.put, List.setIfInBounds_toArray, List.set_cons_zero, List.set_cons_succ]
    refine held_take (i := 4) (v := ?_) rfl (by kernel_rfl) (by kernel_rfl) (by kernel_rfl) (fun _ _ _ h => h) (by rfl) ?_ (by assumption) ?_
    rotate_left
    · intro X hSX
      try dsimp only at hSX
      go_simp <;> with_reducible rfl
    simp only [Act.put, List.setIfInBounds_toArray, List.set_cons_zero, List.set_cons_succ]
    refine held_call (i := 5) rfl (by kernel_rfl) (by rfl) (fun K' hK' => ?_)
    refine oper_store_dr (.tmp 8) (.tmp 33) rfl (w.heap.size + 4) rfl d1 rfl drZ HC.out.x ?_
    refine held_go hK' (⟨DrAt.of (row_keep HC.out.d (by omega)), CrAt.of (row_keep HC.out.c (by omega)), row_cell (row_keep HC.out.gb (by omega)) 0⟩) ?_
    try simp only [Act.put, List.setIfInBounds_toArray, List.set_cons_zero, List.set_cons_succ]
    clear hS0
    have hS0 : DrAt (Z.setRow (w.heap.size + 4) (drK d1)) (w.heap.size + 1) d1.st d1.bc d1.hd d1.lo d1.pa d1.si ∧ CrAt (Z.setRow (w.heap.size + 4) (drK d1)) (w.heap.size + 2) y1.bc y1.W y1.L y1.S y1.T y1.J y1.R y1.wo y1.lk ad1 y1.l.length cap1 y1.ep y1.lo y1.pa ∧ (Z.setRow (w.heap.size + 4) (drK d1)).cell? ⟨w.heap.size + 6, 0, none⟩ = some (.slice zd zn zc) := ⟨DrAt.of (row_keep HC.out.d (by omega)), CrAt.of (row_keep HC.out.c (by omega)), row_cell (row_keep HC.out.gb (by omega)) 0⟩
    refine held_call (i := 6) rfl (by kernel_rfl) (by rfl) (fun K' hK' => ?_)
    refine oper_store_cq (.tmp 9) (.tmp 34) rfl (w.heap.size + 5) rfl y1 ad1 cap1 rfl crZ none 0 (row_keep HC.out.y (by omega)) ?_
    refine held_go hK' (⟨DrAt.of (row_keep (row_keep HC.out.d (by omega)) (by omega)), CrAt.of (row_keep (row_keep HC.out.c (by omega)) (by omega)), row_cell (row_keep (row_keep HC.out.gb (by omega)) (by omega)) 0⟩) ?_
    try simp only [Act.put, List.setIfInBounds_toArray, List.set_cons_zero, List.set_cons_succ]
    clear hS0
    have hS0 : DrAt ((Z.setRow (w.heap.size + 4) (drK d1)).setRow (w.heap.size + 5) (crQ y1 ad1 cap1)) (w.heap.size + 1) d1.st d1.bc d1.hd d1.lo d1.pa d1.si ∧ CrAt ((Z.setRow (w.heap.size + 4) (drK d1)).setRow (w.heap.size + 5) (crQ y1 ad1 cap1)) (w.heap.size + 2) y1.bc y1.W y1.L y1.S y1.T y1.J y1.R y1.wo y1.lk ad1 y1.l.length cap1 y1.ep y1.lo y1.pa ∧ ((Z.setRow (w.heap.size + 4) (drK d1)).setRow (w.heap.size + 5) (crQ y1 ad1 cap1)).cell? ⟨w.heap.size + 6, 0, none⟩ = some (.slice zd zn zc) := ⟨DrAt.of (row_keep (row_keep HC.out.d (by omega)) (by omega)), CrAt.of (row_keep (row_keep HC.out.c (by omega)) (by omega)), row_cell (row_keep (row_keep HC.out.gb (by omega)) (by omega)) 0⟩
    refine held_take (i := 7) (v := ?_) rfl (by kernel_rfl) (by kernel_rfl) (by kernel_rfl) (fun _ _ _ h => h) (by rfl) ?_ (by assumption) ?_
    rotate_left
    · intro X hSX
      try dsimp only at hSX
      go_simp <;> with_reducible rfl
    simp only [Act.put, List.setIfInBounds_toArray, List.set_cons_zero, List.set_cons_succ]
    refine held_take (i := 8) (v := ?_) rfl (by kernel_rfl) (by kernel_rfl) (by kernel_rfl) (fun _ _ _ h => h) (by rfl) ?_ (by assumption) ?_
    rotate_left
    · intro X hSX
      try dsimp only at hSX
      go_simp <;> with_reducible rfl
    simp only [Act.put, List.setIfInBounds_toArray, List.set_cons_zero, List.set_cons_succ]
    refine held_take (i := 9) (v := ?_) rfl (by kernel_rfl) (by kernel_rfl) (by kernel_rfl) (fun _ _ _ h => h) (by rfl) ?_ (by assumption) ?_
    rotate_left
    · intro X hSX
      try dsimp only at hSX
      go_simp <;> with_reducible rfl
    simp only [Act.put, List.setIfInBounds_toArray, List.set_cons_zero, List.set_cons_succ]
    refine wpAnyH_done (by kernel_rfl) ?_ _
    refine NoPanic.normal ?_
    clear hS0
    go_wp2_with fail
    refine post_cells3 rfl rfl (row_keep (setRow_heap _ _ _ (drK d1) _ _ HC.out.x) (show w.heap.size + 4 ≠ w.heap.size + 5 by omega)) Try.underlying25 rfl infoD rfl (setRow_heap _ _ _ (crQ y1 ad1 cap1) _ _ (row_keep HC.out.y (by omega))) Try.underlying30 rfl infoC rfl rfl rfl rfl ?_
    rw [HR.out]
    exact rdc_end HC.out
end Go.Proofs.Ytepmmlnopdjjdaa
