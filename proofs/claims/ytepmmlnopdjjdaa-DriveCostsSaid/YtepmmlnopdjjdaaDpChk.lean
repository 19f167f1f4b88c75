/-
  The program's first checks.
-/
import Derived.Test.YtepmmlnopdjjdaaDpVal
import Derived.Test.YtepmmlnopdjjdaaQVld
import Derived.Test.YtepmmlnopdjjdaaDrSeek
import Derived.Test.YtepmmlnopdjjdaaQSmall
namespace Go.Proofs.Ytepmmlnopdjjdaa
open Go.RowKit
set_option linter.unusedVariables false
set_option linter.unusedSimpArgs false
set_option maxRecDepth 100000
section
variable {w X Y : World} {L : List (Array Value × TypeId)}
theorem Bx.m {q : Mdl} (h : Bx w X ((mdK q, 23) :: L)) : MdAt X w.heap.size q.ld q.ul q.cl q.ce q.cf := MdAt.of (h.at_ 0 _ rfl)
theorem Bx.d {a : Array Value × TypeId} {q : Drv} (h : Bx w X (a :: (drK q, 25) :: L)) : DrAt X (w.heap.size + 1) q.st q.bc q.hd q.lo q.pa q.si := DrAt.of (h.at_ 1 _ rfl)
theorem Bx.c {a b : Array Value × TypeId} {q : Crt} {ad : Option Addr} {cap : Nat} (h : Bx w X (a :: b :: (crQ q ad cap, 30) :: L)) : CrAt X (w.heap.size + 2) q.bc q.W q.L q.S q.T q.J q.R q.wo q.lk ad q.l.length cap q.ep q.lo q.pa := CrAt.of (h.at_ 2 _ rfl)
theorem Bx.pre {L M : List (Array Value × TypeId)} (h : Bx w X (L ++ M)) : Bx w X L :=
  ⟨h.b, fun i p hp => h.at_ i p (by rw [List.getElem?_append_left (List.getElem?_eq_some_iff.1 hp).1]; exact hp)⟩
theorem Bx.far (h : Bx w X L) {g : Nat} (hg : w.heap.size + L.length ≤ g) (cs : Array Value) : Bx w (X.setRow g cs) L :=
  ⟨below_set h.b (by omega) _, fun i p hp => by
    have := (List.getElem?_eq_some_iff.1 hp).1
    rw [setRow_other _ _ _ _ (by omega)]; exact h.at_ i p hp⟩
end
abbrev boxMx (m : Mdl) : Obj := .cells #[.int .i64 m.ld, .int .i64 m.ul, .int .i64 m.cl, .int .i64 m.ce, .int .i64 m.cf] 23
abbrev boxCx (c : Crt) (ad : Option Addr) (cap : Nat) : Obj := .cells #[.string c.bc, .int .i64 c.W, .int .i64 c.L, .int .i64 c.S, .int .i64 c.T, .int .i64 c.J, .int .i64 c.R, .bool c.wo, .bool c.lk, .slice ad c.l.length cap, .int .i64 c.ep, .int .i64 c.lo, .int .i64 c.pa] 30
abbrev chZ : Array Value := #[.int .i64 0, .int .i64 0, .int .i64 0, .int .i64 0, .int .i64 0, .int .i64 0, .int .i64 0]
abbrev chK (a b c d e f g : Int) : Array Value := #[.int .i64 a, .int .i64 b, .int .i64 c, .int .i64 d, .int .i64 e, .int .i64 f, .int .i64 g]
theorem infoK : (Try.prog.info? 72).map (·.size) = some 7 := by kernel_rfl
theorem oper_store_ch {o : Oper} {a : Act} {w : World} {K : Act → World → Prop} {Q : Exit → Act → World → Prop} (x y : Operand) (ho : o.op = .store 72 x y)
    (g : Nat) (hx : a.eval x = .pointer (some ⟨g, 0, none⟩)) (c0 c1 c2 c3 c4 c5 c6 : Int) (hy : a.eval y = .agg (chK c0 c1 c2 c3 c4 c5 c6)) (old : Array Value) (hs : old.size = 7) (hg : w.heap[g]? = some (.cells old 72 (0, 0)))
    (h : K (a.put o.dst undef) (w.setRow g (chK c0 c1 c2 c3 c4 c5 c6))) : Oper.wp Try.prog o a w K Q :=
  oper_store_agg _ x y ho g hx _ _ hy _ hg infoK hs (by simp [Value.oneCell']) h
/-- what the first checks find -/
theorem frs_fst (m : Mdl) (d : Drv) (c : Crt) : frs [flU (!(mdlU m && (drvU d && vldC c))) 8, flU (d.st == 2) 16, 0, 0, flU (d.st == 0) 13, flU (!d.bc.toList == c.bc.toList) 11, flU (decide ((c.l.length : Int) < d.hd)) 8] = fstU m d c := by
  unfold fstU
  by_cases h1 : (mdlU m && (drvU d && vldC c)) = true
  · rw [if_pos h1, h1]
    by_cases h2 : d.st = 2
    · simp [frs, flU, h2]
    by_cases h3 : d.st = 0
    · simp [frs, flU, h3]
    by_cases h4 : d.bc.toList = c.bc.toList
    · by_cases h5 : (c.l.length : Int) < d.hd
      · simp [frs, flU, h2, h3, h4, h5]
      · simp [frs, flU, h2, h3, h4, h5]
    · simp [frs, flU, h2, h3, h4]
  · rw [if_neg h1]
    rw [Bool.not_eq_true] at h1
    rw [h1]
    simp [frs, flU]
/-- a call hands back checks whose first error is r -/
def RetH (w : World) (r : Int) (e : Ending) (w' : World) : Prop := ∃ a b c d e' f g, e = .returned (.agg (chK a b c d e' f g)) ∧ frs [a, b, c, d, e', f, g] = r ∧ Below w.heap.size w w'
attribute [local irreducible] tim vld bar cnt okB capU allB vldC mdlU drvU due inc fstU
set_option maxHeartbeats 8000000 in
theorem firstchecks_any (m : Mdl) (d : Drv) (c : Crt) (ad : Option Addr) (cap : Nat) (w : World) (hin : CrIn w c ad cap) :
    Calls Try.prog 42 #[mdV m, drV d, crV c ad cap] w fun e w' => RetH w (fstU m d c) e w' := by
  have HF := Lib.hid (frs_fst m d c)
  have HIN := Lib.hid hin
  have HT := Lib.hid (show Bx w ((((w.alloc (boxMx m)).alloc (boxDr d)).alloc (boxCx c ad cap)).alloc (.cells chZ 72)) ([(mdK m, 23), (drK d, 25), (crQ c ad cap, 30)] ++ [(chZ, 72)]) from Bx.start w [(mdK m, 23), (drK d, 25), (crQ c ad cap, 30), (chZ, 72)])
  have hcap : (c.l.length : Int) ≤ 9223372036854775807 := by have := hin.le; have := hin.mx; unfold maxLen at this; omega
  clear hin
  cases h0 : mdlU m
  · have HM := Lib.hid (fun X => (valmodel_any m X))
    rw [h0] at HM HF
    go_enter Try.func42, Try.ntmps42
    go_wp2_with fail
    generalize World.alloc _ _ = Y0 at *
    replace HT := Lib.hid (HT.out.next (Below.refl Y0.heap.size Y0).drew)
    refine wp_region_noPanic ?_
    refine wp_region_held_drew (S := (fun X => Bx w X [(mdK m, 23), (drK d, 25), (crQ c ad cap, 30)])) (by kernel_rfl) (HT.out.pre) (fun hS0 => ?_)
    generalize World.drew Y0 = X0 at *
    refine held_take (i := 0) (v := ?_) rfl (by kernel_rfl) (by kernel_rfl) (by kernel_rfl) (fun _ _ _ h => h) (by rfl) ?_ (by assumption) ?_
    rotate_left
    · intro X hSX
      try dsimp only at hSX
      obtain ⟨_, m0, m1, m2, m3, m4⟩ := hSX.m
      go_simp <;> with_reducible rfl
    simp only [Act.put, List.setIfInBounds_toArray, List.set_cons_zero, List.set_cons_succ]
    refine held_take (i := 14) (v := ?_) rfl (by kernel_rfl) (by kernel_rfl) (by kernel_rfl) (fun _ _ _ h => h) (by rfl) ?_ (by assumption) ?_
    rotate_left
    · intro X hSX
      try dsimp only at hSX
      go_simp <;> with_reducible rfl
    simp only [Act.put, List.setIfInBounds_toArray, List.set_cons_zero, List.set_cons_succ]
    refine held_take (i := 15) (v := ?_) rfl (by kernel_rfl) (by kernel_rfl) (by kernel_rfl) (fun _ _ _ h => h) (by rfl) ?_ (by assumption) ?_
    rotate_left
    · intro X hSX
      try dsimp only at hSX
      obtain ⟨_, d0, d1, d2, d3, d4, d5⟩ := hSX.d
      go_simp <;> with_reducible rfl
    simp only [Act.put, List.setIfInBounds_toArray, List.set_cons_zero, List.set_cons_succ]
    refine held_take (i := 16) (v := ?_) rfl (by kernel_rfl) (by kernel_rfl) (by kernel_rfl) (fun _ _ _ h => h) (by rfl) ?_ (by assumption) ?_
    rotate_left
    · intro X hSX
      try dsimp only at hSX
      go_simp <;> with_reducible rfl
    simp only [Act.put, List.setIfInBounds_toArray, List.set_cons_zero, List.set_cons_succ]
    refine held_take (i := 18) (v := ?_) rfl (by kernel_rfl) (by kernel_rfl) (by kernel_rfl) (fun _ _ _ h => h) (by rfl) ?_ (by assumption) ?_
    rotate_left
    · intro X hSX
      try dsimp only at hSX
      go_simp <;> with_reducible rfl
    simp only [Act.put, List.setIfInBounds_toArray, List.set_cons_zero, List.set_cons_succ]
    refine held_take (i := 19) (v := ?_) rfl (by kernel_rfl) (by kernel_rfl) (by kernel_rfl) (fun _ _ _ h => h) (by rfl) ?_ (by assumption) ?_
    rotate_left
    · intro X hSX
      try dsimp only at hSX
      obtain ⟨_, d0, d1, d2, d3, d4, d5⟩ := hSX.d
      go_simp <;> with_reducible rfl
    simp only [Act.put, List.setIfInBounds_toArray, List.set_cons_zero, List.set_cons_succ]
    refine held_take (i := 20) (v := ?_) rfl (by kernel_rfl) (by kernel_rfl) (by kernel_rfl) (fun _ _ _ h => h) (by rfl) ?_ (by assumption) ?_
    rotate_left
    · intro X hSX
      try dsimp only at hSX
      go_simp <;> with_reducible rfl
    simp only [Act.put, List.setIfInBounds_toArray, List.set_cons_zero, List.set_cons_succ]
    refine held_take (i := 22) (v := ?_) rfl (by kernel_rfl) (by kernel_rfl) (by kernel_rfl) (fun _ _ _ h => h) (by rfl) ?_ (by assumption) ?_
    rotate_left
    · intro X hSX
      try dsimp only at hSX
      go_simp <;> with_reducible rfl
    simp only [Act.put, List.setIfInBounds_toArray, List.set_cons_zero, List.set_cons_succ]
    refine held_take (i := 23) (v := ?_) rfl (by kernel_rfl) (by kernel_rfl) (by kernel_rfl) (fun _ _ _ h => h) (by rfl) ?_ (by assumption) ?_
    rotate_left
    · intro X hSX
      try dsimp only at hSX
      obtain ⟨_, d0, d1, d2, d3, d4, d5⟩ := hSX.d
      go_simp <;> with_reducible rfl
    simp only [Act.put, List.setIfInBounds_toArray, List.set_cons_zero, List.set_cons_succ]
    refine held_take (i := 24) (v := ?_) rfl (by kernel_rfl) (by kernel_rfl) (by kernel_rfl) (fun _ _ _ h => h) (by rfl) ?_ (by assumption) ?_
    rotate_left
    · intro X hSX
      try dsimp only at hSX
      go_simp <;> with_reducible rfl
    simp only [Act.put, List.setIfInBounds_toArray, List.set_cons_zero, List.set_cons_succ]
    refine held_take (i := 25) (v := ?_) rfl (by kernel_rfl) (by kernel_rfl) (by kernel_rfl) (fun _ _ _ h => h) (by rfl) ?_ (by assumption) ?_
    rotate_left
    · intro X hSX
      try dsimp only at hSX
      obtain ⟨_, k0, k1, k2, k3, k4, k5, k6, k7, k8, k9, k10, k11, k12⟩ := hSX.c
      go_simp <;> with_reducible rfl
    simp only [Act.put, List.setIfInBounds_toArray, List.set_cons_zero, List.set_cons_succ]
    refine held_take (i := 26) (v := ?_) rfl (by kernel_rfl) (by kernel_rfl) (by kernel_rfl) (fun _ _ _ h => h) (by rfl) ?_ (by assumption) ?_
    rotate_left
    · intro X hSX
      try dsimp only at hSX
      go_simp <;> with_reducible rfl
    simp only [Act.put, List.setIfInBounds_toArray, List.set_cons_zero, List.set_cons_succ]
    refine held_take (i := 28) (v := ?_) rfl (by kernel_rfl) (by kernel_rfl) (by kernel_rfl) (fun _ _ _ h => h) (by rfl) ?_ (by assumption) ?_
    rotate_left
    · intro X hSX
      try dsimp only at hSX
      go_simp <;> with_reducible rfl
    simp only [Act.put, List.setIfInBounds_toArray, List.set_cons_zero, List.set_cons_succ]
    refine held_take (i := 29) (v := ?_) rfl (by kernel_rfl) (by kernel_rfl) (by kernel_rfl) (fun _ _ _ h => h) (by rfl) ?_ (by assumption) ?_
    rotate_left
    · intro X hSX
      try dsimp only at hSX
      obtain ⟨_, d0, d1, d2, d3, d4, d5⟩ := hSX.d
      go_simp <;> with_reducible rfl
    simp only [Act.put, List.setIfInBounds_toArray, List.set_cons_zero, List.set_cons_succ]
    refine held_take (i := 30) (v := ?_) rfl (by kernel_rfl) (by kernel_rfl) (by kernel_rfl) (fun _ _ _ h => h) (by rfl) ?_ (by assumption) ?_
    rotate_left
    · intro X hSX
      try dsimp only at hSX
      go_simp <;> with_reducible rfl
    simp only [Act.put, List.setIfInBounds_toArray, List.set_cons_zero, List.set_cons_succ]
    refine held_take (i := 31) (v := ?_) rfl (by kernel_rfl) (by kernel_rfl) (by kernel_rfl) (fun _ _ _ h => h) (by rfl) ?_ (by assumption) ?_
    rotate_left
    · intro X hSX
      try dsimp only at hSX
      obtain ⟨_, k0, k1, k2, k3, k4, k5, k6, k7, k8, k9, k10, k11, k12⟩ := hSX.c
      go_simp <;> with_reducible rfl
    simp only [Act.put, List.setIfInBounds_toArray, List.set_cons_zero, List.set_cons_succ]
    refine held_take (i := 32) (v := ?_) rfl (by kernel_rfl) (by kernel_rfl) (by kernel_rfl) (fun _ _ _ h => h) (by rfl) ?_ (by assumption) ?_
    rotate_left
    · intro X hSX
      try dsimp only at hSX
      go_simp <;> with_reducible rfl
    simp only [Act.put, List.setIfInBounds_toArray, List.set_cons_zero, List.set_cons_succ]
    refine held_take (i := 33) (v := ?_) rfl (by kernel_rfl) (by kernel_rfl) (by kernel_rfl) (fun _ _ _ h => h) (by rfl) ?_ (by assumption) ?_
    rotate_left
    · intro X hSX
      try dsimp only at hSX
      go_simp <;> with_reducible rfl
    simp only [Act.put, List.setIfInBounds_toArray, List.set_cons_zero, List.set_cons_succ]
    refine held_call (i := 1) rfl (by kernel_rfl) (by rfl) (fun K' hK' => ?_)
    go_simp
    refine (HM.out X0).mono ?_
    rintro e X1 ⟨rfl, hb⟩
    replace HT := Lib.hid (HT.out.next hb)
    clear hb
    refine held_go hK' (HT.out.pre) ?_
    try simp only [Act.put, List.setIfInBounds_toArray, List.set_cons_zero, List.set_cons_succ]
    clear hS0
    have hS0 := HT.out.pre
    refine held_take (i := 2) (v := ?_) rfl (by kernel_rfl) (by kernel_rfl) (by kernel_rfl) (fun _ _ _ h => h) (by rfl) ?_ (by assumption) ?_
    rotate_left
    · intro X hSX
      try dsimp only at hSX
      go_simp <;> with_reducible rfl
    simp only [Act.put, List.setIfInBounds_toArray, List.set_cons_zero, List.set_cons_succ]
    refine held_take (i := 3) (v := ?_) rfl (by kernel_rfl) (by kernel_rfl) (by kernel_rfl) (fun _ _ _ h => h) (by rfl) ?_ (by assumption) ?_
    rotate_left
    · intro X hSX
      try dsimp only at hSX
      go_simp <;> with_reducible rfl
    simp only [Act.put, List.setIfInBounds_toArray, List.set_cons_zero, List.set_cons_succ]
    refine held_skip (i := 4) rfl (by kernel_rfl) (by kernel_rfl) (by kernel_rfl) (fun _ _ _ h => h) (by rfl) (by assumption) ?_
    simp only [Act.put, List.setIfInBounds_toArray, List.set_cons_zero, List.set_cons_succ]
    refine held_skip (i := 5) rfl (by kernel_rfl) (by kernel_rfl) (by kernel_rfl) (fun _ _ _ h => h) (by rfl) (by assumption) ?_
    simp only [Act.put, List.setIfInBounds_toArray, List.set_cons_zero, List.set_cons_succ]
    refine held_skip (i := 6) rfl (by kernel_rfl) (by kernel_rfl) (by kernel_rfl) (fun _ _ _ h => h) (by rfl) (by assumption) ?_
    simp only [Act.put, List.setIfInBounds_toArray, List.set_cons_zero, List.set_cons_succ]
    refine held_take (i := 7) (v := ?_) rfl (by kernel_rfl) (by kernel_rfl) (by kernel_rfl) (fun _ _ _ h => h) (by rfl) ?_ (by assumption) ?_
    rotate_left
    · intro X hSX
      try dsimp only at hSX
      go_simp <;> with_reducible rfl
    simp only [Act.put, List.setIfInBounds_toArray, List.set_cons_zero, List.set_cons_succ]
    refine held_take (i := 8) (v := ?_) rfl (by kernel_rfl) (by kernel_rfl) (by kernel_rfl) (fun _ _ _ h => h) (by rfl) ?_ (by assumption) ?_
    rotate_left
    · intro X hSX
      try dsimp only at hSX
      go_simp <;> with_reducible rfl
    simp only [Act.put, List.setIfInBounds_toArray, List.set_cons_zero, List.set_cons_succ]
    refine held_skip (i := 9) rfl (by kernel_rfl) (by kernel_rfl) (by kernel_rfl) (fun _ _ _ h => h) (by rfl) (by assumption) ?_
    simp only [Act.put, List.setIfInBounds_toArray, List.set_cons_zero, List.set_cons_succ]
    refine held_skip (i := 10) rfl (by kernel_rfl) (by kernel_rfl) (by kernel_rfl) (fun _ _ _ h => h) (by rfl) (by assumption) ?_
    simp only [Act.put, List.setIfInBounds_toArray, List.set_cons_zero, List.set_cons_succ]
    refine held_skip (i := 11) rfl (by kernel_rfl) (by kernel_rfl) (by kernel_rfl) (fun _ _ _ h => h) (by rfl) (by assumption) ?_
    simp only [Act.put, List.setIfInBounds_toArray, List.set_cons_zero, List.set_cons_succ]
    refine held_take (i := 12) (v := ?_) rfl (by kernel_rfl) (by kernel_rfl) (by kernel_rfl) (fun _ _ _ h => h) (by rfl) ?_ (by assumption) ?_
    rotate_left
    · intro X hSX
      try dsimp only at hSX
      go_simp <;> with_reducible rfl
    simp only [Act.put, List.setIfInBounds_toArray, List.set_cons_zero, List.set_cons_succ]
    refine held_call (i := 13) rfl (by kernel_rfl) (by rfl) (fun K' hK' => ?_)
    go_simp
    refine (failed_any _ _ _).mono ?_
    rintro e _ ⟨rfl, rfl⟩
    refine held_go hK' (HT.out.pre) ?_
    try simp only [Act.put, List.setIfInBounds_toArray, List.set_cons_zero, List.set_cons_succ]
    clear hS0
    have hS0 := HT.out.pre
    refine held_call (i := 17) rfl (by kernel_rfl) (by rfl) (fun K' hK' => ?_)
    go_simp
    refine (failed_any _ _ _).mono ?_
    rintro e _ ⟨rfl, rfl⟩
    refine held_go hK' (HT.out.pre) ?_
    try simp only [Act.put, List.setIfInBounds_toArray, List.set_cons_zero, List.set_cons_succ]
    clear hS0
    have hS0 := HT.out.pre
    refine held_call (i := 21) rfl (by kernel_rfl) (by rfl) (fun K' hK' => ?_)
    go_simp
    refine (failed_any _ _ _).mono ?_
    rintro e _ ⟨rfl, rfl⟩
    refine held_go hK' (HT.out.pre) ?_
    try simp only [Act.put, List.setIfInBounds_toArray, List.set_cons_zero, List.set_cons_succ]
    clear hS0
    have hS0 := HT.out.pre
    refine held_call (i := 27) rfl (by kernel_rfl) (by rfl) (fun K' hK' => ?_)
    go_simp
    refine (failed_any _ _ _).mono ?_
    rintro e _ ⟨rfl, rfl⟩
    refine held_go hK' (HT.out.pre) ?_
    try simp only [Act.put, List.setIfInBounds_toArray, List.set_cons_zero, List.set_cons_succ]
    clear hS0
    have hS0 := HT.out.pre
    refine held_call (i := 34) rfl (by kernel_rfl) (by rfl) (fun K' hK' => ?_)
    go_simp
    refine (failed_any _ _ _).mono ?_
    rintro e _ ⟨rfl, rfl⟩
    refine held_go hK' (HT.out.pre) ?_
    try simp only [Act.put, List.setIfInBounds_toArray, List.set_cons_zero, List.set_cons_succ]
    clear hS0
    have hS0 := HT.out.pre
    refine held_take (i := 35) (v := ?_) rfl (by kernel_rfl) (by kernel_rfl) (by kernel_rfl) (fun _ _ _ h => h) (by rfl) ?_ (by assumption) ?_
    rotate_left
    · intro X hSX
      try dsimp only at hSX
      go_simp <;> with_reducible rfl
    simp only [Act.put, List.setIfInBounds_toArray, List.set_cons_zero, List.set_cons_succ]
    refine held_call (i := 36) rfl (by kernel_rfl) (by rfl) (fun K' hK' => ?_)
    refine oper_store_ch (.tmp 6) (.tmp 42) rfl (w.heap.size + 3) rfl _ _ _ _ _ _ _ rfl chZ rfl (HT.out.at_ 3 (chZ, 72) rfl) ?_
    refine held_go hK' (HT.out.pre.far (by simp) _) ?_
    try simp only [Act.put, List.setIfInBounds_toArray, List.set_cons_zero, List.set_cons_succ]
    refine wpAnyH_done (by kernel_rfl) ?_ _
    refine NoPanic.normal ?_
    have HROW := Lib.hid (HT.out.at_ 3 (chZ, 72) rfl)
    go_wp2_with fail
    refine post_cellD rfl rfl (setRow_heap _ _ _ (chK _ _ _ _ _ _ _) _ _ HROW.out) Try.underlying72 rfl infoK rfl ?_
    exact ⟨_, _, _, _, _, _, _, rfl, HF.out, below_set HT.out.b (by omega) _⟩
  have HM := Lib.hid (fun X => (valmodel_any m X))
  rw [h0] at HM HF
  clear h0
  cases h1 : drvU d
  · have HD := Lib.hid (fun X => (valdrive_any d X))
    rw [h1] at HD HF
    go_enter Try.func42, Try.ntmps42
    go_wp2_with fail
    generalize World.alloc _ _ = Y0 at *
    replace HT := Lib.hid (HT.out.next (Below.refl Y0.heap.size Y0).drew)
    refine wp_region_noPanic ?_
    refine wp_region_held_drew (S := (fun X => Bx w X [(mdK m, 23), (drK d, 25), (crQ c ad cap, 30)])) (by kernel_rfl) (HT.out.pre) (fun hS0 => ?_)
    generalize World.drew Y0 = X0 at *
    refine held_take (i := 0) (v := ?_) rfl (by kernel_rfl) (by kernel_rfl) (by kernel_rfl) (fun _ _ _ h => h) (by rfl) ?_ (by assumption) ?_
    rotate_left
    · intro X hSX
      try dsimp only at hSX
      obtain ⟨_, m0, m1, m2, m3, m4⟩ := hSX.m
      go_simp <;> with_reducible rfl
    simp only [Act.put, List.setIfInBounds_toArray, List.set_cons_zero, List.set_cons_succ]
    refine held_take (i := 14) (v := ?_) rfl (by kernel_rfl) (by kernel_rfl) (by kernel_rfl) (fun _ _ _ h => h) (by rfl) ?_ (by assumption) ?_
    rotate_left
    · intro X hSX
      try dsimp only at hSX
      go_simp <;> with_reducible rfl
    simp only [Act.put, List.setIfInBounds_toArray, List.set_cons_zero, List.set_cons_succ]
    refine held_take (i := 15) (v := ?_) rfl (by kernel_rfl) (by kernel_rfl) (by kernel_rfl) (fun _ _ _ h => h) (by rfl) ?_ (by assumption) ?_
    rotate_left
    · intro X hSX
      try dsimp only at hSX
      obtain ⟨_, d0, d1, d2, d3, d4, d5⟩ := hSX.d
      go_simp <;> with_reducible rfl
    simp only [Act.put, List.setIfInBounds_toArray, List.set_cons_zero, List.set_cons_succ]
    refine held_take (i := 16) (v := ?_) rfl (by kernel_rfl) (by kernel_rfl) (by kernel_rfl) (fun _ _ _ h => h) (by rfl) ?_ (by assumption) ?_
    rotate_left
    · intro X hSX
      try dsimp only at hSX
      go_simp <;> with_reducible rfl
    simp only [Act.put, List.setIfInBounds_toArray, List.set_cons_zero, List.set_cons_succ]
    refine held_take (i := 18) (v := ?_) rfl (by kernel_rfl) (by kernel_rfl) (by kernel_rfl) (fun _ _ _ h => h) (by rfl) ?_ (by assumption) ?_
    rotate_left
    · intro X hSX
      try dsimp only at hSX
      go_simp <;> with_reducible rfl
    simp only [Act.put, List.setIfInBounds_toArray, List.set_cons_zero, List.set_cons_succ]
    refine held_take (i := 19) (v := ?_) rfl (by kernel_rfl) (by kernel_rfl) (by kernel_rfl) (fun _ _ _ h => h) (by rfl) ?_ (by assumption) ?_
    rotate_left
    · intro X hSX
      try dsimp only at hSX
      obtain ⟨_, d0, d1, d2, d3, d4, d5⟩ := hSX.d
      go_simp <;> with_reducible rfl
    simp only [Act.put, List.setIfInBounds_toArray, List.set_cons_zero, List.set_cons_succ]
    refine held_take (i := 20) (v := ?_) rfl (by kernel_rfl) (by kernel_rfl) (by kernel_rfl) (fun _ _ _ h => h) (by rfl) ?_ (by assumption) ?_
    rotate_left
    · intro X hSX
      try dsimp only at hSX
      go_simp <;> with_reducible rfl
    simp only [Act.put, List.setIfInBounds_toArray, List.set_cons_zero, List.set_cons_succ]
    refine held_take (i := 22) (v := ?_) rfl (by kernel_rfl) (by kernel_rfl) (by kernel_rfl) (fun _ _ _ h => h) (by rfl) ?_ (by assumption) ?_
    rotate_left
    · intro X hSX
      try dsimp only at hSX
      go_simp <;> with_reducible rfl
    simp only [Act.put, List.setIfInBounds_toArray, List.set_cons_zero, List.set_cons_succ]
    refine held_take (i := 23) (v := ?_) rfl (by kernel_rfl) (by kernel_rfl) (by kernel_rfl) (fun _ _ _ h => h) (by rfl) ?_ (by assumption) ?_
    rotate_left
    · intro X hSX
      try dsimp only at hSX
      obtain ⟨_, d0, d1, d2, d3, d4, d5⟩ := hSX.d
      go_simp <;> with_reducible rfl
    simp only [Act.put, List.setIfInBounds_toArray, List.set_cons_zero, List.set_cons_succ]
    refine held_take (i := 24) (v := ?_) rfl (by kernel_rfl) (by kernel_rfl) (by kernel_rfl) (fun _ _ _ h => h) (by rfl) ?_ (by assumption) ?_
    rotate_left
    · intro X hSX
      try dsimp only at hSX
      go_simp <;> with_reducible rfl
    simp only [Act.put, List.setIfInBounds_toArray, List.set_cons_zero, List.set_cons_succ]
    refine held_take (i := 25) (v := ?_) rfl (by kernel_rfl) (by kernel_rfl) (by kernel_rfl) (fun _ _ _ h => h) (by rfl) ?_ (by assumption) ?_
    rotate_left
    · intro X hSX
      try dsimp only at hSX
      obtain ⟨_, k0, k1, k2, k3, k4, k5, k6, k7, k8, k9, k10, k11, k12⟩ := hSX.c
      go_simp <;> with_reducible rfl
    simp only [Act.put, List.setIfInBounds_toArray, List.set_cons_zero, List.set_cons_succ]
    refine held_take (i := 26) (v := ?_) rfl (by kernel_rfl) (by kernel_rfl) (by kernel_rfl) (fun _ _ _ h => h) (by rfl) ?_ (by assumption) ?_
    rotate_left
    · intro X hSX
      try dsimp only at hSX
      go_simp <;> with_reducible rfl
    simp only [Act.put, List.setIfInBounds_toArray, List.set_cons_zero, List.set_cons_succ]
    refine held_take (i := 28) (v := ?_) rfl (by kernel_rfl) (by kernel_rfl) (by kernel_rfl) (fun _ _ _ h => h) (by rfl) ?_ (by assumption) ?_
    rotate_left
    · intro X hSX
      try dsimp only at hSX
      go_simp <;> with_reducible rfl
    simp only [Act.put, List.setIfInBounds_toArray, List.set_cons_zero, List.set_cons_succ]
    refine held_take (i := 29) (v := ?_) rfl (by kernel_rfl) (by kernel_rfl) (by kernel_rfl) (fun _ _ _ h => h) (by rfl) ?_ (by assumption) ?_
    rotate_left
    · intro X hSX
      try dsimp only at hSX
      obtain ⟨_, d0, d1, d2, d3, d4, d5⟩ := hSX.d
      go_simp <;> with_reducible rfl
    simp only [Act.put, List.setIfInBounds_toArray, List.set_cons_zero, List.set_cons_succ]
    refine held_take (i := 30) (v := ?_) rfl (by kernel_rfl) (by kernel_rfl) (by kernel_rfl) (fun _ _ _ h => h) (by rfl) ?_ (by assumption) ?_
    rotate_left
    · intro X hSX
      try dsimp only at hSX
      go_simp <;> with_reducible rfl
    simp only [Act.put, List.setIfInBounds_toArray, List.set_cons_zero, List.set_cons_succ]
    refine held_take (i := 31) (v := ?_) rfl (by kernel_rfl) (by kernel_rfl) (by kernel_rfl) (fun _ _ _ h => h) (by rfl) ?_ (by assumption) ?_
    rotate_left
    · intro X hSX
      try dsimp only at hSX
      obtain ⟨_, k0, k1, k2, k3, k4, k5, k6, k7, k8, k9, k10, k11, k12⟩ := hSX.c
      go_simp <;> with_reducible rfl
    simp only [Act.put, List.setIfInBounds_toArray, List.set_cons_zero, List.set_cons_succ]
    refine held_take (i := 32) (v := ?_) rfl (by kernel_rfl) (by kernel_rfl) (by kernel_rfl) (fun _ _ _ h => h) (by rfl) ?_ (by assumption) ?_
    rotate_left
    · intro X hSX
      try dsimp only at hSX
      go_simp <;> with_reducible rfl
    simp only [Act.put, List.setIfInBounds_toArray, List.set_cons_zero, List.set_cons_succ]
    refine held_take (i := 33) (v := ?_) rfl (by kernel_rfl) (by kernel_rfl) (by kernel_rfl) (fun _ _ _ h => h) (by rfl) ?_ (by assumption) ?_
    rotate_left
    · intro X hSX
      try dsimp only at hSX
      go_simp <;> with_reducible rfl
    simp only [Act.put, List.setIfInBounds_toArray, List.set_cons_zero, List.set_cons_succ]
    refine held_call (i := 1) rfl (by kernel_rfl) (by rfl) (fun K' hK' => ?_)
    go_simp
    refine (HM.out X0).mono ?_
    rintro e X1 ⟨rfl, hb⟩
    replace HT := Lib.hid (HT.out.next hb)
    clear hb
    refine held_go hK' (HT.out.pre) ?_
    try simp only [Act.put, List.setIfInBounds_toArray, List.set_cons_zero, List.set_cons_succ]
    clear hS0
    have hS0 := HT.out.pre
    refine held_take (i := 2) (v := ?_) rfl (by kernel_rfl) (by kernel_rfl) (by kernel_rfl) (fun _ _ _ h => h) (by rfl) ?_ (by assumption) ?_
    rotate_left
    · intro X hSX
      try dsimp only at hSX
      go_simp <;> with_reducible rfl
    simp only [Act.put, List.setIfInBounds_toArray, List.set_cons_zero, List.set_cons_succ]
    refine held_take (i := 3) (v := ?_) rfl (by kernel_rfl) (by kernel_rfl) (by kernel_rfl) (fun _ _ _ h => h) (by rfl) ?_ (by assumption) ?_
    rotate_left
    · intro X hSX
      try dsimp only at hSX
      go_simp <;> with_reducible rfl
    simp only [Act.put, List.setIfInBounds_toArray, List.set_cons_zero, List.set_cons_succ]
    refine held_take (i := 4) (v := ?_) rfl (by kernel_rfl) (by kernel_rfl) (by kernel_rfl) (fun _ _ _ h => h) (by rfl) ?_ (by assumption) ?_
    rotate_left
    · intro X hSX
      try dsimp only at hSX
      obtain ⟨_, d0, d1, d2, d3, d4, d5⟩ := hSX.d
      go_simp <;> with_reducible rfl
    simp only [Act.put, List.setIfInBounds_toArray, List.set_cons_zero, List.set_cons_succ]
    refine held_call (i := 5) rfl (by kernel_rfl) (by rfl) (fun K' hK' => ?_)
    go_simp
    refine (HD.out X1).mono ?_
    rintro e X2 ⟨rfl, hb⟩
    replace HT := Lib.hid (HT.out.next hb)
    clear hb
    refine held_go hK' (HT.out.pre) ?_
    try simp only [Act.put, List.setIfInBounds_toArray, List.set_cons_zero, List.set_cons_succ]
    clear hS0
    have hS0 := HT.out.pre
    refine held_take (i := 6) (v := ?_) rfl (by kernel_rfl) (by kernel_rfl) (by kernel_rfl) (fun _ _ _ h => h) (by rfl) ?_ (by assumption) ?_
    rotate_left
    · intro X hSX
      try dsimp only at hSX
      go_simp <;> with_reducible rfl
    simp only [Act.put, List.setIfInBounds_toArray, List.set_cons_zero, List.set_cons_succ]
    refine held_take (i := 7) (v := ?_) rfl (by kernel_rfl) (by kernel_rfl) (by kernel_rfl) (fun _ _ _ h => h) (by rfl) ?_ (by assumption) ?_
    rotate_left
    · intro X hSX
      try dsimp only at hSX
      go_simp <;> with_reducible rfl
    simp only [Act.put, List.setIfInBounds_toArray, List.set_cons_zero, List.set_cons_succ]
    refine held_take (i := 8) (v := ?_) rfl (by kernel_rfl) (by kernel_rfl) (by kernel_rfl) (fun _ _ _ h => h) (by rfl) ?_ (by assumption) ?_
    rotate_left
    · intro X hSX
      try dsimp only at hSX
      go_simp <;> with_reducible rfl
    simp only [Act.put, List.setIfInBounds_toArray, List.set_cons_zero, List.set_cons_succ]
    refine held_skip (i := 9) rfl (by kernel_rfl) (by kernel_rfl) (by kernel_rfl) (fun _ _ _ h => h) (by rfl) (by assumption) ?_
    simp only [Act.put, List.setIfInBounds_toArray, List.set_cons_zero, List.set_cons_succ]
    refine held_skip (i := 10) rfl (by kernel_rfl) (by kernel_rfl) (by kernel_rfl) (fun _ _ _ h => h) (by rfl) (by assumption) ?_
    simp only [Act.put, List.setIfInBounds_toArray, List.set_cons_zero, List.set_cons_succ]
    refine held_skip (i := 11) rfl (by kernel_rfl) (by kernel_rfl) (by kernel_rfl) (fun _ _ _ h => h) (by rfl) (by assumption) ?_
    simp only [Act.put, List.setIfInBounds_toArray, List.set_cons_zero, List.set_cons_succ]
    refine held_take (i := 12) (v := ?_) rfl (by kernel_rfl) (by kernel_rfl) (by kernel_rfl) (fun _ _ _ h => h) (by rfl) ?_ (by assumption) ?_
    rotate_left
    · intro X hSX
      try dsimp only at hSX
      go_simp <;> with_reducible rfl
    simp only [Act.put, List.setIfInBounds_toArray, List.set_cons_zero, List.set_cons_succ]
    refine held_call (i := 13) rfl (by kernel_rfl) (by rfl) (fun K' hK' => ?_)
    go_simp
    refine (failed_any _ _ _).mono ?_
    rintro e _ ⟨rfl, rfl⟩
    refine held_go hK' (HT.out.pre) ?_
    try simp only [Act.put, List.setIfInBounds_toArray, List.set_cons_zero, List.set_cons_succ]
    clear hS0
    have hS0 := HT.out.pre
    refine held_call (i := 17) rfl (by kernel_rfl) (by rfl) (fun K' hK' => ?_)
    go_simp
    refine (failed_any _ _ _).mono ?_
    rintro e _ ⟨rfl, rfl⟩
    refine held_go hK' (HT.out.pre) ?_
    try simp only [Act.put, List.setIfInBounds_toArray, List.set_cons_zero, List.set_cons_succ]
    clear hS0
    have hS0 := HT.out.pre
    refine held_call (i := 21) rfl (by kernel_rfl) (by rfl) (fun K' hK' => ?_)
    go_simp
    refine (failed_any _ _ _).mono ?_
    rintro e _ ⟨rfl, rfl⟩
    refine held_go hK' (HT.out.pre) ?_
    try simp only [Act.put, List.setIfInBounds_toArray, List.set_cons_zero, List.set_cons_succ]
    clear hS0
    have hS0 := HT.out.pre
    refine held_call (i := 27) rfl (by kernel_rfl) (by rfl) (fun K' hK' => ?_)
    go_simp
    refine (failed_any _ _ _).mono ?_
    rintro e _ ⟨rfl, rfl⟩
    refine held_go hK' (HT.out.pre) ?_
    try simp only [Act.put, List.setIfInBounds_toArray, List.set_cons_zero, List.set_cons_succ]
    clear hS0
    have hS0 := HT.out.pre
    refine held_call (i := 34) rfl (by kernel_rfl) (by rfl) (fun K' hK' => ?_)
    go_simp
    refine (failed_any _ _ _).mono ?_
    rintro e _ ⟨rfl, rfl⟩
    refine held_go hK' (HT.out.pre) ?_
    try simp only [Act.put, List.setIfInBounds_toArray, List.set_cons_zero, List.set_cons_succ]
    clear hS0
    have hS0 := HT.out.pre
    refine held_take (i := 35) (v := ?_) rfl (by kernel_rfl) (by kernel_rfl) (by kernel_rfl) (fun _ _ _ h => h) (by rfl) ?_ (by assumption) ?_
    rotate_left
    · intro X hSX
      try dsimp only at hSX
      go_simp <;> with_reducible rfl
    simp only [Act.put, List.setIfInBounds_toArray, List.set_cons_zero, List.set_cons_succ]
    refine held_call (i := 36) rfl (by kernel_rfl) (by rfl) (fun K' hK' => ?_)
    refine oper_store_ch (.tmp 6) (.tmp 42) rfl (w.heap.size + 3) rfl _ _ _ _ _ _ _ rfl chZ rfl (HT.out.at_ 3 (chZ, 72) rfl) ?_
    refine held_go hK' (HT.out.pre.far (by simp) _) ?_
    try simp only [Act.put, List.setIfInBounds_toArray, List.set_cons_zero, List.set_cons_succ]
    refine wpAnyH_done (by kernel_rfl) ?_ _
    refine NoPanic.normal ?_
    have HROW := Lib.hid (HT.out.at_ 3 (chZ, 72) rfl)
    go_wp2_with fail
    refine post_cellD rfl rfl (setRow_heap _ _ _ (chK _ _ _ _ _ _ _) _ _ HROW.out) Try.underlying72 rfl infoK rfl ?_
    exact ⟨_, _, _, _, _, _, _, rfl, HF.out, below_set HT.out.b (by omega) _⟩
  have HD := Lib.hid (fun X => (valdrive_any d X))
  rw [h1] at HD HF
  clear h1
  have HC := Lib.hid (fun X h => valc_any c ad cap X h)
  generalize vldC c = vc at *
  go_enter Try.func42, Try.ntmps42
  go_wp2_with fail
  generalize World.alloc _ _ = Y0 at *
  replace HT := Lib.hid (HT.out.next (Below.refl Y0.heap.size Y0).drew)
  refine wp_region_noPanic ?_
  refine wp_region_held_drew (S := (fun X => Bx w X [(mdK m, 23), (drK d, 25), (crQ c ad cap, 30)])) (by kernel_rfl) (HT.out.pre) (fun hS0 => ?_)
  generalize World.drew Y0 = X0 at *
  refine held_take (i := 0) (v := ?_) rfl (by kernel_rfl) (by kernel_rfl) (by kernel_rfl) (fun _ _ _ h => h) (by rfl) ?_ (by assumption) ?_
  rotate_left
  · intro X hSX
    try dsimp only at hSX
    obtain ⟨_, m0, m1, m2, m3, m4⟩ := hSX.m
    go_simp <;> with_reducible rfl
  simp only [Act.put, List.setIfInBounds_toArray, List.set_cons_zero, List.set_cons_succ]
  refine held_take (i := 14) (v := ?_) rfl (by kernel_rfl) (by kernel_rfl) (by kernel_rfl) (fun _ _ _ h => h) (by rfl) ?_ (by assumption) ?_
  rotate_left
  · intro X hSX
    try dsimp only at hSX
    go_simp <;> with_reducible rfl
  simp only [Act.put, List.setIfInBounds_toArray, List.set_cons_zero, List.set_cons_succ]
  refine held_take (i := 15) (v := ?_) rfl (by kernel_rfl) (by kernel_rfl) (by kernel_rfl) (fun _ _ _ h => h) (by rfl) ?_ (by assumption) ?_
  rotate_left
  · intro X hSX
    try dsimp only at hSX
    obtain ⟨_, d0, d1, d2, d3, d4, d5⟩ := hSX.d
    go_simp <;> with_reducible rfl
  simp only [Act.put, List.setIfInBounds_toArray, List.set_cons_zero, List.set_cons_succ]
  refine held_take (i := 16) (v := ?_) rfl (by kernel_rfl) (by kernel_rfl) (by kernel_rfl) (fun _ _ _ h => h) (by rfl) ?_ (by assumption) ?_
  rotate_left
  · intro X hSX
    try dsimp only at hSX
    go_simp <;> with_reducible rfl
  simp only [Act.put, List.setIfInBounds_toArray, List.set_cons_zero, List.set_cons_succ]
  refine held_take (i := 18) (v := ?_) rfl (by kernel_rfl) (by kernel_rfl) (by kernel_rfl) (fun _ _ _ h => h) (by rfl) ?_ (by assumption) ?_
  rotate_left
  · intro X hSX
    try dsimp only at hSX
    go_simp <;> with_reducible rfl
  simp only [Act.put, List.setIfInBounds_toArray, List.set_cons_zero, List.set_cons_succ]
  refine held_take (i := 19) (v := ?_) rfl (by kernel_rfl) (by kernel_rfl) (by kernel_rfl) (fun _ _ _ h => h) (by rfl) ?_ (by assumption) ?_
  rotate_left
  · intro X hSX
    try dsimp only at hSX
    obtain ⟨_, d0, d1, d2, d3, d4, d5⟩ := hSX.d
    go_simp <;> with_reducible rfl
  simp only [Act.put, List.setIfInBounds_toArray, List.set_cons_zero, List.set_cons_succ]
  refine held_take (i := 20) (v := ?_) rfl (by kernel_rfl) (by kernel_rfl) (by kernel_rfl) (fun _ _ _ h => h) (by rfl) ?_ (by assumption) ?_
  rotate_left
  · intro X hSX
    try dsimp only at hSX
    go_simp <;> with_reducible rfl
  simp only [Act.put, List.setIfInBounds_toArray, List.set_cons_zero, List.set_cons_succ]
  refine held_take (i := 22) (v := ?_) rfl (by kernel_rfl) (by kernel_rfl) (by kernel_rfl) (fun _ _ _ h => h) (by rfl) ?_ (by assumption) ?_
  rotate_left
  · intro X hSX
    try dsimp only at hSX
    go_simp <;> with_reducible rfl
  simp only [Act.put, List.setIfInBounds_toArray, List.set_cons_zero, List.set_cons_succ]
  refine held_take (i := 23) (v := ?_) rfl (by kernel_rfl) (by kernel_rfl) (by kernel_rfl) (fun _ _ _ h => h) (by rfl) ?_ (by assumption) ?_
  rotate_left
  · intro X hSX
    try dsimp only at hSX
    obtain ⟨_, d0, d1, d2, d3, d4, d5⟩ := hSX.d
    go_simp <;> with_reducible rfl
  simp only [Act.put, List.setIfInBounds_toArray, List.set_cons_zero, List.set_cons_succ]
  refine held_take (i := 24) (v := ?_) rfl (by kernel_rfl) (by kernel_rfl) (by kernel_rfl) (fun _ _ _ h => h) (by rfl) ?_ (by assumption) ?_
  rotate_left
  · intro X hSX
    try dsimp only at hSX
    go_simp <;> with_reducible rfl
  simp only [Act.put, List.setIfInBounds_toArray, List.set_cons_zero, List.set_cons_succ]
  refine held_take (i := 25) (v := ?_) rfl (by kernel_rfl) (by kernel_rfl) (by kernel_rfl) (fun _ _ _ h => h) (by rfl) ?_ (by assumption) ?_
  rotate_left
  · intro X hSX
    try dsimp only at hSX
    obtain ⟨_, k0, k1, k2, k3, k4, k5, k6, k7, k8, k9, k10, k11, k12⟩ := hSX.c
    go_simp <;> with_reducible rfl
  simp only [Act.put, List.setIfInBounds_toArray, List.set_cons_zero, List.set_cons_succ]
  refine held_take (i := 26) (v := ?_) rfl (by kernel_rfl) (by kernel_rfl) (by kernel_rfl) (fun _ _ _ h => h) (by rfl) ?_ (by assumption) ?_
  rotate_left
  · intro X hSX
    try dsimp only at hSX
    go_simp <;> with_reducible rfl
  simp only [Act.put, List.setIfInBounds_toArray, List.set_cons_zero, List.set_cons_succ]
  refine held_take (i := 28) (v := ?_) rfl (by kernel_rfl) (by kernel_rfl) (by kernel_rfl) (fun _ _ _ h => h) (by rfl) ?_ (by assumption) ?_
  rotate_left
  · intro X hSX
    try dsimp only at hSX
    go_simp <;> with_reducible rfl
  simp only [Act.put, List.setIfInBounds_toArray, List.set_cons_zero, List.set_cons_succ]
  refine held_take (i := 29) (v := ?_) rfl (by kernel_rfl) (by kernel_rfl) (by kernel_rfl) (fun _ _ _ h => h) (by rfl) ?_ (by assumption) ?_
  rotate_left
  · intro X hSX
    try dsimp only at hSX
    obtain ⟨_, d0, d1, d2, d3, d4, d5⟩ := hSX.d
    go_simp <;> with_reducible rfl
  simp only [Act.put, List.setIfInBounds_toArray, List.set_cons_zero, List.set_cons_succ]
  refine held_take (i := 30) (v := ?_) rfl (by kernel_rfl) (by kernel_rfl) (by kernel_rfl) (fun _ _ _ h => h) (by rfl) ?_ (by assumption) ?_
  rotate_left
  · intro X hSX
    try dsimp only at hSX
    go_simp <;> with_reducible rfl
  simp only [Act.put, List.setIfInBounds_toArray, List.set_cons_zero, List.set_cons_succ]
  refine held_take (i := 31) (v := ?_) rfl (by kernel_rfl) (by kernel_rfl) (by kernel_rfl) (fun _ _ _ h => h) (by rfl) ?_ (by assumption) ?_
  rotate_left
  · intro X hSX
    try dsimp only at hSX
    obtain ⟨_, k0, k1, k2, k3, k4, k5, k6, k7, k8, k9, k10, k11, k12⟩ := hSX.c
    go_simp <;> with_reducible rfl
  simp only [Act.put, List.setIfInBounds_toArray, List.set_cons_zero, List.set_cons_succ]
  refine held_take (i := 32) (v := ?_) rfl (by kernel_rfl) (by kernel_rfl) (by kernel_rfl) (fun _ _ _ h => h) (by rfl) ?_ (by assumption) ?_
  rotate_left
  · intro X hSX
    try dsimp only at hSX
    go_simp <;> with_reducible rfl
  simp only [Act.put, List.setIfInBounds_toArray, List.set_cons_zero, List.set_cons_succ]
  refine held_take (i := 33) (v := ?_) rfl (by kernel_rfl) (by kernel_rfl) (by kernel_rfl) (fun _ _ _ h => h) (by rfl) ?_ (by assumption) ?_
  rotate_left
  · intro X hSX
    try dsimp only at hSX
    go_simp <;> with_reducible rfl
  simp only [Act.put, List.setIfInBounds_toArray, List.set_cons_zero, List.set_cons_succ]
  refine held_call (i := 1) rfl (by kernel_rfl) (by rfl) (fun K' hK' => ?_)
  go_simp
  refine (HM.out X0).mono ?_
  rintro e X1 ⟨rfl, hb⟩
  replace HT := Lib.hid (HT.out.next hb)
  clear hb
  refine held_go hK' (HT.out.pre) ?_
  try simp only [Act.put, List.setIfInBounds_toArray, List.set_cons_zero, List.set_cons_succ]
  clear hS0
  have hS0 := HT.out.pre
  refine held_take (i := 2) (v := ?_) rfl (by kernel_rfl) (by kernel_rfl) (by kernel_rfl) (fun _ _ _ h => h) (by rfl) ?_ (by assumption) ?_
  rotate_left
  · intro X hSX
    try dsimp only at hSX
    go_simp <;> with_reducible rfl
  simp only [Act.put, List.setIfInBounds_toArray, List.set_cons_zero, List.set_cons_succ]
  refine held_take (i := 3) (v := ?_) rfl (by kernel_rfl) (by kernel_rfl) (by kernel_rfl) (fun _ _ _ h => h) (by rfl) ?_ (by assumption) ?_
  rotate_left
  · intro X hSX
    try dsimp only at hSX
    go_simp <;> with_reducible rfl
  simp only [Act.put, List.setIfInBounds_toArray, List.set_cons_zero, List.set_cons_succ]
  refine held_take (i := 4) (v := ?_) rfl (by kernel_rfl) (by kernel_rfl) (by kernel_rfl) (fun _ _ _ h => h) (by rfl) ?_ (by assumption) ?_
  rotate_left
  · intro X hSX
    try dsimp only at hSX
    obtain ⟨_, d0, d1, d2, d3, d4, d5⟩ := hSX.d
    go_simp <;> with_reducible rfl
  simp only [Act.put, List.setIfInBounds_toArray, List.set_cons_zero, List.set_cons_succ]
  refine held_call (i := 5) rfl (by kernel_rfl) (by rfl) (fun K' hK' => ?_)
  go_simp
  refine (HD.out X1).mono ?_
  rintro e X2 ⟨rfl, hb⟩
  replace HT := Lib.hid (HT.out.next hb)
  clear hb
  refine held_go hK' (HT.out.pre) ?_
  try simp only [Act.put, List.setIfInBounds_toArray, List.set_cons_zero, List.set_cons_succ]
  clear hS0
  have hS0 := HT.out.pre
  refine held_take (i := 6) (v := ?_) rfl (by kernel_rfl) (by kernel_rfl) (by kernel_rfl) (fun _ _ _ h => h) (by rfl) ?_ (by assumption) ?_
  rotate_left
  · intro X hSX
    try dsimp only at hSX
    go_simp <;> with_reducible rfl
  simp only [Act.put, List.setIfInBounds_toArray, List.set_cons_zero, List.set_cons_succ]
  refine held_take (i := 7) (v := ?_) rfl (by kernel_rfl) (by kernel_rfl) (by kernel_rfl) (fun _ _ _ h => h) (by rfl) ?_ (by assumption) ?_
  rotate_left
  · intro X hSX
    try dsimp only at hSX
    go_simp <;> with_reducible rfl
  simp only [Act.put, List.setIfInBounds_toArray, List.set_cons_zero, List.set_cons_succ]
  refine held_take (i := 8) (v := ?_) rfl (by kernel_rfl) (by kernel_rfl) (by kernel_rfl) (fun _ _ _ h => h) (by rfl) ?_ (by assumption) ?_
  rotate_left
  · intro X hSX
    try dsimp only at hSX
    go_simp <;> with_reducible rfl
  simp only [Act.put, List.setIfInBounds_toArray, List.set_cons_zero, List.set_cons_succ]
  refine held_take (i := 9) (v := ?_) rfl (by kernel_rfl) (by kernel_rfl) (by kernel_rfl) (fun _ _ _ h => h) (by rfl) ?_ (by assumption) ?_
  rotate_left
  · intro X hSX
    try dsimp only at hSX
    obtain ⟨_, k0, k1, k2, k3, k4, k5, k6, k7, k8, k9, k10, k11, k12⟩ := hSX.c
    go_simp <;> with_reducible rfl
  simp only [Act.put, List.setIfInBounds_toArray, List.set_cons_zero, List.set_cons_succ]
  refine held_call (i := 10) rfl (by kernel_rfl) (by rfl) (fun K' hK' => ?_)
  go_simp
  refine (HC.out X2 (HIN.out.below HT.out.b)).mono ?_
  rintro e X3 ⟨rfl, hb⟩
  replace HT := Lib.hid (HT.out.next hb)
  clear hb
  refine held_go hK' (HT.out.pre) ?_
  try simp only [Act.put, List.setIfInBounds_toArray, List.set_cons_zero, List.set_cons_succ]
  clear hS0
  have hS0 := HT.out.pre
  refine held_take (i := 11) (v := ?_) rfl (by kernel_rfl) (by kernel_rfl) (by kernel_rfl) (fun _ _ _ h => h) (by rfl) ?_ (by assumption) ?_
  rotate_left
  · intro X hSX
    try dsimp only at hSX
    go_simp <;> with_reducible rfl
  simp only [Act.put, List.setIfInBounds_toArray, List.set_cons_zero, List.set_cons_succ]
  refine held_take (i := 12) (v := ?_) rfl (by kernel_rfl) (by kernel_rfl) (by kernel_rfl) (fun _ _ _ h => h) (by rfl) ?_ (by assumption) ?_
  rotate_left
  · intro X hSX
    try dsimp only at hSX
    go_simp <;> with_reducible rfl
  simp only [Act.put, List.setIfInBounds_toArray, List.set_cons_zero, List.set_cons_succ]
  refine held_call (i := 13) rfl (by kernel_rfl) (by rfl) (fun K' hK' => ?_)
  go_simp
  refine (failed_any _ _ _).mono ?_
  rintro e _ ⟨rfl, rfl⟩
  refine held_go hK' (HT.out.pre) ?_
  try simp only [Act.put, List.setIfInBounds_toArray, List.set_cons_zero, List.set_cons_succ]
  clear hS0
  have hS0 := HT.out.pre
  refine held_call (i := 17) rfl (by kernel_rfl) (by rfl) (fun K' hK' => ?_)
  go_simp
  refine (failed_any _ _ _).mono ?_
  rintro e _ ⟨rfl, rfl⟩
  refine held_go hK' (HT.out.pre) ?_
  try simp only [Act.put, List.setIfInBounds_toArray, List.set_cons_zero, List.set_cons_succ]
  clear hS0
  have hS0 := HT.out.pre
  refine held_call (i := 21) rfl (by kernel_rfl) (by rfl) (fun K' hK' => ?_)
  go_simp
  refine (failed_any _ _ _).mono ?_
  rintro e _ ⟨rfl, rfl⟩
  refine held_go hK' (HT.out.pre) ?_
  try simp only [Act.put, List.setIfInBounds_toArray, List.set_cons_zero, List.set_cons_succ]
  clear hS0
  have hS0 := HT.out.pre
  refine held_call (i := 27) rfl (by kernel_rfl) (by rfl) (fun K' hK' => ?_)
  go_simp
  refine (failed_any _ _ _).mono ?_
  rintro e _ ⟨rfl, rfl⟩
  refine held_go hK' (HT.out.pre) ?_
  try simp only [Act.put, List.setIfInBounds_toArray, List.set_cons_zero, List.set_cons_succ]
  clear hS0
  have hS0 := HT.out.pre
  refine held_call (i := 34) rfl (by kernel_rfl) (by rfl) (fun K' hK' => ?_)
  go_simp
  refine (failed_any _ _ _).mono ?_
  rintro e _ ⟨rfl, rfl⟩
  refine held_go hK' (HT.out.pre) ?_
  try simp only [Act.put, List.setIfInBounds_toArray, List.set_cons_zero, List.set_cons_succ]
  clear hS0
  have hS0 := HT.out.pre
  refine held_take (i := 35) (v := ?_) rfl (by kernel_rfl) (by kernel_rfl) (by kernel_rfl) (fun _ _ _ h => h) (by rfl) ?_ (by assumption) ?_
  rotate_left
  · intro X hSX
    try dsimp only at hSX
    go_simp <;> with_reducible rfl
  simp only [Act.put, List.setIfInBounds_toArray, List.set_cons_zero, List.set_cons_succ]
  refine held_call (i := 36) rfl (by kernel_rfl) (by rfl) (fun K' hK' => ?_)
  refine oper_store_ch (.tmp 6) (.tmp 42) rfl (w.heap.size + 3) rfl _ _ _ _ _ _ _ rfl chZ rfl (HT.out.at_ 3 (chZ, 72) rfl) ?_
  refine held_go hK' (HT.out.pre.far (by simp) _) ?_
  try simp only [Act.put, List.setIfInBounds_toArray, List.set_cons_zero, List.set_cons_succ]
  refine wpAnyH_done (by kernel_rfl) ?_ _
  refine NoPanic.normal ?_
  have HROW := Lib.hid (HT.out.at_ 3 (chZ, 72) rfl)
  go_wp2_with fail
  refine post_cellD rfl rfl (setRow_heap _ _ _ (chK _ _ _ _ _ _ _) _ _ HROW.out) Try.underlying72 rfl infoK rfl ?_
  exact ⟨_, _, _, _, _, _, _, rfl, HF.out, below_set HT.out.b (by omega) _⟩
end Go.Proofs.Ytepmmlnopdjjdaa
