/-
  A struct as the one result, or as the first of two; a place stored into a block of its own.
  The distance of two numbers; whether a motion is opposite; its time; and the specification's size and time.
  has: the geometry is valid, and all numbers are from 0 to its capacity.
  Valid and Capacity of both.
  Place, of the program and of the specification.
  Locate and Passes of the program.
-/
import Derived.Test.YtepmmlnopdjjdaaQStr
import Derived.Test.YtepmmlnopdjjdaaQSerp
import Derived.Test.YtepmmlnopdjjdaaQVld
import Derived.Test.YtepmmlnopdjjdaaQSmall
namespace Go.Proofs.Ytepmmlnopdjjdaa
open Go.RowKit
set_option linter.unusedVariables false
theorem post_cell1 {P : Program} {fn : Func} {R : Ending → World → Prop} {p : Tmp} {ty : TypeId} (h : fn.results = #[.cell p ty]) {a : Act} {w : World} {g : Nat} {cs : Array Value} {t : TypeId} {d : TypeDesc}
    (hp : a.tmps.getD p undef = .pointer (some ⟨g, 0, none⟩)) (hg : w.heap[g]? = some (.cells cs t (0, 0))) (hu : P.underlying ty = some d) (hd : (match d with | .struct _ | .array _ _ => true | _ => false) = true)
    (hi : (P.info? ty).map (·.size) = some cs.size) (hdef : a.defers = []) (hR : R (.returned (.agg cs)) w) : bodyPost P fn R .ret a w := by
  refine bodyPost_ret (v := .agg cs) ?_ hdef hR
  have e : (results fn a.tmps).run P w = ((asAddr (a.tmps.getD p undef)).run P w).andThen fun b w1 => (loadVar ty b).run P w1 := by
    simp only [results, h]
    simp [Sem.run_bind, Result.andThen]
  rw [e, hp]
  simp only [asAddr, Sem.run_pure, Result.andThen, run_loadVar_row w g t ty cs (0, 0) d hg hu hd hi]
theorem post_cell2 {P : Program} {fn : Func} {R : Ending → World → Prop} {p q : Tmp} {ty : TypeId} (h : fn.results = #[.cell p ty, .tmp q]) {a : Act} {w : World} {g : Nat} {cs : Array Value} {t : TypeId} {d : TypeDesc}
    (hp : a.tmps.getD p undef = .pointer (some ⟨g, 0, none⟩)) (hg : w.heap[g]? = some (.cells cs t (0, 0))) (hu : P.underlying ty = some d) (hd : (match d with | .struct _ | .array _ _ => true | _ => false) = true)
    (hi : (P.info? ty).map (·.size) = some cs.size) (hdef : a.defers = []) {x : Value} (hx : a.tmps.getD q undef = x) (hR : R (.returned (.tuple #[.agg cs, x])) w) : bodyPost P fn R .ret a w := by
  subst hx
  refine bodyPost_ret (v := .tuple #[.agg cs, a.tmps.getD q undef]) ?_ hdef hR
  have e : (results fn a.tmps).run P w = ((asAddr (a.tmps.getD p undef)).run P w).andThen fun b w1 => ((loadVar ty b).run P w1).andThen fun v w2 => .ok (.tuple #[v, a.tmps.getD q undef]) w2 := by
    simp only [results, h]
    simp [Sem.run_bind, Result.andThen]
  rw [e, hp]
  simp only [asAddr, Sem.run_pure, Result.andThen, run_loadVar_row w g t ty cs (0, 0) d hg hu hd hi]
theorem infoPl : (Try.prog.info? 92).map (·.size) = some 3 := by kernel_rfl
theorem infoGe : (Try.prog.info? 27).map (·.size) = some 6 := by kernel_rfl
/-- a place into a block of a place -/
theorem wpList_store_pl {ops : Array Oper} {rest : List Oper} {o : Oper} {a : Act} {w : World} {Q : Exit → Act → World → Prop} (hgd : o.guard = none) (x y : Operand) (ho : o.op = .store 92 x y)
    (g : Nat) (hx : a.eval x = .pointer (some ⟨g, 0, none⟩)) (p q : Int) (k : Bool) (hy : a.eval y = .agg #[.int .i64 p, .int .i64 q, .bool k]) (u1 u2 u3 : Value) (hg : w.heap[g]? = some (.cells #[u1, u2, u3] 92 (0, 0)))
    (h : wpList Try.prog ops Q rest (a.put o.dst undef) (w.setRow g #[.int .i64 p, .int .i64 q, .bool k])) : wpList Try.prog ops Q (o :: rest) a w :=
  wpList_store_agg hgd _ x y ho g hx _ _ hy _ hg infoPl rfl (by simp [Value.oneCell']) h
end Go.Proofs.Ytepmmlnopdjjdaa
namespace Go.Proofs.Ytepmmlnopdjjdaa
open Go.RowKit
set_option linter.unusedVariables false
set_option maxRecDepth 100000 in
set_option maxHeartbeats 400000 in
theorem distance_any (a b : Int) (w : World) (a0 : -1000000000 ≤ a) (a1 : a ≤ 1000000000) (b0 : -1000000000 ≤ b) (b1 : b ≤ 1000000000) :
    Calls Try.prog 92 #[.int .i64 a, .int .i64 b] w fun e w' => e = .returned (.int .i64 (dis a b)) ∧ w' = w := by
  go_enter Try.func92, Try.ntmps92
  go_wp2
  all_goals go_ret
  · exact ⟨ret_i64s (by unfold dis; omega), rfl⟩
  · exact ⟨ret_i64s (by unfold dis; omega), rfl⟩
set_option maxRecDepth 100000 in
set_option maxHeartbeats 400000 in
theorem rsize_any (a : Int) (w : World) (a0 : -1000000000 ≤ a) (a1 : a ≤ 1000000000) :
    Calls Try.prog 61 #[.int .i64 a] w fun e w' => e = .returned (.int .i64 (dis a 0)) ∧ w' = w := by
  go_enter Try.func61, Try.ntmps61
  go_wp2
  all_goals go_ret
  · exact ⟨ret_i64s (by unfold dis; omega), rfl⟩
  · exact ⟨ret_i64s (by unfold dis; omega), rfl⟩
abbrev plV (w p : Int) (k : Bool) : Value := .agg #[.int .i64 w, .int .i64 p, .bool k]
set_option maxRecDepth 100000 in
set_option maxHeartbeats 400000 in
theorem opposite_any (wa pa : Int) (ka : Bool) (wb pb : Int) (kb : Bool) (w : World) :
    Calls Try.prog 93 #[plV wa pa ka, plV wb pb kb] w fun e w' => e = .returned (.bool (opp pa ka pb kb)) ∧ Below w.heap.size w w' := by
  go_enter Try.func93, Try.ntmps93
  go_wp2
  all_goals go_ret
  · rename_i h
    exact ⟨ret_bools (by unfold opp; rw [if_pos (by simpa using h)]; rfl), below_box2 _ _ _⟩
  · rename_i h
    exact ⟨ret_bools (by unfold opp; rw [if_neg (by simpa using h)]), below_box2 _ _ _⟩
/-- a place lies in block g -/
structure PlAt (w : World) (g : Nat) (a b : Int) (k : Bool) : Prop where
  lt : g < w.heap.size
  c0 : w.cell? ⟨g, 0, none⟩ = some (.int .i64 a)
  c1 : w.cell? ⟨g, 1, none⟩ = some (.int .i64 b)
  c2 : w.cell? ⟨g, 2, none⟩ = some (.bool k)
theorem PlAt.below {W' w : World} {B g : Nat} {a b : Int} {k : Bool} (h : PlAt W' g a b k) (hb : Below B W' w) (hB : g < B) : PlAt w g a b k :=
  ⟨Nat.lt_of_lt_of_le h.lt hb.size, (hb.cell hB).trans h.c0, (hb.cell hB).trans h.c1, (hb.cell hB).trans h.c2⟩
theorem PlAt.new (w : World) (a b : Int) (k : Bool) (t : TypeId) : PlAt (w.alloc (.cells #[.int .i64 a, .int .i64 b, .bool k] t)) w.heap.size a b k := by
  refine ⟨by simp, ?_, ?_, ?_⟩ <;> (rw [World.cell?_alloc_mark]; rfl)
theorem PlAt.alloc {w : World} {g : Nat} {a b : Int} {k : Bool} (h : PlAt w g a b k) (o : Obj) : PlAt (w.alloc o) g a b k := h.below (below_box1 w o) h.lt
theorem dis_pos (a b : Int) (w : World) (h : -1000000000 ≤ a ∧ a ≤ 1000000000 ∧ -1000000000 ≤ b ∧ b ≤ 1000000000) :
    Calls Try.prog 92 #[.int .i64 a, .int .i64 b] w fun e w' => e = .returned (.int .i64 (dis a b)) ∧ w' = w := distance_any a b w h.1 h.2.1 h.2.2.1 h.2.2.2
attribute [local irreducible] dis opp
set_option maxRecDepth 100000 in
set_option maxHeartbeats 400000 in
theorem motion_any (W L S T J R wa pa : Int) (ka : Bool) (wb pb : Int) (kb : Bool) (w : World) (s0 : 0 ≤ S) (s1 : S ≤ 1000000) (t0 : 0 ≤ T) (t1 : T ≤ 1000000) (j0 : 0 ≤ J) (j1 : J ≤ 1000000)
    (wa0 : 0 ≤ wa) (wa1 : wa ≤ 32) (wb0 : 0 ≤ wb) (wb1 : wb ≤ 32) (pa0 : -1 ≤ pa) (pa1 : pa ≤ 4096) (pb0 : -1 ≤ pb) (pb1 : pb ≤ 4096) :
    Calls Try.prog 88 #[geV W L S T J R, plV wa pa ka, plV wb pb kb] w fun e w' => e = .returned (.int .i64 (mov S T J wa pa ka wb pb kb)) ∧ Below w.heap.size w w' := by
  have hd : dis pa pb ≤ 4097 ∧ dis wa wb ≤ 32 := by unfold dis; omega
  obtain ⟨e1, e2⟩ := mul_bd (m := 4097) s0 s1 (dis_nonneg pa pb) hd.1
  obtain ⟨e3, e4⟩ := mul_bd (m := 32) j0 j1 (dis_nonneg wa wb) hd.2
  go_enter Try.func88, Try.ntmps88
  go_wp2_with fail
  have HB0 := Lib.hid (below_box3 w (.cells #[.int .i64 W, .int .i64 L, .int .i64 S, .int .i64 T, .int .i64 J, .int .i64 R] 27) (.cells #[.int .i64 wa, .int .i64 pa, .bool ka] 92) (.cells #[.int .i64 wb, .int .i64 pb, .bool kb] 92))
  have HG := Lib.hid (((GeoAt.new w W L S T J R 27).alloc (.cells #[.int .i64 wa, .int .i64 pa, .bool ka] 92)).alloc (.cells #[.int .i64 wb, .int .i64 pb, .bool kb] 92))
  have HP := Lib.hid ((PlAt.new (w.alloc (.cells #[.int .i64 W, .int .i64 L, .int .i64 S, .int .i64 T, .int .i64 J, .int .i64 R] 27)) wa pa ka 92).alloc (.cells #[.int .i64 wb, .int .i64 pb, .bool kb] 92))
  have HQ := Lib.hid (PlAt.new ((w.alloc (.cells #[.int .i64 W, .int .i64 L, .int .i64 S, .int .i64 T, .int .i64 J, .int .i64 R] 27)).alloc (.cells #[.int .i64 wa, .int .i64 pa, .bool ka] 92)) wb pb kb 92)
  simp only [World.size_alloc, Nat.add_assoc, Nat.reduceAdd] at HP HQ
  generalize World.alloc _ _ = wr at HB0 HG HP HQ ⊢
  obtain ⟨_, g0, g1, g2, g3, g4, g5⟩ := HG.out
  obtain ⟨_, p0, p1, p2⟩ := HP.out
  obtain ⟨_, q0, q1, q2⟩ := HQ.out
  go_quiet ((go_at_call 92; exact Calls.quiet_of_same (dis_pos _ _ _ (by omega))))
  go_wp2_with fail
  refine (opposite_any wa pa ka wb pb kb _).mono ?_
  rintro e w1 ⟨rfl, hb1⟩
  have HB1 := Lib.hid (HB0.out.trans ((below_drewN (.refl _ _) _).trans (hb1.mono HB0.out.size)))
  have f3 : w1.cell? ⟨w.heap.size, 3, none⟩ = some (.int .i64 T) := by rw [hb1.cell (by simp; omega)]; exact g3
  clear hb1
  cases ho : opp pa ka pb kb
  · go_wp2
    go_ret
    exact ⟨ret_i64s (by unfold mov; rw [ho]; simp), HB1.out⟩
  · go_wp2
    go_ret
    exact ⟨ret_i64s (by unfold mov; rw [ho]; simp), HB1.out⟩
set_option maxRecDepth 100000 in
set_option maxHeartbeats 400000 in
theorem placeOf_any (W L S T J R b : Int) (w : World) (w0 : 1 ≤ W) (w1 : W ≤ 32) (l0 : 1 ≤ L) (l1 : L ≤ 4096) (c1 : W * L ≤ 4096) (b0 : 0 ≤ b) (b1 : b ≤ W * L) :
    Calls Try.prog 89 #[geV W L S T J R, .int .i64 b] w fun e w' => e = .returned (plV (wr W L b) (po W L b) (bk W L b)) ∧ Below w.heap.size w w' := by
  have hL : L ≠ 0 := by omega
  obtain ⟨r0, r1, r2, r3, _⟩ := wr_bd w0 l0 b0 b1
  have m0 : 0 ≤ wr W L b * L := Int.mul_nonneg r0 (by omega)
  go_enter Try.func89, Try.ntmps89
  go_wp2_with fail
  have HB0 := Lib.hid (below_box2 w (.cells #[.int .i64 W, .int .i64 L, .int .i64 S, .int .i64 T, .int .i64 J, .int .i64 R] 27) (.cells #[.int .i64 0, .int .i64 0, .bool false] 92))
  have HG := Lib.hid ((GeoAt.new w W L S T J R 27).alloc (.cells #[.int .i64 0, .int .i64 0, .bool false] 92))
  have hn : ((w.alloc (.cells #[.int .i64 W, .int .i64 L, .int .i64 S, .int .i64 T, .int .i64 J, .int .i64 R] 27)).alloc (.cells #[.int .i64 0, .int .i64 0, .bool false] 92)).heap[w.heap.size + 1]? = some (.cells #[.int .i64 0, .int .i64 0, .bool false] 92 (0, 0)) := by
    have := heap_alloc_new (w.alloc (.cells #[.int .i64 W, .int .i64 L, .int .i64 S, .int .i64 T, .int .i64 J, .int .i64 R] 27)) (.cells #[.int .i64 0, .int .i64 0, .bool false] 92)
    rwa [World.size_alloc] at this
  have HN := Lib.hid hn
  clear hn
  generalize World.alloc _ _ = X0 at HB0 HG HN ⊢
  obtain ⟨_, g0, g1, _, _, _, _⟩ := HG.out
  go_quiet (fail)
  rw [show (if W - 1 < b / L then W - 1 else b / L) = wr W L b by unfold wr; omega]
  generalize hX1 : World.drewN X0 _ = X1
  have HB1 := Lib.hid (show Below w.heap.size w X1 by rw [← hX1]; exact below_drewN HB0.out _)
  have HN1 := Lib.hid (show X1.heap[w.heap.size + 1]? = some (.cells #[.int .i64 0, .int .i64 0, .bool false] 92 (0, 0)) by rw [← hX1]; exact HN.out)
  have h1 : X1.cell? ⟨w.heap.size, 1, none⟩ = some (.int .i64 L) := by rw [← hX1]; exact g1
  clear hX1 HB0 HN
  by_cases ho : wr W L b % 2 = 1
  · have hp : L - 1 - (b - wr W L b * L) = po W L b := by unfold po; rw [if_pos ho]
    have HK := Lib.hid (show bk W L b = true by unfold bk; rw [decide_eq_true ho])
    go_wp2_with (with_reducible refine wpList_store_pl rfl (.tmp 4) (.tmp 30) rfl (w.heap.size + 1) rfl _ _ _ rfl _ _ _ HN1.out ?_)
    refine post_cell1 (cs := #[.int .i64 (wr W L b), .int .i64 (po W L b), .bool true]) rfl rfl (setRow_heap _ _ _ _ _ _ HN1.out) Try.underlying92 rfl infoPl rfl ⟨by rw [HK.out], below_set HB1.out (by omega) _⟩
  · have hp : b - wr W L b * L = po W L b := by unfold po; rw [if_neg ho]
    have HK := Lib.hid (show bk W L b = false by unfold bk; rw [decide_eq_false ho])
    go_wp2_with (with_reducible refine wpList_store_pl rfl (.tmp 4) (.tmp 33) rfl (w.heap.size + 1) rfl _ _ _ rfl _ _ _ HN1.out ?_)
    refine post_cell1 (cs := #[.int .i64 (wr W L b), .int .i64 (po W L b), .bool false]) rfl rfl (setRow_heap _ _ _ _ _ _ HN1.out) Try.underlying92 rfl infoPl rfl ⟨by rw [HK.out], below_set HB1.out (by omega) _⟩
end Go.Proofs.Ytepmmlnopdjjdaa
namespace Go.Proofs.Ytepmmlnopdjjdaa
open Go.RowKit
set_option linter.unusedVariables false
/-- ints that lie -/
structure Lii (w : World) (b o : Nat) (xs : List Int) : Prop where
  lt : b < w.heap.size
  at_ : ∀ j (h : j < xs.length), w.cell? ⟨b, o + j, none⟩ = some (.int .i64 (xs[j]'h))
theorem Lii.below {W w : World} {B b o : Nat} {xs : List Int} (h : Lii W b o xs) (hb : Below B W w) (hB : b < B) : Lii w b o xs :=
  ⟨Nat.lt_of_lt_of_le h.lt hb.size, fun j hj => (hb.cell hB).trans (h.at_ j hj)⟩
theorem Lii.one (w : World) (a : Int) (t : TypeId) : Lii (w.alloc (.cells #[.int .i64 a] t)) w.heap.size 0 [a] := by
  refine ⟨by simp, fun j hj => ?_⟩
  obtain rfl : j = 0 := by simpa using hj
  rw [World.cell?_alloc_mark]; rfl
theorem Lii.two (w : World) (a b : Int) (t : TypeId) : Lii (w.alloc (.cells #[.int .i64 a, .int .i64 b] t)) w.heap.size 0 [a, b] := by
  refine ⟨by simp, fun j hj => ?_⟩
  rw [World.cell?_alloc_mark]
  match j, hj with
  | 0, _ => rfl
  | 1, _ => rfl
def inr (W L n : Int) : Bool := decide (0 ≤ n) && decide (n ≤ W * L)
theorem inr_iff {W L n : Int} : inr W L n = true ↔ 0 ≤ n ∧ n ≤ W * L := by unfold inr; simp
noncomputable def hasU (W L S T J R : Int) (xs : List Int) : Bool := vld W L S T J R && xs.all (inr W L)
attribute [local irreducible] tim vld
set_option maxRecDepth 100000 in
set_option maxHeartbeats 1000000 in
theorem has_any (W L S T J R : Int) (b n cap : Nat) (xs : List Int) (w : World) (hl : Lii w b 0 xs) (hn : n = xs.length) (hs : n ≤ 2) :
    Calls Try.prog 87 #[geV W L S T J R, .slice (some ⟨b, 0, none⟩) n cap] w fun e w' => e = .returned (.bool (hasU W L S T J R xs)) ∧ Below w.heap.size w w' := by
  have HB0 := Lib.hid (below_box1 w (.cells #[.int .i64 W, .int .i64 L, .int .i64 S, .int .i64 T, .int .i64 J, .int .i64 R] 27))
  have HG := Lib.hid (GeoAt.new w W L S T J R 27)
  by_cases hv : Vld W L S T J R
  rotate_left
  · have HV := Lib.hid (vld_not.2 hv)
    have HR := Lib.hid (show hasU W L S T J R xs = false by unfold hasU; rw [vld_not.2 hv]; rfl)
    clear hv
    go_enter Try.func87, Try.ntmps87
    go_wp2_with fail
    refine (valid_any W L S T J R _).mono ?_
    rw [HV.out]
    rintro e w1 ⟨rfl, hb⟩
    have HB := Lib.hid (HB0.out.trans (hb.mono HB0.out.size))
    clear hb
    go_wp2
    go_ret
    exact ⟨by rw [HR.out]; rfl, HB.out⟩
  have h0 : 0 ≤ W * L := Int.mul_nonneg (by have := hv.w0; omega) (by have := hv.l0; omega)
  have h1 := hv.c1
  have HV := Lib.hid (vld_iff.2 hv)
  have HA := Lib.hid (show hasU W L S T J R xs = xs.all (inr W L) by unfold hasU; rw [vld_iff.2 hv]; rfl)
  have HN := Lib.hid hn
  clear hv hn
  go_enter Try.func87, Try.ntmps87
  go_wp2_with fail
  refine (valid_any W L S T J R _).mono ?_
  rw [HV.out]
  rintro e w1 ⟨rfl, hb⟩
  have HB := Lib.hid (HB0.out.trans (hb.mono HB0.out.size))
  have HL := Lib.hid ((hl.below HB0.out hl.lt).below hb (by have := hl.lt; simp; omega))
  obtain ⟨_, g0, g1, _, _, _, _⟩ := HG.out.below hb (by simp)
  clear hb hl
  go_wp2
  go_loop [12] (fun vk => ∃ k : Nat, vk = .int .i64 k ∧ k ≤ n ∧ Hid (∀ j (h : j < xs.length), j < k → inr W L xs[j] = true)) (fun vk => n - (intOf vk).toNat)
  case atStart => exact ⟨0, rfl, by omega, Lib.hid fun j _ hj => by omega⟩
  case round =>
    obtain ⟨k, rfl, hk, hall⟩ := hrel
    by_cases hlt : k < n
    · have hkx : k < xs.length := by have := HN.out; omega
      have hc := HL.out.at_ k hkx
      rw [Nat.zero_add] at hc
      obtain ⟨X, hX⟩ : ∃ X, X = xs[k] := ⟨_, rfl⟩
      rw [← hX] at hc
      by_cases hx : 0 ≤ X ∧ X ≤ W * L
      · have HNX : Hid (∀ j (h : j < xs.length), j < k + 1 → inr W L xs[j] = true) := Lib.hid fun j h hj => by
          rcases Nat.lt_or_ge j k with h3 | h3
          · exact hall.out j h h3
          · obtain rfl : j = k := by omega
            rw [← hX]
            exact inr_iff.2 hx
        clear hX
        obtain ⟨x0, x1⟩ := hx
        go_wp2
        go_round
        case rel => exact ⟨k + 1, by go_num, by omega, HNX⟩
        case measure => simp [intOf]; omega
      · have HF := Lib.hid (show xs.all (inr W L) = false by
          rw [List.all_eq_false]
          exact ⟨xs[k], List.getElem_mem hkx, by rw [← hX, inr_iff]; exact hx⟩)
        clear hX
        by_cases hx0 : X < 0
        · go_wp2
          go_ret
          exact ⟨by rw [HA.out, HF.out]; rfl, HB.out⟩
        · have hx1 : W * L < X := by omega
          clear hx
          go_wp2
          go_ret
          exact ⟨by rw [HA.out, HF.out]; rfl, HB.out⟩
    · have HT := Lib.hid (show xs.all (inr W L) = true by
        rw [List.all_eq_true]
        intro x hx
        obtain ⟨j, hj, rfl⟩ := List.getElem_of_mem hx
        exact hall.out j hj (by have := HN.out; omega))
      go_wp2
      go_ret
      exact ⟨by rw [HA.out, HT.out]; rfl, HB.out⟩
end Go.Proofs.Ytepmmlnopdjjdaa
namespace Go.Proofs.Ytepmmlnopdjjdaa
open Go.RowKit
set_option linter.unusedVariables false
/-- the block has a place -/
noncomputable def hav (W L S T J R b : Int) : Bool := vld W L S T J R && inr W L b
theorem hav_iff {W L S T J R b : Int} : hav W L S T J R b = true ↔ Vld W L S T J R ∧ 0 ≤ b ∧ b ≤ W * L := by unfold hav; rw [Bool.and_eq_true, vld_iff, inr_iff]
theorem hav_not {W L S T J R b : Int} : hav W L S T J R b = false ↔ ¬ (Vld W L S T J R ∧ 0 ≤ b ∧ b ≤ W * L) := by rw [← hav_iff, Bool.not_eq_true]
theorem hasU_one (W L S T J R b : Int) : hasU W L S T J R [b] = hav W L S T J R b := by unfold hasU hav; simp
theorem hasU_two (W L S T J R a b : Int) : hasU W L S T J R [a, b] = (hav W L S T J R a && hav W L S T J R b) := by
  unfold hasU hav
  cases vld W L S T J R <;> simp
/-- the place of a block, as Place hands it back; the zero place if there is none -/
noncomputable def pw (W L S T J R b : Int) : Int := if hav W L S T J R b = true then wr W L b else 0
noncomputable def pp (W L S T J R b : Int) : Int := if hav W L S T J R b = true then po W L b else 0
noncomputable def pk (W L S T J R b : Int) : Bool := if hav W L S T J R b = true then bk W L b else false
attribute [local irreducible] tim vld
/-- the world behind Place's boxes -/
abbrev boxG (W L S T J R : Int) : Obj := .cells #[.int .i64 W, .int .i64 L, .int .i64 S, .int .i64 T, .int .i64 J, .int .i64 R] 27
abbrev boxP (a b : Int) (k : Bool) : Obj := .cells #[.int .i64 a, .int .i64 b, .bool k] 92
theorem place_start (W L S T J R b : Int) (w : World) : Below w.heap.size w (((w.alloc (boxG W L S T J R)).alloc (boxP 0 0 false)).alloc (.cells #[.int .i64 b] 3)) ∧
    (((w.alloc (boxG W L S T J R)).alloc (boxP 0 0 false)).alloc (.cells #[.int .i64 b] 3)).heap.size = w.heap.size + 3 ∧
    GeoAt (((w.alloc (boxG W L S T J R)).alloc (boxP 0 0 false)).alloc (.cells #[.int .i64 b] 3)) w.heap.size W L S T J R ∧
    (((w.alloc (boxG W L S T J R)).alloc (boxP 0 0 false)).alloc (.cells #[.int .i64 b] 3)).heap[w.heap.size + 1]? = some (.cells #[.int .i64 0, .int .i64 0, .bool false] 92 (0, 0)) ∧
    Lii (((w.alloc (boxG W L S T J R)).alloc (boxP 0 0 false)).alloc (.cells #[.int .i64 b] 3)) (w.heap.size + 1 + 1) 0 [b] := by
  refine ⟨below_box3 _ _ _ _, by simp, ((GeoAt.new w W L S T J R _).alloc _).alloc _, ?_, ?_⟩
  · rw [Below.heap_alloc _ _ _ (by simp)]
    have := heap_alloc_new (w.alloc (boxG W L S T J R)) (boxP 0 0 false)
    rwa [World.size_alloc] at this
  · have := Lii.one ((w.alloc (boxG W L S T J R)).alloc (boxP 0 0 false)) b 3
    rwa [World.size_alloc, World.size_alloc] at this
end Go.Proofs.Ytepmmlnopdjjdaa
namespace Go.Proofs.Ytepmmlnopdjjdaa
open Go.RowKit
set_option linter.unusedVariables false
set_option maxRecDepth 100000
/-- the time of the motion between two blocks; 0 if one of them has no place -/
noncomputable def loc (W L S T J R a b : Int) : Int := if (hav W L S T J R a && hav W L S T J R b) = true then mo W L S T J a b else 0
theorem loc_yes {W L S T J R a b : Int} (h : (hav W L S T J R a && hav W L S T J R b) = true) : loc W L S T J R a b = mo W L S T J a b := if_pos h
theorem loc_no {W L S T J R a b : Int} (h : (hav W L S T J R a && hav W L S T J R b) = false) : loc W L S T J R a b = 0 := if_neg (by rw [h]; simp)
/-- the passes in parts of 1000 -/
noncomputable def pas (W L S T J R a b : Int) : Int := if (hav W L S T J R a && hav W L S T J R b) = true then (1000 * dis (po W L a) (po W L b) + L - 1) / L else 0
theorem pas_yes {W L S T J R a b : Int} (h : (hav W L S T J R a && hav W L S T J R b) = true) : pas W L S T J R a b = (1000 * dis (po W L a) (po W L b) + L - 1) / L := if_pos h
theorem pas_no {W L S T J R a b : Int} (h : (hav W L S T J R a && hav W L S T J R b) = false) : pas W L S T J R a b = 0 := if_neg (by rw [h]; simp)
theorem loc_start (W L S T J R a b : Int) (w : World) : Below w.heap.size w ((w.alloc (boxG W L S T J R)).alloc (.cells #[.int .i64 a, .int .i64 b] 3)) ∧
    GeoAt ((w.alloc (boxG W L S T J R)).alloc (.cells #[.int .i64 a, .int .i64 b] 3)) w.heap.size W L S T J R ∧
    Lii ((w.alloc (boxG W L S T J R)).alloc (.cells #[.int .i64 a, .int .i64 b] 3)) (w.heap.size + 1) 0 [a, b] := by
  refine ⟨below_box2 _ _ _, (GeoAt.new w W L S T J R _).alloc _, ?_⟩
  have := Lii.two (w.alloc (boxG W L S T J R)) a b 3
  rwa [World.size_alloc] at this
theorem run_fieldPl (p q : Int) (k : Bool) (X : World) : (Instr.field 92 (plV p q k) 1).run Try.prog X = .ok (.int .i64 q) X := by with_unfolding_all rfl
attribute [local irreducible] tim vld hav wr po bk mov
set_option maxRecDepth 100000 in
set_option maxHeartbeats 2000000 in
theorem locate_any (W L S T J R a b : Int) (w : World) :
    Calls Try.prog 72 #[geV W L S T J R, .int .i64 a, .int .i64 b] w fun e w' => e = .returned (.int .i64 (loc W L S T J R a b)) ∧ Below w.heap.size w w' := by
  obtain ⟨hb0, hg0, hl0⟩ := loc_start W L S T J R a b w
  have HB0 := Lib.hid hb0
  have HG := Lib.hid hg0
  have HL := Lib.hid hl0
  clear hb0 hg0 hl0
  have HH := Lib.hid (hasU_two W L S T J R a b)
  cases hv : (hav W L S T J R a && hav W L S T J R b)
  · have HR := Lib.hid (loc_no hv)
    have HV := Lib.hid hv
    clear hv
    go_enter Try.func72, Try.ntmps72
    go_wp2_with fail
    generalize World.alloc _ _ = X0 at HB0 HG HL ⊢
    refine (has_any W L S T J R (w.heap.size + 1) 2 2 [a, b] X0 HL.out rfl (by omega)).mono ?_
    rw [HH.out, HV.out]
    rintro e w1 ⟨rfl, hb⟩
    have HB := Lib.hid (HB0.out.trans (hb.mono HB0.out.size))
    clear hb
    go_wp2
    go_ret
    exact ⟨by rw [HR.out]; rfl, HB.out⟩
  have HR := Lib.hid (loc_yes hv)
  have HV := Lib.hid hv
  rw [Bool.and_eq_true] at hv
  obtain ⟨v, a0, a1⟩ := hav_iff.1 hv.1
  obtain ⟨_, b0, b1⟩ := hav_iff.1 hv.2
  have HPa := Lib.hid (fun X => placeOf_any W L S T J R a X v.w0 v.w1 v.l0 v.l1 v.c1 a0 a1)
  have HPb := Lib.hid (fun X => placeOf_any W L S T J R b X v.w0 v.w1 v.l0 v.l1 v.c1 b0 b1)
  have ra := wr_bd v.w0 v.l0 a0 a1
  have rb := wr_bd v.w0 v.l0 b0 b1
  have qa := po_bd v.w0 v.l0 a0 a1
  have qb := po_bd v.w0 v.l0 b0 b1
  have HM := Lib.hid (fun X => motion_any W L S T J R (wr W L a) (po W L a) (bk W L a) (wr W L b) (po W L b) (bk W L b) X v.s0 v.s1 v.t0 v.t1 v.j0 v.j1 ra.1 (by have := v.w1; omega) rb.1 (by have := v.w1; omega) qa.1 (by have := v.l1; omega) qb.1 (by have := v.l1; omega))
  clear hv v a0 a1 b0 b1 ra rb qa qb
  go_enter Try.func72, Try.ntmps72
  go_wp2_with fail
  generalize World.alloc _ _ = X0 at HB0 HG HL ⊢
  refine (has_any W L S T J R (w.heap.size + 1) 2 2 [a, b] X0 HL.out rfl (by omega)).mono ?_
  rw [HH.out, HV.out]
  rintro e w1 ⟨rfl, hb⟩
  have HB := Lib.hid (HB0.out.trans (hb.mono HB0.out.size))
  have HG1 := Lib.hid (HG.out.below hb HG.out.lt)
  have HBX := Lib.hid ((Below.refl w1.heap.size w1).drew)
  clear hb
  go_wp2_with fail
  refine wp_region_noPanic ?_
  refine wp_region_held_drew (S := fun X => Below w1.heap.size w1 X) (by kernel_rfl) (HBX.out) (fun hS0 => ?_)
  refine held_take (i := 0) (v := ?_) rfl (by kernel_rfl) (by kernel_rfl) (by kernel_rfl) (fun _ _ _ h => h) (by rfl) ?_ (by assumption) ?_
  rotate_left
  · intro X hSX
    try dsimp only at hSX
    obtain ⟨_, g0, g1, g2, g3, g4, g5⟩ := HG1.out.below hSX HG1.out.lt
    go_simp <;> with_reducible rfl
  simp only [Act.put, List.setIfInBounds_toArray, List.set_cons_zero, List.set_cons_succ]
  refine held_take (i := 1) (v := ?_) rfl (by kernel_rfl) (by kernel_rfl) (by kernel_rfl) (fun _ _ _ h => h) (by rfl) ?_ (by assumption) ?_
  rotate_left
  · intro X hSX
    try dsimp only at hSX
    obtain ⟨_, g0, g1, g2, g3, g4, g5⟩ := HG1.out.below hSX HG1.out.lt
    go_simp <;> with_reducible rfl
  simp only [Act.put, List.setIfInBounds_toArray, List.set_cons_zero, List.set_cons_succ]
  refine held_take (i := 2) (v := ?_) rfl (by kernel_rfl) (by kernel_rfl) (by kernel_rfl) (fun _ _ _ h => h) (by rfl) ?_ (by assumption) ?_
  rotate_left
  · intro X hSX
    try dsimp only at hSX
    go_simp <;> with_reducible rfl
  simp only [Act.put, List.setIfInBounds_toArray, List.set_cons_zero, List.set_cons_succ]
  refine held_take (i := 4) (v := ?_) rfl (by kernel_rfl) (by kernel_rfl) (by kernel_rfl) (fun _ _ _ h => h) (by rfl) ?_ (by assumption) ?_
  rotate_left
  · intro X hSX
    try dsimp only at hSX
    obtain ⟨_, g0, g1, g2, g3, g4, g5⟩ := HG1.out.below hSX HG1.out.lt
    go_simp <;> with_reducible rfl
  simp only [Act.put, List.setIfInBounds_toArray, List.set_cons_zero, List.set_cons_succ]
  refine held_take (i := 5) (v := ?_) rfl (by kernel_rfl) (by kernel_rfl) (by kernel_rfl) (fun _ _ _ h => h) (by rfl) ?_ (by assumption) ?_
  rotate_left
  · intro X hSX
    try dsimp only at hSX
    go_simp <;> with_reducible rfl
  simp only [Act.put, List.setIfInBounds_toArray, List.set_cons_zero, List.set_cons_succ]
  refine held_call (i := 3) rfl (by kernel_rfl) (by rfl) (fun K' hK' => ?_)
  go_simp
  refine (HPa.out _).mono ?_
  rintro e w5 ⟨rfl, hb⟩
  replace HBX := Lib.hid (HBX.out.trans (hb.mono HBX.out.size))
  have hS5 := HBX.out
  clear hb
  refine held_go hK' (HBX.out) ?_
  try simp only [Act.put, List.setIfInBounds_toArray, List.set_cons_zero, List.set_cons_succ]
  refine held_call (i := 6) rfl (by kernel_rfl) (by rfl) (fun K' hK' => ?_)
  go_simp
  refine (HPb.out _).mono ?_
  rintro e w6 ⟨rfl, hb⟩
  replace HBX := Lib.hid (HBX.out.trans (hb.mono HBX.out.size))
  have hS6 := HBX.out
  clear hb
  refine held_go hK' (HBX.out) ?_
  try simp only [Act.put, List.setIfInBounds_toArray, List.set_cons_zero, List.set_cons_succ]
  refine held_call (i := 7) rfl (by kernel_rfl) (by rfl) (fun K' hK' => ?_)
  go_simp
  refine (HM.out _).mono ?_
  rintro e w7 ⟨rfl, hb⟩
  replace HBX := Lib.hid (HBX.out.trans (hb.mono HBX.out.size))
  have hS7 := HBX.out
  clear hb
  refine held_go hK' (HBX.out) ?_
  try simp only [Act.put, List.setIfInBounds_toArray, List.set_cons_zero, List.set_cons_succ]
  refine held_take (i := 8) (v := ?_) rfl (by kernel_rfl) (by kernel_rfl) (by kernel_rfl) (fun _ _ _ h => h) (by rfl) ?_ (by assumption) ?_
  rotate_left
  · intro X hSX
    try dsimp only at hSX
    go_simp <;> with_reducible rfl
  simp only [Act.put, List.setIfInBounds_toArray, List.set_cons_zero, List.set_cons_succ]
  refine wpAnyH_done (by kernel_rfl) ?_ _
  refine NoPanic.normal ?_
  go_wp2
  go_ret
  exact ⟨by rw [HR.out]; rfl, HB.out.trans (HBX.out.mono HB.out.size)⟩
set_option maxRecDepth 100000 in
set_option maxHeartbeats 2000000 in
theorem passes_any (W L S T J R a b : Int) (w : World) :
    Calls Try.prog 90 #[geV W L S T J R, .int .i64 a, .int .i64 b] w fun e w' => e = .returned (.int .i64 (pas W L S T J R a b)) ∧ Below w.heap.size w w' := by
  obtain ⟨hb0, hg0, hl0⟩ := loc_start W L S T J R a b w
  have HB0 := Lib.hid hb0
  have HG := Lib.hid hg0
  have HL := Lib.hid hl0
  clear hb0 hg0 hl0
  have HH := Lib.hid (hasU_two W L S T J R a b)
  cases hv : (hav W L S T J R a && hav W L S T J R b)
  · have HR := Lib.hid (pas_no hv)
    have HV := Lib.hid hv
    clear hv
    go_enter Try.func90, Try.ntmps90
    go_wp2_with fail
    generalize World.alloc _ _ = X0 at HB0 HG HL ⊢
    refine (has_any W L S T J R (w.heap.size + 1) 2 2 [a, b] X0 HL.out rfl (by omega)).mono ?_
    rw [HH.out, HV.out]
    rintro e w1 ⟨rfl, hb⟩
    have HB := Lib.hid (HB0.out.trans (hb.mono HB0.out.size))
    clear hb
    go_wp2
    go_ret
    exact ⟨by rw [HR.out]; rfl, HB.out⟩
  have HR := Lib.hid (pas_yes hv)
  have HV := Lib.hid hv
  rw [Bool.and_eq_true] at hv
  obtain ⟨v, a0, a1⟩ := hav_iff.1 hv.1
  obtain ⟨_, b0, b1⟩ := hav_iff.1 hv.2
  have HPa := Lib.hid (fun X => placeOf_any W L S T J R a X v.w0 v.w1 v.l0 v.l1 v.c1 a0 a1)
  have HPb := Lib.hid (fun X => placeOf_any W L S T J R b X v.w0 v.w1 v.l0 v.l1 v.c1 b0 b1)
  have qa := po_bd v.w0 v.l0 a0 a1
  have qb := po_bd v.w0 v.l0 b0 b1
  have HM := Lib.hid (fun X => distance_any (po W L a) (po W L b) X (by have := v.l1; omega) (by have := v.l1; omega) (by have := v.l1; omega) (by have := v.l1; omega))
  have d0 := dis_nonneg (po W L a) (po W L b)
  have d1 := (dis_bd v.w0 v.l0 v.l1 a0 a1 b0 b1).1
  have l0 := v.l0
  have l1 := v.l1
  have lne : L ≠ 0 := by omega
  clear hv v a0 a1 b0 b1 qa qb
  go_enter Try.func90, Try.ntmps90
  go_wp2_with fail
  generalize World.alloc _ _ = X0 at HB0 HG HL ⊢
  refine (has_any W L S T J R (w.heap.size + 1) 2 2 [a, b] X0 HL.out rfl (by omega)).mono ?_
  rw [HH.out, HV.out]
  rintro e w1 ⟨rfl, hb⟩
  have HB := Lib.hid (HB0.out.trans (hb.mono HB0.out.size))
  have HG1 := Lib.hid (HG.out.below hb HG.out.lt)
  have HBX := Lib.hid ((Below.refl w1.heap.size w1).drew)
  clear hb
  go_wp2_with fail
  refine wp_region_noPanic ?_
  refine wp_region_held_drew (S := fun X => Below w1.heap.size w1 X) (by kernel_rfl) (HBX.out) (fun hS0 => ?_)
  refine held_take (i := 0) (v := ?_) rfl (by kernel_rfl) (by kernel_rfl) (by kernel_rfl) (fun _ _ _ h => h) (by rfl) ?_ (by assumption) ?_
  rotate_left
  · intro X hSX
    try dsimp only at hSX
    obtain ⟨_, g0, g1, g2, g3, g4, g5⟩ := HG1.out.below hSX HG1.out.lt
    go_simp <;> with_reducible rfl
  simp only [Act.put, List.setIfInBounds_toArray, List.set_cons_zero, List.set_cons_succ]
  refine held_take (i := 1) (v := ?_) rfl (by kernel_rfl) (by kernel_rfl) (by kernel_rfl) (fun _ _ _ h => h) (by rfl) ?_ (by assumption) ?_
  rotate_left
  · intro X hSX
    try dsimp only at hSX
    go_simp <;> with_reducible rfl
  simp only [Act.put, List.setIfInBounds_toArray, List.set_cons_zero, List.set_cons_succ]
  refine held_take (i := 4) (v := ?_) rfl (by kernel_rfl) (by kernel_rfl) (by kernel_rfl) (fun _ _ _ h => h) (by rfl) ?_ (by assumption) ?_
  rotate_left
  · intro X hSX
    try dsimp only at hSX
    obtain ⟨_, g0, g1, g2, g3, g4, g5⟩ := HG1.out.below hSX HG1.out.lt
    go_simp <;> with_reducible rfl
  simp only [Act.put, List.setIfInBounds_toArray, List.set_cons_zero, List.set_cons_succ]
  refine held_take (i := 5) (v := ?_) rfl (by kernel_rfl) (by kernel_rfl) (by kernel_rfl) (fun _ _ _ h => h) (by rfl) ?_ (by assumption) ?_
  rotate_left
  · intro X hSX
    try dsimp only at hSX
    go_simp <;> with_reducible rfl
  simp only [Act.put, List.setIfInBounds_toArray, List.set_cons_zero, List.set_cons_succ]
  refine held_call (i := 2) rfl (by kernel_rfl) (by rfl) (fun K' hK' => ?_)
  go_simp
  refine (HPa.out _).mono ?_
  rintro e w5 ⟨rfl, hb⟩
  replace HBX := Lib.hid (HBX.out.trans (hb.mono HBX.out.size))
  have hS5 := HBX.out
  clear hb
  refine held_go hK' (HBX.out) ?_
  try simp only [Act.put, List.setIfInBounds_toArray, List.set_cons_zero, List.set_cons_succ]
  refine held_take (i := 3) (v := ?_) rfl (by kernel_rfl) (by kernel_rfl) (by kernel_rfl) (fun _ _ _ h => h) (by rfl) ?_ (by assumption) ?_
  rotate_left
  · intro X hSX
    try dsimp only at hSX
    have hf := run_fieldPl (wr W L a) (po W L a) (bk W L a) X
    go_simp <;> with_reducible rfl
  simp only [Act.put, List.setIfInBounds_toArray, List.set_cons_zero, List.set_cons_succ]
  refine held_call (i := 6) rfl (by kernel_rfl) (by rfl) (fun K' hK' => ?_)
  go_simp
  refine (HPb.out _).mono ?_
  rintro e w6 ⟨rfl, hb⟩
  replace HBX := Lib.hid (HBX.out.trans (hb.mono HBX.out.size))
  have hS6 := HBX.out
  clear hb
  refine held_go hK' (HBX.out) ?_
  try simp only [Act.put, List.setIfInBounds_toArray, List.set_cons_zero, List.set_cons_succ]
  refine held_take (i := 7) (v := ?_) rfl (by kernel_rfl) (by kernel_rfl) (by kernel_rfl) (fun _ _ _ h => h) (by rfl) ?_ (by assumption) ?_
  rotate_left
  · intro X hSX
    try dsimp only at hSX
    have hf := run_fieldPl (wr W L b) (po W L b) (bk W L b) X
    go_simp <;> with_reducible rfl
  simp only [Act.put, List.setIfInBounds_toArray, List.set_cons_zero, List.set_cons_succ]
  refine held_call (i := 8) rfl (by kernel_rfl) (by rfl) (fun K' hK' => ?_)
  go_simp
  refine (HM.out _).mono ?_
  rintro e w7 ⟨rfl, rfl⟩
  refine held_go hK' (HBX.out) ?_
  try simp only [Act.put, List.setIfInBounds_toArray, List.set_cons_zero, List.set_cons_succ]
  generalize dis (po W L a) (po W L b) = D at *
  refine held_take (i := 9) (v := ?_) rfl (by kernel_rfl) (by kernel_rfl) (by kernel_rfl) (fun _ _ _ h => h) (by rfl) ?_ (by assumption) ?_
  rotate_left
  · intro X hSX
    try dsimp only at hSX
    go_simp <;> with_reducible rfl
  simp only [Act.put, List.setIfInBounds_toArray, List.set_cons_zero, List.set_cons_succ]
  refine held_take (i := 10) (v := ?_) rfl (by kernel_rfl) (by kernel_rfl) (by kernel_rfl) (fun _ _ _ h => h) (by rfl) ?_ (by assumption) ?_
  rotate_left
  · intro X hSX
    try dsimp only at hSX
    go_simp <;> with_reducible rfl
  simp only [Act.put, List.setIfInBounds_toArray, List.set_cons_zero, List.set_cons_succ]
  refine wpAnyH_done (by kernel_rfl) ?_ _
  refine NoPanic.normal ?_
  have HB2 := Lib.hid (HB.out.trans (HBX.out.mono HB.out.size))
  obtain ⟨_, g0, g1, g2, g3, g4, g5⟩ := HG1.out.below HBX.out HG1.out.lt
  go_wp2
  go_ret
  exact ⟨by rw [HR.out]; rfl, HB2.out⟩
end Go.Proofs.Ytepmmlnopdjjdaa
