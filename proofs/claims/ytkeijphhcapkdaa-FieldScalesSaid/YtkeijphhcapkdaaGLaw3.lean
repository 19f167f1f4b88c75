/-
  The walk of the statement FieldScales: true, and nothing that was there is written.
-/
import Derived.Test.YtkeijphhcapkdaaGAwake
import Derived.Deep.RegionHeld3
import Derived.Deep.DrawnRows
import Derived.Maps.AppendAt
namespace Go.Proofs.Ytkeijphhcapkdaa
open Go.RowKit

theorem scale_own {w : World} {v u : Value} {xs ys : List UInt8} {B B' : Nat} (ho : Own w B v xs) (hu : Own w B' u ys) (x : UInt8) (hs : xs.length ≤ 1000000) (hs2 : ys.length ≤ 1000000) :
    Calls Try.prog 22 #[v, u, .int .u8 (ev x)] w (GivesU w (sc xs ys x)) := by
  obtain ⟨ad, cap, rfl, hl, _, _, ha⟩ := ho.slice
  obtain ⟨bd, bc, rfl, hm, _, _, _⟩ := hu.slice
  exact scale_any ad bd cap bc xs ys x w hl ha hs hm hs2
theorem rscale_own {w : World} {v u : Value} {xs ys : List UInt8} {B B' : Nat} (ho : Own w B v xs) (hu : Own w B' u ys) (x : UInt8) (hs : xs.length ≤ 1000000) (hs2 : ys.length ≤ 1000000) :
    Calls Try.prog 24 #[v, u, .int .u8 (ev x)] w (GivesU w (sc xs ys x)) := by
  obtain ⟨ad, cap, rfl, hl, _, _, ha⟩ := ho.slice
  obtain ⟨bd, bc, rfl, hm, _, _, _⟩ := hu.slice
  exact rscale_any ad bd cap bc xs ys x w hl ha hs hm hs2
theorem same_below {w : World} {ad bd : Option Addr} {n m cap bc : Nat} {xs : List UInt8} (hl : Lie w ad xs) (hm : Lie w bd xs) (hn : n = xs.length) (hmn : m = xs.length) (hs : xs.length ≤ 1000000) :
    Calls Try.prog 23 #[.slice ad n cap, .slice bd m bc] w fun e w' => e = .returned (.bool true) ∧ Below w.heap.size w w' := by
  refine (same_any ad bd cap bc n m xs w hl hm hn hmn (by omega)).mono ?_
  rintro e w' ⟨rfl, q, rfl⟩
  exact ⟨rfl, below_drewN (Below.refl _ _) q⟩
theorem same_own {w : World} {v u : Value} {xs : List UInt8} {B B' : Nat} (ho : Own w B v xs) (hu : Own w B' u xs) (hs : xs.length ≤ 1000000) :
    Calls Try.prog 23 #[v, u] w fun e w' => e = .returned (.bool true) ∧ Below w.heap.size w w' := by
  obtain ⟨ad, cap, rfl, hl, _⟩ := ho.slice
  obtain ⟨bd, bc, rfl, hm, _⟩ := hu.slice
  exact same_below hl hm rfl rfl hs
theorem same_half {w : World} {v : Value} {ad : Option Addr} {cap : Nat} {xs : List UInt8} {B : Nat} (hl : Lie w ad xs) (ho : Own w B v xs) (hs : xs.length ≤ 1000000) :
    Calls Try.prog 23 #[.slice ad xs.length cap, v] w fun e w' => e = .returned (.bool true) ∧ Below w.heap.size w w' := by
  obtain ⟨bd, bc, rfl, hm, _⟩ := ho.slice
  exact same_below hl hm rfl rfl hs

/-- an empty slice that the call has made -/
theorem own_empty {w : World} {g B : Nat} (h : w.heap[g]? = some (.cells #[] 5)) (hB : B ≤ g) : Own w B (.slice (some ⟨g, 0, none⟩) 0 0) [] :=
  ⟨rfl, .inr ⟨g, 0, #[], rfl, hB, h, Nat.le_refl _, by decide, rfl, rfl⟩⟩
/-- append onto an empty slice of the call's own: nothing that was there is written -/
theorem run_append_empty {w : World} {g B : Nat} (ty : TypeId) (hg : w.heap[g]? = some (.cells #[] 5)) (hB : B ≤ g) {ad : Option Addr} {n cap : Nat} {xs : List UInt8} (hcap : ad = none → cap = 0) (hl : Lie w ad xs) (hn : n = xs.length) (hlen : n ≤ 10000000) (hbase : B ≤ w.heap.size) :
    ∃ v' w', (Builtin.append_ #[31, 31] ty #[.slice (some ⟨g, 0, none⟩) 0 0, .slice ad n cap]).run Try.prog w = .ok v' w' ∧ Own w' B v' xs ∧ Below w.heap.size w w' := by
  subst hn
  obtain ⟨i, hi, hz0, hz1, hz2⟩ := info_u
  have hown : w.ownsRow B 5 1 (.slice (some ⟨g, 0, none⟩) 0 0) 0 [] := own_empty hg hB
  cases ad with
  | none =>
    have hxs : xs = [] := by
      rcases hl.at_ with h0 | ⟨b, off, h0, _⟩
      · exact h0
      · cases h0
    subst hxs
    obtain rfl := hcap rfl
    exact ⟨_, w, run_append_owned_none (P := Try.prog) (w := w) B 31 ty 5 i 1 Try.underlying31 hi _ 0 [] hown, own_empty hg hB, Below.refl _ _⟩
  | some a0 =>
    have hnews : ∀ j u, (cellsU xs)[j]? = some u → w.cell? (a0.add j) = some u := by
      intro j u hu
      have hj : j < xs.length := by
        have := (List.getElem?_eq_some_iff.1 hu).1
        rwa [cellsU_length] at this
      rcases hl.at_ with h0 | ⟨b, off, h0, _, hc⟩
      · subst h0; simp at hj
      · cases h0
        rw [Go.WideShapes.add_plain, hc j hj]
        rw [cellsU_get xs j hj] at hu
        exact hu
    obtain ⟨v', w', hr, h2, h3, _, _⟩ := run_append_own_at (P := Try.prog) w B 31 ty 5 i (.int .u8 0) 1 1 Try.underlying31 hi hz0 hz1 hz2 rfl (by decide) _ 0 [] hown a0 xs.length cap (cellsU xs) (by rw [cellsU_length, Nat.mul_one]) hnews (cellsU_one _) (by unfold maxLen; omega) (by omega) hbase
    have ho : Own w' B v' xs := by
      unfold Own
      rw [List.nil_append, Nat.zero_add] at h2
      exact h2
    refine ⟨v', w', hr, ho, ?_⟩
    by_cases hx : xs.length = 0
    · have hxs : xs = [] := List.eq_nil_of_length_eq_zero hx
      subst hxs
      have hr2 := run_append_room (P := Try.prog) w 31 ty 5 i Try.underlying31 hi g 0 0 #[] hg a0 0 cap [] (by simp) (by intro j u hu; simp at hu) (by simp) (by omega) (by simp)
      rw [List.length_nil] at hr
      rw [hr2] at hr
      injection hr with h4 h5
      subst h5
      have e : ∀ cs : Array Value, cs = #[] → Below w.heap.size w (w.setRow g cs) := by rintro cs rfl; rw [setRow_self hg]; exact Below.refl _ _
      exact e _ (by simp)
    · have hr2 := run_append_grow (P := Try.prog) w 31 ty 5 i (.int .u8 0) Try.underlying31 hi hz0 ⟨g, 0, none⟩ 0 0 [] (by simp) (by intro j u hu; simp at hu) a0 xs.length cap (cellsU xs) (by rw [cellsU_length, hz1, Nat.mul_one]) hnews (by omega) (by omega) (growslice_fits (by omega) (by rw [hz2]; omega))
      rw [hr2] at hr
      injection hr with h4 h5
      subst h5
      exact ((Below.refl _ _).drew).alloc (Nat.le_refl _) _
theorem wp_append_empty {w : World} {o : Oper} {a : Act} {K : Act → World → Prop} {Q : Exit → Act → World → Prop} (s x : Operand)
    (ho : o.op = .call { callee := .builtin .append, args := #[s, x], argTypes := #[31, 31] }) {g B : Nat} (hs : a.eval s = .slice (some ⟨g, 0, none⟩) 0 0)
    (hg : w.heap[g]? = some (.cells #[] 5)) (hB : B ≤ g) {ad : Option Addr} {n cap : Nat} {xs : List UInt8} (hx : a.eval x = .slice ad n cap) (hcap : ad = none → cap = 0) (hl : Lie w ad xs) (hn : n = xs.length) (hlen : n ≤ 10000000) (hbase : B ≤ w.heap.size)
    (h : ∀ v' w', Own w' B v' xs → Below w.heap.size w w' → K (a.put o.dst v') w') : o.wp Try.prog a w K Q := by
  obtain ⟨v', w', hr, h2, h3⟩ := run_append_empty o.type hg hB hcap hl hn hlen hbase
  unfold Oper.wp execOp
  simp only [ho, resolve, invoke, builtin, Sem.run_bind, Sem.run_pure, Result.andThen_ok, List.map_toArray, List.map_cons, List.map_nil, hs, hx, hr]
  exact h v' w' h2 h3
theorem wp_empty {w : World} {o : Oper} {a : Act} {K : Act → World → Prop} {Q : Exit → Act → World → Prop} (ho : o.op = .buildSlice 31 0 #[])
    (h : ∀ g w', w'.heap[g]? = some (.cells #[] 5) → w.heap.size ≤ g → Below w.heap.size w w' → K (a.put o.dst (.slice (some ⟨g, 0, none⟩) 0 0)) w') : o.wp Try.prog a w K Q := by
  have hu := Try.underlying31
  have h' := h w.heap.size (w.alloc (.cells #[] 5)) (heap_alloc_last _ _) (Nat.le_refl _) ((Below.refl _ _).alloc (Nat.le_refl _) _)
  clear h
  obtain ⟨dst, op, ty, pos, after, guard⟩ := o
  simp only at ho
  subst ho
  go_simp
  exact h'
/-- two operations may come up -/
theorem held_two {P : Program} {md : Region.Mode} {l : List Oper} {Q : Exit → Act → World → Prop} {S : World → Prop} {i j : Nat} {oi oj : Oper} {fuel : Nat} {listed : Array Bool} {a : Act} {w : World} (hi : l[i]? = some oi) (hj : l[j]? = some oj)
    (hr : Region.ready md l.toArray listed = [i, j]) (hwi : Region.wanted oi (yielded l.toArray a.tmps) = true) (hwj : Region.wanted oj (yielded l.toArray a.tmps) = true)
    (h1 : ∀ K' : Act → World → Prop, Shut (∀ a w, S w → (S w → wpAnyH P md l.toArray Q S fuel (listed.setIfInBounds i true) a w) → K' a w) → Oper.wp P oi a w K' Q)
    (h2 : ∀ K' : Act → World → Prop, Shut (∀ a w, S w → (S w → wpAnyH P md l.toArray Q S fuel (listed.setIfInBounds j true) a w) → K' a w) → Oper.wp P oj a w K' Q) :
    wpAnyH P md l.toArray Q S (fuel + 1) listed a w :=
  wpAnyH_ready hr (by simp) (AllReadyH.cons (by rw [List.getElem?_toArray]; exact hi) (fun K hK => by rw [if_pos hwi]; exact h1 K hK)
    (AllReadyH.cons (by rw [List.getElem?_toArray]; exact hj) (fun K hK => by rw [if_pos hwj]; exact h2 K hK) AllReadyH.nil))
theorem held_go {P : Program} {md : Region.Mode} {ops : Array Oper} {Q : Exit → Act → World → Prop} {S : World → Prop} {fuel : Nat} {listed : Array Bool} {K' : Act → World → Prop} {a : Act} {w : World}
    (hK : Shut (∀ a w, S w → (S w → wpAnyH P md ops Q S fuel listed a w) → K' a w)) (hS : S w) (h : wpAnyH P md ops Q S fuel listed a w) : K' a w := hK.out a w hS (fun _ => h)
/-- what the call's frame is behind the two copies -/
def frameC (w : World) (ad bd : Option Addr) (n m cap bc : Nat) (x y : UInt8) (v3 v4 v17 v20 v21 v24 : Value) : Array Value :=
  #[.agg #[.slice ad n cap, .slice bd m bc, .int .u8 (ev x), .int .u8 (ev y)], .pointer (some ⟨w.heap.size, 0, none⟩), .bool false, v3, v4, undef, .pointer (some ⟨w.heap.size, 0, none⟩), .slice ad n cap, .int .i64 n, .bool (decide ((300 : Int) < n)), .bool (decide ((300 : Int) < n)),
    .pointer (some ⟨w.heap.size, 1, none⟩), .slice bd m bc, .int .i64 m, .bool (decide ((300 : Int) < m)), .bool (decide ((300 : Int) < n) || decide ((300 : Int) < m)), undef, v17, .pointer (some ⟨w.heap.size, 0, none⟩), .slice ad n cap, v20, v21, .pointer (some ⟨w.heap.size, 1, none⟩), .slice bd m bc, v24,
    undef, undef, undef, undef, undef, undef, undef, undef, undef, undef, undef, undef, undef, undef, undef, undef, undef, undef, undef, undef, undef, undef, undef, undef, undef, undef, undef, undef, undef, undef, undef, undef, undef, undef, undef, undef, undef, undef, undef, undef, undef, undef, undef, undef, undef, undef]
attribute [local irreducible] dblU lowU mulU sc

set_option maxRecDepth 100000 in
set_option maxHeartbeats 2000000 in
theorem law_scales (ad bd : Option Addr) (cap bc : Nat) (xs ys : List UInt8) (x y : UInt8) (w : World) (hl : Lie w ad xs) (ha : ad = none → cap = 0) (hm : Lie w bd ys) (hb : bd = none → bc = 0) :
    Calls Try.prog 9 #[.agg #[.slice ad xs.length cap, .slice bd ys.length bc, .int .u8 (ev x), .int .u8 (ev y)]] w fun e w' => e = .returned (.bool true) ∧ Below w.heap.size w w' := by
  have HAW := Lib.hid awake_any
  have HL := Lib.hid hl
  have HM := Lib.hid hm
  have HA := Lib.hid ha
  have HBN := Lib.hid hb
  clear hl hm ha hb
  have HW0 := Lib.hid ((Below.refl w.heap.size w).alloc (Nat.le_refl _) (.cells #[.slice ad xs.length cap, .slice bd ys.length bc, .int .u8 (ev x), .int .u8 (ev y)] 37))
  by_cases h1 : 300 < xs.length
  · go_enter Try.func9, Try.ntmps9
    go_wp2_with fail
    refine (HAW.out _).mono ?_
    rintro e w1 ⟨rfl, hb1⟩
    have HB1 := Lib.hid (HW0.out.trans (hb1.mono HW0.out.size))
    clear hb1
    go_wp2
    go_ret
    exact ⟨rfl, HB1.out⟩
  by_cases h2 : 300 < ys.length
  · go_enter Try.func9, Try.ntmps9
    go_wp2_with fail
    refine (HAW.out _).mono ?_
    rintro e w1 ⟨rfl, hb1⟩
    have HB1 := Lib.hid (HW0.out.trans (hb1.mono HW0.out.size))
    clear hb1
    go_wp2
    go_ret
    exact ⟨rfl, HB1.out⟩
  go_enter Try.func9, Try.ntmps9
  go_wp2_with fail
  have hg0 : w.heap.size < (w.alloc (.cells #[.slice ad xs.length cap, .slice bd ys.length bc, .int .u8 (ev x), .int .u8 (ev y)] 37)).heap.size := by simp
  have hc0 : (w.alloc (.cells #[.slice ad xs.length cap, .slice bd ys.length bc, .int .u8 (ev x), .int .u8 (ev y)] 37)).cell? ⟨w.heap.size, 0, none⟩ = some (.slice ad xs.length cap) := by simp
  have hc1 : (w.alloc (.cells #[.slice ad xs.length cap, .slice bd ys.length bc, .int .u8 (ev x), .int .u8 (ev y)] 37)).cell? ⟨w.heap.size, 1, none⟩ = some (.slice bd ys.length bc) := by simp
  have hc2 : (w.alloc (.cells #[.slice ad xs.length cap, .slice bd ys.length bc, .int .u8 (ev x), .int .u8 (ev y)] 37)).cell? ⟨w.heap.size, 2, none⟩ = some (.int .u8 (ev x)) := by simp
  have hc3 : (w.alloc (.cells #[.slice ad xs.length cap, .slice bd ys.length bc, .int .u8 (ev x), .int .u8 (ev y)] 37)).cell? ⟨w.heap.size, 3, none⟩ = some (.int .u8 (ev y)) := by simp
  have HLW := Lib.hid (HL.out.below HW0.out rfl)
  have HMW := Lib.hid (HM.out.below HW0.out rfl)
  generalize World.alloc w _ = W1 at HW0 hg0 hc0 hc1 hc2 hc3 HLW HMW ⊢
  have HC : Hid (∀ W, Below W1.heap.size W1 W → W.cell? ⟨w.heap.size, 0, none⟩ = some (.slice ad xs.length cap) ∧ W.cell? ⟨w.heap.size, 1, none⟩ = some (.slice bd ys.length bc) ∧ W.cell? ⟨w.heap.size, 2, none⟩ = some (.int .u8 (ev x)) ∧ W.cell? ⟨w.heap.size, 3, none⟩ = some (.int .u8 (ev y))) :=
    Lib.hid fun W h => ⟨(h.cell (p := ⟨w.heap.size, 0, none⟩) hg0).trans hc0, (h.cell (p := ⟨w.heap.size, 1, none⟩) hg0).trans hc1, (h.cell (p := ⟨w.heap.size, 2, none⟩) hg0).trans hc2, (h.cell (p := ⟨w.heap.size, 3, none⟩) hg0).trans hc3⟩
  clear hc0 hc1 hc2 hc3
  refine Code.wp_mono (Q := fun e a' w' => e = .normal ∧ ∃ v17 v20 v21 v24, a' = ⟨frameC w ad bd xs.length ys.length cap bc x y v20 v24 v17 v20 v21 v24, []⟩ ∧ Own w' W1.heap.size v20 xs ∧ Own w' W1.heap.size v24 ys ∧ Below W1.heap.size W1 w') ?_ ?_
  case refine_2 =>
    refine wp_region_held_drew (S := fun W => Below W1.heap.size W1 W) (by kernel_rfl) ((Below.refl _ _).drew) (fun hS0 => ?_)
    refine held_take (i := 1) (v := ?_) rfl (by kernel_rfl) (by kernel_rfl) (by kernel_rfl) (fun c a w h => by cases h.1) (by rfl) ?_ (by assumption) ?_
    rotate_left
    · intro W hSW
      try dsimp only at hSW
      go_simp <;> with_reducible rfl
    simp only [Act.put, List.setIfInBounds_toArray, List.set_cons_zero, List.set_cons_succ]
    refine held_take (i := 2) (v := ?_) rfl (by kernel_rfl) (by kernel_rfl) (by kernel_rfl) (fun c a w h => by cases h.1) (by rfl) ?_ (by assumption) ?_
    rotate_left
    · intro W hSW
      try dsimp only at hSW
      have hcell := (HC.out W hSW).1
      go_simp <;> with_reducible rfl
    simp only [Act.put, List.setIfInBounds_toArray, List.set_cons_zero, List.set_cons_succ]
    refine held_take (i := 5) (v := ?_) rfl (by kernel_rfl) (by kernel_rfl) (by kernel_rfl) (fun c a w h => by cases h.1) (by rfl) ?_ (by assumption) ?_
    rotate_left
    · intro W hSW
      try dsimp only at hSW
      go_simp <;> with_reducible rfl
    simp only [Act.put, List.setIfInBounds_toArray, List.set_cons_zero, List.set_cons_succ]
    refine held_take (i := 6) (v := ?_) rfl (by kernel_rfl) (by kernel_rfl) (by kernel_rfl) (fun c a w h => by cases h.1) (by rfl) ?_ (by assumption) ?_
    rotate_left
    · intro W hSW
      try dsimp only at hSW
      have hcell := (HC.out W hSW).2.1
      go_simp <;> with_reducible rfl
    simp only [Act.put, List.setIfInBounds_toArray, List.set_cons_zero, List.set_cons_succ]
    refine held_two (i := 0) (j := 4) rfl rfl (by kernel_rfl) (by rfl) (by rfl) (fun K' hK' => ?_) (fun K' hK' => ?_)
    · refine wp_empty rfl (fun g17 u1 hn1 hg1 hb1 => ?_)
      have hS1 : Below W1.heap.size W1 u1 := hS0.trans (hb1.mono hS0.size)
      refine held_go hK' hS1 ?_
      simp only [Act.put, List.setIfInBounds_toArray, List.set_cons_zero, List.set_cons_succ]
      have hB1 : W1.heap.size ≤ g17 := Nat.le_trans hS0.size hg1
      refine held_two (i := 3) (j := 4) rfl rfl (by kernel_rfl) (by rfl) (by rfl) (fun K' hK' => ?_) (fun K' hK' => ?_)
      · refine wp_append_empty (.tmp 17) (.tmp 19) rfl rfl hn1 hB1 rfl HA.out (HLW.out.below hS1 rfl) rfl (by omega) hS1.size (fun v20 u2 ho2 hb2 => ?_)
        have hS2 : Below W1.heap.size W1 u2 := hS1.trans (hb2.mono hS1.size)
        refine held_go hK' hS2 ?_
        simp only [Act.put, List.setIfInBounds_toArray, List.set_cons_zero, List.set_cons_succ]
        refine held_call (i := 4) rfl (by kernel_rfl) (by rfl) (fun K' hK' => ?_)
        refine wp_empty rfl (fun g21 u3 hn3 hg3 hb3 => ?_)
        have hS3 : Below W1.heap.size W1 u3 := hS2.trans (hb3.mono hS2.size)
        refine held_go hK' hS3 ?_
        simp only [Act.put, List.setIfInBounds_toArray, List.set_cons_zero, List.set_cons_succ]
        have o20_3 := ho2.below hb3
        have hB3 : W1.heap.size ≤ g21 := Nat.le_trans hS2.size hg3
        refine held_call (i := 7) rfl (by kernel_rfl) (by rfl) (fun K' hK' => ?_)
        refine wp_append_empty (.tmp 21) (.tmp 23) rfl rfl hn3 hB3 rfl HBN.out (HMW.out.below hS3 rfl) rfl (by omega) hS3.size (fun v24 u4 ho4 hb4 => ?_)
        have hS4 : Below W1.heap.size W1 u4 := hS3.trans (hb4.mono hS3.size)
        refine held_go hK' hS4 ?_
        simp only [Act.put, List.setIfInBounds_toArray, List.set_cons_zero, List.set_cons_succ]
        have o20_4 := o20_3.below hb4
        refine held_call (i := 8) rfl (by kernel_rfl) (by rfl) (fun K' hK' => ?_)
        go_simp
        refine held_go hK' hS4 ?_
        refine held_call (i := 9) rfl (by kernel_rfl) (by rfl) (fun K' hK' => ?_)
        go_simp
        refine held_go hK' hS4 ?_
        refine wpAnyH_done (by kernel_rfl) ?_ _
        exact ⟨rfl, _, _, _, _, rfl, o20_4, ho4, hS4⟩
      · refine wp_empty rfl (fun g21 u5 hn5 hg5 hb5 => ?_)
        have hS5 : Below W1.heap.size W1 u5 := hS1.trans (hb5.mono hS1.size)
        refine held_go hK' hS5 ?_
        simp only [Act.put, List.setIfInBounds_toArray, List.set_cons_zero, List.set_cons_succ]
        have e17_5 := (hb5.block _ (Array.getElem?_eq_some_iff.1 hn1).1).trans hn1
        have hB5 : W1.heap.size ≤ g21 := Nat.le_trans hS1.size hg5
        refine held_call (i := 3) rfl (by kernel_rfl) (by rfl) (fun K' hK' => ?_)
        refine wp_append_empty (.tmp 17) (.tmp 19) rfl rfl e17_5 hB1 rfl HA.out (HLW.out.below hS5 rfl) rfl (by omega) hS5.size (fun v20 u6 ho6 hb6 => ?_)
        have hS6 : Below W1.heap.size W1 u6 := hS5.trans (hb6.mono hS5.size)
        refine held_go hK' hS6 ?_
        simp only [Act.put, List.setIfInBounds_toArray, List.set_cons_zero, List.set_cons_succ]
        have e21_6 := (hb6.block _ (Array.getElem?_eq_some_iff.1 hn5).1).trans hn5
        refine held_call (i := 7) rfl (by kernel_rfl) (by rfl) (fun K' hK' => ?_)
        refine wp_append_empty (.tmp 21) (.tmp 23) rfl rfl e21_6 hB5 rfl HBN.out (HMW.out.below hS6 rfl) rfl (by omega) hS6.size (fun v24 u7 ho7 hb7 => ?_)
        have hS7 : Below W1.heap.size W1 u7 := hS6.trans (hb7.mono hS6.size)
        refine held_go hK' hS7 ?_
        simp only [Act.put, List.setIfInBounds_toArray, List.set_cons_zero, List.set_cons_succ]
        have o20_7 := ho6.below hb7
        refine held_call (i := 8) rfl (by kernel_rfl) (by rfl) (fun K' hK' => ?_)
        go_simp
        refine held_go hK' hS7 ?_
        refine held_call (i := 9) rfl (by kernel_rfl) (by rfl) (fun K' hK' => ?_)
        go_simp
        refine held_go hK' hS7 ?_
        refine wpAnyH_done (by kernel_rfl) ?_ _
        exact ⟨rfl, _, _, _, _, rfl, o20_7, ho7, hS7⟩
    · refine wp_empty rfl (fun g21 u8 hn8 hg8 hb8 => ?_)
      have hS8 : Below W1.heap.size W1 u8 := hS0.trans (hb8.mono hS0.size)
      refine held_go hK' hS8 ?_
      simp only [Act.put, List.setIfInBounds_toArray, List.set_cons_zero, List.set_cons_succ]
      have hB8 : W1.heap.size ≤ g21 := Nat.le_trans hS0.size hg8
      refine held_call (i := 0) rfl (by kernel_rfl) (by rfl) (fun K' hK' => ?_)
      refine wp_empty rfl (fun g17 u9 hn9 hg9 hb9 => ?_)
      have hS9 : Below W1.heap.size W1 u9 := hS8.trans (hb9.mono hS8.size)
      refine held_go hK' hS9 ?_
      simp only [Act.put, List.setIfInBounds_toArray, List.set_cons_zero, List.set_cons_succ]
      have e21_9 := (hb9.block _ (Array.getElem?_eq_some_iff.1 hn8).1).trans hn8
      have hB9 : W1.heap.size ≤ g17 := Nat.le_trans hS8.size hg9
      refine held_call (i := 3) rfl (by kernel_rfl) (by rfl) (fun K' hK' => ?_)
      refine wp_append_empty (.tmp 17) (.tmp 19) rfl rfl hn9 hB9 rfl HA.out (HLW.out.below hS9 rfl) rfl (by omega) hS9.size (fun v20 u10 ho10 hb10 => ?_)
      have hS10 : Below W1.heap.size W1 u10 := hS9.trans (hb10.mono hS9.size)
      refine held_go hK' hS10 ?_
      simp only [Act.put, List.setIfInBounds_toArray, List.set_cons_zero, List.set_cons_succ]
      have e21_10 := (hb10.block _ (Array.getElem?_eq_some_iff.1 e21_9).1).trans e21_9
      refine held_call (i := 7) rfl (by kernel_rfl) (by rfl) (fun K' hK' => ?_)
      refine wp_append_empty (.tmp 21) (.tmp 23) rfl rfl e21_10 hB8 rfl HBN.out (HMW.out.below hS10 rfl) rfl (by omega) hS10.size (fun v24 u11 ho11 hb11 => ?_)
      have hS11 : Below W1.heap.size W1 u11 := hS10.trans (hb11.mono hS10.size)
      refine held_go hK' hS11 ?_
      simp only [Act.put, List.setIfInBounds_toArray, List.set_cons_zero, List.set_cons_succ]
      have o20_11 := ho10.below hb11
      refine held_call (i := 8) rfl (by kernel_rfl) (by rfl) (fun K' hK' => ?_)
      go_simp
      refine held_go hK' hS11 ?_
      refine held_call (i := 9) rfl (by kernel_rfl) (by rfl) (fun K' hK' => ?_)
      go_simp
      refine held_go hK' hS11 ?_
      refine wpAnyH_done (by kernel_rfl) ?_ _
      exact ⟨rfl, _, _, _, _, rfl, o20_11, ho11, hS11⟩
  rintro e a' w2 ⟨rfl, v17, v20, v21, v24, rfl, ho, hu, hb⟩
  have HO := Lib.hid ho
  have HU := Lib.hid hu
  have HB2 := Lib.hid hb
  clear ho hu hb
  simp only [frameC]
  obtain ⟨c0, c1, c2, c3⟩ := HC.out _ HB2.out
  go_wp2_with fail
  refine (scale_any ad bd cap bc xs ys x _ (HLW.out.below HB2.out rfl) HA.out (by omega) (HMW.out.below HB2.out rfl) (by omega)).mono ?_
  rintro e w3 ⟨v5, rfl, hv5, hb3⟩
  clear c0 c1 c2 c3
  have HB3 : Hid (Below W1.heap.size W1 w3) := Lib.hid (HB2.out.trans (hb3.mono HB2.out.size))
  have HO3 := Lib.hid (HO.out.below hb3)
  have HU3 := Lib.hid (HU.out.below hb3)
  have HV3 := Lib.hid hv5
  clear hb3 hv5
  obtain ⟨c0, c1, c2, c3⟩ := HC.out _ HB3.out
  go_wp2_with fail
  refine (rscale_own HO3.out HU3.out x (by omega) (by omega)).mono ?_
  rintro e w4 ⟨v37, rfl, hv37, hb4⟩
  clear c0 c1 c2 c3
  have HB4 : Hid (Below W1.heap.size W1 w4) := Lib.hid (HB3.out.trans (hb4.mono HB3.out.size))
  have HO4 := Lib.hid (HO3.out.below hb4)
  have HU4 := Lib.hid (HU3.out.below hb4)
  have HV4 := Lib.hid (HV3.out.below hb4)
  have HR4 := Lib.hid hv37
  clear hb4 hv37
  obtain ⟨c0, c1, c2, c3⟩ := HC.out _ HB4.out
  go_wp2_with fail
  refine (same_own HV4.out HR4.out (by rw [sc_length]; omega)).mono ?_
  rintro e w5 ⟨rfl, hb5⟩
  clear c0 c1 c2 c3
  have HB5 : Hid (Below W1.heap.size W1 w5) := Lib.hid (HB4.out.trans (hb5.mono HB4.out.size))
  have HO5 := Lib.hid (HO4.out.below hb5)
  have HU5 := Lib.hid (HU4.out.below hb5)
  have HV5 := Lib.hid (HV4.out.below hb5)
  clear hb5
  obtain ⟨c0, c1, c2, c3⟩ := HC.out _ HB5.out
  go_wp2_with fail
  refine (same_half (HLW.out.below HB5.out rfl) HO5.out (by omega)).mono ?_
  rintro e w6 ⟨rfl, hb6⟩
  clear c0 c1 c2 c3
  have HB6 : Hid (Below W1.heap.size W1 w6) := Lib.hid (HB5.out.trans (hb6.mono HB5.out.size))
  have HO6 := Lib.hid (HO5.out.below hb6)
  have HU6 := Lib.hid (HU5.out.below hb6)
  have HV6 := Lib.hid (HV5.out.below hb6)
  clear hb6
  obtain ⟨c0, c1, c2, c3⟩ := HC.out _ HB6.out
  go_wp2_with fail
  refine (same_half (HMW.out.below HB6.out rfl) HU6.out (by omega)).mono ?_
  rintro e w7 ⟨rfl, hb7⟩
  clear c0 c1 c2 c3
  have HB7 : Hid (Below W1.heap.size W1 w7) := Lib.hid (HB6.out.trans (hb7.mono HB6.out.size))
  have HO7 := Lib.hid (HO6.out.below hb7)
  have HU7 := Lib.hid (HU6.out.below hb7)
  have HV7 := Lib.hid (HV6.out.below hb7)
  clear hb7
  obtain ⟨c0, c1, c2, c3⟩ := HC.out _ HB7.out
  have hxor := bits_xor_ev x y
  have HTW := Lib.hid (sc_twice xs ys x y)
  go_wp2_with fail
  clear c0 c1 c2 c3
  refine wp_region_noPanic ?_
  refine wp_region_held_drew (S := fun W => Below W1.heap.size W1 W) (by kernel_rfl) (HB7.out.drew) (fun hS0 => ?_)
  refine held_take (i := 0) (v := ?_) rfl (by kernel_rfl) (by kernel_rfl) (by kernel_rfl) (fun _ _ _ h => h) (by rfl) ?_ (by assumption) ?_
  rotate_left
  · intro W hSW
    try dsimp only at hSW
    go_simp <;> with_reducible rfl
  simp only [Act.put, List.setIfInBounds_toArray, List.set_cons_zero, List.set_cons_succ]
  refine held_take (i := 1) (v := ?_) rfl (by kernel_rfl) (by kernel_rfl) (by kernel_rfl) (fun _ _ _ h => h) (by rfl) ?_ (by assumption) ?_
  rotate_left
  · intro W hSW
    try dsimp only at hSW
    go_simp <;> with_reducible rfl
  simp only [Act.put, List.setIfInBounds_toArray, List.set_cons_zero, List.set_cons_succ]
  refine held_take (i := 2) (v := ?_) rfl (by kernel_rfl) (by kernel_rfl) (by kernel_rfl) (fun _ _ _ h => h) (by rfl) ?_ (by assumption) ?_
  rotate_left
  · intro W hSW
    try dsimp only at hSW
    go_simp <;> with_reducible rfl
  simp only [Act.put, List.setIfInBounds_toArray, List.set_cons_zero, List.set_cons_succ]
  refine held_take (i := 3) (v := ?_) rfl (by kernel_rfl) (by kernel_rfl) (by kernel_rfl) (fun _ _ _ h => h) (by rfl) ?_ (by assumption) ?_
  rotate_left
  · intro W hSW
    try dsimp only at hSW
    have hcell := (HC.out W hSW).2.2.2
    go_simp <;> with_reducible rfl
  simp only [Act.put, List.setIfInBounds_toArray, List.set_cons_zero, List.set_cons_succ]
  refine held_take (i := 5) (v := ?_) rfl (by kernel_rfl) (by kernel_rfl) (by kernel_rfl) (fun _ _ _ h => h) (by rfl) ?_ (by assumption) ?_
  rotate_left
  · intro W hSW
    try dsimp only at hSW
    go_simp <;> with_reducible rfl
  simp only [Act.put, List.setIfInBounds_toArray, List.set_cons_zero, List.set_cons_succ]
  refine held_take (i := 6) (v := ?_) rfl (by kernel_rfl) (by kernel_rfl) (by kernel_rfl) (fun _ _ _ h => h) (by rfl) ?_ (by assumption) ?_
  rotate_left
  · intro W hSW
    try dsimp only at hSW
    go_simp <;> with_reducible rfl
  simp only [Act.put, List.setIfInBounds_toArray, List.set_cons_zero, List.set_cons_succ]
  refine held_take (i := 7) (v := ?_) rfl (by kernel_rfl) (by kernel_rfl) (by kernel_rfl) (fun _ _ _ h => h) (by rfl) ?_ (by assumption) ?_
  rotate_left
  · intro W hSW
    try dsimp only at hSW
    go_simp <;> with_reducible rfl
  simp only [Act.put, List.setIfInBounds_toArray, List.set_cons_zero, List.set_cons_succ]
  refine held_take (i := 8) (v := ?_) rfl (by kernel_rfl) (by kernel_rfl) (by kernel_rfl) (fun _ _ _ h => h) (by rfl) ?_ (by assumption) ?_
  rotate_left
  · intro W hSW
    try dsimp only at hSW
    have hcell := (HC.out W hSW).2.2.1
    go_simp <;> with_reducible rfl
  simp only [Act.put, List.setIfInBounds_toArray, List.set_cons_zero, List.set_cons_succ]
  refine held_take (i := 9) (v := ?_) rfl (by kernel_rfl) (by kernel_rfl) (by kernel_rfl) (fun _ _ _ h => h) (by rfl) ?_ (by assumption) ?_
  rotate_left
  · intro W hSW
    try dsimp only at hSW
    go_simp <;> with_reducible rfl
  simp only [Act.put, List.setIfInBounds_toArray, List.set_cons_zero, List.set_cons_succ]
  refine held_take (i := 10) (v := ?_) rfl (by kernel_rfl) (by kernel_rfl) (by kernel_rfl) (fun _ _ _ h => h) (by rfl) ?_ (by assumption) ?_
  rotate_left
  · intro W hSW
    try dsimp only at hSW
    have hcell := (HC.out W hSW).2.2.2
    go_simp <;> with_reducible rfl
  simp only [Act.put, List.setIfInBounds_toArray, List.set_cons_zero, List.set_cons_succ]
  refine held_take (i := 11) (v := ?_) rfl (by kernel_rfl) (by kernel_rfl) (by kernel_rfl) (fun _ _ _ h => h) (by rfl) ?_ (by assumption) ?_
  rotate_left
  · intro W hSW
    try dsimp only at hSW
    go_simp <;> with_reducible rfl
  simp only [Act.put, List.setIfInBounds_toArray, List.set_cons_zero, List.set_cons_succ]
  refine held_call (i := 4) rfl (by kernel_rfl) (by rfl) (fun K' hK' => ?_)
  try go_simp
  refine (scale_own (w := w7.drew) (v := v5) HV7.out HU7.out y (by rw [sc_length]; omega) (by omega)).mono ?_
  rintro e w8 ⟨v58, rfl, hv58, hb8⟩
  have hB8 : Below w7.heap.size w7 w8 := ⟨hb8.os, hb8.tape, hb8.output, hb8.size, hb8.block⟩
  have HB8 : Hid (Below W1.heap.size W1 w8) := Lib.hid (HB7.out.trans (hB8.mono HB7.out.size))
  have HO8 := Lib.hid (HO7.out.below hB8)
  have HU8 := Lib.hid (HU7.out.below hB8)
  have HV8 := Lib.hid hv58
  clear hv58 hb8 hB8
  refine held_go hK' HB8.out ?_
  try simp only [Act.put, List.setIfInBounds_toArray, List.set_cons_zero, List.set_cons_succ]
  refine held_call (i := 12) rfl (by kernel_rfl) (by rfl) (fun K' hK' => ?_)
  try go_simp
  refine (scale_own (v := v20) HO8.out HU8.out (x ^^^ y) (by omega) (by omega)).mono ?_
  rintro e w9 ⟨v66, rfl, hv66, hb9⟩
  have HB9 : Hid (Below W1.heap.size W1 w9) := Lib.hid (HB8.out.trans (hb9.mono HB8.out.size))
  have HV9 := Lib.hid (HV8.out.below hb9)
  have HR9 := Lib.hid hv66
  clear hv66 hb9
  refine held_go hK' HB9.out ?_
  try simp only [Act.put, List.setIfInBounds_toArray, List.set_cons_zero, List.set_cons_succ]
  refine held_call (i := 13) rfl (by kernel_rfl) (by rfl) (fun K' hK' => ?_)
  try go_simp
  refine (same_own (by rw [← HTW.out]; exact HV9.out) HR9.out (by rw [sc_length]; omega)).mono ?_
  rintro e w10 ⟨rfl, hb10⟩
  have HB10 : Hid (Below W1.heap.size W1 w10) := Lib.hid (HB9.out.trans (hb10.mono HB9.out.size))
  clear hb10
  refine held_go hK' HB10.out ?_
  try simp only [Act.put, List.setIfInBounds_toArray, List.set_cons_zero, List.set_cons_succ]
  refine held_call (i := 14) rfl (by kernel_rfl) (by rfl) (fun K' hK' => ?_)
  go_simp
  refine held_go hK' HB10.out ?_
  refine held_call (i := 15) rfl (by kernel_rfl) (by rfl) (fun K' hK' => ?_)
  try go_simp
  refine (HAW.out _).mono ?_
  rintro e w11 ⟨rfl, hb11⟩
  have HB11 : Hid (Below W1.heap.size W1 w11) := Lib.hid (HB10.out.trans (hb11.mono HB10.out.size))
  clear hb11
  refine held_go hK' HB11.out ?_
  try simp only [Act.put, List.setIfInBounds_toArray, List.set_cons_zero, List.set_cons_succ]
  refine held_call (i := 16) rfl (by kernel_rfl) (by rfl) (fun K' hK' => ?_)
  try go_simp
  refine held_go hK' HB11.out ?_
  refine held_call (i := 17) rfl (by kernel_rfl) (by rfl) (fun K' hK' => ?_)
  try go_simp
  refine held_go hK' HB11.out ?_
  refine wpAnyH_done (by kernel_rfl) ?_ _
  refine NoPanic.normal ?_
  go_wp2
  go_ret
  exact ⟨rfl, HW0.out.trans (HB11.out.mono HW0.out.size)⟩
end Go.Proofs.Ytkeijphhcapkdaa
