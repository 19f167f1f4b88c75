/-
  The specification's SameBlocks.
  The specification's block, count and Barcode.
  Valid and Capacity of the specification.
  Steps of a region that draws its order, one at a time: an operation taken first, the one that may come up now, and a condition on the world that grows on the way.
  Steps of a region that draws its order: an operation that its guard passes over, two that may come up, and what goes on behind one.
-/
import Derived.Test.YtepmmlnopdjjdaaQCt
import Derived.Test.YtepmmlnopdjjdaaQSerp
import Derived.Deep.LoopGhost
import Derived.WalkKit
import Derived.Lib.Hide
import Derived.WalkSpells
import Derived.WalkLawsBesides
import Derived.Test.YtepmmlnopdjjdaaQMem
import Derived.Deep.RegionHeld3
import Derived.Deep.RegionWith
namespace Go.Proofs.Ytepmmlnopdjjdaa
open Go.RowKit
set_option linter.unusedVariables false
theorem textC_inj {xs ys : List UInt8} (h : xs ≠ ys) : ¬ (⟨xs.toArray⟩ : ByteArray) = ⟨ys.toArray⟩ := fun e => h (by
  have := congrArg ByteArray.data e
  simpa using this)
theorem textC_beq {S T : ByteArray} (h : ¬ S = T) : (S.toList == T.toList) = false := by
  rw [beq_eq_false_iff_ne]
  intro h'
  rw [ByteArray.toList_eq, ByteArray.toList_eq] at h'
  exact h (Go.WideShapes.bytes_inj h')
/-- two lists of blocks are equal -/
def eqK (l m : List Blk) : Bool := decide (l = m)
theorem eqK_yes {l m : List Blk} (h : l = m) : eqK l m = true := decide_eq_true h
theorem eqK_no {l m : List Blk} (h : l ≠ m) : eqK l m = false := decide_eq_false h
theorem eqK_at {l m : List Blk} {i : Nat} (h : i < l.length) (h' : i < m.length) (hne : l[i].m ≠ m[i].m ∨ l[i].bad ≠ m[i].bad ∨ l[i].d ≠ m[i].d) : eqK l m = false :=
  eqK_no fun e => by subst e; rcases hne with h | h | h <;> exact h rfl
theorem eqK_all {l m : List Blk} (h : l.length = m.length) (ha : ∀ i (h : i < l.length) (h' : i < m.length), l[i] = m[i]) : eqK l m = true :=
  eqK_yes (List.ext_getElem h ha)
theorem blk_eq {x y : Blk} (h1 : x.m = y.m) (h2 : x.bad = y.bad) (h3 : x.d = y.d) : x = y := by
  cases x; cases y; simp only at h1 h2 h3; subst h1 h2 h3; rfl
attribute [local irreducible] eqK
end Go.Proofs.Ytepmmlnopdjjdaa
namespace Go.Proofs.Ytepmmlnopdjjdaa
open Go.RowKit
set_option linter.unusedVariables false
theorem below_boxC (w : World) (o : Obj) : Below w.heap.size w (w.alloc o) := (Below.refl _ _).alloc (Nat.le_refl _) _
/-- a block is valid -/
def okB (m : Bool) (n : Nat) : Bool := if m then (n : Int) == 0 else decide ((1 : Int) ≤ (n : Int)) && decide ((n : Int) ≤ 64)
def cnt (n : Int) : Bool := decide (0 ≤ n) && decide (n ≤ 1125899906842624)
/-- a byte of a barcode -/
def chr (x : UInt8) : Bool := (decide (65 ≤ x.toNat) && decide (x.toNat ≤ 90)) || (decide (48 ≤ x.toNat) && decide (x.toNat ≤ 57))
def bar (s : ByteArray) : Bool := s.data.toList.all chr && (decide (1 ≤ s.size) && decide (s.size ≤ 24))
set_option maxRecDepth 100000 in
set_option maxHeartbeats 400000 in
theorem rblk_any (m bad : Bool) (ad : Option Addr) (n cap : Nat) (w : World) :
    Calls Try.prog 82 #[.agg #[.bool m, .bool bad, .slice ad n cap]] w fun e w' => e = .returned (.bool (okB m n)) ∧ Below w.heap.size w w' := by
  cases m
  · by_cases h1 : 1 ≤ n
    · have hd : decide ((1 : Int) ≤ (n : Int)) = true := decide_eq_true (by omega)
      go_enter Try.func82, Try.ntmps82
      go_wp2
      go_ret
      exact ⟨by unfold okB; rw [if_neg (by decide), hd]; rfl, below_boxC _ _⟩
    · obtain rfl : n = 0 := by omega
      go_enter Try.func82, Try.ntmps82
      go_wp2
      go_ret
      exact ⟨by simp [okB], below_boxC _ _⟩
  · go_enter Try.func82, Try.ntmps82
    go_wp2
    go_ret
    exact ⟨by unfold okB; rw [if_pos rfl]; rfl, below_boxC _ _⟩
set_option maxRecDepth 100000 in
set_option maxHeartbeats 400000 in
theorem rcnt_any (a : Int) (w : World) :
    Calls Try.prog 83 #[.int .i64 a] w fun e w' => e = .returned (.bool (cnt a)) ∧ w' = w := by
  go_enter Try.func83, Try.ntmps83
  go_wp2
  all_goals go_ret
  · rename_i h
    exact ⟨by unfold cnt; rw [decide_eq_true h]; rfl, rfl⟩
  · rename_i h
    exact ⟨by unfold cnt; rw [decide_eq_false (by omega)]; rfl, rfl⟩
set_option maxRecDepth 100000 in
set_option maxHeartbeats 1000000 in
theorem rbar_any (s : ByteArray) (w : World) (hs : s.size ≤ maxLen) :
    Calls Try.prog 81 #[.string s] w fun e w' => e = .returned (.bool (bar s)) ∧ w' = w := by
  obtain ⟨N, hN⟩ : ∃ N, N = s.size := ⟨_, rfl⟩
  have HN := Lib.hid hN
  have hm : N ≤ 9223372036854775807 := by rw [hN]; exact hs
  go_enter Try.func81, Try.ntmps81
  go_wp2
  go_loopg [3] N (fun gk vk wx => ∃ k : Nat, vk = .int .i64 k ∧ k + gk = N ∧ wx = w ∧ Hid (∀ j (h : j < s.data.toList.length), j < k → chr s.data.toList[j] = true))
  case atStart => exact ⟨0, rfl, by omega, rfl, Lib.hid fun j _ hj => by omega⟩
  case round =>
    obtain ⟨k, rfl, hk, rfl, hall⟩ := hrel
    cases gk with
    | zero =>
      obtain rfl : k = N := by omega
      have HA := Lib.hid (show s.data.toList.all chr = true by
        rw [List.all_eq_true]
        intro x hx
        obtain ⟨j, hj, rfl⟩ := List.getElem_of_mem hx
        exact hall.out j hj (by have := HN.out; have e : s.data.toList.length = s.size := by simp
                                omega))
      have hnn : ((s.size : Nat) : Int) = (k : Int) := by have := HN.out; omega
      by_cases h1 : 1 ≤ k
      · by_cases h2 : k ≤ 24
        · have HR := Lib.hid (show bar s = true by unfold bar; rw [HA.out]; have := HN.out; simp; omega)
          have hd : decide ((k : Int) ≤ 24) = true := decide_eq_true (by omega)
          go_wp2
          go_ret
          exact ⟨by rw [HR.out]; rfl, rfl⟩
        · have HR := Lib.hid (show bar s = false by unfold bar; rw [HA.out]; have := HN.out; simp; omega)
          have hd : decide ((k : Int) ≤ 24) = false := decide_eq_false (by omega)
          go_wp2
          go_ret
          exact ⟨by rw [HR.out]; rfl, rfl⟩
      · have HR := Lib.hid (show bar s = false by unfold bar; rw [HA.out]; have := HN.out; simp; omega)
        go_wp2
        go_ret
        exact ⟨by rw [HR.out]; rfl, rfl⟩
    | succ gk0 =>
      have hkN : k < N := by omega
      have hks : k < s.data.toList.length := by
        have := HN.out
        have e : s.data.toList.length = s.size := by simp
        omega
      have hks2 : k < s.size := by have := HN.out; omega
      have hI : (Instr.index 9 (.string s) (.int .i64 (k : Int))).run Try.prog wr = .ok (.int .u8 ((s.data.toList[k]).toNat : Int)) wr := by
        rw [run_index_string wr 9 s .i64 (k : Int) Try.underlying9, dif_pos ⟨by omega, by omega⟩]
        rfl
      obtain ⟨x, hx⟩ : ∃ x, x = s.data.toList[k] := ⟨_, rfl⟩
      rw [← hx] at hI
      have HNX : chr x = true → Hid (∀ j (h : j < s.data.toList.length), j < k + 1 → chr s.data.toList[j] = true) := fun hc => Lib.hid fun j h hj => by
        rcases Nat.lt_or_ge j k with h3 | h3
        · exact hall.out j h h3
        · obtain rfl : j = k := by omega
          rw [← hx]
          exact hc
      have HBA : Hid (chr x = false → bar s = false) := Lib.hid fun hc => by
        unfold bar
        rw [show s.data.toList.all chr = false by
          rw [List.all_eq_false]
          exact ⟨x, by rw [hx]; exact List.getElem_mem hks, by rw [hc]; simp⟩]
        rfl
      have HC : chr x = (decide (65 ≤ x.toNat) && decide (x.toNat ≤ 90) || decide (48 ≤ x.toNat) && decide (x.toNat ≤ 57)) := rfl
      have HCH := Lib.hid HC
      clear HC hx hks hks2
      generalize x.toNat = n at *
      have part : n < 48 ∨ (48 ≤ n ∧ n ≤ 57) ∨ (58 ≤ n ∧ n < 65) ∨ (65 ≤ n ∧ n ≤ 90) ∨ 91 ≤ n := by omega
      rcases part with h1 | ⟨h1, h2⟩ | ⟨h1, h2⟩ | ⟨h1, h2⟩ | h1
      · have HR := Lib.hid (HBA.out (by rw [HCH.out]; simp; omega))
        clear HNX
        go_wp2
        go_ret
        exact ⟨by rw [HR.out]; rfl, rfl⟩
      · have HNY := HNX (by rw [HCH.out]; simp; omega)
        clear HNX
        have d57 : decide ((n : Int) ≤ 57) = true := decide_eq_true (by omega)
        go_wp2
        go_roundg gk0
        case rel => exact ⟨k + 1, by go_num, by omega, rfl, HNY⟩
        case measure => omega
      · have HR := Lib.hid (HBA.out (by rw [HCH.out]; simp; omega))
        clear HNX
        have d57 : decide ((n : Int) ≤ 57) = false := decide_eq_false (by omega)
        go_wp2
        go_ret
        exact ⟨by rw [HR.out]; rfl, rfl⟩
      · have HNY := HNX (by rw [HCH.out]; simp; omega)
        clear HNX
        have d90 : decide ((n : Int) ≤ 90) = true := decide_eq_true (by omega)
        have d57 : decide ((n : Int) ≤ 57) = false := decide_eq_false (by omega)
        go_wp2
        go_roundg gk0
        case rel => exact ⟨k + 1, by go_num, by omega, rfl, HNY⟩
        case measure => omega
      · have HR := Lib.hid (HBA.out (by rw [HCH.out]; simp; omega))
        clear HNX
        have d90 : decide ((n : Int) ≤ 90) = false := decide_eq_false (by omega)
        have d57 : decide ((n : Int) ≤ 57) = false := decide_eq_false (by omega)
        go_wp2
        go_ret
        exact ⟨by rw [HR.out]; rfl, rfl⟩
end Go.Proofs.Ytepmmlnopdjjdaa
namespace Go.Proofs.Ytepmmlnopdjjdaa
open Go.RowKit
set_option linter.unusedVariables false
set_option maxRecDepth 100000 in
set_option maxHeartbeats 400000 in
theorem rtime_any (a : Int) (w : World) :
    Calls Try.prog 86 #[.int .i64 a] w fun e w' => e = .returned (.bool (tim a)) ∧ w' = w := by
  go_enter Try.func86, Try.ntmps86
  go_wp2
  all_goals go_ret
  · rename_i h
    exact ⟨ret_bools (by unfold tim; rw [decide_eq_true h]; rfl), rfl⟩
  · rename_i h
    exact ⟨ret_bools (by unfold tim; rw [decide_eq_false (by omega)]; rfl), rfl⟩
attribute [local irreducible] tim vld
set_option maxRecDepth 100000 in
set_option maxHeartbeats 1000000 in
theorem rvalid_any (W L S T J R : Int) (w : World) :
    Calls Try.prog 63 #[geV W L S T J R] w fun e w' => e = .returned (.bool (vld W L S T J R)) ∧ Below w.heap.size w w' := by
  have HB0 := Lib.hid (below_box1 w (.cells #[.int .i64 W, .int .i64 L, .int .i64 S, .int .i64 T, .int .i64 J, .int .i64 R] 27))
  by_cases hW : W < 1
  · rw [vld_no (by omega)]
    go_enter Try.func63, Try.ntmps63
    go_wp2
    go_ret
    exact ⟨rfl, HB0.out⟩
  by_cases hW2 : 32 < W
  · rw [vld_no (by omega)]
    go_enter Try.func63, Try.ntmps63
    go_wp2
    go_ret
    exact ⟨rfl, HB0.out⟩
  by_cases hL : L < 1
  · rw [vld_no (by omega)]
    go_enter Try.func63, Try.ntmps63
    go_wp2
    go_ret
    exact ⟨rfl, HB0.out⟩
  by_cases hL2 : 4096 < L
  · rw [vld_no (by intro h; have := cap_pos h.1 h.2.2.1; omega)]
    go_enter Try.func63, Try.ntmps63
    go_wp2
    go_ret
    exact ⟨rfl, HB0.out⟩
  have hm0 : 0 ≤ W * L := Int.mul_nonneg (by omega) (by omega)
  have hm1 : W * L ≤ 32 * L := Int.mul_le_mul_of_nonneg_right (by omega) (by omega)
  by_cases hc : 4096 < W * L
  · rw [vld_no (by omega)]
    go_enter Try.func63, Try.ntmps63
    go_wp2
    go_ret
    exact ⟨rfl, HB0.out⟩
  rw [vld_eq (by omega) (by omega) (by omega) (by omega)]
  go_enter Try.func63, Try.ntmps63
  go_wp2_with fail
  refine (rtime_any S _).mono ?_
  rintro e w1 ⟨rfl, rfl⟩
  cases hS : tim S
  · go_wp2
    go_ret
    exact ⟨by simp [hS], HB0.out⟩
  go_wp2_with fail
  refine (rtime_any T _).mono ?_
  rintro e w1 ⟨rfl, rfl⟩
  cases hT : tim T
  · go_wp2
    go_ret
    exact ⟨by simp [hS, hT], HB0.out⟩
  go_wp2_with fail
  refine (rtime_any J _).mono ?_
  rintro e w1 ⟨rfl, rfl⟩
  cases hJ : tim J
  · go_wp2
    go_ret
    exact ⟨by simp [hS, hT, hJ], HB0.out⟩
  go_wp2_with fail
  refine (rtime_any R _).mono ?_
  rintro e w1 ⟨rfl, rfl⟩
  go_wp2
  go_ret
  exact ⟨by simp [hS, hT, hJ], HB0.out⟩
set_option maxRecDepth 100000 in
set_option maxHeartbeats 1000000 in
theorem rcapacity_any (W L S T J R : Int) (w : World) :
    Calls Try.prog 62 #[geV W L S T J R] w fun e w' => e = .returned (.int .i64 (capU W L S T J R)) ∧ Below w.heap.size w w' := by
  have HB0 := Lib.hid (below_box1 w (.cells #[.int .i64 W, .int .i64 L, .int .i64 S, .int .i64 T, .int .i64 J, .int .i64 R] 27))
  have HG := Lib.hid (GeoAt.new w W L S T J R 27)
  by_cases hv : Vld W L S T J R
  · rw [capU_yes hv]
    have h0 : 0 ≤ W * L := Int.mul_nonneg (by have := hv.w0; omega) (by have := hv.l0; omega)
    have h1 := hv.c1
    have HV := Lib.hid (vld_iff.2 hv)
    clear hv
    go_enter Try.func62, Try.ntmps62
    go_wp2_with fail
    refine (rvalid_any W L S T J R _).mono ?_
    rw [HV.out]
    rintro e w1 ⟨rfl, hb⟩
    have HB := Lib.hid (HB0.out.trans (hb.mono HB0.out.size))
    obtain ⟨_, g0, g1, _, _, _, _⟩ := HG.out.below hb (by simp)
    clear hb
    go_wp2
    go_ret
    exact ⟨rfl, HB.out⟩
  · rw [capU_no hv]
    have HV := Lib.hid (vld_not.2 hv)
    clear hv
    go_enter Try.func62, Try.ntmps62
    go_wp2_with fail
    refine (rvalid_any W L S T J R _).mono ?_
    rw [HV.out]
    rintro e w1 ⟨rfl, hb⟩
    have HB := Lib.hid (HB0.out.trans (hb.mono HB0.out.size))
    clear hb
    go_wp2
    go_ret
    exact ⟨rfl, HB.out⟩
end Go.Proofs.Ytepmmlnopdjjdaa
namespace Go.Proofs.Ytepmmlnopdjjdaa
open Go.RowKit

section
variable {P : Program} {md : Region.Mode} {l : List Oper} {Q : Exit → Act → World → Prop} {S S' : World → Prop}

theorem held_take {i : Nat} {oi : Oper} {v : Value} {fuel : Nat} {listed : Array Bool} {a : Act} {w : World} (hi : l[i]? = some oi)
    (hs : Region.noSelect l.toArray = true) (hf : Region.free md l.toArray listed i = true) (hr : (Region.ready md l.toArray listed).contains i = true)
    (hQ : ∀ c a w, Q (.panic c) (a.put oi.dst v) w → Q (.panic c) a w) (hw : Region.wanted oi (yielded l.toArray a.tmps) = true)
    (hy : ∀ w, S w → (execOp a.eval oi).run P w = .ok (.value v) w) (hS : S w)
    (h : wpAnyH P md l.toArray Q S fuel (listed.setIfInBounds i true) (a.put oi.dst v) w) : wpAnyH P md l.toArray Q S (fuel + 1) listed a w :=
  wpAnyH_take (by rw [List.getElem?_toArray]; exact hi) hs hf hr hQ (Or.inl ⟨hw, hy⟩) hS h

theorem held_call {i : Nat} {oi : Oper} {fuel : Nat} {listed : Array Bool} {a : Act} {w : World} (hi : l[i]? = some oi)
    (hr : Region.ready md l.toArray listed = [i]) (hw : Region.wanted oi (yielded l.toArray a.tmps) = true)
    (h : ∀ K' : Act → World → Prop, Shut (∀ a w, S w → (S w → wpAnyH P md l.toArray Q S fuel (listed.setIfInBounds i true) a w) → K' a w) → Oper.wp P oi a w K' Q) :
    wpAnyH P md l.toArray Q S (fuel + 1) listed a w :=
  wpAnyH_ready hr (by simp) (AllReadyH.cons (by rw [List.getElem?_toArray]; exact hi) (fun K hK => by rw [if_pos hw]; exact h K hK) AllReadyH.nil)

theorem held_imp (hSS : ∀ w, S' w → S w) : ∀ (fuel : Nat) (listed : Array Bool) (a : Act) (w : World), wpAnyH P md l.toArray Q S' fuel listed a w → wpAnyH P md l.toArray Q S fuel listed a w
  | 0, _, _, _, h => h
  | fuel + 1, _, _, _, h => ⟨h.1, fun i hi => wpOp_mono (fun a' w' h' => ⟨hSS _ h'.1, held_imp hSS fuel _ a' w' h'.2⟩) (h.2 i hi)⟩
end
end Go.Proofs.Ytepmmlnopdjjdaa
namespace Go.Proofs.Ytepmmlnopdjjdaa
open Go.RowKit
theorem held_go {P : Program} {md : Region.Mode} {ops : Array Oper} {Q : Exit → Act → World → Prop} {S : World → Prop} {fuel : Nat} {listed : Array Bool} {K' : Act → World → Prop} {a : Act} {w : World}
    (hK : Shut (∀ a w, S w → (S w → wpAnyH P md ops Q S fuel listed a w) → K' a w)) (hS : S w) (h : wpAnyH P md ops Q S fuel listed a w) : K' a w := hK.out a w hS (fun _ => h)
theorem held_skip {P : Program} {md : Region.Mode} {l : List Oper} {Q : Exit → Act → World → Prop} {S : World → Prop} {i : Nat} {oi : Oper} {fuel : Nat} {listed : Array Bool} {a : Act} {w : World} (hi : l[i]? = some oi)
    (hs : Region.noSelect l.toArray = true) (hf : Region.free md l.toArray listed i = true) (hr : (Region.ready md l.toArray listed).contains i = true)
    (hQ : ∀ c a w, Q (.panic c) (a.put oi.dst undef) w → Q (.panic c) a w) (hw : Region.wanted oi (yielded l.toArray a.tmps) = false) (hS : S w)
    (h : wpAnyH P md l.toArray Q S fuel (listed.setIfInBounds i true) (a.put oi.dst undef) w) : wpAnyH P md l.toArray Q S (fuel + 1) listed a w :=
  wpAnyH_take (by rw [List.getElem?_toArray]; exact hi) hs hf hr hQ (Or.inr ⟨hw, rfl⟩) hS h
theorem held_two {P : Program} {md : Region.Mode} {l : List Oper} {Q : Exit → Act → World → Prop} {S : World → Prop} {i j : Nat} {oi oj : Oper} {fuel : Nat} {listed : Array Bool} {a : Act} {w : World} (hi : l[i]? = some oi) (hj : l[j]? = some oj)
    (hr : Region.ready md l.toArray listed = [i, j]) (hwi : Region.wanted oi (yielded l.toArray a.tmps) = true) (hwj : Region.wanted oj (yielded l.toArray a.tmps) = true)
    (h1 : ∀ K' : Act → World → Prop, Shut (∀ a w, S w → (S w → wpAnyH P md l.toArray Q S fuel (listed.setIfInBounds i true) a w) → K' a w) → Oper.wp P oi a w K' Q)
    (h2 : ∀ K' : Act → World → Prop, Shut (∀ a w, S w → (S w → wpAnyH P md l.toArray Q S fuel (listed.setIfInBounds j true) a w) → K' a w) → Oper.wp P oj a w K' Q) :
    wpAnyH P md l.toArray Q S (fuel + 1) listed a w :=
  wpAnyH_ready hr (by simp) (AllReadyH.cons (by rw [List.getElem?_toArray]; exact hi) (fun K hK => by rw [if_pos hwi]; exact h1 K hK)
    (AllReadyH.cons (by rw [List.getElem?_toArray]; exact hj) (fun K hK => by rw [if_pos hwj]; exact h2 K hK) AllReadyH.nil))
end Go.Proofs.Ytepmmlnopdjjdaa
