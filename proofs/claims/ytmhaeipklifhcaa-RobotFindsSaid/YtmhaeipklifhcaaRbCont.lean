/-
  The program's iterator over what a robot contains.
-/
import Derived.Test.YtmhaeipklifhcaaRbBox
import Derived.RangeFuncNested
import Derived.RangeFuncBound
import Derived.RangeFuncCalls
import Derived.RangeFuncLeaves
import Derived.Shelf.Abstract
import Derived.Shelf.RegionOpen
import Derived.WalkKit
import Derived.OwnWalkIn
import Derived.TacticsInMore
import Derived.LoopNIn
import Derived.LoopIn
namespace Go.Proofs.Ytmhaeipklifhcaa
open Go.RowKit Go.Shelf
set_option linter.unusedVariables false
set_option linter.unusedSimpArgs false
attribute [local go_sem] Oper.semAt_some
/-- what the iterator hands out: an element and what it holds -/
structure Ct where
  k : Int
  i : Int
  s : ByteArray
  hs : s.size ≤ maxLen
abbrev Ct.encs (x : Ct) : Array Value := #[.agg #[.int .i64 x.k, .int .i64 x.i], .string x.s]
abbrev Ct.t (x : Ct) : Int × Int × ByteArray := (x.k, x.i, x.s)
/-- what a round keeps -/
def KpC (n₀ bb : Nat) (W W' : World) : Prop := Below n₀ W W' ∧ ∀ cs t fr, W.heap[bb]? = some (.cells cs t fr) → W'.heap[bb]? = some (.cells cs t fr)
theorem KpC.t {n₀ bb : Nat} {A B C : World} (h : KpC n₀ bb A B) (k : KpC n₀ bb B C) : KpC n₀ bb A C := ⟨h.1.trans k.1, fun cs t fr e => k.2 cs t fr (h.2 cs t fr e)⟩
theorem KpC.b {n₀ bb : Nat} {w : World} (hn : n₀ ≤ w.heap.size) (W : World) (l : Nat) (o o' : Obj) (hl : w.heap.size ≤ l) (h : W.heap[l]? = some o) (hc : o.isCells = false) (_ : o.isWalk = false) : KpC n₀ bb W (W.putObj l o') := by
  refine ⟨(Below.refl n₀ W).grown (grownBy_putObj' W l o') (by have := (Array.getElem?_eq_some_iff.1 h).1; omega) (fun k e => by cases e; omega), fun cs t fr e => ?_⟩
  by_cases hb : bb = l
  · subst hb
    rw [e] at h
    cases h
    cases hc
  · rw [World.putObj_heap_other hb]; exact e
set_option maxRecDepth 100000 in
set_option maxHeartbeats 400000 in
theorem contents_in (n : Nat) (r : Rbt) (ad : Option Addr) (N cap : Nat) (w : World) :
    CallsIn Fence.wide n Try.prog 32 #[roV r ad N cap] w fun e w' => e = .returned (.func (.func 47) #[] #[.pointer (some ⟨w.heap.size, 0, none⟩)]) ∧ w' = w.alloc (boxR r ad N cap) := by
  refine callsIn_of_wp Try.func32 rfl trivial ?_ rfl
  simp only [Try.ntmps32, List.size_toArray, List.length_cons, List.length_nil, Nat.reduceAdd, Nat.reduceSub, Array.replicate_succ, Array.replicate_zero, List.push_toArray, List.append_toArray, List.nil_append, List.cons_append]
  gi_wp2
  go_ret
  exact ⟨rfl, rfl⟩
set_option maxRecDepth 100000 in
set_option maxHeartbeats 1000000 in
theorem contents_stops (m bb : Nat) (r : Rbt) (ad : Option Addr) (n cap : Nat) (w00 w : World) (hl : Sx w00 ad r.l) (hn : n = r.l.length) (hn2 : n ≤ 1000) (h00 : Below w00.heap.size w00 w) (hbb : w.heap[bb]? = some (boxR r ad n cap)) (hsz : ∀ s ∈ allR r, s.size ≤ maxLen) :
    SeqStopsK Fence.wide m Try.prog 47 #[.pointer (some ⟨bb, 0, none⟩)] Ct.encs (KpC w00.heap.size bb) (fun xs => xs.map Ct.t = contC r) (fun xs => xs.map Ct.t <+: contC r) 2000 w := by
  intro l J Jx W hW _ _ hY h0
  have HN := Lib.hid hn
  have HL := Lib.hid hl
  have HZ := Lib.hid hsz
  have HY := Lib.hid hY
  have H0 := Lib.hid h0
  have HB0 := Lib.hid (h00.trans (hW.mono h00.size))
  have HX0 := Lib.hid (row_step hbb hW)
  have HE : Hid (∀ ys : List Ct, ys.map Ct.t = slotsC 0 (r.l.take n) → slotsC 0 r.l = ys.map Ct.t) := Lib.hid fun ys h => by rw [h, List.take_of_length_le (by omega)]
  clear hn hl hsz hY h0 h00 hW hbb
  obtain ⟨_, k0, k1, k2, k3, k4⟩ := RoAt.of HX0.out
  refine callsIn_of_wp Try.func47 rfl trivial ?_ rfl
  simp only [Try.ntmps47, List.size_toArray, List.length_cons, List.length_nil, Nat.reduceAdd, Nat.reduceSub, Array.replicate_succ, Array.replicate_zero, List.push_toArray, List.append_toArray, List.nil_append, List.cons_append]
  gi_wp2
  gi_loopw [8] (fun vk wr => ∃ (k : Nat) (ys : List Ct), vk = .int .i64 k ∧ k ≤ n ∧ Hid (ys.map Ct.t = slotsC 0 (r.l.take k)) ∧ Hid (J ys wr) ∧ Hid (wr.heap[bb]? = some (boxR r ad n cap)) ∧ Hid (Below w00.heap.size w00 wr)) (fun vk _ => n - (intOf vk).toNat)
  case atStart => exact ⟨0, [], rfl, Nat.zero_le _, Lib.hid rfl, H0, HX0, HB0⟩
  case round =>
    clear k0 k1 k2 k3 k4
    obtain ⟨k, ys, rfl, hk, hys, hj, hx, hb⟩ := hrel
    by_cases hlt : k < n
    · have hkl : k < r.l.length := by rw [← HN.out]; exact hlt
      obtain ⟨b, off, rfl, hbl, q0⟩ := HL.out.get hkl
      have q1 := (hb.out.cell (p := ⟨b, off + k, none⟩) hbl).trans q0
      obtain ⟨x, hxe⟩ : ∃ x, r.l[k] = x := ⟨_, rfl⟩
      have hxs : x.size ≤ maxLen := by rw [← hxe]; exact HZ.out _ (List.mem_append_left _ (List.getElem_mem hkl))
      rw [hxe] at q1
      obtain ⟨fn, tmps, assign, body, hy, hR⟩ := HY.out ys ⟨0, (k : Int), x, hxs⟩ wr hj.out (by
        have := congrArg List.length hys.out
        rw [List.length_map, slotsC_length, List.length_take] at this
        omega)
      have HS := Lib.hid (show (ys ++ [(⟨0, (k : Int), x, hxs⟩ : Ct)]).map Ct.t = slotsC 0 (r.l.take (k + 1)) by
        rw [List.map_append, hys.out, List.take_add_one, List.getElem?_eq_getElem hkl, hxe]
        show _ = slotsC 0 (r.l.take k ++ [x])
        rw [slotsC_snoc, List.length_take]
        simp only [List.map_cons, List.map_nil, Ct.t]
        congr 3
        simp only [Nat.zero_add]
        rw [Nat.min_eq_left (by omega)])
      have HP := Lib.hid (slotsC_pre r (k + 1))
      dsimp only [Ct.encs] at hy
      have hcast : (k : Int) < (n : Int) := by omega
      clear q0 hxe hkl
      gi_wp2
      refine ⟨(fun h => by cases h), hR.mono ?_⟩
      rintro e W3 (⟨rfl, hJ3, hk3⟩ | ⟨rfl, hJx3⟩)
      · have HJ3 := Lib.hid hJ3
        have HB3 := Lib.hid (hb.out.trans hk3.1)
        have HX3 := Lib.hid (hk3.2 _ _ _ hx.out)
        clear hy hR hJ3 hk3
        gi_wp2
        go_roundw
        case rel => exact ⟨k + 1, _, by go_num, by omega, HS, HJ3, HX3, HB3⟩
        case measure =>
          have e1 : intOf (.int .i64 ((k : Int) + 1)) = (k : Int) + 1 := rfl
          have e2 : intOf (.int .i64 (k : Int)) = (k : Int) := rfl
          first | (simp only [e1, e2]; omega) | omega
      · have HJx3 := Lib.hid hJx3
        clear hy hR hJx3
        gi_wp2
        refine bodyPost_ret (results_none rfl _ _ _) rfl ?_
        exact ⟨⟨_, rfl⟩, .inr ⟨_, by rw [HS.out]; exact HP.out, HJx3.out⟩⟩
    · obtain rfl : k = n := by omega
      have hnl : ¬ (k : Int) < (k : Int) := by omega
      obtain ⟨_, k0, k1, k2, k3, k4⟩ := RoAt.of hx.out
      have HE1 := Lib.hid (HE.out ys hys.out)
      have hlen : ys.length = k := by
        have := congrArg List.length hys.out
        rw [List.length_map, slotsC_length, List.length_take] at this
        have := HN.out
        omega
      have HL1 := Lib.hid hlen
      clear hlen
      obtain ⟨fn, tmps, assign, body, hy, hR⟩ := HY.out ys ⟨2, 0, r.po, HZ.out _ (List.mem_append_right _ (by simp))⟩ wr hj.out (by have := HL1.out; omega)
      dsimp only [Ct.encs] at hy
      gi_wp2
      refine ⟨(fun h => by cases h), hR.mono ?_⟩
      rintro e W3 (⟨rfl, hJ3, hk3⟩ | ⟨rfl, hJx3⟩)
      · have HJ3 := Lib.hid hJ3
        have HX3 := Lib.hid (hk3.2 _ _ _ hx.out)
        clear hy hR hJ3 hk3 k0 k1 k2 k3 k4
        obtain ⟨_, k0, k1, k2, k3, k4⟩ := RoAt.of HX3.out
        obtain ⟨fn, tmps, assign, body, hy, hR⟩ := HY.out _ ⟨3, 0, r.ha, HZ.out _ (List.mem_append_right _ (by simp))⟩ W3 HJ3.out (by rw [List.length_append]; have := HL1.out; simp; omega)
        dsimp only [Ct.encs] at hy
        gi_wp2
        refine ⟨(fun h => by cases h), hR.mono ?_⟩
        rintro e W4 (⟨rfl, hJ4, hk4⟩ | ⟨rfl, hJx4⟩)
        · have HJ4 := Lib.hid hJ4
          clear hy hR hJ4 hk4 k0 k1 k2 k3 k4
          gi_wp2
          go_end0
          exact ⟨⟨_, rfl⟩, .inl ⟨_, by unfold contC; rw [List.map_append, List.map_append, HE1.out, List.append_assoc]; rfl, HJ4.out⟩⟩
        · have HJx4 := Lib.hid hJx4
          clear hy hR hJx4 k0 k1 k2 k3 k4
          gi_wp2
          go_end0
          exact ⟨⟨_, rfl⟩, .inr ⟨_, by unfold contC; rw [List.map_append, List.map_append, HE1.out, List.append_assoc]; exact List.prefix_refl _, HJx4.out⟩⟩
      · have HJx3 := Lib.hid hJx3
        clear hy hR hJx3 k0 k1 k2 k3 k4
        gi_wp2
        go_end0
        exact ⟨⟨_, rfl⟩, .inr ⟨_, by unfold contC; rw [List.map_append, HE1.out]; exact ⟨[(3, 0, r.ha)], by simp [Ct.t]⟩, HJx3.out⟩⟩
end Go.Proofs.Ytmhaeipklifhcaa
