/-
  The program's iterator over the frames that follow one another from an offset on.
-/
import Derived.Test.YtbbdkghkdmaolaaDoorFSeq
namespace Go.Proofs.YtbbdkghkdmaolaaDoor
open Go.RowKit Go.Shelf
set_option linter.unusedVariables false
set_option linter.unusedSimpArgs false
attribute [local go_sem] Oper.semAt_some

/-- What the iterator hands out: a slice, the bytes that it holds, and the offset behind the frame. -/
structure Fr where
  ad : Option Addr
  N : Nat
  cap : Nat
  l : List UInt8
  e : Nat
abbrev Fr.val (x : Fr) : Value := .slice x.ad x.N x.cap
abbrev Fr.encs (x : Fr) : Array Value := #[x.val, .int .i64 x.e]
/-- the frame: its body and the offset behind it -/
abbrev Fr.fr (x : Fr) : List UInt8 × Nat := (x.l, x.e)
def FrKn (x : Fr) (W : World) : Prop := HoldS W 0 x.val x.l
/-- What a round keeps: what lay below n₀, and the box of the bytes. -/
def FrKp (n₀ bb : Nat) (b : Value) (W W' : World) : Prop := Below n₀ W W' ∧ (Boxed W bb 22 b → Boxed W' bb 22 b)
def FrS (xs : List UInt8) (a : Nat) (ys : List Fr) : Prop := ∃ e, Part xs a (ys.map Fr.fr) e ∧ (chk xs e).2 ≠ 0

/-- How far the iterator is from the end. -/
def frMu (n : Nat) (u5 u6 : Value) : Nat := if intOf u6 = 0 then n + 2 - (intOf u5).toNat else 0
theorem frMu_lt (n e : Nat) (c1 c2 : Int) (h : c2 = 0 → n + 2 - c1.toNat < n + 2 - e) (he : e ≤ n) : frMu n (.int .i64 c1) (.int .i64 c2) < frMu n (.int .i64 e) (.int .i64 0) := by
  unfold frMu
  have e1 : intOf (.int .i64 c2) = c2 := rfl
  have e2 : intOf (.int .i64 c1) = c1 := rfl
  have e3 : intOf (.int .i64 (e : Int)) = e := rfl
  have e4 : intOf (.int .i64 0) = 0 := rfl
  rw [e1, e2, e3, e4, if_pos rfl, Int.toNat_natCast]
  by_cases hc : c2 = 0
  · rw [if_pos hc]; exact h hc
  · rw [if_neg hc]; omega
/-- The iterator's answer of Next at the offset k. -/
def NxtAt (xs : List UInt8) (k : Nat) (u4 u5 u6 : Value) (W : World) : Prop :=
  u6 = .int .i64 (chk xs k).2 ∧ u5 = .int .i64 (chk xs k).1 ∧ ∃ ad N cap, u4 = .slice ad N cap ∧ HoldS W 0 (.slice ad N cap) (bodyAt xs k)
theorem HoldS.up {w : World} {E : Nat} {c : Value} {l : List UInt8} (h : HoldS w 0 c l) : HoldS w E c l := by
  obtain ⟨ad, cap, e, hl, h2⟩ := h
  refine ⟨ad, cap, e, ?_, h2⟩
  rcases hl.at_ with h0 | ⟨b, off, e1, hb, ht, hcc, hc⟩
  · exact ⟨.inl h0⟩
  · refine ⟨.inr ⟨b, off, e1, hb, ?_, hcc, hc⟩⟩
    rcases ht with h3 | h3
    · omega
    · exact .inr h3

set_option maxRecDepth 100000 in
set_option maxHeartbeats 400000 in
theorem frames_any (n : Nat) (ad : Option Addr) (N cap : Nat) (at_ : Int) (w : World) :
    CallsIn Fence.wide n Tryd.prog 32 #[.slice ad N cap, .int .i64 at_] w fun e w' => e = .returned (.func (.func 37) #[] #[.pointer (some ⟨w.heap.size, 0, none⟩), .pointer (some ⟨w.heap.size + 1, 0, none⟩)]) ∧
      w' = (w.alloc (.cells #[.slice ad N cap] 22)).alloc (.cells #[.int .i64 at_] 3) := by
  refine callsIn_of_wp Tryd.func32 rfl trivial ?_ rfl
  simp only [Tryd.ntmps32, List.size_toArray, List.length_cons, List.length_nil, Nat.reduceAdd, Nat.reduceSub, Array.replicate_succ, Array.replicate_zero, List.push_toArray, List.append_toArray, List.nil_append, List.cons_append]
  gi_wp2
  go_ret
  exact ⟨rfl, rfl⟩

set_option maxRecDepth 100000 in
set_option maxHeartbeats 1000000 in
theorem frames1_kn (m : Nat) (ad : Option Addr) (n cap a bb ab : Nat) (xs : List UInt8) (w00 w : World) (hl : Lie w00 ad xs) (hn : n = xs.length) (hs : xs.length ≤ 100000) (hc : n ≤ cap) (hcm : cap ≤ maxLen) (had : ad = none → cap = 0) (hm : Mag w00)
    (h00 : Below w00.heap.size w00 w) (hbb : Boxed w bb 22 (.slice ad n cap)) (hab : w.cell? ⟨ab, 0, none⟩ = some (.int .i64 a)) (hablt : ab < w.heap.size) (ha : a ≤ n) :
    SeqKn Fence.wide m Tryd.prog 37 #[.pointer (some ⟨bb, 0, none⟩), .pointer (some ⟨ab, 0, none⟩)] Fr.encs FrKn (FrKp w00.heap.size bb (.slice ad n cap)) (FrS xs a) 100001 w := by
  intro l J W hW hJ hY h0
  have hnx := fun (k : Nat) V (h : Below w00.heap.size w00 V) => next_any ad n cap xs (k : Int) V (hl.below h rfl) hn (by omega) hc hcm had (hm.step h)
  have HNX := Lib.hid hnx
  have HN := Lib.hid hn
  have HY := Lib.hid hY
  have HJ := Lib.hid hJ
  have hnb : n ≤ 100000 := by omega
  have hB0 : Below w00.heap.size w00 W := h00.trans (hW.mono h00.size)
  have hbx : Boxed W bb 22 (.slice ad n cap) := (hW.block bb hbb.lt).trans hbb
  have hcell := hbx.cell
  have hcell2 := (hW.cell (p := ⟨ab, 0, none⟩) hablt).trans hab
  have HBX := Lib.hid hbx
  have HB0 := Lib.hid hB0
  have H0 := Lib.hid h0
  clear hnx hn hY hJ hl hs hc hcm had hm hbb hab hbx hB0 h0 h00 hW
  refine callsIn_of_wp Tryd.func37 rfl trivial ?_ rfl
  simp only [Tryd.ntmps37, List.size_toArray, List.length_cons, List.length_nil, Nat.reduceAdd, Nat.reduceSub, Array.replicate_succ, Array.replicate_zero, List.push_toArray, List.append_toArray, List.nil_append, List.cons_append]
  gi_wp2_with fail
  refine ⟨trivial, (fun h => by cases h), ?_⟩
  refine (callsIn_wide.2 (HNX.out a _ HB0.out)).mono ?_
  rintro en w2 ⟨v2, rfl, ho2, hb2⟩
  obtain ⟨hh, ad2, N2, cap2, rfl⟩ := HoldS.of_own (B := 0) ho2
  have HH := Lib.hid hh
  have HB2 := Lib.hid (HB0.out.trans (hb2.mono HB0.out.size))
  have HBX2 : Hid (Boxed w2 bb 22 (.slice ad n cap)) := Lib.hid ((hb2.block bb HBX.out.lt).trans HBX.out)
  have HJ2 := Lib.hid (HJ.out [] W w2 none H0.out (grown_of_below hb2) (by simp))
  clear hh ho2 hb2 hcell hcell2
  gi_wp2
  gi_loopw [4, 5, 6] (fun u4 u5 u6 wr => ∃ (ys : List Fr) (k : Nat), k ≤ n ∧ Hid (Part xs a (ys.map Fr.fr) k) ∧ Hid (NxtAt xs k u4 u5 u6 wr) ∧ Hid (J ys wr) ∧ Hid (Boxed wr bb 22 (.slice ad n cap)) ∧ Hid (Below w00.heap.size w00 wr))
    (fun _ u5 u6 _ => frMu n u5 u6)
  case atStart => exact ⟨[], a, ha, Lib.hid rfl, Lib.hid ⟨rfl, rfl, ad2, N2, cap2, rfl, HH.out⟩, HJ2, HBX2, HB2⟩
  case round =>
    obtain ⟨ys, k, hkn, hp, hnxt, hj, hbx, hb⟩ := hrel
    obtain ⟨rfl, rfl, ad3, N3, cap3, rfl, hh3⟩ := hnxt.out
    have HH3 := Lib.hid hh3
    clear hnxt hh3
    by_cases he : (chk xs k).2 = 0
    · obtain ⟨e, hm⟩ : ∃ e : Nat, (e : Int) = (chk xs k).1 := ⟨(chk xs k).1.toNat, by have := (chk_bounds xs k).1; omega⟩
      have hst := chk_step he hm
      have HP := Lib.hid (hp.out.snoc he hm)
      have hel : k + 10 ≤ e ∧ e ≤ n := by have := HN.out; omega
      have HE := Lib.hid he
      have HM := Lib.hid hm
      obtain ⟨fn, tmps, assign, body, hy, hR⟩ := HY.out ys ⟨ad3, N3, cap3, bodyAt xs k, e⟩ wr hj.out HH3.out (by have := hp.out.le.1; rw [List.length_map] at this; omega)
      dsimp only [Fr.encs, Fr.val] at hy
      rw [he, ← hm]
      clear he hm hst
      gi_wp2
      refine ⟨(fun h => by cases h), hR.mono ?_⟩
      rintro e3 W3 ⟨rfl, hJ3, hk3⟩
      have hbx3 := hk3.2 hbx.out
      have hc3 := hbx3.cell
      have HB3 := Lib.hid (hb.out.trans hk3.1)
      have HJ3 := Lib.hid hJ3
      have HBX3 := Lib.hid hbx3
      clear hy hR hJ3 hk3 hbx3
      gi_wp2_with fail
      refine ⟨trivial, (fun h => by cases h), ?_⟩
      refine (callsIn_wide.2 (HNX.out e _ HB3.out)).mono ?_
      rintro en w4 ⟨v4, rfl, ho4, hb4⟩
      obtain ⟨hh4, ad4, N4, cap4, rfl⟩ := HoldS.of_own (B := 0) ho4
      have HH4 := Lib.hid hh4
      have HB4 := Lib.hid (HB3.out.trans (hb4.mono HB3.out.size))
      have HBX4 : Hid (Boxed w4 bb 22 (.slice ad n cap)) := Lib.hid ((hb4.block bb HBX3.out.lt).trans HBX3.out)
      have HJ4 := Lib.hid (HJ.out _ W3 w4 none HJ3.out (grown_of_below hb4) (by simp))
      have hms : (chk xs e).2 = 0 → n + 2 - ((chk xs e).1).toNat < n + 2 - e := fun h5 => by
        have h6 := chk_step (n := (chk xs e).1.toNat) h5 (by have := (chk_bounds xs e).1; omega)
        omega
      have HMS := Lib.hid hms
      clear hh4 ho4 hb4 hc3 hms
      gi_wp2
      go_roundw
      case rel => exact ⟨ys ++ [⟨ad3, N3, cap3, bodyAt xs k, e⟩], e, hel.2, Lib.hid (by rw [List.map_append]; exact HP.out), Lib.hid ⟨rfl, rfl, ad4, N4, cap4, rfl, HH4.out⟩, HJ4, HBX4, HB4⟩
      case measure =>
        exact frMu_lt _ _ _ _ HMS.out hel.2
    · obtain ⟨E, hE⟩ : ∃ E, (chk xs k).2 = E := ⟨_, rfl⟩
      have he1 : (E == 0) = false := by rw [beq_eq_false_iff_ne, ← hE]; exact he
      have HNE := Lib.hid he
      rw [hE]
      clear he hE
      gi_wp2
      refine ⟨fun _ h => (by cases h), ?_⟩
      gi_wp2
      go_end0
      exact ⟨⟨_, rfl⟩, ys, ⟨k, hp.out, HNE.out⟩, hj.out⟩
end Go.Proofs.YtbbdkghkdmaolaaDoor
