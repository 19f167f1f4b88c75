/-
  The library's iterator over the parts of a slice of bytes.
-/
import Derived.Test.YtgnidlhijmageaaNSeq
import Derived.BigRegionIn
namespace Go.Proofs.Ytgnidlhijmageaa
open Go.RowKit Go.Shelf
set_option linter.unusedVariables false
set_option linter.unusedSimpArgs false
attribute [local go_sem] Oper.semAt_some
theorem grown_of_below {w w' : World} (hb : Below w.heap.size w w') : w.grownBy w' none := ⟨hb.os, hb.tape, hb.output, hb.size, fun k hk _ => hb.block k hk⟩
/-- What the iterator hands out: a slice, and the bytes that it holds. -/
structure Pt where
  ad : Option Addr
  N : Nat
  cap : Nat
  l : List UInt8
abbrev Pt.encs (x : Pt) : Array Value := #[.slice x.ad x.N x.cap]
/-- what is known of it -/
def PtKn (w00 : World) (x : Pt) (_ : World) : Prop := Lie w00 x.ad x.l ∧ x.N = x.l.length ∧ x.N ≤ 4096
/-- what a round keeps -/
def PtKp (n₀ bb nb : Nat) (b : Value) (s : Int) (W W' : World) : Prop := Below n₀ W W' ∧ (Boxed W bb 22 b → Boxed W' bb 22 b) ∧ (Boxed W nb 3 (.int .i64 s) → Boxed W' nb 3 (.int .i64 s))
def PtS (s : Nat) (xs : List UInt8) (ys : List Pt) : Prop := ys.map (·.l) = partsF s xs
set_option maxRecDepth 100000 in
set_option maxHeartbeats 400000 in
theorem chunk_any (n : Nat) (ad : Option Addr) (N cap : Nat) (s : Int) (w : World) (h : 1 ≤ s) :
    CallsIn Fence.wide n Try.prog 32 #[.slice ad N cap, .int .i64 s] w fun e w' => e = .returned (.func (.func 43) #[] #[.pointer (some ⟨w.heap.size, 0, none⟩), .pointer (some ⟨w.heap.size + 1, 0, none⟩)]) ∧
      w' = (w.alloc (.cells #[.slice ad N cap] 22)).alloc (.cells #[.int .i64 s] 3) := by
  have h1 : ¬ s < 1 := by omega
  refine callsIn_of_wp Try.func32 rfl trivial ?_ rfl
  simp only [Try.ntmps32, List.size_toArray, List.length_cons, List.length_nil, Nat.reduceAdd, Nat.reduceSub, Array.replicate_succ, Array.replicate_zero, List.push_toArray, List.append_toArray, List.nil_append, List.cons_append]
  gi_wp2
  go_ret
  exact ⟨rfl, rfl⟩

set_option maxRecDepth 100000 in
set_option maxHeartbeats 1000000 in
theorem chunk1_kn (m : Nat) (ad : Option Addr) (n cap s bb nb : Nat) (xs : List UInt8) (w00 w : World) (hl : Lie w00 ad xs) (hn : n = xs.length) (hs : n ≤ 4096) (hc : n ≤ cap) (hcm : cap ≤ maxLen) (hs1 : 1 ≤ s) (hs2 : (s : Int) ≤ 9223372036854775807)
    (h00 : Below w00.heap.size w00 w) (hbb : Boxed w bb 22 (.slice ad n cap)) (hnb : Boxed w nb 3 (.int .i64 s)) :
    SeqKn Fence.wide m Try.prog 43 #[.pointer (some ⟨bb, 0, none⟩), .pointer (some ⟨nb, 0, none⟩)] Pt.encs (PtKn w00) (PtKp w00.heap.size bb nb (.slice ad n cap) s) (PtS s xs) 4097 w := by
  intro l J W hW hJ hY h0
  unfold maxLen at hcm
  have HN := Lib.hid hn
  have HY := Lib.hid hY
  have HJ := Lib.hid hJ
  have HL := Lib.hid hl
  have hB0 : Below w00.heap.size w00 W := h00.trans (hW.mono h00.size)
  have HBX : Hid (Boxed W bb 22 (.slice ad n cap)) := Lib.hid ((hW.block bb hbb.lt).trans hbb)
  have HNX : Hid (Boxed W nb 3 (.int .i64 s)) := Lib.hid ((hW.block nb hnb.lt).trans hnb)
  have HB0 := Lib.hid hB0
  have H0 := Lib.hid h0
  have HS1 := Lib.hid hs1
  clear hn hY hJ hl hbb hnb hB0 h0 h00 hW
  refine callsIn_of_wp Try.func43 rfl trivial ?_ rfl
  simp only [Try.ntmps43, List.size_toArray, List.length_cons, List.length_nil, Nat.reduceAdd, Nat.reduceSub, Array.replicate_succ, Array.replicate_zero, List.push_toArray, List.append_toArray, List.nil_append, List.cons_append]
  gi_wp2
  gi_loopw [4] (fun u4 wr => ∃ (ys : List Pt) (i : Nat), u4 = .int .i64 i ∧ (i = 0 ∨ s ≤ i) ∧ ys.length ≤ i ∧ (i : Int) ≤ 9223372036854775807 ∧ Hid (ys.map (·.l) ++ partsF s (xs.drop i) = partsF s xs) ∧ Hid (J ys wr) ∧ Hid (Boxed wr bb 22 (.slice ad n cap)) ∧ Hid (Boxed wr nb 3 (.int .i64 s)) ∧ Hid (Below w00.heap.size w00 wr))
    (fun i _ => n - (intOf i).toNat)
  case atStart => exact ⟨[], 0, rfl, .inl rfl, by simp, by omega, Lib.hid (by simp), H0, HBX, HNX, HB0⟩
  case round =>
    obtain ⟨ys, i, rfl, his, hyl, himax, hp, hj, hbx, hnx, hb⟩ := hrel
    by_cases hlt : i < n
    · have hix : i < xs.length := by have := HN.out; omega
      obtain ⟨b, off, rfl, -⟩ := HL.out.ev (by omega)
      have hc1 := hbx.out.cell
      have hc2 := hnx.out.cell
      obtain ⟨c, hcc⟩ : ∃ c, c = min s (xs.length - i) := ⟨_, rfl⟩
      have HTX := Lib.hid (parts_take s i c xs HS1.out hix hcc)
      have hcn : i + c ≤ n := by have := HN.out; omega
      have hcp : 1 ≤ c := by have := HN.out; have := HS1.out; omega
      have hcase : (c = s ∧ (s : Int) ≤ ((n - i : Nat) : Int)) ∨ (n - i = c ∧ (c : Int) < (s : Int)) := by have := HN.out; omega
      have HPL := Lib.hid (part_len i c xs (by have := HN.out; omega))
      have HSUB := Lib.hid (HL.out.sub i c)
      have hj0 : (0 : Int) ≤ (i : Int) := by omega
      have hj1 : (i : Int) < (n : Int) := by omega
      have hj2 : (i : Int) ≤ (n : Int) := by omega
      have hck : cap - i ≠ 0 := by omega
      have hck2 : ¬ cap = i := by omega
      have g1 : (i : Int) ≤ (cap : Int) := by omega
      have g2 : (i : Int) + (c : Int) ≤ (cap : Int) := by omega
      have hic : i + c - i = c := by omega
      have HPM : Hid ((ys.map (·.l) ++ [(xs.drop i).take c]) ++ partsF s (xs.drop (i + s)) = partsF s xs) := Lib.hid (by rw [← hp.out, HTX.out]; simp)
      obtain ⟨fn, tmps, assign, body, hy, hR⟩ := HY.out ys ⟨some ⟨b, off + i, none⟩, c, c, (xs.drop i).take c⟩ wr.drew (HJ.out ys wr wr.drew none hj.out (grown_of_below (Below.refl _ _).drew) (by simp)) ⟨HSUB.out, HPL.out, by show c ≤ 4096; omega⟩ (by omega)
      dsimp only [Pt.encs] at hy
      have HB4 := Lib.hid hb.out.drew
      have HBX4 : Hid (Boxed wr.drew bb 22 (.slice (some ⟨b, off, none⟩) n cap)) := Lib.hid hbx.out
      have HNX4 : Hid (Boxed wr.drew nb 3 (.int .i64 s)) := Lib.hid hnx.out
      have hd1 := HBX4.out.cell
      have hd2 := HNX4.out.cell
      have hcap : i + c ≤ cap := by omega
      clear hcc hp hj
      rcases hcase with ⟨hcs, hcl⟩ | ⟨hcs, hcl⟩
      · subst hcs
        gi_wp2_with fail
        gi_big_region
        gi_wp2
        refine ⟨(fun h => by cases h), hR.mono ?_⟩
        rintro e3 W3 ⟨rfl, hJ3, hk3⟩
        have HBX3 := Lib.hid (hk3.2.1 HBX4.out)
        have HNX3 := Lib.hid (hk3.2.2 HNX4.out)
        have hc3 := HNX3.out.cell
        have HB3 := Lib.hid (HB4.out.trans hk3.1)
        have HJ3 := Lib.hid hJ3
        clear hy hR hJ3 hk3 hd1 hd2 hc1 hc2
        gi_wp2
        go_roundw
        case rel => exact ⟨ys ++ [⟨some ⟨b, off + i, none⟩, c, c, (xs.drop i).take c⟩], i + c, by go_num, .inr (by omega), by rw [List.length_append, List.length_singleton]; omega, by omega, Lib.hid (by rw [List.map_append]; exact HPM.out), HJ3, HBX3, HNX3, HB3⟩
        case measure => simp [intOf]; omega
      · have hwi : IntKind.i64.wrap ((i : Int) + (s : Int)) = (i : Int) + (s : Int) := by rw [IntKind.wrap_i64]; omega
        gi_wp2_with fail
        gi_big_region
        gi_wp2
        refine ⟨(fun h => by cases h), hR.mono ?_⟩
        rintro e3 W3 ⟨rfl, hJ3, hk3⟩
        have HBX3 := Lib.hid (hk3.2.1 HBX4.out)
        have HNX3 := Lib.hid (hk3.2.2 HNX4.out)
        have hc3 := HNX3.out.cell
        have HB3 := Lib.hid (HB4.out.trans hk3.1)
        have HJ3 := Lib.hid hJ3
        clear hy hR hJ3 hk3 hd1 hd2 hc1 hc2
        gi_wp2
        go_roundw
        case rel => exact ⟨ys ++ [⟨some ⟨b, off + i, none⟩, c, c, (xs.drop i).take c⟩], i + s, by go_num, .inr (by omega), by rw [List.length_append, List.length_singleton]; omega, by omega, Lib.hid (by rw [List.map_append]; exact HPM.out), HJ3, HBX3, HNX3, HB3⟩
        case measure => simp [intOf]; omega
    · have HF : Hid (ys.map (·.l) = partsF s xs) := Lib.hid (by have h := hp.out; rw [parts_end s i xs (by have := HN.out; omega)] at h; rw [← h]; simp)
      have hge : (n : Int) ≤ (i : Int) := by omega
      have hc1 := hbx.out.cell
      have hc2 := hnx.out.cell
      gi_wp2
      go_end0
      exact ⟨⟨_, rfl⟩, ys, HF.out, hj.out⟩
end Go.Proofs.Ytgnidlhijmageaa
