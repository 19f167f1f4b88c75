/-
  The specification's parts: the checksums of the entries.
  A law of a row's operation, for one operation of a region that draws its order; steps of such regions.
  The specification's Name and Barcode.
  The specification's Valid; a label in its box.
  The document's own functions that write.
  The specification's Blocks: a label's blocks.
  The specification's Build.
  What a payload block, payload blocks, a container say: the mathematics.
-/
import Derived.Test.YtjiijjdmkeeilaaDoorCAO
import Derived.Test.YtjiijjdmkeeilaaDoorCAD
import Derived.Test.YtjiijjdmkeeilaaDoorCAE
import Derived.Deep.RegionWith
import Derived.Test.YtjiijjdmkeeilaaDoorCAN
import Derived.Deep.LoopGhost
import Derived.Test.YtjiijjdmkeeilaaDoorCAK
import Derived.Test.YtjiijjdmkeeilaaDoorCAJ
namespace Go.Proofs.YtjiijjdmkeeilaaDoor
open Go.RowKit
set_option linter.unusedVariables false
set_option linter.unusedSimpArgs false
/-- the checksums of the entries' parts are right -/
def prtsB : List Ent → List UInt8 → Bool
  | [], _ => true
  | e :: l, p => decide (crc (p.take e.n.toNat) = e.s) && prtsB l (p.drop e.n.toNat)
theorem drop_at {α : Type} (l : List α) (i : Nat) (h : i < l.length) : l.drop i = l[i] :: l.drop (i + 1) := List.drop_eq_getElem_cons h
theorem prtsB_cons (e : Ent) (l : List Ent) (p : List UInt8) : prtsB (e :: l) p = (decide (crc (p.take e.n.toNat) = e.s) && prtsB l (p.drop e.n.toNat)) := rfl
theorem prtsB_nil (p : List UInt8) : prtsB [] p = true := rfl
attribute [local irreducible] prtsB
set_option maxRecDepth 100000 in
set_option maxHeartbeats 4000000 in
theorem rparts_any (h : Hdr) (ad : Option Addr) (n cap : Nat) (pd : Option Addr) (m pcap : Nat) (p : List UInt8) (w : World) (hin : HdIn w h ad n cap) (hv : ∀ e ∈ h.es, 0 ≤ e.n) (hs : sumE h.es ≤ m) (hl : Lie w pd p) (hm : m = p.length) (hpc : m ≤ pcap) (hpm : pcap ≤ maxLen) (hm2 : m ≤ 1000000) :
    Calls Tryd.prog 42 #[hdV h ad n cap, .slice pd m pcap] w fun e w' => e = .returned (.bool (prtsB h.es p)) ∧ Below w.heap.size w w' := by
  have HX0 := Lib.hid (HdRow.new w h ad n cap)
  have HB0 := Lib.hid (co_box1 w (boxH h ad n cap))
  have HI0 := Lib.hid (hin.below (co_box1 w (boxH h ad n cap)))
  have HL0 := Lib.hid (hl.below (co_box1 w (boxH h ad n cap)) rfl)
  have HN := Lib.hid hin.len
  have HM := Lib.hid hm
  have HT := Lib.hid (sumE_take_le h.es hv)
  have HV := Lib.hid hv
  have HSM := Lib.hid hs
  have hcm := Nat.le_trans hin.le hin.mx
  unfold maxLen at hcm
  have HPC := Lib.hid hpc
  have HP := Lib.hid (show p.length ≤ pcap by omega)
  clear hin hl hv hs hm hpm hpc
  go_enter Tryd.func42, Tryd.ntmps42
  go_wp2_with fail
  generalize World.alloc w _ = X0 at *
  go_loopg [5, 6] n (fun gk v5 v6 wx => ∃ (i A : Nat), v6 = .int .i64 i ∧ v5 = .int .i64 A ∧ i + gk = n ∧ A ≤ 1000000 ∧ Hid ((A : Int) = sumE (h.es.take i)) ∧ Hid (prtsB h.es p = prtsB (h.es.drop i) (p.drop A)) ∧ Hid (Below w.heap.size w wx) ∧ Hid (HdRow wx w.heap.size h ad n cap) ∧ Hid (HdIn wx h ad n cap) ∧ Hid (Lie wx pd p))
  case atStart => exact ⟨0, 0, rfl, rfl, by omega, by omega, Lib.hid (by simp [sumE]), Lib.hid (by simp), HB0, HX0, HI0, HL0⟩
  case round =>
    obtain ⟨i, A, rfl, rfl, hi, hA1, hA, hP, hB, hX, hI, hL⟩ := hrel
    obtain ⟨-, c0, c1, c2, c3, c4, c5, c6, c7, c8, c9, c10⟩ := hX.out.at_
    cases gk with
    | zero =>
      obtain rfl : i = n := by omega
      have HR := Lib.hid (show prtsB h.es p = true by rw [hP.out, List.drop_eq_nil_of_le (by have := HN.out; omega), prtsB_nil])
      go_wp2
      go_ret
      exact ⟨by rw [HR.out]; rfl, hB.out⟩
    | succ gk0 =>
      have hin2 : i < n := by omega
      have hil : i < h.es.length := by have := HN.out; omega
      obtain ⟨b, off, rfl, hlt, hcell⟩ := hI.out.lf.get celE hil
      have e0 : wr.cell? ⟨b, off + i * 5, none⟩ = _ := hcell 0 _ (by decide) rfl
      have e1 := hcell 1 _ (by decide) rfl
      have e2 := hcell 2 _ (by decide) rfl
      have e3 := hcell 3 _ (by decide) rfl
      have e4 := hcell 4 _ (by decide) rfl
      have HSN := Lib.hid (show h.es.take (i + 1) = h.es.take i ++ [h.es[i]] by rw [List.take_succ_eq_append_getElem hil])
      have HDN := Lib.hid (drop_at h.es i hil)
      have hxn := HV.out _ (List.getElem_mem hil)
      have ht := (HT.out (i + 1)).2
      rw [HSN.out, sumE_snoc, ← hA.out] at ht
      have hsm := HSM.out
      clear hcell hlt
      generalize h.es[i] = x at *
      clear hil
      obtain ⟨K, hK⟩ := Int.eq_ofNat_of_zero_le hxn
      have hAK : A + K ≤ m := by omega
      have hKN : x.n.toNat = K := by omega
      have HPN := Lib.hid (show prtsB h.es p = (decide (crc ((p.drop A).take K) = x.s) && prtsB (h.es.drop (i + 1)) (p.drop (A + K))) by rw [hP.out, HDN.out, prtsB_cons, hKN, List.drop_drop])
      have HAN := Lib.hid (show ((A + K : Nat) : Int) = sumE (h.es.take (i + 1)) by rw [HSN.out, sumE_snoc, ← hA.out, hK]; omega)
      have HPT := Lib.hid (show ((p.drop A).take K).length = K by rw [List.length_take, List.length_drop]; have := HM.out; omega)
      rw [hK] at e3
      have HX1 := Lib.hid (hX.out.below (co_box1 wr (.cells #[.int .i64 x.f, .int .i64 x.v, .int .i64 x.o, .int .i64 (K : Int), .int .u32 (x.s : Int)] 54)) hX.out.lt)
      have HI1 := Lib.hid (hI.out.below (co_box1 wr (.cells #[.int .i64 x.f, .int .i64 x.v, .int .i64 x.o, .int .i64 (K : Int), .int .u32 (x.s : Int)] 54)))
      have HL1 := Lib.hid (hL.out.below (co_box1 wr (.cells #[.int .i64 x.f, .int .i64 x.v, .int .i64 x.o, .int .i64 (K : Int), .int .u32 (x.s : Int)] 54)) rfl)
      have HB1 := Lib.hid (hB.out.alloc hB.out.size (.cells #[.int .i64 x.f, .int .i64 x.v, .int .i64 x.o, .int .i64 (K : Int), .int .u32 (x.s : Int)] 54))
      have HRW := Lib.hid (heap_alloc_new wr (.cells #[.int .i64 x.f, .int .i64 x.v, .int .i64 x.o, .int .i64 (K : Int), .int .u32 (x.s : Int)] 54))
      have HZ1 := Lib.hid (show wr.heap.size < (wr.alloc (.cells #[.int .i64 x.f, .int .i64 x.v, .int .i64 x.o, .int .i64 (K : Int), .int .u32 (x.s : Int)] 54)).heap.size by simp)
      have HAC := Lib.hid (show A + K ≤ pcap by have := HPC.out; omega)
      clear hK hKN ht hsm hxn
      go_wp2_with fail
      clear c0 c1 c2 c3 c4 c5 c6 c7 c8 c9 c10 e0 e1 e2 e3 e4
      generalize World.alloc wr _ = X1 at *
      generalize wr.heap.size = g1 at *
      have HBX := Lib.hid (Below.refl X1.heap.size X1).drew
      have HSW := Lib.hid HB1.out.size
      have hw : IntKind.i64.wrap ((A : Int) + (K : Int)) = (A : Int) + (K : Int) := IntWalk.i64_in _ (by omega)
      refine wp_region_noPanic ?_
      refine wp_region_held_drew (S := fun X => Below X1.heap.size X1 X) (by kernel_rfl) (HBX.out) (fun hS0 => ?_)
      refine held_take (i := 0) (v := ?_) rfl (by kernel_rfl) (by kernel_rfl) (by kernel_rfl) (fun _ _ _ h => h) (by rfl) ?_ (by assumption) ?_
      rotate_left
      · intro X hSX
        try dsimp only at hSX
        go_simp <;> with_reducible rfl
      simp only [Act.put, List.setIfInBounds_toArray, List.set_cons_zero, List.set_cons_succ]
      refine held_take (i := 1) (v := ?_) rfl (by kernel_rfl) (by kernel_rfl) (by kernel_rfl) (fun _ _ _ h => h) (by rfl) ?_ (by assumption) ?_
      rotate_left
      · intro X hSX
        try dsimp only at hSX
        go_simp <;> with_reducible rfl
      simp only [Act.put, List.setIfInBounds_toArray, List.set_cons_zero, List.set_cons_succ]
      refine held_take (i := 2) (v := ?_) rfl (by kernel_rfl) (by kernel_rfl) (by kernel_rfl) (fun _ _ _ h => h) (by rfl) ?_ (by assumption) ?_
      rotate_left
      · intro X hSX
        try dsimp only at hSX
        go_simp <;> with_reducible rfl
      simp only [Act.put, List.setIfInBounds_toArray, List.set_cons_zero, List.set_cons_succ]
      refine held_take (i := 3) (v := ?_) rfl (by kernel_rfl) (by kernel_rfl) (by kernel_rfl) (fun _ _ _ h => h) (by rfl) ?_ (by assumption) ?_
      rotate_left
      · intro X hSX
        try dsimp only at hSX
        go_simp <;> with_reducible rfl
      simp only [Act.put, List.setIfInBounds_toArray, List.set_cons_zero, List.set_cons_succ]
      refine held_take (i := 8) (v := ?_) rfl (by kernel_rfl) (by kernel_rfl) (by kernel_rfl) (fun _ _ _ h => h) (by rfl) ?_ (by assumption) ?_
      rotate_left
      · intro X hSX
        try dsimp only at hSX
        go_simp <;> with_reducible rfl
      simp only [Act.put, List.setIfInBounds_toArray, List.set_cons_zero, List.set_cons_succ]
      refine held_take (i := 4) (v := ?_) rfl (by kernel_rfl) (by kernel_rfl) (by kernel_rfl) (fun _ _ _ h => h) (by rfl) ?_ (by assumption) ?_
      rotate_left
      · intro X hSX
        try dsimp only at hSX
        have f0 : X.cell? ⟨g1, 3, none⟩ = some (.int .i64 (K : Int)) := cell_of_row X g1 3 _ _ _ ((hSX.block g1 HZ1.out).trans HRW.out)
        go_simp <;> with_reducible rfl
      simp only [Act.put, List.setIfInBounds_toArray, List.set_cons_zero, List.set_cons_succ]
      refine held_take (i := 9) (v := ?_) rfl (by kernel_rfl) (by kernel_rfl) (by kernel_rfl) (fun _ _ _ h => h) (by rfl) ?_ (by assumption) ?_
      rotate_left
      · intro X hSX
        try dsimp only at hSX
        have f0 : X.cell? ⟨g1, 4, none⟩ = some (.int .u32 (x.s : Int)) := cell_of_row X g1 4 _ _ _ ((hSX.block g1 HZ1.out).trans HRW.out)
        go_simp <;> with_reducible rfl
      simp only [Act.put, List.setIfInBounds_toArray, List.set_cons_zero, List.set_cons_succ]
      refine held_take (i := 5) (v := ?_) rfl (by kernel_rfl) (by kernel_rfl) (by kernel_rfl) (fun _ _ _ h => h) (by rfl) ?_ (by assumption) ?_
      rotate_left
      · intro X hSX
        try dsimp only at hSX
        go_simp <;> with_reducible rfl
      simp only [Act.put, List.setIfInBounds_toArray, List.set_cons_zero, List.set_cons_succ]
      refine held_take (i := 6) (v := ?_) rfl (by kernel_rfl) (by kernel_rfl) (by kernel_rfl) (fun _ _ _ h => h) (by rfl) ?_ (by assumption) ?_
      rotate_left
      · intro X hSX
        try dsimp only at hSX
        have hp := run_part pd m pcap A (A + K) X (by omega) HAC.out
        rw [Int.natCast_add, Nat.add_sub_cancel_left] at hp
        go_simp <;> with_reducible rfl
      simp only [Act.put, List.setIfInBounds_toArray, List.set_cons_zero, List.set_cons_succ]
      refine held_call (i := 7) rfl (by kernel_rfl) (by rfl) (fun K' hK' => ?_)
      go_simp
      refine (rcsum_any (ptA pd pcap A) K (pcap - A) ((p.drop A).take K) _ ((HL1.out.below HBX.out rfl).pt HP.out A K) HPT.out.symm (by rw [HPT.out]; omega)).mono ?_
      rintro e w' ⟨rfl, rfl⟩
      refine held_go hK' (HBX.out) ?_
      try simp only [Act.put, List.setIfInBounds_toArray, List.set_cons_zero, List.set_cons_succ]
      have HSB := HBX.out
      by_cases hc : crc ((p.drop A).take K) = x.s
      · have kx := ne_f (show ((crc ((p.drop A).take K) : Nat) : Int) = (x.s : Int) by rw [hc])
        have HR := Lib.hid (show prtsB h.es p = prtsB (h.es.drop (i + 1)) (p.drop (A + K)) by rw [HPN.out, decide_eq_true hc, Bool.true_and])
        generalize crc ((p.drop A).take K) = C at *
        clear hc
        refine held_take (i := 10) (v := ?_) rfl (by kernel_rfl) (by kernel_rfl) (by kernel_rfl) (fun _ _ _ h => h) (by rfl) ?_ (by assumption) ?_
        rotate_left
        · intro X hSX
          try dsimp only at hSX
          go_simp <;> with_reducible rfl
        simp only [Act.put, List.setIfInBounds_toArray, List.set_cons_zero, List.set_cons_succ]
        refine wpAnyH_done (by kernel_rfl) ?_ _
        refine NoPanic.normal ?_
        have f3 : X1.drew.cell? ⟨g1, 3, none⟩ = some (.int .i64 (K : Int)) := cell_of_row X1.drew g1 3 _ _ _ ((HBX.out.block g1 HZ1.out).trans HRW.out)
        go_wp2
        go_roundg gk0
        case rel => exact ⟨i + 1, A + K, by go_num, by go_num, by omega, by omega, HAN, HR, Lib.hid (HB1.out.trans (HBX.out.mono HSW.out)), Lib.hid (HX1.out.below HBX.out HX1.out.lt), Lib.hid (HI1.out.below HBX.out), Lib.hid (HL1.out.below HBX.out rfl)⟩
        case measure => omega
      · have kx := ne_t (show ((crc ((p.drop A).take K) : Nat) : Int) ≠ (x.s : Int) by omega)
        have HR := Lib.hid (show prtsB h.es p = false by rw [HPN.out, decide_eq_false hc, Bool.false_and])
        generalize crc ((p.drop A).take K) = C at *
        clear hc
        refine held_take (i := 10) (v := ?_) rfl (by kernel_rfl) (by kernel_rfl) (by kernel_rfl) (fun _ _ _ h => h) (by rfl) ?_ (by assumption) ?_
        rotate_left
        · intro X hSX
          try dsimp only at hSX
          go_simp <;> with_reducible rfl
        simp only [Act.put, List.setIfInBounds_toArray, List.set_cons_zero, List.set_cons_succ]
        refine wpAnyH_done (by kernel_rfl) ?_ _
        refine NoPanic.normal ?_
        go_wp2
        go_ret
        exact ⟨by rw [HR.out]; rfl, HB1.out.trans (HBX.out.mono HSW.out)⟩
end Go.Proofs.YtjiijjdmkeeilaaDoor
namespace Go.Proofs.YtjiijjdmkeeilaaDoor
open Go.RowKit
set_option linter.unusedVariables false
def onlyN (K : Act → World → Prop) : Exit → Act → World → Prop
  | .normal, a, w => K a w
  | _, _, _ => False
theorem oper_of_list {P : Program} {ops : Array Oper} {o : Oper} {a : Act} {w : World} {K : Act → World → Prop} {Q : Exit → Act → World → Prop} (hg : Region.wanted o (yielded ops a.tmps) = true) (h : wpList P ops (onlyN K) [o] a w) : o.wp P a w K Q := by
  unfold wpList at h
  rw [if_pos hg] at h
  have hl : ¬ LetsOut (onlyN K) := fun ⟨_, _, h⟩ => h
  rcases h with h | ⟨_, h⟩
  · replace h : Oper.wp P o a w K (onlyN K) := h
    unfold Oper.wp at *
    generalize (execOp a.eval o).run P w = r at *
    cases r with
    | ok n w' =>
      cases n <;> simp only [Oper.upon] at h ⊢
      all_goals first
        | exact h
        | exact Calls.mono h (fun e w'' he => by
            cases e
            · exact he
            · exact False.elim he
            · exact absurd he hl)
    | halt x w' =>
      cases x <;> simp only [Oper.upon] at h ⊢
      all_goals first | exact h | exact False.elim h
  · exact absurd h hl
theorem onlyN_end {P : Program} {ops : Array Oper} {K : Act → World → Prop} {a : Act} {w : World} (h : K a w) : wpList P ops (onlyN K) [] a w := h
end Go.Proofs.YtjiijjdmkeeilaaDoor
namespace Go.Proofs.YtjiijjdmkeeilaaDoor
open Go.RowKit
set_option linter.unusedVariables false
theorem nam_no {s : ByteArray} {j : Nat} (h : j < s.data.toList.length) (hc : chn s.data.toList[j] = false) : nam s = false := by
  unfold nam
  rw [show s.data.toList.all chn = false by
    rw [List.all_eq_false]
    exact ⟨_, List.getElem_mem h, by rw [hc]; simp⟩]
  rfl
theorem nam_low {s : ByteArray} (h : low s.data.toList = false) : nam s = false := by unfold nam; rw [h]; simp
theorem nam_len {s : ByteArray} (h : ¬ (1 ≤ s.size ∧ s.size ≤ 24)) : nam s = false := by
  unfold nam
  rw [show (decide (1 ≤ s.size) && decide (s.size ≤ 24)) = false by rw [Bool.and_eq_false_iff, decide_eq_false_iff_not, decide_eq_false_iff_not]; omega]
  simp
theorem nam_yes {s : ByteArray} (ha : ∀ j (h : j < s.data.toList.length), chn s.data.toList[j] = true) (hl : low s.data.toList = true) (h : 1 ≤ s.size ∧ s.size ≤ 24) : nam s = true := by
  unfold nam
  rw [show s.data.toList.all chn = true by
    rw [List.all_eq_true]
    intro x hx
    obtain ⟨j, hj, rfl⟩ := List.getElem_of_mem hx
    exact ha j hj, hl, decide_eq_true h.1, decide_eq_true h.2]
  rfl
theorem low_at {l : List UInt8} (h : 0 < l.length) : low l = (decide (97 ≤ (l[0]).toNat) && decide ((l[0]).toNat ≤ 122)) := by
  cases l with
  | nil => simp at h
  | cons x l => rfl
theorem bar_no {s : ByteArray} {j : Nat} (h : j < s.data.toList.length) (hc : chr s.data.toList[j] = false) : bar s = false := by
  unfold bar
  rw [show s.data.toList.all chr = false by
    rw [List.all_eq_false]
    exact ⟨_, List.getElem_mem h, by rw [hc]; simp⟩]
  rfl
theorem bar_len {s : ByteArray} (h : ¬ (1 ≤ s.size ∧ s.size ≤ 24)) : bar s = false := by
  unfold bar
  rw [show (decide (1 ≤ s.size) && decide (s.size ≤ 24)) = false by rw [Bool.and_eq_false_iff, decide_eq_false_iff_not, decide_eq_false_iff_not]; omega]
  simp
theorem bar_yes {s : ByteArray} (ha : ∀ j (h : j < s.data.toList.length), chr s.data.toList[j] = true) (h : 1 ≤ s.size ∧ s.size ≤ 24) : bar s = true := by
  unfold bar
  rw [show s.data.toList.all chr = true by
    rw [List.all_eq_true]
    intro x hx
    obtain ⟨j, hj, rfl⟩ := List.getElem_of_mem hx
    exact ha j hj, decide_eq_true h.1, decide_eq_true h.2]
  rfl
theorem index_str (s : ByteArray) (k : Nat) (hk : k < s.data.toList.length) (w : World) : (Instr.index 9 (.string s) (.int .i64 (k : Int))).run Tryd.prog w = .ok (.int .u8 ((s.data.toList[k]).toNat : Int)) w := by
  have hk2 : k < s.size := by have : s.data.toList.length = s.size := by simp
                              omega
  rw [run_index_string w 9 s .i64 (k : Int) Tryd.underlying9, dif_pos ⟨by omega, by omega⟩]
  rfl
end Go.Proofs.YtjiijjdmkeeilaaDoor
namespace Go.Proofs.YtjiijjdmkeeilaaDoor
open Go.RowKit
set_option linter.unusedVariables false
abbrev lbV (x : Lbl) : Value := .agg #[.string x.bc, .string x.pl, .int .i64 x.ep, .int .i64 x.cr]
/-- a label lies in block g -/
structure LbAt (w : World) (g : Nat) (x : Lbl) : Prop where
  lt : g < w.heap.size
  c0 : w.cell? ⟨g, 0, none⟩ = some (.string x.bc)
  c1 : w.cell? ⟨g, 1, none⟩ = some (.string x.pl)
  c2 : w.cell? ⟨g, 2, none⟩ = some (.int .i64 x.ep)
  c3 : w.cell? ⟨g, 3, none⟩ = some (.int .i64 x.cr)
theorem LbAt.below {W w : World} {B g : Nat} {x : Lbl} (h : LbAt W g x) (hb : Below B W w) (hB : g < B) : LbAt w g x :=
  ⟨Nat.lt_of_lt_of_le h.lt hb.size, (hb.cell hB).trans h.c0, (hb.cell hB).trans h.c1, (hb.cell hB).trans h.c2, (hb.cell hB).trans h.c3⟩
theorem LbAt.new (w : World) (x : Lbl) (t : TypeId) : LbAt (w.alloc (.cells #[.string x.bc, .string x.pl, .int .i64 x.ep, .int .i64 x.cr] t)) w.heap.size x := by
  refine ⟨by simp, ?_, ?_, ?_, ?_⟩ <;> (rw [World.cell?_alloc_mark]; rfl)
/-- the sizes of a label's texts -/
structure Lbl.Fit (x : Lbl) : Prop where
  b : x.bc.size ≤ maxLen
  p : x.pl.size ≤ maxLen
theorem vldT_1 {x : Lbl} (h : bar x.bc = false) : vldT x = false := by unfold vldT; rw [h]; rfl
theorem vldT_2 {x : Lbl} (h : nam x.pl = false) : vldT x = false := by unfold vldT; rw [h]; simp
theorem vldT_3 {x : Lbl} (h : ¬ (0 ≤ x.ep ∧ x.ep ≤ 1125899906842624)) : vldT x = false := by
  cases hv : vldT x with
  | false => rfl
  | true => exact absurd (vldT_iff.1 hv).2.2.1 h
theorem vldT_4 {x : Lbl} (h : ¬ (0 ≤ x.cr ∧ x.cr < 1099511627776)) : vldT x = false := by
  cases hv : vldT x with
  | false => rfl
  | true => exact absurd (vldT_iff.1 hv).2.2.2 h
end Go.Proofs.YtjiijjdmkeeilaaDoor
namespace Go.Proofs.YtjiijjdmkeeilaaDoor
open Go.RowKit

end Go.Proofs.YtjiijjdmkeeilaaDoor
namespace Go.Proofs.YtjiijjdmkeeilaaDoor
open Go.RowKit
set_option linter.unusedVariables false
set_option linter.unusedSimpArgs false
/-- a call gives a new list of blocks, and an error -/
def RetBk (w : World) (r : List Blk × Int) (e : Ending) (w' : World) : Prop := ∃ v, e = .returned (.tuple #[v, .int .i64 r.2]) ∧ Kq w' w.heap.size w.heap.size v r.1 ∧ Below w.heap.size w w'
theorem retBk {w w' : World} {R r : List Blk × Int} (h : R = r) (v : Value) (n : Int) (hn : n = r.2) (hk : Kq w' w.heap.size w.heap.size v r.1) (hb : Below w.heap.size w w') : RetBk w R (.returned (.tuple #[v, .int .i64 n])) w' := by
  subst h hn
  exact ⟨v, rfl, hk, hb⟩
theorem blkR_yes {x : Lbl} (h : vldT x = true) : blkR x = (divB (frm (bodyT x)) ++ [markB], 0) := by unfold blkR blkT; rw [h]; rfl
theorem blkR_no {x : Lbl} (h : vldT x = false) : blkR x = ([], 8) := by unfold blkR; rw [h]; rfl
theorem bodyT_eq (bc pl : ByteArray) (ep cr : Int) : bodyT ⟨bc, pl, ep, cr⟩ = ((((encT volume ++ encT bc) ++ encT pl) ++ enc (cod ep)) ++ enc (cod cr)) := rfl
/-- the mark, in the newest cells -/
theorem Kx.mark (w : World) (C : Nat) (y : Option Nat) (g : Nat) (hg : g = w.heap.size) : Kx (w.alloc (.cells #[.bool true, .bool false, .slice none 0 0] 57)) C y (some ⟨g, 0, none⟩) [markB] :=
  Kx.one true false none [] 0 (.inl rfl) (Nat.le_refl _) (Nat.zero_le _) (fun _ => rfl) g hg
end Go.Proofs.YtjiijjdmkeeilaaDoor
namespace Go.Proofs.YtjiijjdmkeeilaaDoor
open Go.RowKit
set_option linter.unusedVariables false
set_option linter.unusedSimpArgs false
theorem post_tct {P : Program} {fn : Func} {R : Ending → World → Prop} {p q r : Tmp} {ty : TypeId} (h : fn.results = #[.tmp q, .cell p ty, .tmp r]) {a : Act} {w : World} {g : Nat} {cs : Array Value} {t : TypeId} {d : TypeDesc}
    (hp : a.tmps.getD p undef = .pointer (some ⟨g, 0, none⟩)) (hg : w.heap[g]? = some (.cells cs t (0, 0))) (hu : P.underlying ty = some d) (hd : (match d with | .struct _ | .array _ _ => true | _ => false) = true)
    (hi : (P.info? ty).map (·.size) = some cs.size) (hdef : a.defers = []) {x y : Value} (hx : a.tmps.getD q undef = x) (hy : a.tmps.getD r undef = y) (hR : R (.returned (.tuple #[x, .agg cs, y])) w) : bodyPost P fn R .ret a w := by
  subst hx hy
  refine bodyPost_ret (v := .tuple #[a.tmps.getD q undef, .agg cs, a.tmps.getD r undef]) ?_ hdef hR
  have e : (results fn a.tmps).run P w = ((asAddr (a.tmps.getD p undef)).run P w).andThen fun b w1 => ((loadVar ty b).run P w1).andThen fun v w2 => .ok (.tuple #[a.tmps.getD q undef, v, a.tmps.getD r undef]) w2 := by
    simp only [results, h]
    simp [Sem.run_bind, Result.andThen]
  rw [e, hp]
  simp only [asAddr, Sem.run_pure, Result.andThen, run_loadVar_row w g t ty cs (0, 0) d hg hu hd hi]
def szP (v : Int) : Nat := (prtU v).toNat
/-- a payload block with these bytes -/
def pcB (v : Int) (q : List UInt8) : Blk := ⟨false, false, if v = 2 then q ++ be4 (crc q) else q⟩
/-- the piece i of a payload -/
def piece (s : Nat) (p : List UInt8) (i : Nat) : List UInt8 := (p.drop (s * i)).take s
def payB (v : Int) (p : List UInt8) : List Blk := (List.range ((p.length + szP v - 1) / szP v)).map fun i => pcB v (piece (szP v) p i)
/-- a header with the size and the checksum of a payload -/
def hdP (h : Hdr) (p : List UInt8) : Hdr := { h with sz := (p.length : Int), sm := crc p }
/-- what Build answers -/
noncomputable def bldR (h : Hdr) (p : List UInt8) : List Blk × Hdr × Int :=
  if vldH (hdP h p) = true then (if prtsB h.es p = true then (hbL (hdP h p) ++ payB h.vr p, hdP h p, 0) else ([], .zero, 4)) else ([], .zero, 8)
/-- a call gives new blocks, a header and a number -/
def RetBH (w : World) (r : List Blk × Hdr × Int) (e : Ending) (w' : World) : Prop :=
  ∃ v ad cap, e = .returned (.tuple #[v, hdV r.2.1 ad r.2.1.es.length cap, .int .i64 r.2.2]) ∧ Kq w' w.heap.size w.heap.size v r.1 ∧ HdIn w' r.2.1 ad r.2.1.es.length cap ∧ Below w.heap.size w w'
theorem szP_cases (v : Int) : (v = 2 ∧ szP v = 60 ∧ prtU v = 60) ∨ (v ≠ 2 ∧ szP v = 64 ∧ prtU v = 64) := by
  unfold szP
  rcases prtU_cases v with ⟨h, e⟩ | ⟨h, e⟩
  · exact .inl ⟨h, by rw [e]; rfl, e⟩
  · exact .inr ⟨h, by rw [e]; rfl, e⟩
theorem retBH0 {w w' : World} {R : List Blk × Hdr × Int} {k : Int} (h : R = ([], .zero, k)) (hb : Below w.heap.size w w') : RetBH w R (.returned (.tuple #[.slice none 0 0, .agg (hdC .zero none 0 0), .int .i64 k])) w' := by
  subst h
  exact ⟨_, none, 0, rfl, Kq.nil _ _ _, HdIn.zero _, hb⟩
theorem cnt_iff {s k A m N : Nat} (hs : s = 60 ∨ s = 64) (hA : A = s * k) (hN : N = (m + s - 1) / s) : A < m ↔ k < N := by
  subst hA hN
  rcases hs with rfl | rfl <;> omega
theorem map_snoc {α : Type} (f : Nat → α) (n : Nat) : (List.range (n + 1)).map f = (List.range n).map f ++ [f n] := by simp [List.range_succ]
theorem vld_small {h : Hdr} {p : List UInt8} (hv : VHdr (hdP h p)) : p.length ≤ 262144 := by
  have := hv.1.2.2.2
  simp only [hdP] at this
  omega
theorem vld_sum {h : Hdr} {p : List UInt8} (hv : VHdr (hdP h p)) : sumE h.es ≤ p.length := by
  have := hv.2.2.2
  unfold VEs at this
  by_cases hk : (hdP h p).kd = 0
  · rw [if_neg (fun h' => h' hk)] at this
    exact Int.le_of_eq this.2.2
  · rw [if_pos hk] at this
    have e : h.es = [] := this
    rw [e]
    simp [sumE]
end Go.Proofs.YtjiijjdmkeeilaaDoor
namespace Go.Proofs.YtjiijjdmkeeilaaDoor
open Go.RowKit
set_option linter.unusedVariables false
/-- how many bytes of the payload the block i has -/
def nU (v sz i : Int) : Int := min (prtU v) (sz - i * prtU v)
/-- what a payload block says: its bytes, or the error -/
def chkU (v sz i : Int) (x : Blk) : List UInt8 × Int :=
  if x.bad = true then ([], 15) else
  if x.m = true ∨ (v = 1 ∧ (x.d.length : Int) ≠ nU v sz i) ∨ (v = 2 ∧ (x.d.length : Int) ≠ nU v sz i + 4) then ([], 1) else
  if v = 2 ∧ be4 (crc (x.d.take (nU v sz i).toNat)) ≠ x.d.drop (nU v sz i).toNat then ([], 4) else (x.d.take (nU v sz i).toNat, 0)
/-- what payload blocks from number i on say -/
def chsU (v sz : Int) : Int → List Blk → List UInt8 × Int
  | _, [] => ([], 0)
  | i, x :: l => if (chkU v sz i x).2 ≠ 0 then ([], (chkU v sz i x).2) else if (chsU v sz (i + 1) l).2 ≠ 0 then ([], (chsU v sz (i + 1) l).2) else ((chkU v sz i x).1 ++ (chsU v sz (i + 1) l).1, 0)
theorem chsU_cons (v sz i : Int) (x : Blk) (l : List Blk) : chsU v sz i (x :: l) = if (chkU v sz i x).2 ≠ 0 then ([], (chkU v sz i x).2) else if (chsU v sz (i + 1) l).2 ≠ 0 then ([], (chsU v sz (i + 1) l).2) else ((chkU v sz i x).1 ++ (chsU v sz (i + 1) l).1, 0) := rfl
theorem chsU_ok {v sz i : Int} {x : Blk} {l : List Blk} (h1 : (chkU v sz i x).2 = 0) (h2 : (chsU v sz (i + 1) l).2 = 0) : chsU v sz i (x :: l) = ((chkU v sz i x).1 ++ (chsU v sz (i + 1) l).1, 0) := by
  rw [chsU_cons, if_neg (fun h' => h' h1), if_neg (fun h' => h' h2)]
theorem chsU_b1 {v sz i : Int} {x : Blk} {l : List Blk} (h1 : (chkU v sz i x).2 ≠ 0) : chsU v sz i (x :: l) = ([], (chkU v sz i x).2) := by rw [chsU_cons, if_pos h1]
theorem chsU_b2 {v sz i : Int} {x : Blk} {l : List Blk} (h1 : (chkU v sz i x).2 = 0) (h2 : (chsU v sz (i + 1) l).2 ≠ 0) : chsU v sz i (x :: l) = ([], (chsU v sz (i + 1) l).2) := by
  rw [chsU_cons, if_neg (fun h' => h' h1), if_pos h2]
/-- one block more -/
theorem chs_more (v sz : Int) : ∀ (l : List Blk) (i : Int) (k : Nat) (hk : k < l.length), (chsU v sz i (l.take k)).2 = 0 →
    ((chkU v sz (i + k) l[k]).2 = 0 → chsU v sz i (l.take (k + 1)) = ((chsU v sz i (l.take k)).1 ++ (chkU v sz (i + k) l[k]).1, 0)) ∧
    ((chkU v sz (i + k) l[k]).2 ≠ 0 → chsU v sz i l = ([], (chkU v sz (i + k) l[k]).2))
  | [], i, k, hk, _ => by simp at hk
  | x :: l, i, 0, _, _ => by
    have e : i + ((0 : Nat) : Int) = i := by omega
    simp only [List.take_zero, List.take_succ_cons, List.getElem_cons_zero, e]
    refine ⟨fun h => ?_, fun h => chsU_b1 h⟩
    rw [chsU_ok h rfl]
    simp [chsU]
  | x :: l, i, k + 1, hk, h0 => by
    have e : i + ((k + 1 : Nat) : Int) = (i + 1) + (k : Int) := by omega
    rw [List.take_succ_cons] at h0
    have g1 : (chkU v sz i x).2 = 0 := Decidable.byContradiction fun h => by rw [chsU_b1 h] at h0; exact h h0
    have g2 : (chsU v sz (i + 1) (l.take k)).2 = 0 := Decidable.byContradiction fun h => by rw [chsU_b2 g1 h] at h0; exact h h0
    obtain ⟨a, b⟩ := chs_more v sz l (i + 1) k (by simpa using hk) g2
    simp only [List.take_succ_cons, List.getElem_cons_succ, e]
    refine ⟨fun h => ?_, fun h => ?_⟩
    · have a' := a h
      rw [chsU_ok g1 (by rw [a']), chsU_ok g1 g2, a']
      simp [List.append_assoc]
    · have b' := b h
      rw [chsU_b2 g1 (by rw [b']; exact h), b']
theorem chkU_len {v sz i : Int} {x : Blk} : ((chkU v sz i x).1.length : Int) ≤ 64 := by
  unfold chkU
  split
  · simp
  split
  · simp
  split
  · simp
  · rw [List.length_take]
    have : nU v sz i ≤ 64 := by unfold nU prtU; split <;> omega
    omega
theorem chsU_len (v sz : Int) : ∀ (l : List Blk) (i : Int), ((chsU v sz i l).1.length : Int) ≤ 64 * l.length
  | [], _ => by simp [chsU]
  | x :: l, i => by
    rw [chsU_cons]
    have h1 := @chkU_len v sz i x
    have h2 := chsU_len v sz l (i + 1)
    split
    · simp; omega
    split
    · simp; omega
    · simp only [List.length_append, List.length_cons]
      omega
end Go.Proofs.YtjiijjdmkeeilaaDoor
