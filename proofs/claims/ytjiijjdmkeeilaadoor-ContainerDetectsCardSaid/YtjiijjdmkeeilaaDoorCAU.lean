/-
  The specification's Parse of containers: what it answers.
  Need of the specification of containers.
  What Payload and Extract answer: the mathematics.
-/
import Derived.Test.YtjiijjdmkeeilaaDoorCoDec2
import Derived.Test.YtjiijjdmkeeilaaDoorCAN
import Derived.Test.YtjiijjdmkeeilaaDoorCAO
import Derived.Test.YtjiijjdmkeeilaaDoorCAP
import Derived.Test.YtjiijjdmkeeilaaDoorCAT
namespace Go.Proofs.YtjiijjdmkeeilaaDoor
open Go.RowKit
set_option linter.unusedVariables false
/-- the first blocks are there and hold 64 bytes each -/
def fulB (l : List Blk) (N : Nat) : Prop := N ≤ l.length ∧ ∀ i (h : i < l.length), i < N → l[i].d.length = 64
/-- the bytes from here to there are zero -/
def zerB (xs : List UInt8) (e E : Nat) : Prop := ∀ i (h : i < xs.length), e ≤ i → i < E → xs[i] = 0
open Classical in
/-- what Parse answers -/
noncomputable def parH (l : List Blk) : Hdr × Int × Int :=
  if (chk (bytB l) 0).2 ≠ 0 then (.zero, 0, (chk (bytB l) 0).2) else
  if fulB l (cntB (chk (bytB l) 0).1.toNat) ∧ zerB (bytB l) (chk (bytB l) 0).1.toNat (64 * cntB (chk (bytB l) 0).1.toNat) then
    (if (decU (bodyAt (bytB l) 0)).2 = true then ((decU (bodyAt (bytB l) 0)).1, (cntB (chk (bytB l) 0).1.toNat : Int), 0) else (.zero, 0, 24))
  else (.zero, 0, 1)
open Classical in
theorem parH_next {l : List Blk} (h : (chk (bytB l) 0).2 ≠ 0) : parH l = (.zero, 0, (chk (bytB l) 0).2) := by unfold parH; rw [if_pos h]
open Classical in
theorem parH_ful {l : List Blk} {e : Nat} (h : chk (bytB l) 0 = ((e : Int), 0)) (hf : ¬ fulB l (cntB e)) : parH l = (.zero, 0, 1) := by
  unfold parH
  rw [h, if_neg (fun h' => h' rfl), if_neg (fun h' => hf (by simpa using h'.1))]
open Classical in
theorem parH_zer {l : List Blk} {e : Nat} (h : chk (bytB l) 0 = ((e : Int), 0)) (hf : ¬ zerB (bytB l) e (64 * cntB e)) : parH l = (.zero, 0, 1) := by
  unfold parH
  rw [h, if_neg (fun h' => h' rfl), if_neg (fun h' => hf (by simpa using h'.2))]
open Classical in
theorem parH_fin {l : List Blk} {e : Nat} (h : chk (bytB l) 0 = ((e : Int), 0)) (h1 : fulB l (cntB e)) (h2 : zerB (bytB l) e (64 * cntB e)) :
    parH l = if (decU (bodyAt (bytB l) 0)).2 = true then ((decU (bodyAt (bytB l) 0)).1, (cntB e : Int), 0) else (.zero, 0, 24) := by
  unfold parH
  rw [h, if_neg (fun h' => h' rfl), if_pos (by simpa using ⟨h1, h2⟩)]
  rfl
/-- the bytes reach as far as the blocks that were asked for -/
theorem ful_len {l : List Blk} : ∀ {N : Nat}, fulB l N → 64 * N < (bytB l).length + 64 → 64 * N ≤ (bytB l).length := by
  induction l with
  | nil => intro N h _; have := h.1; simp at this; subst this; simp
  | cons k l ih =>
    intro N h hl
    cases N with
    | zero => simp
    | succ N =>
      have h0 : k.d.length = 64 := h.2 0 (by simp) (by omega)
      have ht : fulB l N := ⟨by have := h.1; simpa using this, fun i hi hN => h.2 (i + 1) (by simpa using hi) (by omega)⟩
      unfold bytB at hl ⊢
      split at hl
      · simp at hl; omega
      · rename_i hk
        rw [if_neg hk]
        rw [List.length_append, h0] at hl ⊢
        have := ih ht (by omega)
        omega
theorem cnt_len {l : List Blk} {e : Nat} (he : e ≤ (bytB l).length) (h : fulB l (cntB e)) : 64 * cntB e ≤ (bytB l).length := ful_len h (by unfold cntB; omega)
theorem chk_end {xs : List UInt8} (h : (chk xs 0).2 = 0) : ∃ e : Nat, chk xs 0 = ((e : Int), 0) ∧ e ≤ xs.length := by
  obtain ⟨n, -, h1, -, h2⟩ := chk_ok h
  exact ⟨_, h2.1, h1⟩
theorem body_le (xs : List UInt8) (a : Int) : (bodyAt xs a).length ≤ xs.length := by
  unfold bodyAt
  split
  · rw [List.length_take, List.length_drop]; omega
  · simp
end Go.Proofs.YtjiijjdmkeeilaaDoor
namespace Go.Proofs.YtjiijjdmkeeilaaDoor
open Go.RowKit
set_option linter.unusedVariables false
set_option linter.unusedSimpArgs false
theorem infoSp : (Tryd.prog.info? 46).map (·.size) = some 2 := by kernel_rfl
theorem st_span {ops : Array Oper} {rest : List Oper} {op : Oper} {a : Act} {w : World} {Q : Exit → Act → World → Prop} {g : Nat} {u v : Value} (hgd : op.guard = none) (x y : Operand) (ho : op.op = .store 46 x y) (hx : a.eval x = .pointer (some ⟨g, 0, none⟩)) (f c : Int) (hy : a.eval y = .agg #[.int .i64 f, .int .i64 c])
    (hr : w.heap[g]? = some (.cells #[u, v] 46 (0, 0))) (hh : wpList Tryd.prog ops Q rest (a.put op.dst undef) (w.setRow g #[.int .i64 f, .int .i64 c])) : wpList Tryd.prog ops Q (op :: rest) a w :=
  wpList_store_agg hgd _ x y ho g hx _ _ hy _ hr infoSp rfl (by simp [Value.oneCell']) hh
/-- what Need answers -/
noncomputable def needU (h : Hdr) (j o l : Int) : Int × Int × Int :=
  if vldH h = true then (if j < 0 then (0, 0, 11) else match h.es[j.toNat]? with
    | none => (0, 0, 11)
    | some x => if (0 ≤ o ∧ o ≤ x.n) ∧ (0 ≤ l ∧ l ≤ x.n) ∧ o + l ≤ x.n then (if l = 0 then (0, 0, 0) else
        (((hbL h).length : Int) + (staU h.es j.toNat + o) / prtU h.vr, (staU h.es j.toNat + o + l - 1) / prtU h.vr - (staU h.es j.toNat + o) / prtU h.vr + 1, 0)) else (0, 0, 7)) else (0, 0, 8)
def RetSp (w : World) (r : Int × Int × Int) (e : Ending) (w' : World) : Prop := e = .returned (.tuple #[.agg #[.int .i64 r.1, .int .i64 r.2.1], .int .i64 r.2.2]) ∧ Below w.heap.size w w'
theorem sta_sum (l : List Ent) (j : Nat) (hj : j < l.length) (h : ∀ e ∈ l, 0 ≤ e.n) : 0 ≤ staU l j ∧ staU l j + (l[j]).n ≤ sumE l := by
  have h1 := sumE_take_le l h j
  have h2 := sumE_take_le l h (j + 1)
  rw [List.take_succ_eq_append_getElem hj, sumE_snoc] at h2
  unfold staU
  omega
theorem need_sum {h : Hdr} (hv : VHdr h) : sumE h.es ≤ 262144 := by
  have h1 := hv.1.2.2.2
  have := hv.2.2.2
  unfold VEs at this
  by_cases hk : h.kd = 0
  · rw [if_neg (fun h' => h' hk)] at this
    rw [this.2.2]
    omega
  · rw [if_pos hk] at this
    rw [this]
    simp [sumE]
set_option maxRecDepth 100000 in
set_option maxHeartbeats 4000000 in
theorem rneed_any (h : Hdr) (ad : Option Addr) (n cap : Nat) (j o l : Int) (w : World) (hin : HdIn w h ad n cap) (hs : ∀ e ∈ h.es, e.s < 4294967296) (hsm : h.sm < 4294967296) :
    Calls Tryd.prog 28 #[hdV h ad n cap, .int .i64 j, .int .i64 o, .int .i64 l] w (RetSp w (needU h j o l)) := by
  have HS := Lib.hid hs
  have HSM := Lib.hid hsm
  have HX0 := Lib.hid ((HdRow.new w h ad n cap).below (co_box1 _ (.cells #[.int .i64 0, .int .i64 0] 46)) (by simp))
  have HS0 := Lib.hid (heap_alloc_new (w.alloc (boxH h ad n cap)) (.cells #[.int .i64 0, .int .i64 0] 46))
  rw [World.size_alloc] at HS0
  have HB0 := Lib.hid (co_box2 w (boxH h ad n cap) (.cells #[.int .i64 0, .int .i64 0] 46))
  have HI0 := Lib.hid (hin.below (co_box2 w (boxH h ad n cap) (.cells #[.int .i64 0, .int .i64 0] 46)))
  have HZ0 := Lib.hid (show w.heap.size + 1 < ((w.alloc (boxH h ad n cap)).alloc (.cells #[.int .i64 0, .int .i64 0] 46)).heap.size by simp)
  have HN := Lib.hid hin.len
  have HU := Lib.hid (show needU h j o l = _ by unfold needU; rfl)
  clear hin hs hsm
  go_enter Tryd.func28, Tryd.ntmps28
  go_wp2_with (with_reducible refine ld_hdr rfl (.tmp 4) rfl rfl HX0.out ?_)
  change Calls Tryd.prog 16 #[hdV h ad n cap] ((w.alloc (boxH h ad n cap)).alloc (.cells #[.int .i64 0, .int .i64 0] 46)) _
  generalize World.alloc (World.alloc w _) _ = X0 at *
  refine (rvalidh_any h ad n cap X0 HI0.out HS.out).mono ?_
  rintro e X1 ⟨rfl, hb1⟩
  have HX1 := Lib.hid (HX0.out.below hb1 HX0.out.lt)
  have HS1 := Lib.hid ((hb1.block _ HZ0.out).trans HS0.out)
  have HB1 := Lib.hid (HB0.out.trans (hb1.mono HB0.out.size))
  have HI1 := Lib.hid (HI0.out.below hb1)
  clear hb1 HX0 HS0 HB0 HI0 HZ0
  have HV := Lib.hid (@vldH_iff h)
  generalize vldH h = V at *
  cases V
  · have HR := Lib.hid (HU.out.trans (if_neg (by simp)))
    go_wp2_with (first | ((with_reducible refine st_span rfl (.tmp 8) (.tmp 17) rfl rfl 0 0 rfl HS1.out ?_)))
    refine post_cell2 (cs := #[.int .i64 0, .int .i64 0]) (x := .int .i64 8) rfl rfl (setRow_heap _ _ _ _ _ _ HS1.out) Tryd.underlying46 rfl infoSp rfl rfl ?_
    exact ⟨by rw [HR.out], below_set HB1.out (by omega) _⟩
  have HVV := Lib.hid (HV.out.1 (by simp))
  replace HU := Lib.hid (HU.out.trans (if_pos (by simp)))
  clear HV
  obtain ⟨-, c0, c1, c2, c3, c4, c5, c6, c7, c8, c9, c10⟩ := HX1.out.at_
  by_cases hj0 : j < 0
  · have HR := Lib.hid (HU.out.trans (if_pos hj0))
    go_wp2_with (first | ((with_reducible refine st_span rfl (.tmp 8) (.tmp 27) rfl rfl 0 0 rfl HS1.out ?_)))
    refine post_cell2 (cs := #[.int .i64 0, .int .i64 0]) (x := .int .i64 11) rfl rfl (setRow_heap _ _ _ _ _ _ HS1.out) Tryd.underlying46 rfl infoSp rfl rfl ?_
    exact ⟨by rw [HR.out], below_set HB1.out (by omega) _⟩
  replace HU := Lib.hid (HU.out.trans (if_neg hj0))
  obtain ⟨J, rfl⟩ := Int.eq_ofNat_of_zero_le (show 0 ≤ j by omega)
  rw [Int.toNat_natCast] at HU
  clear hj0
  by_cases hjn : (n : Int) ≤ (J : Int)
  · have HR := Lib.hid (HU.out.trans (by rw [List.getElem?_eq_none (by have := HN.out; omega)]))
    go_wp2_with (first | ((with_reducible refine st_span rfl (.tmp 8) (.tmp 27) rfl rfl 0 0 rfl HS1.out ?_)))
    refine post_cell2 (cs := #[.int .i64 0, .int .i64 0]) (x := .int .i64 11) rfl rfl (setRow_heap _ _ _ _ _ _ HS1.out) Tryd.underlying46 rfl infoSp rfl rfl ?_
    exact ⟨by rw [HR.out], below_set HB1.out (by omega) _⟩
  have hil : J < h.es.length := by have := HN.out; omega
  obtain ⟨b, off, rfl, hlt, hcell⟩ := HI1.out.lf.get celE hil
  have e3 := hcell 3 _ (by decide) rfl
  replace HU := Lib.hid (HU.out.trans (by rw [List.getElem?_eq_getElem hil]))
  have HNN := Lib.hid (fun e (he : e ∈ h.es) => (VEs.all HVV.out e he).2.2.2.1.1)
  have HVN := (VEs.all HVV.out _ (List.getElem_mem hil)).2.2.2.1
  have HSS := Lib.hid (need_sum HVV.out)
  have HSU := sta_sum h.es J hil HNN.out
  have HLN := Lib.hid (hbL_short HVV.out HSM.out HS.out)
  clear hcell hlt
  generalize h.es[J] = x at *
  have hj1 : ¬ (n : Int) ≤ (J : Int) := hjn
  have hjn2 : J < n := by omega
  by_cases q1 : 0 ≤ o ∧ o ≤ x.n
  rotate_left
  · have HR := Lib.hid (HU.out.trans (if_neg (fun h => q1 h.1)))
    go_wp2_with (first | ((with_reducible refine st_span rfl (.tmp 8) (.tmp 51) rfl rfl 0 0 rfl HS1.out ?_)) | (go_at_call 49; first | ((with_reducible refine (in_yes _ _ _ _ (by omega)).mono ?_); rintro e w' ⟨rfl, rfl⟩) | ((with_reducible refine (in_no _ _ _ _ (by omega)).mono ?_); rintro e w' ⟨rfl, rfl⟩)))
    refine post_cell2 (cs := #[.int .i64 0, .int .i64 0]) (x := .int .i64 7) rfl rfl (setRow_heap _ _ _ _ _ _ HS1.out) Tryd.underlying46 rfl infoSp rfl rfl ?_
    exact ⟨by rw [HR.out], below_set HB1.out (by omega) _⟩
  by_cases q2 : 0 ≤ l ∧ l ≤ x.n
  rotate_left
  · have HR := Lib.hid (HU.out.trans (if_neg (fun h => q2 h.2.1)))
    go_wp2_with (first | ((with_reducible refine st_span rfl (.tmp 8) (.tmp 51) rfl rfl 0 0 rfl HS1.out ?_)) | (go_at_call 49; first | ((with_reducible refine (in_yes _ _ _ _ (by omega)).mono ?_); rintro e w' ⟨rfl, rfl⟩) | ((with_reducible refine (in_no _ _ _ _ (by omega)).mono ?_); rintro e w' ⟨rfl, rfl⟩)))
    refine post_cell2 (cs := #[.int .i64 0, .int .i64 0]) (x := .int .i64 7) rfl rfl (setRow_heap _ _ _ _ _ _ HS1.out) Tryd.underlying46 rfl infoSp rfl rfl ?_
    exact ⟨by rw [HR.out], below_set HB1.out (by omega) _⟩
  have hw : IntKind.i64.wrap (o + l) = o + l := IntWalk.i64_in _ (by omega)
  by_cases q3 : o + l ≤ x.n
  rotate_left
  · have HR := Lib.hid (HU.out.trans (if_neg (fun h => q3 h.2.2)))
    go_wp2_with (first | ((with_reducible refine st_span rfl (.tmp 8) (.tmp 51) rfl rfl 0 0 rfl HS1.out ?_)) | (go_at_call 49; first | ((with_reducible refine (in_yes _ _ _ _ (by omega)).mono ?_); rintro e w' ⟨rfl, rfl⟩) | ((with_reducible refine (in_no _ _ _ _ (by omega)).mono ?_); rintro e w' ⟨rfl, rfl⟩)))
    refine post_cell2 (cs := #[.int .i64 0, .int .i64 0]) (x := .int .i64 7) rfl rfl (setRow_heap _ _ _ _ _ _ HS1.out) Tryd.underlying46 rfl infoSp rfl rfl ?_
    exact ⟨by rw [HR.out], below_set HB1.out (by omega) _⟩
  replace HU := Lib.hid (HU.out.trans (if_pos ⟨q1, q2, q3⟩))
  by_cases q4 : l = 0
  · have HR := Lib.hid (HU.out.trans (if_pos q4))
    subst q4
    go_wp2_with (first | ((with_reducible refine st_span rfl (.tmp 8) (.tmp 54) rfl rfl 0 0 rfl HS1.out ?_)) | (go_at_call 49; first | ((with_reducible refine (in_yes _ _ _ _ (by omega)).mono ?_); rintro e w' ⟨rfl, rfl⟩) | ((with_reducible refine (in_no _ _ _ _ (by omega)).mono ?_); rintro e w' ⟨rfl, rfl⟩)))
    refine post_cell2 (cs := #[.int .i64 0, .int .i64 0]) (x := .int .i64 0) rfl rfl (setRow_heap _ _ _ _ _ _ HS1.out) Tryd.underlying46 rfl infoSp rfl rfl ?_
    exact ⟨by rw [HR.out], below_set HB1.out (by omega) _⟩
  replace HU := Lib.hid (HU.out.trans (if_neg q4))
  have kl := eq_f q4
  have hp : prtU h.vr = 60 ∨ prtU h.vr = 64 := by rcases prtU_cases h.vr with ⟨_, e⟩ | ⟨_, e⟩ <;> omega
  have hS2 := HSS.out
  go_wp2_with (go_at_call 49; first | ((with_reducible refine (in_yes _ _ _ _ (by omega)).mono ?_); rintro e w' ⟨rfl, rfl⟩) | ((with_reducible refine (in_no _ _ _ _ (by omega)).mono ?_); rintro e w' ⟨rfl, rfl⟩))
  refine (rpart_any h.vr _).mono ?_
  rintro e w' ⟨rfl, rfl⟩
  go_wp2_with (with_reducible refine ld_hdr rfl (.tmp 4) rfl rfl HX1.out ?_)
  refine (rstart_any h _ n cap J _ HI1.out (by omega) HNN.out (by have := HSS.out; omega)).mono ?_
  rintro e X2 ⟨rfl, hb2⟩
  have HX2 := Lib.hid (HX1.out.below hb2 HX1.out.lt)
  have HS2 := Lib.hid ((hb2.block _ (Array.getElem?_eq_some_iff.1 HS1.out).1).trans HS1.out)
  have HB2 := Lib.hid (HB1.out.trans (hb2.mono HB1.out.size))
  have HI2 := Lib.hid (HI1.out.below hb2)
  clear hb2 HX1 HS1 HB1 HI1 c0 c1 c2 c3 c4 c5 c6 c7 c8 c9 c10 e3
  have HST := Lib.hid (fun W hi => rstart_any h (some ⟨b, off, none⟩) n cap J W hi (by omega) HNN.out (by have := HSS.out; omega))
  generalize staU h.es J = S at *
  generalize prtU h.vr = P at *
  obtain ⟨hS0, hS1⟩ := HSU
  rcases hp with rfl | rfl
  all_goals
    go_wp2_with (with_reducible refine ld_hdr rfl (.tmp 4) rfl rfl HX2.out ?_)
    refine (HST.out _ HI2.out).mono ?_
    rintro e X3 ⟨rfl, hb3⟩
    have HX3 := Lib.hid (HX2.out.below hb3 HX2.out.lt)
    have HS3 := Lib.hid ((hb3.block _ (Array.getElem?_eq_some_iff.1 HS2.out).1).trans HS2.out)
    have HB3 := Lib.hid (HB2.out.trans (hb3.mono HB2.out.size))
    have HI3 := Lib.hid (HI2.out.below hb3)
    clear hb3 HX2 HS2 HB2 HI2
    go_wp2_with (with_reducible refine ld_hdr rfl (.tmp 4) rfl rfl HX3.out ?_)
    refine (rhead_any h _ n cap _ HI3.out HVV.out HSM.out HS.out).mono ?_
    rintro e X4 ⟨v4, rfl, hk4, hb4⟩
    obtain ⟨ad4, cap4, rfl, -⟩ := hk4.read
    have HS4 := Lib.hid ((hb4.block _ (Array.getElem?_eq_some_iff.1 HS3.out).1).trans HS3.out)
    have HB4 := Lib.hid (HB3.out.trans (hb4.mono HB3.out.size))
    have hln := HLN.out.2
    clear hk4 hb4 HX3 HS3 HB3 HI3
    generalize (hbL h).length = L at *
    go_wp2_with (with_reducible refine st_span rfl (.tmp 8) (.tmp 84) rfl rfl _ _ rfl HS4.out ?_)
    refine post_cell2 (cs := #[.int .i64 _, .int .i64 _]) (x := .int .i64 0) rfl rfl (setRow_heap _ _ _ _ _ _ HS4.out) Tryd.underlying46 rfl infoSp rfl rfl ?_
    exact ⟨by rw [HU.out], below_set HB4.out (by omega) _⟩
end Go.Proofs.YtjiijjdmkeeilaaDoor
namespace Go.Proofs.YtjiijjdmkeeilaaDoor
open Go.RowKit
set_option linter.unusedVariables false
theorem entsU_lt {p : List UInt8} : ∀ (k : Nat) (s : Int × Bool), ∀ e ∈ (entsU p k s).1, e.s < 4294967296
  | 0, s => by simp [entsU]
  | k + 1, (A, bad) => by
    cases bad
    · rw [entsU_good]
      intro e he
      rcases List.mem_cons.1 he with rfl | he
      · exact entU_lt
      · exact entsU_lt k _ e he
    · rw [entsU_bad]
      simp
theorem decU_lt (p : List UInt8) : (decU p).1.sm < 4294967296 ∧ ∀ e ∈ (decU p).1.es, e.s < 4294967296 := ⟨cksU_lt, entsU_lt _ _⟩
/-- a header that Parse gives -/
structure GoodH (l : List Blk) (H : Hdr) (n : Int) : Prop where
  v : VHdr H
  n : n = ((hbL H).length : Int)
  sm : H.sm < 4294967296
  s : ∀ e ∈ H.es, e.s < 4294967296
theorem parH_good {l : List Blk} (h : (parH l).2.2 = 0) : GoodH l (parH l).1 (parH l).2.1 := by
  by_cases h1 : (chk (bytB l) 0).2 = 0
  rotate_left
  · rw [parH_next h1] at h
    exact (h1 h).elim
  obtain ⟨a, e1, e2, e3, e4, e5, e6⟩ := chk_ok h1
  obtain rfl : a = 0 := by omega
  rw [Nat.zero_add] at e4
  by_cases h2 : fulB l (cntB ((hd ((bytB l).drop 0)).1 + 10))
  rotate_left
  · rw [parH_ful e4 h2] at h
    cases h
  by_cases h3 : zerB (bytB l) ((hd ((bytB l).drop 0)).1 + 10) (64 * cntB ((hd ((bytB l).drop 0)).1 + 10))
  rotate_left
  · rw [parH_zer e4 h3] at h
    cases h
  rw [parH_fin e4 h2 h3] at h ⊢
  by_cases h4 : (decU (bodyAt (bytB l) 0)).2 = true
  rotate_left
  · rw [if_neg h4] at h
    cases h
  rw [if_pos h4]
  obtain ⟨f1, f2⟩ := dec_form h4
  refine ⟨f2, ?_, (decU_lt _).1, (decU_lt _).2⟩
  dsimp only
  rw [hbL_length, ← f1, e6]
/-- what Payload answers -/
noncomputable def payU (l : List Blk) : Hdr × List UInt8 × Int :=
  if (parH l).2.2 ≠ 0 then (.zero, [], (parH l).2.2) else
  if (l.length : Int) < blU (parH l).1 then (.zero, [], 2) else
  if (chsU (parH l).1.vr (parH l).1.sz 0 ((l.drop (parH l).2.1.toNat).take (cntU (parH l).1).toNat)).2 ≠ 0 then (.zero, [], (chsU (parH l).1.vr (parH l).1.sz 0 ((l.drop (parH l).2.1.toNat).take (cntU (parH l).1).toNat)).2) else
  if crc (chsU (parH l).1.vr (parH l).1.sz 0 ((l.drop (parH l).2.1.toNat).take (cntU (parH l).1).toNat)).1 ≠ (parH l).1.sm ∨ prtsB (parH l).1.es (chsU (parH l).1.vr (parH l).1.sz 0 ((l.drop (parH l).2.1.toNat).take (cntU (parH l).1).toNat)).1 = false then (.zero, [], 4) else
    ((parH l).1, (chsU (parH l).1.vr (parH l).1.sz 0 ((l.drop (parH l).2.1.toNat).take (cntU (parH l).1).toNat)).1, 0)
theorem payU_parts {l : List Blk} {H : Hdr} {n e : Int} (h : parH l = (H, n, e)) {B : List UInt8} {f : Int} (hc : chsU H.vr H.sz 0 ((l.drop n.toNat).take (cntU H).toNat) = (B, f)) :
    payU l = if e ≠ 0 then (.zero, [], e) else if (l.length : Int) < blU H then (.zero, [], 2) else if f ≠ 0 then (.zero, [], f) else if crc B ≠ H.sm ∨ prtsB H.es B = false then (.zero, [], 4) else (H, B, 0) := by
  unfold payU
  rw [h]
  dsimp only
  rw [hc]
/-- a block that is read gives as many bytes as it must have -/
theorem chkU_size {v sz i : Int} {x : Blk} (hv : v = 1 ∨ v = 2) (hn : 0 ≤ nU v sz i) (h : (chkU v sz i x).2 = 0) : ((chkU v sz i x).1.length : Int) = nU v sz i := by
  unfold chkU at h ⊢
  by_cases h1 : x.bad = true
  · rw [if_pos h1] at h; cases h
  rw [if_neg h1] at h ⊢
  by_cases h2 : x.m = true ∨ (v = 1 ∧ (x.d.length : Int) ≠ nU v sz i) ∨ (v = 2 ∧ (x.d.length : Int) ≠ nU v sz i + 4)
  · rw [if_pos h2] at h; cases h
  rw [if_neg h2] at h ⊢
  have hl : nU v sz i ≤ (x.d.length : Int) := by
    rcases hv with rfl | rfl
    · have : ¬ (x.d.length : Int) ≠ nU 1 sz i := fun h => h2 (.inr (.inl ⟨rfl, h⟩))
      omega
    · have : ¬ (x.d.length : Int) ≠ nU 2 sz i + 4 := fun h => h2 (.inr (.inr ⟨rfl, h⟩))
      omega
  split at h
  · cases h
  · rename_i h3
    rw [if_neg h3, List.length_take]
    omega
/-- blocks that are read give as many bytes as they must have -/
theorem chsU_size {v sz : Int} (hv : v = 1 ∨ v = 2) : ∀ (l : List Blk) (i : Int), 0 ≤ i → i * prtU v + (l.length : Int) * prtU v < sz + prtU v → (chsU v sz i l).2 = 0 → i * prtU v ≤ sz →
    ((chsU v sz i l).1.length : Int) = min sz (i * prtU v + (l.length : Int) * prtU v) - i * prtU v
  | [], i, h0, h1, h, h2 => by simp [chsU]; omega
  | x :: l, i, h0, h1, h, h2 => by
    have hP := prtU_cases v
    have hpos : 60 ≤ prtU v := by omega
    have e1 : ((x :: l).length : Int) * prtU v = (l.length : Int) * prtU v + prtU v := by
      rw [List.length_cons]; push_cast; rw [Int.add_mul, Int.one_mul]
    have e2 : (i + 1) * prtU v = i * prtU v + prtU v := by rw [Int.add_mul, Int.one_mul]
    rw [e1] at h1 ⊢
    have hll : 0 ≤ (l.length : Int) * prtU v := Int.mul_nonneg (by omega) (by omega)
    have g1 : (chkU v sz i x).2 = 0 := Decidable.byContradiction fun h' => by rw [chsU_b1 h'] at h; exact h' h
    have g2 : (chsU v sz (i + 1) l).2 = 0 := Decidable.byContradiction fun h' => by rw [chsU_b2 g1 h'] at h; exact h' h
    have hn : nU v sz i = min (prtU v) (sz - i * prtU v) := rfl
    have a := chkU_size hv (by omega) g1
    rw [chsU_ok g1 g2]
    dsimp only
    rw [List.length_append]
    push_cast
    rw [a, hn]
    by_cases hl : l = []
    · subst hl
      simp only [chsU, List.length_nil] at *
      omega
    · have hl1 : 1 ≤ (l.length : Int) := by have := List.length_pos_iff.2 hl; omega
      have hl2 : prtU v ≤ (l.length : Int) * prtU v := by
        have := Int.mul_le_mul_of_nonneg_right hl1 (show 0 ≤ prtU v by omega)
        rwa [Int.one_mul] at this
      have b := chsU_size hv l (i + 1) (by omega) (by rw [e2]; omega) g2 (by rw [e2]; omega)
      rw [b, e2]
      omega
/-- the whole payload -/
theorem chs_full {H : Hdr} (hv : VHdr H) {l : List Blk} (hl : (l.length : Int) = cntU H) (h : (chsU H.vr H.sz 0 l).2 = 0) : ((chsU H.vr H.sz 0 l).1.length : Int) = H.sz := by
  have hP := prtU_cases H.vr
  have hsz := hv.1.2.2.2
  have hvr : H.vr = 1 ∨ H.vr = 2 := by have := hv.1.2.1; omega
  have hc : (l.length : Int) * prtU H.vr < H.sz + prtU H.vr ∧ H.sz ≤ (l.length : Int) * prtU H.vr := by
    rw [hl]
    unfold cntU
    rcases hP with ⟨_, e⟩ | ⟨_, e⟩ <;> (rw [e]; omega)
  have := chsU_size hvr l 0 (Int.le_refl _) (by rw [Int.zero_mul]; omega) h (by rw [Int.zero_mul]; omega)
  rw [this, Int.zero_mul]
  omega
theorem sum_full {H : Hdr} (hv : VHdr H) : sumE H.es ≤ H.sz := by
  have h1 := hv.1.2.2.2
  have := hv.2.2.2
  unfold VEs at this
  by_cases hk : H.kd = 0
  · rw [if_neg (fun h => h hk)] at this
    omega
  · rw [if_pos hk] at this
    rw [this]
    exact h1.1
end Go.Proofs.YtjiijjdmkeeilaaDoor
