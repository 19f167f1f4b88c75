/-
  Blocks of a header: the same data as the divided bytes; a part of blocks.
  The program's encoding.
  slices.IndexFunc and ContainsFunc over entries.
-/
import Derived.Test.YtjiijjdmkeeilaaDoorCAU
import Derived.Test.YtjiijjdmkeeilaaDoorCAX
import Derived.Test.YtjiijjdmkeeilaaDoorCAZ
import Derived.Test.YtjiijjdmkeeilaaDoorCAM
import Derived.Laws.Slices
import Derived.Test.YtjiijjdmkeeilaaDoorCAE
import Derived.Test.YtjiijjdmkeeilaaDoorCAD
import Derived.Test.YtjiijjdmkeeilaaDoorCAA
import Derived.Deep.LoopGhost
namespace Go.Proofs.YtjiijjdmkeeilaaDoor
open Go.RowKit
set_option linter.unusedVariables false
set_option linter.unusedSimpArgs false
set_option maxRecDepth 100000
theorem bytB_flat {l : List Blk} : ∀ {N : Nat}, fulB l N → 64 * N ≤ (bytB l).length → (bytB l).take (64 * N) = ((l.take N).map Blk.d).flatten := by
  induction l with
  | nil => intro N h _; have := h.1; simp at this; subst this; simp
  | cons k l ih =>
    intro N h hl
    cases N with
    | zero => simp
    | succ N =>
      have h0 : k.d.length = 64 := h.2 0 (by simp) (by omega)
      have ht : fulB l N := ⟨by have := h.1; simpa using this, fun i hi hN => h.2 (i + 1) (by simpa using hi) (by omega)⟩
      unfold bytB at hl ⊢
      split at hl
      · simp at hl
      · rename_i hk
        rw [if_neg hk]
        rw [List.length_append, h0] at hl
        have := ih ht (by omega)
        rw [List.take_succ_cons, List.map_cons, List.flatten_cons, ← this, List.take_append, h0, List.take_of_length_le (by omega), show 64 * (N + 1) - 64 = 64 * N by omega]
theorem flat_inj : ∀ {a b : List (List UInt8)}, (∀ x ∈ a, x.length = 64) → (∀ x ∈ b, x.length = 64) → a.length = b.length → a.flatten = b.flatten → a = b
  | [], [], _, _, _, _ => rfl
  | [], _ :: _, _, _, h, _ => by simp at h
  | _ :: _, [], _, _, h, _ => by simp at h
  | x :: a, y :: b, h1, h2, h3, h4 => by
    rw [List.flatten_cons, List.flatten_cons] at h4
    have hx := h1 x (by simp)
    have hy := h2 y (by simp)
    obtain ⟨e1, e2⟩ := List.append_inj h4 (by rw [hx, hy])
    rw [e1, flat_inj (fun z hz => h1 z (by simp [hz])) (fun z hz => h2 z (by simp [hz])) (by simpa using h3) e2]
theorem div_iff {l : List Blk} {e N : Nat} (he : e ≤ (bytB l).length) (hN : N = cntB e) :
    (N ≤ l.length ∧ (l.take N).map Blk.d = (divB ((bytB l).take e)).map Blk.d) ↔ (fulB l N ∧ zerB (bytB l) e (64 * N)) := by
  have hxl : ((bytB l).take e).length = e := by rw [List.length_take]; omega
  have hfd := flat_div N ((bytB l).take e) (by rw [hxl, hN])
  have hdv : divB ((bytB l).take e) = (List.range N).map (blkAt ((bytB l).take e)) := by unfold divB; rw [hxl, ← hN]
  rw [hxl] at hfd
  rw [hdv]
  have hNe : e ≤ 64 * N ∧ 64 * N < e + 64 := by rw [hN]; unfold cntB; omega
  constructor
  · rintro ⟨h1, h2⟩
    have hf : fulB l N := by
      refine ⟨h1, fun i hi hiN => ?_⟩
      have h3 := congrArg (fun z => z[i]?) h2
      simp only [List.getElem?_map, List.getElem?_take, List.getElem?_range hiN, if_pos hiN, List.getElem?_eq_getElem hi] at h3
      simp only [Option.map_some, Option.some.injEq] at h3
      rw [h3]
      exact pad_length _
    have h64 := ful_len hf (by omega)
    refine ⟨hf, fun i hi h3 h4 => ?_⟩
    have hb := bytB_flat hf h64
    rw [h2, hfd] at hb
    have h5 := congrArg (fun z => z[i]?) hb
    simp only [List.getElem?_take, if_pos h4, List.getElem?_eq_getElem hi] at h5
    rw [List.getElem?_append_right (by rw [hxl]; exact h3), hxl, List.getElem?_replicate, if_pos (by omega)] at h5
    simpa using h5
  · rintro ⟨hf, hz⟩
    have h64 := ful_len hf (by omega)
    have hb := bytB_flat hf h64
    refine ⟨hf.1, flat_inj ?_ ?_ ?_ ?_⟩
    · intro x hx
      obtain ⟨b, hb, rfl⟩ := List.mem_map.1 hx
      obtain ⟨i, hi, rfl⟩ := List.getElem_of_mem hb
      rw [List.length_take] at hi
      rw [List.getElem_take]
      exact hf.2 i (by omega) (by omega)
    · intro x hx
      obtain ⟨b, hb, rfl⟩ := List.mem_map.1 hx
      obtain ⟨i, _, rfl⟩ := List.mem_map.1 hb
      exact pad_length _
    · have := hf.1
      simp
      omega
    · rw [← hb, hfd]
      refine List.ext_getElem? (fun i => ?_)
      by_cases h1 : i < e
      · rw [List.getElem?_append_left (by rw [hxl]; exact h1), List.getElem?_take, List.getElem?_take, if_pos (by omega), if_pos h1]
      · rw [List.getElem?_append_right (by rw [hxl]; omega), hxl, List.getElem?_replicate, List.getElem?_take]
        by_cases h2 : i < 64 * N
        · rw [if_pos h2, if_pos (by omega), List.getElem?_eq_getElem (by omega), hz i (by omega) (by omega) h2]
        · rw [if_neg h2, if_neg (by omega)]
open Classical in
/-- what Parse answers, as the program asks it -/
theorem parH_prog {l : List Blk} {e N : Nat} (h : chk (bytB l) 0 = ((e : Int), 0)) (he : e ≤ (bytB l).length) (hN : N = cntB e) :
    parH l = if N ≤ l.length ∧ eqD (l.take N) (divB ((bytB l).take e)) = true then (if (decP (bodyAt (bytB l) 0)).2 = true then ((decP (bodyAt (bytB l) 0)).1, (N : Int), 0) else (.zero, 0, 24)) else (.zero, 0, 1) := by
  have hi := div_iff he hN
  rw [← eqD_iff] at hi
  by_cases hf : fulB l N ∧ zerB (bytB l) e (64 * N)
  · rw [if_pos (hi.2 hf), parH_fin h (by rw [← hN]; exact hf.1) (by rw [← hN]; exact hf.2), decP_eq, ← hN]
    by_cases hd : (decU (bodyAt (bytB l) 0)).2 = true
    · rw [if_pos hd, if_pos hd, if_pos rfl]
    · rw [if_neg hd, if_neg hd, if_neg (by simp)]
  · rw [if_neg (fun h' => hf (hi.1 h'))]
    by_cases h1 : fulB l N
    · exact parH_zer h (fun h2 => hf ⟨h1, by rw [hN]; exact h2⟩)
    · exact parH_ful h (by rw [← hN]; exact h1)
/-- where a part of blocks lies -/
@[irreducible] def ptB (ad : Option Addr) (cap a : Nat) : Option Addr := if cap = a then ad else ad.map (·.add (a * 3))
theorem cellsB3 : (sizeOf (Tryd.prog.elem 29)).run Tryd.prog = fun w => .ok 3 w := by funext w; go_simp
theorem run_partB (ad : Option Addr) (n cap a b : Nat) (w : World) (h0 : a ≤ b) (h1 : b ≤ cap) :
    (Instr.sliceAt 29 (.slice ad n cap) (some (.int .i64 (a : Int))) (some (.int .i64 (b : Int))) none).run Tryd.prog w = .ok (.slice (ptB ad cap a) (b - a) (cap - a)) w := by
  rw [run_sliceAt_slice w _ _ _ _ _ Tryd.underlying29, run_slice_lh w _ ad n cap Tryd.underlying29 .i64 .i64 a b (by omega) (by omega) (by omega), cellsB3]
  simp [Result.andThen, sliced, ptB]
theorem run_frontB (ad : Option Addr) (n cap b : Nat) (w : World) (h1 : b ≤ cap) :
    (Instr.sliceAt 29 (.slice ad n cap) none (some (.int .i64 (b : Int))) none).run Tryd.prog w = .ok (.slice (ptB ad cap 0) b cap) w := by
  rw [run_sliceAt_slice w _ _ _ _ _ Tryd.underlying29, run_slice_h w _ ad n cap Tryd.underlying29 .i64 b (by omega) (by omega), cellsB3]
  simp [Result.andThen, sliced, ptB]
theorem Ki.pt {w : World} {ad : Option Addr} {l : List Blk} (h : Ki w ad l) {cap : Nat} (hc : l.length ≤ cap) (a m : Nat) : Ki w (ptB ad cap a) ((l.drop a).take m) := by
  unfold ptB
  by_cases e : cap = a
  · rw [if_pos e, List.drop_eq_nil_of_le (by omega), List.take_nil]
    exact Ki.nil _ _
  · rw [if_neg e]
    cases hl : l with
    | nil => rw [List.drop_nil, List.take_nil]; exact Ki.nil _ _
    | cons x t =>
      have h0 : 0 < l.length := by rw [hl]; simp
      obtain ⟨b, off, -, -, rfl, -⟩ := h.get h0
      rw [← hl]
      have h2 := h.part a m
      rw [Option.map_some, Go.WideShapes.add_plain]
      exact h2
end Go.Proofs.YtjiijjdmkeeilaaDoor
namespace Go.Proofs.YtjiijjdmkeeilaaDoor
open Go.RowKit
set_option linter.unusedVariables false
set_option linter.unusedSimpArgs false
theorem typI : Typ Tryd.prog 3 92 1 8 (.int .i64 0) := ⟨by kernel_rfl, Tryd.underlying92, rfl, by decide⟩
theorem Of.lits {α : Type} {c : α → List Value} {k : Nat} (hk : Cel c k) (w : World) (cs : Array Value) (T : TypeId) (l : List α) (h : cs.toList = l.flatMap c) (B g n : Nat) (hg : g = w.heap.size) (hB : B ≤ g) (hn : n = l.length) (hm : n ≤ 1000) : Of T k c (w.alloc (.cells cs T)) B (.slice (some ⟨g, 0, none⟩) n n) l := by
  subst hg hn
  have e := flat_length hk l
  refine ⟨e, .inr ⟨w.heap.size, l.length, cs, rfl, hB, heap_alloc_new w _, Nat.le_refl _, by unfold maxLen; omega, ?_, ?_⟩⟩
  · rw [← e, ← h]; simp
  · rw [h, List.take_of_length_le (by omega)]
theorem encN_app (l m : List Int) : encN (l ++ m) = encN l ++ encN m := by simp [encN]
theorem encN_es (es : List Ent) : encN (es.flatMap enN) = encEs es := by unfold encN encEs; rw [List.flatMap_assoc]; rfl
/-- all the numbers of a header -/
def allN (h : Hdr) : List Int := (hdN h ++ h.es.flatMap enN) ++ tlN h
theorem allN_enc (h : Hdr) : encN (allN h) = encH h := by unfold allN; rw [encN_app, encN_app, encN_es, encH_eq]
theorem enNs_length (l : List Ent) : (l.flatMap enN).length = 5 * l.length := by
  induction l with
  | nil => rfl
  | cons x l ih => rw [List.flatMap_cons, List.length_append, ih, List.length_cons]; show 5 + _ = _; omega
theorem allN_ok {h : Hdr} (hv : VHdr h) (hsm : h.sm < 4294967296) (hs : ∀ e ∈ h.es, e.s < 4294967296) : ∀ x ∈ allN h, 0 ≤ x ∧ x ≤ 4611686018427387904 := by
  intro x hx
  unfold allN at hx
  rcases List.mem_append.1 hx with hx | hx
  · rcases List.mem_append.1 hx with hx | hx
    · exact hdN_ok hv x hx
    · obtain ⟨e, he, hxe⟩ := List.mem_flatMap.1 hx
      exact enN_ok (VEs.all hv e he) (hs e he) x hxe
  · exact tlN_ok hv hsm x hx
theorem encN_at (l : List Int) (k : Nat) (hk : k < l.length) : encN (l.take (k + 1)) = encN (l.take k) ++ enc (l[k]).toNat := by
  rw [List.take_succ_eq_append_getElem hk, encN_snoc]
attribute [local irreducible] encN hdN enN tlN allN
set_option maxRecDepth 100000 in
set_option maxHeartbeats 4000000 in
theorem encoding_any (h : Hdr) (ad : Option Addr) (n cap : Nat) (w : World) (hin : HdIn w h ad n cap) (hv : VHdr h) (hsm : h.sm < 4294967296) (hs : ∀ e ∈ h.es, e.s < 4294967296) :
    Calls Tryd.prog 35 #[hdV h ad n cap] w (Gives w (encH h)) := by
  have HX0 := Lib.hid (HdRow.new w h ad n cap)
  have HB0 := Lib.hid (co_box1 w (boxH h ad n cap))
  have HIN := Lib.hid hin
  have HNL := Lib.hid hin.len
  have HC := Lib.hid (VEs.count hv)
  have HOK := Lib.hid (allN_ok hv hsm hs)
  have HAE := Lib.hid (allN_enc h)
  have HAL := Lib.hid (show allN h = (hdN h ++ h.es.flatMap enN) ++ tlN h by unfold allN; rfl)
  have HTN := Lib.hid (show tlN h = [h.sz, (h.sm : Int) + 4294967296] by unfold tlN; rfl)
  have hn64 : n ≤ 64 := by have := HC.out; have := HNL.out; omega
  have HES := Lib.hid hs
  have HSM := Lib.hid hsm
  clear hin hv hs hsm
  obtain ⟨-, c0, c1, c2, c3, c4, c5, c6, c7, c8, c9, c10⟩ := HX0.out.at_
  go_enter Tryd.func35, Tryd.ntmps35
  go_wp2_with fail
  have HD := Lib.hid (show hdN h = [h.id, h.kd, h.vr, h.st, h.ix, h.da, h.pa, h.cm, (n : Int)] by unfold hdN; rw [HNL.out])
  have hx0 := HX0.out.lt
  have HSZ := Lib.hid (show w.heap.size + 1 = (w.alloc (boxH h ad n cap)).heap.size by simp)
  generalize World.alloc w _ = X0 at *
  have HO1 := Lib.hid (Of.lits celI X0 #[.int .i64 h.id, .int .i64 h.kd, .int .i64 h.vr, .int .i64 h.st, .int .i64 h.ix, .int .i64 h.da, .int .i64 h.pa, .int .i64 h.cm, .int .i64 (n : Int)] 3 (hdN h) (by rw [HD.out]; rfl) (w.heap.size + 1) (w.heap.size + 1) 9 HSZ.out (Nat.le_refl _) (by rw [HD.out]; rfl) (by decide))
  have HB1 := Lib.hid (HB0.out.alloc HB0.out.size (.cells #[.int .i64 h.id, .int .i64 h.kd, .int .i64 h.vr, .int .i64 h.st, .int .i64 h.ix, .int .i64 h.da, .int .i64 h.pa, .int .i64 h.cm, .int .i64 (n : Int)] 3))
  have HX1 := Lib.hid (HX0.out.below (co_box1 X0 (.cells #[.int .i64 h.id, .int .i64 h.kd, .int .i64 h.vr, .int .i64 h.st, .int .i64 h.ix, .int .i64 h.da, .int .i64 h.pa, .int .i64 h.cm, .int .i64 (n : Int)] 3)) hx0)
  have HW1 := Lib.hid (show w.heap.size + 1 ≤ (X0.alloc (.cells #[.int .i64 h.id, .int .i64 h.kd, .int .i64 h.vr, .int .i64 h.st, .int .i64 h.ix, .int .i64 h.da, .int .i64 h.pa, .int .i64 h.cm, .int .i64 (n : Int)] 3)).heap.size by have := HSZ.out; simp; omega)
  clear HX0 HB0 hx0 c0 c1 c2 c3 c4 c5 c6 c7 c8 c9 c10
  go_loopg [3, 32] n (fun gk v3 v32 wx => ∃ (i : Nat) (l : List Int) (ad' : Option Addr) (cap' L : Nat), v32 = .int .i64 i ∧ v3 = .slice ad' L cap' ∧ i + gk = n ∧ L = 9 + 5 * i ∧ Hid (L = l.length) ∧ Hid (l = hdN h ++ (h.es.take i).flatMap enN) ∧ Hid (Of 3 1 inC wx (w.heap.size + 1) (.slice ad' L cap') l) ∧ Hid (Below w.heap.size w wx) ∧ Hid (w.heap.size + 1 ≤ wx.heap.size) ∧ Hid (HdRow wx w.heap.size h ad n cap))
  case atStart => exact ⟨0, hdN h, some ⟨w.heap.size + 1, 0, none⟩, 9, 9, rfl, rfl, by omega, by omega, Lib.hid (by rw [HD.out]; rfl), Lib.hid (by simp), HO1, HB1, HW1, HX1⟩
  case round =>
    obtain ⟨i, l, ad', cap', L, rfl, rfl, hi, hL, hLl, hl, hO, hB, hW, hX⟩ := hrel
    cases gk with
    | zero =>
      obtain rfl : i = n := by omega
      have HLL := Lib.hid (show l = hdN h ++ h.es.flatMap enN by rw [hl.out, List.take_of_length_le (by have := HNL.out; omega)])
      obtain ⟨M, hM⟩ : ∃ M, M = (h.sm : Int) + 4294967296 := ⟨_, rfl⟩
      have kc : IntKind.i64.wrap (h.sm : Int) = (h.sm : Int) := IntWalk.i64_in _ (by have := HSM.out; omega)
      have kw : IntKind.i64.wrap ((h.sm : Int) + 4294967296) = M := by rw [hM]; exact IntWalk.i64_in _ (by have := HSM.out; omega)
      have HLZ := Lib.hid (Lf.lits (c := inC) wr #[.int .i64 h.sz, .int .i64 M] 3 (l := tlN h) (by rw [HTN.out, hM]; rfl) _ rfl)
      have HO2 := Lib.hid (hO.out.below (co_box1 wr (.cells #[.int .i64 h.sz, .int .i64 M] 3)))
      have HB2 := Lib.hid (hB.out.trans ((co_box1 wr (.cells #[.int .i64 h.sz, .int .i64 M] 3)).mono hB.out.size))
      have HW2 := Lib.hid (show w.heap.size + 1 ≤ (wr.alloc (.cells #[.int .i64 h.sz, .int .i64 M] 3)).heap.size by have := hW.out; simp; omega)
      have HLEN := Lib.hid (show l.length + 2 ≤ 10000000 by have := hLl.out; omega)
      have HL2 := Lib.hid (show 2 = (tlN h).length by rw [HTN.out]; rfl)
      have HLA := Lib.hid (show l ++ tlN h = allN h by rw [HAL.out, HLL.out])
      obtain ⟨N, hN⟩ : ∃ N, N = L + 2 := ⟨_, rfl⟩
      have HLN := Lib.hid (show N = (allN h).length by rw [hN, ← HLA.out, List.length_append, ← HL2.out, ← hLl.out])
      have hN400 : N ≤ 400 := by omega
      obtain ⟨-, c0, c1, c2, c3, c4, c5, c6, c7, c8, c9, c10⟩ := hX.out.at_
      clear hO hB hW hM HIN HSM HES hN
      go_wp2_with (at_builtin; refine wpList_append_f typI celI rfl (.tmp 52) (.tmp 59) rfl (w.heap.size + 1) _ l rfl HO2.out (some ⟨wr.heap.size, 0, none⟩) 2 2 (tlN h) (fun h => by cases h) HLZ.out HL2.out rfl HLEN.out HW2.out ?_; intro v2 w2 ho2 hg2; have hbb := (Below.refl (w.heap.size + 1) _).grown hg2 HW2.out (fun k hk => (HO2.out.lt k hk).1); rw [HLA.out] at ho2; obtain ⟨ad2, cap2, rfl, hl2, -, -, -⟩ := ho2.read; rw [← HLN.out]; have HL3 := Lib.hid hl2; have HB3 := Lib.hid (HB2.out.trans (hbb.mono (by omega))); clear ho2 hg2 hbb)
      clear c0 c1 c2 c3 c4 c5 c6 c7 c8 c9 c10 hX HO2 HB2 HW2 HLZ HL2 HLA HLL HAL HTN kc kw HLEN hLl hl HD
      have HSZ2 := Lib.hid HB3.out.size
      generalize allN h = ls at *
      go_loopg [6, 63] N (fun gk v6 v63 wx => ∃ (k B : Nat) (ad' : Option Addr) (cap' : Nat), v63 = .int .i64 k ∧ v6 = .slice ad' B cap' ∧ k + gk = N ∧ B ≤ 10 * k ∧ Hid (B = (encN (ls.take k)).length) ∧ Hid (Own wx w2.heap.size (.slice ad' B cap') (encN (ls.take k))) ∧ Hid (Below w2.heap.size w2 wx))
      case atStart => exact ⟨0, 0, none, 0, rfl, rfl, by omega, by omega, Lib.hid (by rw [List.take_zero]; unfold encN; rfl), Lib.hid (by rw [List.take_zero, show encN [] = [] from by unfold encN; rfl]; exact Own.ofNil _ _), Lib.hid (Below.refl _ _)⟩
      case round =>
        obtain ⟨k, B, ad', cap', rfl, rfl, hk, hBk, hBl, hO, hB⟩ := hrel
        cases gk with
        | zero =>
          obtain rfl : k = N := by omega
          have HF := Lib.hid (show encN (ls.take k) = encH h by rw [List.take_of_length_le (by rw [HLN.out]; exact Nat.le_refl _), HAE.out])
          go_wp2
          go_ret
          exact ⟨_, rfl, by rw [← HF.out]; exact hO.out.mono HSZ2.out, HB3.out.trans (hB.out.mono HSZ2.out)⟩
        | succ gk0 =>
          have hkN : k < N := by omega
          have hkl : k < ls.length := by have := HLN.out; omega
          obtain ⟨b, off, rfl, hlt, hcell⟩ := (HL3.out.below hB.out).get celI hkl
          have e0 : wr.cell? ⟨b, off + k, none⟩ = some (.int .i64 (ls[k])) := by have := hcell 0 _ (by decide) rfl; simpa using this
          obtain ⟨x0, x1⟩ := HOK.out _ (List.getElem_mem hkl)
          have HNX := Lib.hid (encN_at ls k hkl)
          generalize ls[k] = x at *
          clear hcell hlt hkl
          obtain ⟨X, rfl⟩ := Int.eq_ofNat_of_zero_le x0
          rw [Int.toNat_natCast] at HNX
          have HEL := Lib.hid (enc_len X (by omega))
          have HPU := Lib.hid (fun W => puint_any none 0 [] X W (.nil _ _) (fun _ => rfl) (by simp) (by omega))
          go_wp2_with fail
          refine (HPU.out _).mono ?_
          rintro e X3 ⟨v3, rfl, ho3, hb3⟩
          rw [List.nil_append] at ho3
          have HBX := Lib.hid (hB.out.trans (hb3.mono hB.out.size))
          have HOX := Lib.hid (hO.out.below hb3)
          obtain ⟨E, hE⟩ : ∃ E, E = (enc X).length := ⟨_, rfl⟩
          obtain ⟨ad3, cap3, rfl, hl3, -, -, ha3⟩ := ho3.slice
          have HL4 := Lib.hid hl3
          have HA4 := Lib.hid ha3
          have HEE := Lib.hid hE
          have HSM2 := Lib.hid (show (encN (ls.take k)).length + E ≤ 10000000 by have := HEL.out; have := hBl.out; omega)
          have HE10 := Lib.hid (show E ≤ 10 by have := HEL.out; omega)
          have HSZ3 := Lib.hid HBX.out.size
          rw [← hE]
          clear hO hB ho3 hb3 hl3 ha3 hE e0 HPU HEL
          go_wp2_with (at_builtin; refine wpList_append_u rfl (.tmp 67) (.tmp 70) rfl w2.heap.size _ _ rfl HOX.out _ _ _ (enc X) HA4.out HL4.out HEE.out rfl HSM2.out HSZ3.out ?_; intro v6 w6 ho6 hg6; rw [← HNX.out] at ho6; obtain ⟨ad6, cap6, rfl, -⟩ := ho6.slice; have HO6 := Lib.hid ho6; have HB7 := Lib.hid (HBX.out.grown hg6 HBX.out.size (fun k hk => (HOX.out.lt k hk).1)); clear ho6 hg6)
          go_roundg gk0
          case rel => exact ⟨k + 1, B + E, ad6, cap6, by go_num, by rw [HNX.out, List.length_append, ← HEE.out, ← hBl.out], by omega, by have := HE10.out; omega, Lib.hid (by rw [HNX.out, List.length_append, ← HEE.out, ← hBl.out]), by rw [show B + E = (encN (ls.take (k + 1))).length by rw [HNX.out, List.length_append, ← HEE.out, ← hBl.out]]; exact HO6, HB7⟩
          case measure => omega
    | succ gk0 =>
      have hin : i < n := by omega
      have hil : i < h.es.length := by have := HNL.out; omega
      obtain ⟨b, off, rfl, hlt, hcell⟩ := (HIN.out.below hB.out).lf.get celE hil
      have e0 : wr.cell? ⟨b, off + i * 5, none⟩ = _ := hcell 0 _ (by decide) rfl
      have e1 := hcell 1 _ (by decide) rfl
      have e2 := hcell 2 _ (by decide) rfl
      have e3 := hcell 3 _ (by decide) rfl
      have e4 := hcell 4 _ (by decide) rfl
      have HSN := Lib.hid (show h.es.take (i + 1) = h.es.take i ++ [h.es[i]] by rw [List.take_succ_eq_append_getElem hil])
      have HXS := Lib.hid (HES.out _ (List.getElem_mem hil))
      clear hcell hlt
      generalize h.es[i] = x at *
      clear hil
      obtain ⟨o, ho⟩ : ∃ o : Obj, o = .cells #[.int .i64 x.f, .int .i64 x.v, .int .i64 x.o, .int .i64 x.n, .int .u32 (x.s : Int)] 54 := ⟨_, rfl⟩
      have HZ := Lib.hid (show wr.heap.size + 1 = (wr.alloc o).heap.size by simp)
      obtain ⟨M, hM⟩ : ∃ M, M = (x.s : Int) + 4294967296 := ⟨_, rfl⟩
      have HEN := Lib.hid (show enN x = [x.f, x.v, x.o, x.n, M] by rw [hM]; unfold enN; rfl)
      have HLZ := Lib.hid (Lf.lits (c := inC) (wr.alloc o) #[.int .i64 x.f, .int .i64 x.v, .int .i64 x.o, .int .i64 x.n, .int .i64 M] 3 (l := enN x) (by rw [HEN.out]; rfl) _ HZ.out)
      have HO2 := Lib.hid ((hO.out.below (co_box1 wr o)).below (co_box1 _ (.cells #[.int .i64 x.f, .int .i64 x.v, .int .i64 x.o, .int .i64 x.n, .int .i64 M] 3)))
      have HB2 := Lib.hid (hB.out.trans ((co_box2 wr o (.cells #[.int .i64 x.f, .int .i64 x.v, .int .i64 x.o, .int .i64 x.n, .int .i64 M] 3)).mono hB.out.size))
      have HW2 := Lib.hid (show w.heap.size + 1 ≤ ((wr.alloc o).alloc (.cells #[.int .i64 x.f, .int .i64 x.v, .int .i64 x.o, .int .i64 x.n, .int .i64 M] 3)).heap.size by have := hW.out; simp; omega)
      have HX2 := Lib.hid (hX.out.below (co_box2 wr o (.cells #[.int .i64 x.f, .int .i64 x.v, .int .i64 x.o, .int .i64 x.n, .int .i64 M] 3)) hX.out.lt)
      rw [ho] at HLZ HO2 HB2 HW2 HX2
      have kc : IntKind.i64.wrap (x.s : Int) = (x.s : Int) := IntWalk.i64_in _ (by have := HXS.out; omega)
      have kw : IntKind.i64.wrap ((x.s : Int) + 4294967296) = M := by rw [hM]; exact IntWalk.i64_in _ (by have := HXS.out; omega)
      have HLEN := Lib.hid (show l.length + 5 ≤ 10000000 by have := hLl.out; omega)
      have HL5 := Lib.hid (show 5 = (enN x).length by rw [HEN.out]; rfl)
      clear hO hB hW hX ho hM
      go_wp2_with (at_builtin; refine wpList_append_f typI celI rfl (.tmp 36) (.tmp 49) rfl (w.heap.size + 1) _ l rfl HO2.out (some ⟨wr.heap.size + 1, 0, none⟩) 5 5 (enN x) (fun h => by cases h) HLZ.out HL5.out rfl HLEN.out HW2.out ?_; intro v2 w2 ho2 hg2; have hbb := (Below.refl (w.heap.size + 1) _).grown hg2 HW2.out (fun k hk => (HO2.out.lt k hk).1); obtain ⟨ad2, cap2, rfl, -⟩ := ho2.read; have HO3 := Lib.hid ho2; have HB3 := Lib.hid (HB2.out.trans (hbb.mono (by omega))); have HX3 := Lib.hid (HX2.out.below hbb (by omega)); have HW3 := Lib.hid (Nat.le_trans HW2.out hbb.size); clear ho2 hg2 hbb)
      go_roundg gk0
      case rel => exact ⟨i + 1, l ++ enN x, ad2, cap2, L + 5, by go_num, by rw [← hLl.out, ← HL5.out], by omega, by omega, Lib.hid (by rw [List.length_append, ← HL5.out, ← hLl.out]), Lib.hid (by rw [hl.out, HSN.out, List.flatMap_append]; simp), by rw [show L + 5 = (l ++ enN x).length by rw [List.length_append, ← HL5.out, ← hLl.out]]; exact HO3, HB3, HW3, HX3⟩
      case measure => omega
end Go.Proofs.YtjiijjdmkeeilaaDoor
namespace Go.Proofs.YtjiijjdmkeeilaaDoor
open Go.RowKit
set_option linter.unusedVariables false
/-- what a function that is handed to a search over entries owes -/
structure SaysE (fn : Nat) (p : Ent → Bool) : Prop where
  enter : ∀ args w, (callFunc fn args).run Tryd.prog w = .ok (.enter fn args) w
  calls : ∀ (x : Ent) (w : World), x.s < 4294967296 → Calls Tryd.prog fn #[enV x] w fun e w' => e = .returned (.bool (p x)) ∧ Below w.heap.size w w'
set_option maxRecDepth 100000 in
set_option maxHeartbeats 1000000 in
theorem eindex_any (fn : Nat) (p : Ent → Bool) (hp : SaysE fn p) (ad : Option Addr) (n cap : Nat) (l : List Ent) (w : World) (hl : Lf enC w ad l) (hn : n = l.length) (hs : n ≤ 1000000) (hsm : ∀ e ∈ l, e.s < 4294967296) :
    Calls Tryd.prog 100 #[.slice ad n cap, .func (.func fn) #[] #[]] w fun e w' => ∃ r : Int, e = .returned (.int .i64 r) ∧ decide (0 ≤ r) = l.any p ∧ Below w.heap.size w w' := by
  have HL := Lib.hid hl
  have HN := Lib.hid hn
  have HP := Lib.hid hp
  have HSM := Lib.hid hsm
  clear hl hn hp hsm
  go_enter Tryd.func100, Tryd.ntmps100
  go_wp2
  go_loopg [8] n (fun gk vk wx => ∃ k : Nat, vk = .int .i64 k ∧ k + gk = n ∧ Hid (Below w.heap.size w wx) ∧ Hid (∀ j (h : j < l.length), j < k → p l[j] = false))
  case atStart => exact ⟨0, rfl, by omega, Lib.hid (Below.refl _ _), Lib.hid fun j _ hj => by omega⟩
  case round =>
    obtain ⟨k, rfl, hk, hB, hall⟩ := hrel
    cases gk with
    | zero =>
      obtain rfl : k = n := by omega
      have HF := Lib.hid (show l.any p = false by
        rw [List.any_eq_false]
        intro x hx
        obtain ⟨j, hj, rfl⟩ := List.getElem_of_mem hx
        rw [hall.out j hj (by have := HN.out; omega)]; simp)
      go_wp2
      go_ret
      exact ⟨-1, rfl, by rw [HF.out]; rfl, hB.out⟩
    | succ gk0 =>
      have hkn : k < n := by omega
      have hkl : k < l.length := by have := HN.out; omega
      obtain ⟨b, off, rfl, hlt, hcell⟩ := (HL.out.below hB.out).get celE hkl
      have e0 : wr.cell? ⟨b, off + k * 5, none⟩ = _ := hcell 0 _ (by decide) rfl
      have e1 := hcell 1 _ (by decide) rfl
      have e2 := hcell 2 _ (by decide) rfl
      have e3 := hcell 3 _ (by decide) rfl
      have e4 := hcell 4 _ (by decide) rfl
      have HNX : p l[k] = false → Hid (∀ j (h : j < l.length), j < k + 1 → p l[j] = false) := fun hc => Lib.hid fun j h hj => by
        rcases Nat.lt_or_ge j k with h3 | h3
        · exact hall.out j h h3
        · obtain rfl : j = k := by omega
          exact hc
      have HNO : p l[k] = true → Hid (l.any p = true) := fun hc => Lib.hid (List.any_eq_true.2 ⟨l[k], List.getElem_mem hkl, hc⟩)
      have HXS := Lib.hid (HSM.out _ (List.getElem_mem hkl))
      clear hcell hlt
      generalize l[k] = x at *
      clear hkl
      go_wp2_with fail
      rw [HP.out.enter]
      refine (HP.out.calls x _ HXS.out).mono ?_
      rintro e w5 ⟨rfl, hb⟩
      have HB5 := Lib.hid (hB.out.trans (hb.mono hB.out.size))
      clear hb e0 e1 e2 e3 e4
      cases hok : p x
      · have HR := HNX hok
        clear HNX HNO hok
        go_wp2
        go_roundg gk0
        case rel => exact ⟨k + 1, by go_num, by omega, HB5, HR⟩
        case measure => omega
      · have HR := HNO hok
        clear HNX HNO hok
        go_wp2
        go_ret
        exact ⟨(k : Int), rfl, by rw [HR.out]; exact decide_eq_true (by omega), HB5.out⟩
set_option maxRecDepth 100000 in
set_option maxHeartbeats 1000000 in
theorem econtains_any (fn : Nat) (p : Ent → Bool) (hp : SaysE fn p) (ad : Option Addr) (n cap : Nat) (l : List Ent) (w : World) (hl : Lf enC w ad l) (hn : n = l.length) (hs : n ≤ 1000000) (hsm : ∀ e ∈ l, e.s < 4294967296) :
    Calls Tryd.prog 79 #[.slice ad n cap, .func (.func fn) #[] #[]] w fun e w' => e = .returned (.bool (l.any p)) ∧ Below w.heap.size w w' := by
  have HX := Lib.hid (eindex_any fn p hp ad n cap l w hl hn hs hsm)
  clear hp hl hn hsm
  generalize l.any p = A at *
  go_enter Tryd.func79, Tryd.ntmps79
  go_wp2_with fail
  refine HX.out.mono ?_
  clear HX
  rintro e w1 ⟨r, rfl, hr, hb⟩
  have HR := Lib.hid hr
  clear hr
  go_wp2
  go_ret
  exact ⟨by rw [← HR.out]; rfl, hb⟩
end Go.Proofs.YtjiijjdmkeeilaaDoor
