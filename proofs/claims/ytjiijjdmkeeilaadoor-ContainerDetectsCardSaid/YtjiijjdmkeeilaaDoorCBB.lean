/-
  A loop over an iterator whose rounds may know of what they are handed ('Kn'): the iterator owes it at each call of yield; no round leaves early.
  The parts of bytes, as plain mathematics; a part of bytes that lie.
  The library's iterator over the parts of a slice of bytes.
  Laws of wpList for builtins and makes, used inside a loop over an iterator.
-/
import Derived.Test.YtjiijjdmkeeilaaDoorCAA
import Derived.RangeFuncNested
import Derived.RangeFuncBound
import Derived.RangeFuncCalls
import Derived.RangeFuncLeaves
import Derived.Shelf.Abstract
import Derived.Shelf.RegionOpen
import Derived.WalkKit
import Derived.OwnWalkIn
import Derived.TacticsInMore
import Derived.LoopNIn
import Derived.LoopIn
import Derived.BigRegionIn
namespace Go.Proofs.YtjiijjdmkeeilaaDoor
open Go.RowKit
set_option linter.unusedVariables false

/-- An iterator that hands out the elements of a list that S allows, each with what Kn says of it at that time. -/
def SeqKn {α : Type} (F : Fence) (n : Nat) (P : Program) (gf : Nat) (lb : Array Value) (encs : α → Array Value) (Kn : α → World → Prop) (Kp : World → World → Prop) (S : List α → Prop) (N : Nat) (w : World) : Prop :=
  ∀ (l : Nat) (J : List α → World → Prop) (W : World), Below w.heap.size w W → AbidesFrom W.heap.size J →
    (∀ pre x W1, J pre W1 → Kn x W1 → pre.length < N → YieldAt F (n - 1) P l (encs x) W1 fun e W' => e = .returned (.bool true) ∧ J (pre ++ [x]) W' ∧ Kp W1 W') → J [] W →
    CallsIn F n P gf (#[.func (.yield l) #[] #[]] ++ lb) W fun e W' => (∃ v, e = .returned v) ∧ ∃ xs, S xs ∧ J xs W'

/-- How a round's body is left: at its end. -/
def Goes (B : Nat) (Kp : World → World → Prop) (I : World → Prop) (W : World) : Exit → Act → World → Prop
  | .normal, _, W' => KeepsFrom B W W' ∧ Kp W W' ∧ I W'
  | _, _, _ => False

theorem wpIn_seqKn {F : Fence} {n : Nat} {P : Program} {α : Type} {g : Operand} {ps : Array Tmp} {assign body : Code} {Q : Exit → Act → World → Prop} {a : Act} {w : World}
    (hro : F.round = none) (h1 : 1 ≤ n) {gf : Nat} {lb : Array Value} (hg : a.eval g = .func (.func gf) #[] lb) (hFg : F.fn gf) (eg : ∀ args w, (callFunc gf args).run P w = .ok (.enter gf args) w)
    {encs : α → Array Value} {Kn : α → World → Prop} {Kp : World → World → Prop} {S : List α → Prop} {N : Nat} (hseq : SeqKn F (n - 1) P gf lb encs Kn Kp S N w)
    (hKt : ∀ {A B C : World}, Kp A B → Kp B C → Kp A C) (hKb : ∀ (W : World) (l : Nat) (o o' : Obj), w.heap.size ≤ l → W.heap[l]? = some o → o.isCells = false → Kp W (W.putObj l o'))
    (hps : ∀ x, (encs x).size = ps.size) (I : List α → World → Prop) (hI : OwnFrom w.heap.size I) (hKn : ∀ x, OwnFrom w.heap.size (fun (_ : Unit) W => Kn x W)) (h0 : I [] w) (a₁ : α → Act)
    (hassign : ∀ (l : Nat) (x : α) (W : World) (K : Act → World → Prop), K (a₁ x) W →
      assign.wpIn (F.inRound l) (n - 1 - 1) P (Exit.then K (fun _ _ _ => False)) { tmps := (ps.zip (encs x)).foldl (fun t (p, v) => t.setIfInBounds p v) a.tmps, defers := [] } W)
    (hbody : ∀ (l : Nat) (pre : List α) (x : α) (W : World), I pre W → Kn x W → pre.length < N → body.wpIn (F.inRound l) (n - 1 - 1) P (Goes w.heap.size Kp (I (pre ++ [x])) W) (a₁ x) W)
    (hdone : ∀ (xs : List α) (W : World), S xs → I xs W → W.heap[w.heap.size]? = some (.deferred (some [])) → Q .normal { a with defers := { target := .collected w.heap.size, args := #[] } :: a.defers } W) :
    (Code.rangeFunc g ps assign body).wpIn F n P Q a w := by
  refine wpIn_rangeFunc fun fn hfn => ?_
  rw [hro]
  -- the loop's record, by its state
  obtain ⟨rec, hrec⟩ : ∃ rec : LoopState → Loop, rec = fun st => { state := st, pending := none, fn, tmps := a.tmps, params := ps, assign, body, defers := w.heap.size } := ⟨_, rfl⟩
  have hsz1 : (w.alloc (.deferred (some []))).heap.size = w.heap.size + 1 := World.size_alloc ..
  have hbel : Below w.heap.size w ((w.alloc (.deferred (some []))).alloc (.loop (rec .ready))) := ((Below.refl _ w).alloc (Nat.le_refl _) _).alloc (by rw [hsz1]; omega) _
  have hL := World.alloc_heap_new (w.alloc (.deferred (some []))) (.loop (rec .ready))
  rw [hsz1] at hL
  have hD : ((w.alloc (.deferred (some []))).alloc (.loop (rec .ready))).heap[w.heap.size]? = some (.deferred (some [])) :=
    (Below.heap_alloc _ _ _ (by rw [hsz1]; omega)).trans (World.alloc_heap_new w _)
  have hIs : I [] ((w.alloc (.deferred (some []))).alloc (.loop (rec .ready))) := hI.alloc _ (hI.alloc _ h0)
  refine ⟨w.heap.size + 1, [{ target := .collected w.heap.size, args := #[] }], (w.alloc (.deferred (some []))).alloc (.loop (rec .ready)), { target := .fn (.func gf) lb, args := #[.func (.yield (w.heap.size + 1)) #[] #[]] },
    (w.alloc (.deferred (some []))).alloc (.loop (rec .ready)), gf, #[.func (.yield (w.heap.size + 1)) #[] #[]] ++ lb, (w.alloc (.deferred (some []))).alloc (.loop (rec .ready)), by rw [hrec]; exact run_enterLoop_outer _ _ _ _ _, by simp only [resolve, hg]; simp [go_sem],
    fun f' hf' => by simp [Target.leads] at hf'; subst hf'; exact hFg, by simp [invoke, go_sem, eg], fun _ => h1, ?_⟩
  generalize (w.alloc (.deferred (some []))).alloc (.loop (rec .ready)) = W1 at hbel hL hD hIs
  have hsz : w.heap.size + 2 ≤ W1.heap.size := by have := (Array.getElem?_eq_some_iff.1 hL).1; omega
  -- what the law keeps for itself beside the caller's invariant
  refine (hseq (w.heap.size + 1) (fun pre W => I pre W ∧ W.heap[w.heap.size + 1]? = some (.loop (rec .ready)) ∧ W.heap[w.heap.size]? = some (.deferred (some []))) W1 hbel ?_ ?_ ⟨hIs, hL, hD⟩).mono ?_
  · intro s X Y row hs hgr hr
    refine ⟨hI s X Y row hs.1 hgr fun r e => ?_, (grownBy_keeps hgr (fun r e => (hr r e).2) hs.2.1 rfl).trans hs.2.1, (grownBy_keeps hgr (fun r e => (hr r e).2) hs.2.2 rfl).trans hs.2.2⟩
    obtain ⟨hle, o, ho, hw⟩ := hr r e
    exact ⟨by omega, o, ho, Obj.not_cells_of_walk hw⟩
  · rintro pre x W ⟨hi, hl, hd⟩ hk hN
    have hlt : w.heap.size + 1 < W.heap.size := (Array.getElem?_eq_some_iff.1 hl).1
    have hrun := run_yield (P := P) (args := encs x) hl (by rw [hrec]; exact hps x)
    have hbeg := run_beginRound (P := P) hl (by rw [hrec])
    rw [hrec] at hrun hbeg
    refine ⟨fn, _, assign, body, hrun, roundIn_of_wpIn hfn (hassign _ x W _ ⟨_, hbeg, ?_⟩)⟩
    have hbusy : ∀ st, ({ rec .ready with state := st } : Loop) = rec st := fun st => by rw [hrec]
    have hi2 := hI.putObj (Obj.loop (rec .busy)) hi (Nat.le_succ _) hl rfl
    have hk2 := (hKn x).putObj (s := ()) (Obj.loop (rec .busy)) hk (Nat.le_succ _) hl rfl
    have hp2 : Kp W (W.putObj (w.heap.size + 1) (.loop (rec .busy))) := hKb W _ _ _ (Nat.le_succ _) hl rfl
    have hl2 : (W.putObj (w.heap.size + 1) (.loop (rec .busy))).heap[w.heap.size + 1]? = some (.loop (rec .busy)) := World.putObj_heap_same hlt
    have hd2 : (W.putObj (w.heap.size + 1) (.loop (rec .busy))).heap[w.heap.size]? = some (.deferred (some [])) := (World.putObj_heap_other (by omega)).trans hd
    have hb := hbody (w.heap.size + 1) pre x _ hi2 hk2 hN
    rw [← hbusy .busy, hrec] at hb
    refine wpIn_mono hb ?_
    rintro e a3 W3 hp
    cases e with
    | normal =>
      obtain ⟨hkf, hkp, hi3⟩ := hp
      have e2 : ({ (fun st => { state := st, pending := none, fn := fn, tmps := a.tmps, params := ps, assign := assign, body := body, defers := w.heap.size } : LoopState → Loop) .ready with state := .busy } : Loop) = rec .busy := by rw [hrec]
      rw [e2] at hkf hkp
      have hl3 := hkf.same _ _ (Nat.le_succ _) hl2 rfl
      have hd3 := hkf.same _ _ (Nat.le_refl _) hd2 rfl
      have hend := run_endRound (P := P) none hl3
      have hlt3 : w.heap.size + 1 < W3.heap.size := (Array.getElem?_eq_some_iff.1 hl3).1
      rw [hrec] at hend
      refine ⟨_, _, hend, rfl, ⟨hI.putObj _ hi3 (Nat.le_succ _) hl3 rfl, ?_, (World.putObj_heap_other (by omega)).trans hd3⟩, hKt hp2 (hKt hkp (hKb _ _ _ _ (Nat.le_succ _) hl3 rfl))⟩
      rw [World.putObj_heap_same hlt3, hrec]
      simp
    | ret => exact hp.elim
    | exit id => exact hp.elim
    | goto t => exact hp.elim
    | panic ch => exact hp.elim
    | outgrown => exact hp.elim
  · rintro e W2 ⟨⟨v, rfl⟩, xs, hS, hi, hl, hd⟩
    have hend := run_endLoop (P := P) hl (by rw [hrec]; simp)
    rw [hrec] at hend
    exact ⟨none, _, hend, hdone xs _ hS (hI.putObj _ hi (Nat.le_succ _) hl rfl) ((World.putObj_heap_other (by omega)).trans hd)⟩
end Go.Proofs.YtjiijjdmkeeilaaDoor
namespace Go.Proofs.YtjiijjdmkeeilaaDoor
open Go.RowKit
/-- the parts of s bytes each -/
def partsF (s : Nat) (xs : List UInt8) : List (List UInt8) :=
  if _h : 1 ≤ s ∧ 0 < xs.length then xs.take s :: partsF s (xs.drop s) else []
termination_by xs.length
decreasing_by rw [List.length_drop]; omega
theorem parts_nil (s : Nat) (xs : List UInt8) (h : ¬ 0 < xs.length) : partsF s xs = [] := by rw [partsF, dif_neg (by omega)]
theorem parts_cons (s : Nat) (xs : List UInt8) (h1 : 1 ≤ s) (h : 0 < xs.length) : partsF s xs = xs.take s :: partsF s (xs.drop s) := by rw [partsF, dif_pos ⟨h1, h⟩]
theorem take_min (s : Nat) (xs : List UInt8) (c : Nat) (hc : c = min s xs.length) : xs.take s = xs.take c := by
  subst hc
  rw [List.take_eq_take_iff]; omega
theorem parts_take (s i c : Nat) (xs : List UInt8) (h1 : 1 ≤ s) (hi : i < xs.length) (hc : c = min s (xs.length - i)) : partsF s (xs.drop i) = (xs.drop i).take c :: partsF s (xs.drop (i + s)) := by
  rw [parts_cons s _ h1 (by rw [List.length_drop]; omega), take_min s _ c (by rw [List.length_drop]; exact hc), List.drop_drop]
theorem parts_next (s i c : Nat) (xs : List UInt8) (h1 : 1 ≤ s) (hi : i < xs.length) (hc : c = min s (xs.length - i)) : partsF s (xs.drop i) = (xs.drop i).take c :: partsF s (xs.drop (i + c)) := by
  rw [parts_take s i c xs h1 hi hc]
  by_cases h : s ≤ xs.length - i
  · rw [show c = s by omega]
  · rw [parts_nil s _ (by rw [List.length_drop]; omega), parts_nil s _ (by rw [List.length_drop]; omega)]
theorem parts_end (s i : Nat) (xs : List UInt8) (h : xs.length ≤ i) : partsF s (xs.drop i) = [] := parts_nil s _ (by rw [List.length_drop]; omega)
theorem part_len (i c : Nat) (xs : List UInt8) (h : i + c ≤ xs.length) : c = ((xs.drop i).take c).length := by rw [List.length_take, List.length_drop]; omega
theorem Lie.sub {w : World} {b off : Nat} {xs : List UInt8} (h : Lie w (some ⟨b, off, none⟩) xs) (i c : Nat) : Lie w (some ⟨b, off + i, none⟩) ((xs.drop i).take c) := by
  rcases h.at_ with h0 | ⟨b', off', h1, hlt, hc⟩
  · subst h0; exact ⟨.inl (by simp)⟩
  · cases h1
    exact ⟨.inr ⟨b, off + i, rfl, hlt, fun j hj => by
      have hj' : i + j < xs.length := by rw [List.length_take, List.length_drop] at hj; omega
      have := hc (i + j) hj'
      rw [Nat.add_assoc, this]; simp⟩⟩
end Go.Proofs.YtjiijjdmkeeilaaDoor
namespace Go.Proofs.YtjiijjdmkeeilaaDoor
open Go.RowKit Go.Shelf
set_option linter.unusedVariables false
set_option linter.unusedSimpArgs false
attribute [local go_sem] Oper.semAt_some
theorem grown_of_below {w w' : World} (hb : Below w.heap.size w w') : w.grownBy w' none := ⟨hb.os, hb.tape, hb.output, hb.size, fun k hk _ => hb.block k hk⟩
/-- What the iterator hands out: a slice, and the bytes that it holds. -/
structure Pt where
  ad : Option Addr
  N : Nat
  cap : Nat
  l : List UInt8
abbrev Pt.encs (x : Pt) : Array Value := #[.slice x.ad x.N x.cap]
/-- what is known of it -/
def PtKn (w00 : World) (x : Pt) (_ : World) : Prop := Lie w00 x.ad x.l ∧ x.N = x.l.length ∧ x.N ≤ 1000000
/-- what a round keeps -/
def PtKp (n₀ bb nb : Nat) (b : Value) (s : Int) (W W' : World) : Prop := Below n₀ W W' ∧ (Boxed W bb 26 b → Boxed W' bb 26 b) ∧ (Boxed W nb 3 (.int .i64 s) → Boxed W' nb 3 (.int .i64 s))
def PtS (s : Nat) (xs : List UInt8) (ys : List Pt) : Prop := ys.map (·.l) = partsF s xs
theorem ptKp_put {n₀ bb nb : Nat} {b : Value} {s : Int} {w : World} (hn : n₀ ≤ w.heap.size) (W : World) (l : Nat) (o o' : Obj) (hl : w.heap.size ≤ l) (h : W.heap[l]? = some o) (hc : o.isCells = false) : PtKp n₀ bb nb b s W (W.putObj l o') := by
  have hx : ∀ {B t u}, Boxed W B t u → Boxed (W.putObj l o') B t u := fun {B t u} hb => hb.kept (grownBy_putObj' W l o') (fun e => by
    cases e
    rw [show W.heap[l]? = _ from hb] at h
    cases h
    cases hc)
  exact ⟨(Below.refl n₀ W).grown (grownBy_putObj' W l o') (by have := (Array.getElem?_eq_some_iff.1 h).1; omega) (fun k e => by cases e; omega), hx, hx⟩
set_option maxRecDepth 100000 in
set_option maxHeartbeats 400000 in
theorem chunk_any (n : Nat) (ad : Option Addr) (N cap : Nat) (s : Int) (w : World) (h : 1 ≤ s) :
    CallsIn Fence.wide n Tryd.prog 73 #[.slice ad N cap, .int .i64 s] w fun e w' => e = .returned (.func (.func 95) #[] #[.pointer (some ⟨w.heap.size, 0, none⟩), .pointer (some ⟨w.heap.size + 1, 0, none⟩)]) ∧
      w' = (w.alloc (.cells #[.slice ad N cap] 26)).alloc (.cells #[.int .i64 s] 3) := by
  have h1 : ¬ s < 1 := by omega
  refine callsIn_of_wp Tryd.func73 rfl trivial ?_ rfl
  simp only [Tryd.ntmps73, List.size_toArray, List.length_cons, List.length_nil, Nat.reduceAdd, Nat.reduceSub, Array.replicate_succ, Array.replicate_zero, List.push_toArray, List.append_toArray, List.nil_append, List.cons_append]
  gi_wp2
  go_ret
  exact ⟨rfl, rfl⟩

set_option maxRecDepth 100000 in
set_option maxHeartbeats 1000000 in
theorem chunk1_kn (m : Nat) (ad : Option Addr) (n cap s bb nb : Nat) (xs : List UInt8) (w00 w : World) (hl : Lie w00 ad xs) (hn : n = xs.length) (hs : n ≤ 1000000) (hc : n ≤ cap) (hcm : cap ≤ maxLen) (hs1 : 1 ≤ s) (hs2 : (s : Int) ≤ 9223372036854775807)
    (h00 : Below w00.heap.size w00 w) (hbb : Boxed w bb 26 (.slice ad n cap)) (hnb : Boxed w nb 3 (.int .i64 s)) :
    SeqKn Fence.wide m Tryd.prog 95 #[.pointer (some ⟨bb, 0, none⟩), .pointer (some ⟨nb, 0, none⟩)] Pt.encs (PtKn w00) (PtKp w00.heap.size bb nb (.slice ad n cap) s) (PtS s xs) n w := by
  intro l J W hW hJ hY h0
  unfold maxLen at hcm
  have HN := Lib.hid hn
  have HY := Lib.hid hY
  have HJ := Lib.hid hJ
  have HL := Lib.hid hl
  have hB0 : Below w00.heap.size w00 W := h00.trans (hW.mono h00.size)
  have HBX : Hid (Boxed W bb 26 (.slice ad n cap)) := Lib.hid ((hW.block bb hbb.lt).trans hbb)
  have HNX : Hid (Boxed W nb 3 (.int .i64 s)) := Lib.hid ((hW.block nb hnb.lt).trans hnb)
  have HB0 := Lib.hid hB0
  have H0 := Lib.hid h0
  have HS1 := Lib.hid hs1
  clear hn hY hJ hl hbb hnb hB0 h0 h00 hW
  refine callsIn_of_wp Tryd.func95 rfl trivial ?_ rfl
  simp only [Tryd.ntmps95, List.size_toArray, List.length_cons, List.length_nil, Nat.reduceAdd, Nat.reduceSub, Array.replicate_succ, Array.replicate_zero, List.push_toArray, List.append_toArray, List.nil_append, List.cons_append]
  gi_wp2
  gi_loopw [4] (fun u4 wr => ∃ (ys : List Pt) (i : Nat), u4 = .int .i64 i ∧ (i = 0 ∨ s ≤ i) ∧ ys.length ≤ i ∧ (i : Int) ≤ 9223372036854775807 ∧ Hid (ys.map (·.l) ++ partsF s (xs.drop i) = partsF s xs) ∧ Hid (J ys wr) ∧ Hid (Boxed wr bb 26 (.slice ad n cap)) ∧ Hid (Boxed wr nb 3 (.int .i64 s)) ∧ Hid (Below w00.heap.size w00 wr))
    (fun i _ => n - (intOf i).toNat)
  case atStart => exact ⟨[], 0, rfl, .inl rfl, by simp, by omega, Lib.hid (by simp), H0, HBX, HNX, HB0⟩
  case round =>
    obtain ⟨ys, i, rfl, his, hyl, himax, hp, hj, hbx, hnx, hb⟩ := hrel
    by_cases hlt : i < n
    · have hix : i < xs.length := by have := HN.out; omega
      obtain ⟨b, off, rfl⟩ : ∃ b off, ad = some ⟨b, off, none⟩ := by
        rcases HL.out.at_ with h0 | ⟨b, off, e, _⟩
        · rw [h0] at hix; simp at hix
        · exact ⟨b, off, e⟩
      have hc1 := hbx.out.cell
      have hc2 := hnx.out.cell
      obtain ⟨c, hcc⟩ : ∃ c, c = min s (xs.length - i) := ⟨_, rfl⟩
      have HTX := Lib.hid (parts_take s i c xs HS1.out hix hcc)
      have hcn : i + c ≤ n := by have := HN.out; omega
      have hcp : 1 ≤ c := by have := HN.out; have := HS1.out; omega
      have hcase : (c = s ∧ (s : Int) ≤ ((n - i : Nat) : Int)) ∨ (n - i = c ∧ (c : Int) < (s : Int)) := by have := HN.out; omega
      have HPL := Lib.hid (part_len i c xs (by have := HN.out; omega))
      have HSUB := Lib.hid (HL.out.sub i c)
      have hj0 : (0 : Int) ≤ (i : Int) := by omega
      have hj1 : (i : Int) < (n : Int) := by omega
      have hj2 : (i : Int) ≤ (n : Int) := by omega
      have hck : cap - i ≠ 0 := by omega
      have hck2 : ¬ cap = i := by omega
      have g1 : (i : Int) ≤ (cap : Int) := by omega
      have g2 : (i : Int) + (c : Int) ≤ (cap : Int) := by omega
      have hic : i + c - i = c := by omega
      have HPM : Hid ((ys.map (·.l) ++ [(xs.drop i).take c]) ++ partsF s (xs.drop (i + s)) = partsF s xs) := Lib.hid (by rw [← hp.out, HTX.out]; simp)
      obtain ⟨fn, tmps, assign, body, hy, hR⟩ := HY.out ys ⟨some ⟨b, off + i, none⟩, c, c, (xs.drop i).take c⟩ wr.drew (HJ.out ys wr wr.drew none hj.out (grown_of_below (Below.refl _ _).drew) (by simp)) ⟨HSUB.out, HPL.out, by show c ≤ 1000000; omega⟩ (by omega)
      dsimp only [Pt.encs] at hy
      have HB4 := Lib.hid hb.out.drew
      have HBX4 : Hid (Boxed wr.drew bb 26 (.slice (some ⟨b, off, none⟩) n cap)) := Lib.hid hbx.out
      have HNX4 : Hid (Boxed wr.drew nb 3 (.int .i64 s)) := Lib.hid hnx.out
      have hd1 := HBX4.out.cell
      have hd2 := HNX4.out.cell
      have hcap : i + c ≤ cap := by omega
      clear hcc hp hj
      rcases hcase with ⟨hcs, hcl⟩ | ⟨hcs, hcl⟩
      · subst hcs
        gi_wp2_with fail
        gi_big_region
        gi_wp2
        refine ⟨(fun h => by cases h), hR.mono ?_⟩
        rintro e3 W3 ⟨rfl, hJ3, hk3⟩
        have HBX3 := Lib.hid (hk3.2.1 HBX4.out)
        have HNX3 := Lib.hid (hk3.2.2 HNX4.out)
        have hc3 := HNX3.out.cell
        have HB3 := Lib.hid (HB4.out.trans hk3.1)
        have HJ3 := Lib.hid hJ3
        clear hy hR hJ3 hk3 hd1 hd2 hc1 hc2
        gi_wp2
        go_roundw
        case rel => exact ⟨ys ++ [⟨some ⟨b, off + i, none⟩, c, c, (xs.drop i).take c⟩], i + c, by go_num, .inr (by omega), by rw [List.length_append, List.length_singleton]; omega, by omega, Lib.hid (by rw [List.map_append]; exact HPM.out), HJ3, HBX3, HNX3, HB3⟩
        case measure => simp [intOf]; omega
      · have hwi : IntKind.i64.wrap ((i : Int) + (s : Int)) = (i : Int) + (s : Int) := by rw [IntKind.wrap_i64]; omega
        gi_wp2_with fail
        gi_big_region
        gi_wp2
        refine ⟨(fun h => by cases h), hR.mono ?_⟩
        rintro e3 W3 ⟨rfl, hJ3, hk3⟩
        have HBX3 := Lib.hid (hk3.2.1 HBX4.out)
        have HNX3 := Lib.hid (hk3.2.2 HNX4.out)
        have hc3 := HNX3.out.cell
        have HB3 := Lib.hid (HB4.out.trans hk3.1)
        have HJ3 := Lib.hid hJ3
        clear hy hR hJ3 hk3 hd1 hd2 hc1 hc2
        gi_wp2
        go_roundw
        case rel => exact ⟨ys ++ [⟨some ⟨b, off + i, none⟩, c, c, (xs.drop i).take c⟩], i + s, by go_num, .inr (by omega), by rw [List.length_append, List.length_singleton]; omega, by omega, Lib.hid (by rw [List.map_append]; exact HPM.out), HJ3, HBX3, HNX3, HB3⟩
        case measure => simp [intOf]; omega
    · have HF : Hid (ys.map (·.l) = partsF s xs) := Lib.hid (by have h := hp.out; rw [parts_end s i xs (by have := HN.out; omega)] at h; rw [← h]; simp)
      have hge : (n : Int) ≤ (i : Int) := by omega
      have hc1 := hbx.out.cell
      have hc2 := hnx.out.cell
      gi_wp2
      go_end0
      exact ⟨⟨_, rfl⟩, ys, HF.out, hj.out⟩
end Go.Proofs.YtjiijjdmkeeilaaDoor
namespace Go.Proofs.YtjiijjdmkeeilaaDoor
open Go.RowKit
set_option linter.unusedVariables false
theorem value_only {P : Program} {s : Sem Value} {w w' : World} {nx : Next} (h : (do pure (Next.value (← s)) : Sem Next).run P w = .ok nx w') : (∃ v, nx = .value v) ∨ nx = .skip := by
  rw [Sem.run_bind] at h
  cases hs : s.run P w with
  | ok v w1 =>
    rw [hs] at h
    simp only [Result.andThen_ok, Sem.run_pure] at h
    cases h
    exact .inl ⟨v, rfl⟩
  | halt e w1 =>
    rw [hs] at h
    cases h
theorem in_of_list {F : Fence} {n : Nat} {P : Program} {ops : Array Oper} {w : World} {o : Oper} {a : Act} {K : Act → World → Prop} {Q : Exit → Act → World → Prop} (hF : ∀ f, F.fn f) (hgd : o.guard = none) (hdef : ∀ c, o.op ≠ .defer c)
    (hval : ∀ nx w', (execOp a.eval o).run P w = .ok nx w' → (∃ v, nx = .value v) ∨ nx = .skip) (h : wpList P ops (fun e a' w' => e = .normal ∧ K a' w') [o] a w) : o.wpIn F n P a w K Q := by
  refine ⟨fun f _ => hF f, ?_⟩
  rw [Oper.semAt_plain F a.eval o hdef]
  unfold wpList at h
  have hw : Region.wanted o (yielded ops a.tmps) = true := by unfold Region.wanted; rw [hgd]
  rw [if_pos hw] at h
  unfold Oper.wp at h
  replace h := h.resolve_right (fun hx => by obtain ⟨_, _, _, hn, _⟩ := hx; cases hn)
  cases hr : (execOp a.eval o).run P w with
  | ok nx w1 =>
    rw [hr] at h
    rcases hval nx w1 hr with ⟨v, rfl⟩ | rfl
    · have h2 : Exit.normal = .normal ∧ K (a.put o.dst v) w1 := h
      exact h2.2
    · have h2 : Exit.normal = .normal ∧ K (a.put o.dst undef) w1 := h
      exact h2.2
  | halt e w1 =>
    rw [hr] at h
    cases e with
    | panic v =>
      have h2 : Exit.panic _ = .normal ∧ K _ _ := h
      cases h2.1
    | _ => exact (show False from h).elim
theorem in_builtin {F : Fence} {n : Nat} {P : Program} {ops : Array Oper} {w : World} {o : Oper} {a : Act} {K : Act → World → Prop} {Q : Exit → Act → World → Prop} (hF : ∀ f, F.fn f) (hgd : o.guard = none) {b : Builtin} {xs : Array Operand} {ts : Array TypeId} (ho : o.op = .call { callee := .builtin b, args := xs, argTypes := ts })
    (hb : b = .append ∨ b = .copy) (h : wpList P ops (fun e a' w' => e = .normal ∧ K a' w') [o] a w) : o.wpIn F n P a w K Q := by
  refine in_of_list hF hgd (fun c hc => by rw [ho] at hc; cases hc) (fun nx w' hr => ?_) h
  unfold execOp at hr
  rcases hb with rfl | rfl <;> (simp only [ho, resolve, invoke, builtin] at hr; simp only [Sem.run_bind, Sem.run_pure, Result.andThen_ok] at hr; exact value_only (by rw [Sem.run_bind]; exact hr))
theorem in_make {F : Fence} {n : Nat} {P : Program} {ops : Array Oper} {w : World} {o : Oper} {a : Act} {K : Act → World → Prop} {Q : Exit → Act → World → Prop} (hF : ∀ f, F.fn f) (hgd : o.guard = none) {t : TypeId} {x y : Operand} (ho : o.op = .makeSlice t x y)
    (h : wpList P ops (fun e a' w' => e = .normal ∧ K a' w') [o] a w) : o.wpIn F n P a w K Q := by
  refine in_of_list hF hgd (fun c hc => by rw [ho] at hc; cases hc) (fun nx w' hr => ?_) h
  unfold execOp at hr
  simp only [ho] at hr
  exact value_only hr
end Go.Proofs.YtjiijjdmkeeilaaDoor
