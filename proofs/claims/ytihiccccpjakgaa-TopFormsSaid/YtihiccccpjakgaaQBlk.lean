/-
  The parts of a string, as plain mathematics; how a list of the call's own is kept.
  How many parts a string has, and which bytes each part holds.
  A loop over an iterator whose rounds may know of what they are handed ('Kn'): the iterator owes it at each call of yield; no round leaves early.
  The library's iterator over the parts of a slice of bytes.
  The leaves of the parts of a string, by the program.
-/
import Derived.Test.YtihiccccpjakgaaNLeaf
import Derived.Test.YtihiccccpjakgaaNLin
import Derived.RangeFuncNested
import Derived.RangeFuncBound
import Derived.RangeFuncCalls
import Derived.RangeFuncLeaves
import Derived.Shelf.Abstract
import Derived.Shelf.RegionOpen
import Derived.WalkKit
import Derived.OwnWalkIn
import Derived.TacticsInMore
import Derived.LoopNIn
import Derived.LoopIn
import Derived.BigRegionIn
namespace Go.Proofs.Ytihiccccpjakgaa
open Go.RowKit
/-- the parts of s bytes each -/
def partsF (s : Nat) (xs : List UInt8) : List (List UInt8) :=
  if _h : 1 ≤ s ∧ 0 < xs.length then xs.take s :: partsF s (xs.drop s) else []
termination_by xs.length
decreasing_by rw [List.length_drop]; omega
theorem parts_nil (s : Nat) (xs : List UInt8) (h : ¬ 0 < xs.length) : partsF s xs = [] := by rw [partsF, dif_neg (by omega)]
theorem parts_cons (s : Nat) (xs : List UInt8) (h1 : 1 ≤ s) (h : 0 < xs.length) : partsF s xs = xs.take s :: partsF s (xs.drop s) := by rw [partsF, dif_pos ⟨h1, h⟩]
theorem take_min (s : Nat) (xs : List UInt8) (c : Nat) (hc : c = min s xs.length) : xs.take s = xs.take c := by
  subst hc
  rw [List.take_eq_take_iff]; omega
theorem parts_take (s i c : Nat) (xs : List UInt8) (h1 : 1 ≤ s) (hi : i < xs.length) (hc : c = min s (xs.length - i)) : partsF s (xs.drop i) = (xs.drop i).take c :: partsF s (xs.drop (i + s)) := by
  rw [parts_cons s _ h1 (by rw [List.length_drop]; omega), take_min s _ c (by rw [List.length_drop]; exact hc), List.drop_drop]
theorem parts_next (s i c : Nat) (xs : List UInt8) (h1 : 1 ≤ s) (hi : i < xs.length) (hc : c = min s (xs.length - i)) : partsF s (xs.drop i) = (xs.drop i).take c :: partsF s (xs.drop (i + c)) := by
  rw [parts_take s i c xs h1 hi hc]
  by_cases h : s ≤ xs.length - i
  · rw [show c = s by omega]
  · rw [parts_nil s _ (by rw [List.length_drop]; omega), parts_nil s _ (by rw [List.length_drop]; omega)]
theorem parts_end (s i : Nat) (xs : List UInt8) (h : xs.length ≤ i) : partsF s (xs.drop i) = [] := parts_nil s _ (by rw [List.length_drop]; omega)
theorem part_len (i c : Nat) (xs : List UInt8) (h : i + c ≤ xs.length) : c = ((xs.drop i).take c).length := by rw [List.length_take, List.length_drop]; omega
/-- the leaves of the parts -/
def blkU (xs : List UInt8) (size : Int) : List UInt64 := if size < 1 then [] else (partsF size.toNat xs).map leafU
theorem blkU_no (xs : List UInt8) (size : Int) (h : size < 1) : blkU xs size = [] := if_pos h
theorem blkU_yes (xs : List UInt8) (s : Nat) (h : 1 ≤ s) : blkU xs s = (partsF s xs).map leafU := by unfold blkU; rw [if_neg (by omega), Int.toNat_natCast]
theorem Lie.sub {w : World} {b off : Nat} {xs : List UInt8} (h : Lie w (some ⟨b, off, none⟩) xs) (i c : Nat) : Lie w (some ⟨b, off + i, none⟩) ((xs.drop i).take c) := by
  rcases h.at_ with h0 | ⟨b', off', h1, hlt, hc⟩
  · subst h0; exact ⟨.inl (by simp)⟩
  · cases h1
    exact ⟨.inr ⟨b, off + i, rfl, hlt, fun j hj => by
      have hj' : i + j < xs.length := by rw [List.length_take, List.length_drop] at hj; omega
      have := hc (i + j) hj'
      rw [Nat.add_assoc, this]; simp⟩⟩
theorem Onu.kept {w w' : World} {B : Nat} {v : Value} {l : List UInt64} {row : Option Nat} (h : Onu w B v l) (hg : w.grownBy w' row) (hne : v.ownBlock = none ∨ v.ownBlock ≠ row) : Onu w' B v l := h.row.kept hg hne
theorem Onu.own {w : World} {B : Nat} {v : Value} {l : List UInt64} (h : Onu w B v l) : ∀ k, v.ownBlock = some k → B ≤ k ∧ k < w.heap.size ∧ ∃ cur, w.heap[k]? = some (.cells cur 44 (0, 0)) := by
  intro k hk
  rcases h.row.2 with ⟨rfl, _⟩ | ⟨g, cap, cur, rfl, hB, hgg, _⟩
  · cases hk
  · have e : some g = some k := hk
    cases e
    exact ⟨hB, (Array.getElem?_eq_some_iff.1 hgg).1, cur, hgg⟩
end Go.Proofs.Ytihiccccpjakgaa
namespace Go.Proofs.Ytihiccccpjakgaa
theorem parts_length (s : Nat) (h1 : 1 ≤ s) (N : Nat) : ∀ xs : List UInt8, xs.length ≤ N → (partsF s xs).length = (xs.length + s - 1) / s := by
  induction N with
  | zero =>
    intro xs h
    rw [parts_nil s xs (by omega), show xs.length = 0 by omega]
    exact (Nat.div_eq_of_lt (by omega)).symm
  | succ N ih =>
    intro xs h
    by_cases hx : 0 < xs.length
    · rw [parts_cons s xs h1 hx, List.length_cons, ih _ (by rw [List.length_drop]; omega), List.length_drop]
      by_cases hs : s ≤ xs.length
      · rw [show xs.length + s - 1 = (xs.length - s + s - 1) + s by omega, Nat.add_div_right _ (by omega)]
      · rw [show xs.length - s + s - 1 = s - 1 by omega, Nat.div_eq_of_lt (by omega : s - 1 < s), show xs.length + s - 1 = (xs.length - 1) + s by omega, Nat.add_div_right _ (by omega), Nat.div_eq_of_lt (by omega)]
    · rw [parts_nil s xs hx, show xs.length = 0 by omega]
      exact (Nat.div_eq_of_lt (by omega)).symm
theorem parts_get (s : Nat) (h1 : 1 ≤ s) : ∀ (i : Nat) (xs : List UInt8) (h : i < (partsF s xs).length), (partsF s xs)[i] = (xs.drop (i * s)).take s := by
  intro i
  induction i with
  | zero =>
    intro xs h
    have hx : 0 < xs.length := by
      rcases Nat.eq_zero_or_pos xs.length with h0 | h0
      · rw [parts_nil s xs (by omega)] at h; simp at h
      · exact h0
    have e := parts_cons s xs h1 hx
    simp only [e, List.getElem_cons_zero, Nat.zero_mul, List.drop_zero]
  | succ i ih =>
    intro xs h
    have hx : 0 < xs.length := by
      rcases Nat.eq_zero_or_pos xs.length with h0 | h0
      · rw [parts_nil s xs (by omega)] at h; simp at h
      · exact h0
    have e := parts_cons s xs h1 hx
    have h2 : i < (partsF s (xs.drop s)).length := by rw [e, List.length_cons] at h; omega
    simp only [e, List.getElem_cons_succ]
    rw [ih (xs.drop s) h2, List.drop_drop, Nat.succ_mul, Nat.add_comm]
end Go.Proofs.Ytihiccccpjakgaa
namespace Go.Proofs.Ytihiccccpjakgaa
open Go.RowKit
set_option linter.unusedVariables false

/-- An iterator that hands out the elements of a list that S allows, each with what Kn says of it at that time. -/
def SeqKn {α : Type} (F : Fence) (n : Nat) (P : Program) (gf : Nat) (lb : Array Value) (encs : α → Array Value) (Kn : α → World → Prop) (Kp : World → World → Prop) (S : List α → Prop) (N : Nat) (w : World) : Prop :=
  ∀ (l : Nat) (J : List α → World → Prop) (W : World), Below w.heap.size w W → AbidesFrom W.heap.size J →
    (∀ pre x W1, J pre W1 → Kn x W1 → pre.length < N → YieldAt F (n - 1) P l (encs x) W1 fun e W' => e = .returned (.bool true) ∧ J (pre ++ [x]) W' ∧ Kp W1 W') → J [] W →
    CallsIn F n P gf (#[.func (.yield l) #[] #[]] ++ lb) W fun e W' => (∃ v, e = .returned v) ∧ ∃ xs, S xs ∧ J xs W'

/-- How a round's body is left: at its end. -/
def Goes (B : Nat) (Kp : World → World → Prop) (I : World → Prop) (W : World) : Exit → Act → World → Prop
  | .normal, _, W' => KeepsFrom B W W' ∧ Kp W W' ∧ I W'
  | _, _, _ => False

theorem wpIn_seqKn {F : Fence} {n : Nat} {P : Program} {α : Type} {g : Operand} {ps : Array Tmp} {assign body : Code} {Q : Exit → Act → World → Prop} {a : Act} {w : World}
    (hro : F.round = none) (h1 : 1 ≤ n) {gf : Nat} {lb : Array Value} (hg : a.eval g = .func (.func gf) #[] lb) (hFg : F.fn gf) (eg : ∀ args w, (callFunc gf args).run P w = .ok (.enter gf args) w)
    {encs : α → Array Value} {Kn : α → World → Prop} {Kp : World → World → Prop} {S : List α → Prop} {N : Nat} (hseq : SeqKn F (n - 1) P gf lb encs Kn Kp S N w)
    (hKt : ∀ {A B C : World}, Kp A B → Kp B C → Kp A C) (hKb : ∀ (W : World) (l : Nat) (o o' : Obj), w.heap.size ≤ l → W.heap[l]? = some o → o.isCells = false → Kp W (W.putObj l o'))
    (hps : ∀ x, (encs x).size = ps.size) (I : List α → World → Prop) (hI : OwnFrom w.heap.size I) (hKn : ∀ x, OwnFrom w.heap.size (fun (_ : Unit) W => Kn x W)) (h0 : I [] w) (a₁ : α → Act)
    (hassign : ∀ (l : Nat) (x : α) (W : World) (K : Act → World → Prop), K (a₁ x) W →
      assign.wpIn (F.inRound l) (n - 1 - 1) P (Exit.then K (fun _ _ _ => False)) { tmps := (ps.zip (encs x)).foldl (fun t (p, v) => t.setIfInBounds p v) a.tmps, defers := [] } W)
    (hbody : ∀ (l : Nat) (pre : List α) (x : α) (W : World), I pre W → Kn x W → pre.length < N → body.wpIn (F.inRound l) (n - 1 - 1) P (Goes w.heap.size Kp (I (pre ++ [x])) W) (a₁ x) W)
    (hdone : ∀ (xs : List α) (W : World), S xs → I xs W → W.heap[w.heap.size]? = some (.deferred (some [])) → Q .normal { a with defers := { target := .collected w.heap.size, args := #[] } :: a.defers } W) :
    (Code.rangeFunc g ps assign body).wpIn F n P Q a w := by
  refine wpIn_rangeFunc fun fn hfn => ?_
  rw [hro]
  -- the loop's record, by its state
  obtain ⟨rec, hrec⟩ : ∃ rec : LoopState → Loop, rec = fun st => { state := st, pending := none, fn, tmps := a.tmps, params := ps, assign, body, defers := w.heap.size } := ⟨_, rfl⟩
  have hsz1 : (w.alloc (.deferred (some []))).heap.size = w.heap.size + 1 := World.size_alloc ..
  have hbel : Below w.heap.size w ((w.alloc (.deferred (some []))).alloc (.loop (rec .ready))) := ((Below.refl _ w).alloc (Nat.le_refl _) _).alloc (by rw [hsz1]; omega) _
  have hL := World.alloc_heap_new (w.alloc (.deferred (some []))) (.loop (rec .ready))
  rw [hsz1] at hL
  have hD : ((w.alloc (.deferred (some []))).alloc (.loop (rec .ready))).heap[w.heap.size]? = some (.deferred (some [])) :=
    (Below.heap_alloc _ _ _ (by rw [hsz1]; omega)).trans (World.alloc_heap_new w _)
  have hIs : I [] ((w.alloc (.deferred (some []))).alloc (.loop (rec .ready))) := hI.alloc _ (hI.alloc _ h0)
  refine ⟨w.heap.size + 1, [{ target := .collected w.heap.size, args := #[] }], (w.alloc (.deferred (some []))).alloc (.loop (rec .ready)), { target := .fn (.func gf) lb, args := #[.func (.yield (w.heap.size + 1)) #[] #[]] },
    (w.alloc (.deferred (some []))).alloc (.loop (rec .ready)), gf, #[.func (.yield (w.heap.size + 1)) #[] #[]] ++ lb, (w.alloc (.deferred (some []))).alloc (.loop (rec .ready)), by rw [hrec]; exact run_enterLoop_outer _ _ _ _ _, by simp only [resolve, hg]; simp [go_sem],
    fun f' hf' => by simp [Target.leads] at hf'; subst hf'; exact hFg, by simp [invoke, go_sem, eg], fun _ => h1, ?_⟩
  generalize (w.alloc (.deferred (some []))).alloc (.loop (rec .ready)) = W1 at hbel hL hD hIs
  have hsz : w.heap.size + 2 ≤ W1.heap.size := by have := (Array.getElem?_eq_some_iff.1 hL).1; omega
  -- what the law keeps for itself beside the caller's invariant
  refine (hseq (w.heap.size + 1) (fun pre W => I pre W ∧ W.heap[w.heap.size + 1]? = some (.loop (rec .ready)) ∧ W.heap[w.heap.size]? = some (.deferred (some []))) W1 hbel ?_ ?_ ⟨hIs, hL, hD⟩).mono ?_
  · intro s X Y row hs hgr hr
    refine ⟨hI s X Y row hs.1 hgr fun r e => ?_, (grownBy_keeps hgr (fun r e => (hr r e).2) hs.2.1 rfl).trans hs.2.1, (grownBy_keeps hgr (fun r e => (hr r e).2) hs.2.2 rfl).trans hs.2.2⟩
    obtain ⟨hle, o, ho, hw⟩ := hr r e
    exact ⟨by omega, o, ho, Obj.not_cells_of_walk hw⟩
  · rintro pre x W ⟨hi, hl, hd⟩ hk hN
    have hlt : w.heap.size + 1 < W.heap.size := (Array.getElem?_eq_some_iff.1 hl).1
    have hrun := run_yield (P := P) (args := encs x) hl (by rw [hrec]; exact hps x)
    have hbeg := run_beginRound (P := P) hl (by rw [hrec])
    rw [hrec] at hrun hbeg
    refine ⟨fn, _, assign, body, hrun, roundIn_of_wpIn hfn (hassign _ x W _ ⟨_, hbeg, ?_⟩)⟩
    have hbusy : ∀ st, ({ rec .ready with state := st } : Loop) = rec st := fun st => by rw [hrec]
    have hi2 := hI.putObj (Obj.loop (rec .busy)) hi (Nat.le_succ _) hl rfl
    have hk2 := (hKn x).putObj (s := ()) (Obj.loop (rec .busy)) hk (Nat.le_succ _) hl rfl
    have hp2 : Kp W (W.putObj (w.heap.size + 1) (.loop (rec .busy))) := hKb W _ _ _ (Nat.le_succ _) hl rfl
    have hl2 : (W.putObj (w.heap.size + 1) (.loop (rec .busy))).heap[w.heap.size + 1]? = some (.loop (rec .busy)) := World.putObj_heap_same hlt
    have hd2 : (W.putObj (w.heap.size + 1) (.loop (rec .busy))).heap[w.heap.size]? = some (.deferred (some [])) := (World.putObj_heap_other (by omega)).trans hd
    have hb := hbody (w.heap.size + 1) pre x _ hi2 hk2 hN
    rw [← hbusy .busy, hrec] at hb
    refine wpIn_mono hb ?_
    rintro e a3 W3 hp
    cases e with
    | normal =>
      obtain ⟨hkf, hkp, hi3⟩ := hp
      have e2 : ({ (fun st => { state := st, pending := none, fn := fn, tmps := a.tmps, params := ps, assign := assign, body := body, defers := w.heap.size } : LoopState → Loop) .ready with state := .busy } : Loop) = rec .busy := by rw [hrec]
      rw [e2] at hkf hkp
      have hl3 := hkf.same _ _ (Nat.le_succ _) hl2 rfl
      have hd3 := hkf.same _ _ (Nat.le_refl _) hd2 rfl
      have hend := run_endRound (P := P) none hl3
      have hlt3 : w.heap.size + 1 < W3.heap.size := (Array.getElem?_eq_some_iff.1 hl3).1
      rw [hrec] at hend
      refine ⟨_, _, hend, rfl, ⟨hI.putObj _ hi3 (Nat.le_succ _) hl3 rfl, ?_, (World.putObj_heap_other (by omega)).trans hd3⟩, hKt hp2 (hKt hkp (hKb _ _ _ _ (Nat.le_succ _) hl3 rfl))⟩
      rw [World.putObj_heap_same hlt3, hrec]
      simp
    | ret => exact hp.elim
    | exit id => exact hp.elim
    | goto t => exact hp.elim
    | panic ch => exact hp.elim
    | outgrown => exact hp.elim
  · rintro e W2 ⟨⟨v, rfl⟩, xs, hS, hi, hl, hd⟩
    have hend := run_endLoop (P := P) hl (by rw [hrec]; simp)
    rw [hrec] at hend
    exact ⟨none, _, hend, hdone xs _ hS (hI.putObj _ hi (Nat.le_succ _) hl rfl) ((World.putObj_heap_other (by omega)).trans hd)⟩
end Go.Proofs.Ytihiccccpjakgaa
namespace Go.Proofs.Ytihiccccpjakgaa
open Go.RowKit Go.Shelf
set_option linter.unusedVariables false
set_option linter.unusedSimpArgs false
attribute [local go_sem] Oper.semAt_some
theorem grown_of_below {w w' : World} (hb : Below w.heap.size w w') : w.grownBy w' none := ⟨hb.os, hb.tape, hb.output, hb.size, fun k hk _ => hb.block k hk⟩
/-- What the iterator hands out: a slice, and the bytes that it holds. -/
structure Pt where
  ad : Option Addr
  N : Nat
  cap : Nat
  l : List UInt8
abbrev Pt.encs (x : Pt) : Array Value := #[.slice x.ad x.N x.cap]
/-- what is known of it -/
def PtKn (w00 : World) (x : Pt) (_ : World) : Prop := Lie w00 x.ad x.l ∧ x.N = x.l.length ∧ x.N ≤ 4096
/-- what a round keeps -/
def PtKp (n₀ bb nb : Nat) (b : Value) (s : Int) (W W' : World) : Prop := Below n₀ W W' ∧ (Boxed W bb 22 b → Boxed W' bb 22 b) ∧ (Boxed W nb 3 (.int .i64 s) → Boxed W' nb 3 (.int .i64 s))
def PtS (s : Nat) (xs : List UInt8) (ys : List Pt) : Prop := ys.map (·.l) = partsF s xs
set_option maxRecDepth 100000 in
set_option maxHeartbeats 400000 in
theorem chunk_any (n : Nat) (ad : Option Addr) (N cap : Nat) (s : Int) (w : World) (h : 1 ≤ s) :
    CallsIn Fence.wide n Try.prog 43 #[.slice ad N cap, .int .i64 s] w fun e w' => e = .returned (.func (.func 57) #[] #[.pointer (some ⟨w.heap.size, 0, none⟩), .pointer (some ⟨w.heap.size + 1, 0, none⟩)]) ∧
      w' = (w.alloc (.cells #[.slice ad N cap] 22)).alloc (.cells #[.int .i64 s] 3) := by
  have h1 : ¬ s < 1 := by omega
  refine callsIn_of_wp Try.func43 rfl trivial ?_ rfl
  simp only [Try.ntmps43, List.size_toArray, List.length_cons, List.length_nil, Nat.reduceAdd, Nat.reduceSub, Array.replicate_succ, Array.replicate_zero, List.push_toArray, List.append_toArray, List.nil_append, List.cons_append]
  gi_wp2
  go_ret
  exact ⟨rfl, rfl⟩

set_option maxRecDepth 100000 in
set_option maxHeartbeats 1000000 in
theorem chunk1_kn (m : Nat) (ad : Option Addr) (n cap s bb nb : Nat) (xs : List UInt8) (w00 w : World) (hl : Lie w00 ad xs) (hn : n = xs.length) (hs : n ≤ 4096) (hc : n ≤ cap) (hcm : cap ≤ maxLen) (hs1 : 1 ≤ s) (hs2 : (s : Int) ≤ 9223372036854775807)
    (h00 : Below w00.heap.size w00 w) (hbb : Boxed w bb 22 (.slice ad n cap)) (hnb : Boxed w nb 3 (.int .i64 s)) :
    SeqKn Fence.wide m Try.prog 57 #[.pointer (some ⟨bb, 0, none⟩), .pointer (some ⟨nb, 0, none⟩)] Pt.encs (PtKn w00) (PtKp w00.heap.size bb nb (.slice ad n cap) s) (PtS s xs) 4097 w := by
  intro l J W hW hJ hY h0
  unfold maxLen at hcm
  have HN := Lib.hid hn
  have HY := Lib.hid hY
  have HJ := Lib.hid hJ
  have HL := Lib.hid hl
  have hB0 : Below w00.heap.size w00 W := h00.trans (hW.mono h00.size)
  have HBX : Hid (Boxed W bb 22 (.slice ad n cap)) := Lib.hid ((hW.block bb hbb.lt).trans hbb)
  have HNX : Hid (Boxed W nb 3 (.int .i64 s)) := Lib.hid ((hW.block nb hnb.lt).trans hnb)
  have HB0 := Lib.hid hB0
  have H0 := Lib.hid h0
  have HS1 := Lib.hid hs1
  clear hn hY hJ hl hbb hnb hB0 h0 h00 hW
  refine callsIn_of_wp Try.func57 rfl trivial ?_ rfl
  simp only [Try.ntmps57, List.size_toArray, List.length_cons, List.length_nil, Nat.reduceAdd, Nat.reduceSub, Array.replicate_succ, Array.replicate_zero, List.push_toArray, List.append_toArray, List.nil_append, List.cons_append]
  gi_wp2
  gi_loopw [4] (fun u4 wr => ∃ (ys : List Pt) (i : Nat), u4 = .int .i64 i ∧ (i = 0 ∨ s ≤ i) ∧ ys.length ≤ i ∧ (i : Int) ≤ 9223372036854775807 ∧ Hid (ys.map (·.l) ++ partsF s (xs.drop i) = partsF s xs) ∧ Hid (J ys wr) ∧ Hid (Boxed wr bb 22 (.slice ad n cap)) ∧ Hid (Boxed wr nb 3 (.int .i64 s)) ∧ Hid (Below w00.heap.size w00 wr))
    (fun i _ => n - (intOf i).toNat)
  case atStart => exact ⟨[], 0, rfl, .inl rfl, by simp, by omega, Lib.hid (by simp), H0, HBX, HNX, HB0⟩
  case round =>
    obtain ⟨ys, i, rfl, his, hyl, himax, hp, hj, hbx, hnx, hb⟩ := hrel
    by_cases hlt : i < n
    · have hix : i < xs.length := by have := HN.out; omega
      obtain ⟨b, off, rfl, -⟩ := HL.out.ev (by omega)
      have hc1 := hbx.out.cell
      have hc2 := hnx.out.cell
      obtain ⟨c, hcc⟩ : ∃ c, c = min s (xs.length - i) := ⟨_, rfl⟩
      have HTX := Lib.hid (parts_take s i c xs HS1.out hix hcc)
      have hcn : i + c ≤ n := by have := HN.out; omega
      have hcp : 1 ≤ c := by have := HN.out; have := HS1.out; omega
      have hcase : (c = s ∧ (s : Int) ≤ ((n - i : Nat) : Int)) ∨ (n - i = c ∧ (c : Int) < (s : Int)) := by have := HN.out; omega
      have HPL := Lib.hid (part_len i c xs (by have := HN.out; omega))
      have HSUB := Lib.hid (HL.out.sub i c)
      have hj0 : (0 : Int) ≤ (i : Int) := by omega
      have hj1 : (i : Int) < (n : Int) := by omega
      have hj2 : (i : Int) ≤ (n : Int) := by omega
      have hck : cap - i ≠ 0 := by omega
      have hck2 : ¬ cap = i := by omega
      have g1 : (i : Int) ≤ (cap : Int) := by omega
      have g2 : (i : Int) + (c : Int) ≤ (cap : Int) := by omega
      have hic : i + c - i = c := by omega
      have HPM : Hid ((ys.map (·.l) ++ [(xs.drop i).take c]) ++ partsF s (xs.drop (i + s)) = partsF s xs) := Lib.hid (by rw [← hp.out, HTX.out]; simp)
      obtain ⟨fn, tmps, assign, body, hy, hR⟩ := HY.out ys ⟨some ⟨b, off + i, none⟩, c, c, (xs.drop i).take c⟩ wr.drew (HJ.out ys wr wr.drew none hj.out (grown_of_below (Below.refl _ _).drew) (by simp)) ⟨HSUB.out, HPL.out, by show c ≤ 4096; omega⟩ (by omega)
      dsimp only [Pt.encs] at hy
      have HB4 := Lib.hid hb.out.drew
      have HBX4 : Hid (Boxed wr.drew bb 22 (.slice (some ⟨b, off, none⟩) n cap)) := Lib.hid hbx.out
      have HNX4 : Hid (Boxed wr.drew nb 3 (.int .i64 s)) := Lib.hid hnx.out
      have hd1 := HBX4.out.cell
      have hd2 := HNX4.out.cell
      have hcap : i + c ≤ cap := by omega
      clear hcc hp hj
      rcases hcase with ⟨hcs, hcl⟩ | ⟨hcs, hcl⟩
      · subst hcs
        gi_wp2_with fail
        gi_big_region
        gi_wp2
        refine ⟨(fun h => by cases h), hR.mono ?_⟩
        rintro e3 W3 ⟨rfl, hJ3, hk3⟩
        have HBX3 := Lib.hid (hk3.2.1 HBX4.out)
        have HNX3 := Lib.hid (hk3.2.2 HNX4.out)
        have hc3 := HNX3.out.cell
        have HB3 := Lib.hid (HB4.out.trans hk3.1)
        have HJ3 := Lib.hid hJ3
        clear hy hR hJ3 hk3 hd1 hd2 hc1 hc2
        gi_wp2
        go_roundw
        case rel => exact ⟨ys ++ [⟨some ⟨b, off + i, none⟩, c, c, (xs.drop i).take c⟩], i + c, by go_num, .inr (by omega), by rw [List.length_append, List.length_singleton]; omega, by omega, Lib.hid (by rw [List.map_append]; exact HPM.out), HJ3, HBX3, HNX3, HB3⟩
        case measure => simp [intOf]; omega
      · have hwi : IntKind.i64.wrap ((i : Int) + (s : Int)) = (i : Int) + (s : Int) := by rw [IntKind.wrap_i64]; omega
        gi_wp2_with fail
        gi_big_region
        gi_wp2
        refine ⟨(fun h => by cases h), hR.mono ?_⟩
        rintro e3 W3 ⟨rfl, hJ3, hk3⟩
        have HBX3 := Lib.hid (hk3.2.1 HBX4.out)
        have HNX3 := Lib.hid (hk3.2.2 HNX4.out)
        have hc3 := HNX3.out.cell
        have HB3 := Lib.hid (HB4.out.trans hk3.1)
        have HJ3 := Lib.hid hJ3
        clear hy hR hJ3 hk3 hd1 hd2 hc1 hc2
        gi_wp2
        go_roundw
        case rel => exact ⟨ys ++ [⟨some ⟨b, off + i, none⟩, c, c, (xs.drop i).take c⟩], i + s, by go_num, .inr (by omega), by rw [List.length_append, List.length_singleton]; omega, by omega, Lib.hid (by rw [List.map_append]; exact HPM.out), HJ3, HBX3, HNX3, HB3⟩
        case measure => simp [intOf]; omega
    · have HF : Hid (ys.map (·.l) = partsF s xs) := Lib.hid (by have h := hp.out; rw [parts_end s i xs (by have := HN.out; omega)] at h; rw [← h]; simp)
      have hge : (n : Int) ≤ (i : Int) := by omega
      have hc1 := hbx.out.cell
      have hc2 := hnx.out.cell
      gi_wp2
      go_end0
      exact ⟨⟨_, rfl⟩, ys, HF.out, hj.out⟩
end Go.Proofs.Ytihiccccpjakgaa
namespace Go.Proofs.Ytihiccccpjakgaa
open Go.RowKit Go.Shelf
set_option linter.unusedVariables false
set_option linter.unusedSimpArgs false
attribute [local go_sem] Oper.semAt_some
/-- What the loop over the iterator keeps. -/
def BlI (w : World) (n₀ D0 B1 : Nat) (pre : List Pt) (W : World) : Prop :=
  ∃ v, Boxed W B1 46 v ∧ Onu W D0 v (pre.map fun x => leafU x.l) ∧ Below n₀ w W ∧ D0 ≤ W.heap.size
theorem blI_own (w : World) (n₀ D0 B1 : Nat) (hD : n₀ ≤ D0) (hw : n₀ ≤ w.heap.size) : OwnFrom D0 (BlI w n₀ D0 B1) := by
  rintro pre X Y row ⟨v, h1, h2, h4, h5⟩ hg hr
  have hne : ∀ {b t u}, Boxed X b t u → some b ≠ row := fun {b t u} hb e => by
    obtain ⟨_, o, ho, hc⟩ := hr b e.symm
    rw [show X.heap[b]? = _ from hb] at ho
    cases ho
    cases hc
  refine ⟨v, h1.kept hg (hne h1), h2.kept hg ?_, h4.grown hg (Nat.le_trans hw h4.size) (fun k e => Nat.le_trans hD (hr k e).1), Nat.le_trans h5 hg.size⟩
  cases hv : v.ownBlock with
  | none => exact .inl rfl
  | some k =>
    right
    intro e
    obtain ⟨_, o, ho, hc⟩ := hr k e.symm
    obtain ⟨_, _, cur, hgg⟩ := h2.own k hv
    rw [hgg] at ho
    cases ho
    cases hc
theorem ptKp_put {n₀ bb nb : Nat} {b : Value} {s : Int} {w : World} (hn : n₀ ≤ w.heap.size) (W : World) (l : Nat) (o o' : Obj) (hl : w.heap.size ≤ l) (h : W.heap[l]? = some o) (hc : o.isCells = false) : PtKp n₀ bb nb b s W (W.putObj l o') := by
  have hx : ∀ {B t u}, Boxed W B t u → Boxed (W.putObj l o') B t u := fun {B t u} hb => hb.kept (grownBy_putObj' W l o') (fun e => by
    cases e
    rw [show W.heap[l]? = _ from hb] at h
    cases h
    cases hc)
  exact ⟨(Below.refl n₀ W).grown (grownBy_putObj' W l o') (by have := (Array.getElem?_eq_some_iff.1 h).1; omega) (fun k e => by cases e; omega), hx, hx⟩
section
variable {F : Fence} {n : Nat} {P : Program} {md : Region.Mode} {l : List Oper} {Q : Exit → Act → World → Prop}
/-- one operation may come up -/
theorem an1 {i : Nat} {oi : Oper} {fuel : Nat} {listed : Array Bool} {a : Act} {w : World} (hi : l[i]? = some oi) (hr : Region.ready md l.toArray listed = [i]) (hw : Region.wanted oi (yielded l.toArray a.tmps) = true)
    (h : ∀ K' : Act → World → Prop, Hid (∀ a w, wpAnyIn F n P md l.toArray Q fuel (listed.setIfInBounds i true) a w → K' a w) → oi.wpIn F n P a w K' Q) : wpAnyIn F n P md l.toArray Q (fuel + 1) listed a w := by
  refine ⟨fun h0 => (by rw [hr] at h0; cases h0), fun k hk => ?_⟩
  rw [hr] at hk
  obtain rfl := List.mem_singleton.1 hk
  unfold wpOpIn
  rw [List.getElem?_toArray, hi]
  simp only [hw, if_true]
  exact h _ (Lib.hid fun _ _ h => h)
/-- two operations may come up -/
theorem an2 {i j : Nat} {oi oj : Oper} {fuel : Nat} {listed : Array Bool} {a : Act} {w : World} (hi : l[i]? = some oi) (hj : l[j]? = some oj) (hr : Region.ready md l.toArray listed = [i, j]) (hwi : Region.wanted oi (yielded l.toArray a.tmps) = true) (hwj : Region.wanted oj (yielded l.toArray a.tmps) = true)
    (h : ∀ K' : Act → World → Prop, Hid (∀ a w, wpAnyIn F n P md l.toArray Q fuel (listed.setIfInBounds i true) a w → K' a w) → oi.wpIn F n P a w K' Q)
    (h2 : ∀ K' : Act → World → Prop, Hid (∀ a w, wpAnyIn F n P md l.toArray Q fuel (listed.setIfInBounds j true) a w → K' a w) → oj.wpIn F n P a w K' Q) : wpAnyIn F n P md l.toArray Q (fuel + 1) listed a w := by
  refine ⟨fun h0 => (by rw [hr] at h0; cases h0), fun k hk => ?_⟩
  rw [hr] at hk
  unfold wpOpIn
  rcases List.mem_cons.1 hk with rfl | hk
  · rw [List.getElem?_toArray, hi]
    simp only [hwi, if_true]
    exact h _ (Lib.hid fun _ _ h => h)
  · obtain rfl := List.mem_singleton.1 hk
    rw [List.getElem?_toArray, hj]
    simp only [hwj, if_true]
    exact h2 _ (Lib.hid fun _ _ h => h)
end
theorem in_append_n {F : Fence} {n : Nat} {w : World} {o : Oper} {a : Act} {K : Act → World → Prop} {Q : Exit → Act → World → Prop} (hF : ∀ f, F.fn f) (s x : Operand)
    (ho : o.op = .call { callee := .builtin .append, args := #[s, x], argTypes := #[46, 46] })
    (B : Nat) (v : Value) (ys : List UInt64) (hs : a.eval s = v) (hown : Onu w B v ys) (y : UInt64) (b off : Nat) (hx : a.eval x = .slice (some ⟨b, off, none⟩) 1 1) (hcell : w.cell? ⟨b, off, none⟩ = some (.int .u64 (gv y))) (hlen : ys.length ≤ 1000000) (hbase : B ≤ w.heap.size)
    (h : ∀ v' w', Onu w' B v' (ys ++ [y]) → w.grownBy w' v.ownBlock → K (a.put o.dst v') w') : o.wpIn F n Try.prog a w K Q := by
  obtain ⟨i, hi, hz0, hz1, hz2⟩ := info_n
  obtain ⟨v', w', hr, h5, h6, _, _⟩ := run_append_own_at (P := Try.prog) w B 46 o.type 44 i (.int .u64 0) 1 8 Try.underlying46 hi hz0 hz1 hz2 rfl (by decide) v ys.length (cellsN ys) hown.row ⟨b, off, none⟩ 1 1 [.int .u64 (gv y)] rfl (by
    intro j u hu
    match j with
    | 0 => simp only [List.getElem?_cons_zero, Option.some.injEq] at hu; subst hu; exact hcell
    | j + 1 => simp at hu) (fun u hu => by rw [List.mem_singleton.1 hu]; rfl) (by unfold maxLen; omega) (by omega) hbase
  refine ⟨fun f _ => hF f, ?_⟩
  rw [Oper.semAt_plain F a.eval o (fun c hc => by rw [ho] at hc; cases hc)]
  unfold execOp
  simp only [ho, resolve, invoke, builtin, Sem.run_bind, Sem.run_pure, Result.andThen_ok, List.map_toArray, List.map_cons, List.map_nil, hs, hx, hr]
  refine h v' w' ?_ h6
  unfold Onu
  rw [List.length_append, List.length_singleton]
  rw [show cellsN ys ++ [Value.int .u64 (gv y)] = cellsN (ys ++ [y]) by simp [cellsN]] at h5
  exact h5
theorem keeps_drew {D : Nat} {W X : World} (h : KeepsFrom D W.drew X) : KeepsFrom D W X := ⟨h.size, fun l o h1 h2 h3 => h.same l o h1 h2 h3⟩
theorem Onu.cons {w : World} {B : Nat} {v : Value} {l : List UInt64} {y : UInt64} (h : Onu w B v (l ++ [y])) : ∃ g cap, v = .slice (some ⟨g, 0, none⟩) (l.length + 1) cap := by
  have h1 := h.row
  rw [List.length_append, List.length_cons, List.length_nil] at h1
  exact ownsRow_succ h1
/-- A round's 'leaves = append(leaves, leaf)', told at once. -/
theorem round_leaf {W w1 : World} {n₀ D0 B1 bb nb : Nat} {b v v' : Value} {s : Int} {ls : List UInt64} {y : UInt64} {tmp : Obj} (hv : Boxed W B1 46 v) (hz : Onu W D0 v ls) (hn1 : n₀ ≤ B1) (hD : n₀ ≤ D0) (hbb : bb < D0) (hnb : nb < D0) (hb1D : B1 < D0) (hbb1 : bb ≠ B1) (hnb1 : nb ≠ B1) (hsz : n₀ ≤ W.heap.size)
    (hz' : Onu w1 D0 v' (ls ++ [y])) (hg : (W.alloc tmp).grownBy w1 v.ownBlock) :
    Boxed w1 B1 46 v ∧ KeepsFrom D0 W (w1.setCell ⟨B1, 0, none⟩ v') ∧ PtKp n₀ bb nb b s W (w1.setCell ⟨B1, 0, none⟩ v') ∧ Boxed (w1.setCell ⟨B1, 0, none⟩ v') B1 46 v' ∧ Onu (w1.setCell ⟨B1, 0, none⟩ v') D0 v' (ls ++ [y]) := by
  have hlt : ∀ k, v.ownBlock = some k → D0 ≤ k := fun k hk => (hz.own k hk).1
  have h1 : Boxed w1 B1 46 v := (hv.alloc _).kept hg (fun e => by have := hlt _ e.symm; omega)
  have g1 := grownBy_setCell' w1 B1 v'
  have hz1 : Onu (w1.setCell ⟨B1, 0, none⟩ v') D0 v' (ls ++ [y]) := hz'.kept g1 (by
    cases hk : v'.ownBlock with
    | none => exact .inl rfl
    | some k => right; intro e; cases e; have := (hz'.own _ hk).1; omega)
  have hx : ∀ {B t u}, B < D0 → B ≠ B1 → Boxed W B t u → Boxed (w1.setCell ⟨B1, 0, none⟩ v') B t u := fun {B t u} h2 h3 hb =>
    ((hb.alloc _).kept hg (fun e => by have := hlt _ e.symm; omega)).kept g1 (fun e => by cases e; exact h3 rfl)
  refine ⟨h1, ?_, ⟨?_, hx hbb hbb1, hx hnb hnb1⟩, h1.set v', hz1⟩
  · refine (((KeepsOthers.alloc W _).trans (KeepsOthers.of_grownBy hg fun j o ej hj => ?_)).trans (KeepsOthers.setCell _ _ _)).from D0
    obtain ⟨_, _, cur, hgg⟩ := (hz.alloc tmp).own j ej
    rw [hgg] at hj
    cases hj
    rfl
  · exact (((Below.refl n₀ W).alloc hsz _).grown hg (by simp; omega) (fun k hk => by have := hlt k hk; omega)).setCell (p := ⟨B1, 0, none⟩) hn1 v'
attribute [local irreducible] accU fnv basis byteU beU hashU leafU
set_option maxRecDepth 100000 in
set_option maxHeartbeats 4000000 in
theorem blocks_in (ad : Option Addr) (n cap s : Nat) (xs : List UInt8) (w : World) (hl : Lie w ad xs) (hn : n = xs.length) (hs : n ≤ 4096) (hc : n ≤ cap) (hcm : cap ≤ maxLen) (h1 : 1 ≤ s) (s1 : (s : Int) ≤ 9223372036854775807) :
    Calls Try.prog 23 #[.slice ad n cap, .int .i64 s] w (GivesN w (blkU xs s)) := by
  refine (callsIn_wide (n := 3)).1 ?_
  refine callsIn_of_wp_marks Try.func23 rfl trivial ?_ rfl
  simp only [Try.ntmps23, List.size_toArray, List.length_cons, List.length_nil, Nat.reduceAdd, Nat.reduceSub, Array.replicate_succ, Array.replicate_zero, List.push_toArray, List.append_toArray, List.nil_append, List.cons_append]
  have HN := Lib.hid hn
  have HL := Lib.hid hl
  have HE := Lib.hid (blkU_yes xs s h1)
  have HCM := Lib.hid hcm
  have hs1 : (1 : Int) ≤ (s : Int) := by omega
  have hds : decide ((s : Int) < 1) = false := decide_eq_false (by omega)
  clear hn hl
  gi_wp2_with fail
  refine ⟨trivial, ?_⟩
  refine (chunk_any _ _ n cap s _ hs1).mono ?_
  rintro e w' ⟨rfl, rfl⟩
  have bO := Boxed.new w 46 (.slice none 0 0)
  have bB := Boxed.new (w.alloc (.cells #[.slice none 0 0] 46)) 22 (.slice ad n cap)
  have bN := Boxed.new ((w.alloc (.cells #[.slice none 0 0] 46)).alloc (.cells #[.slice ad n cap] 22)) 3 (.int .i64 s)
  have hB0 : Below w.heap.size w (((w.alloc (.cells #[.slice none 0 0] 46)).alloc (.cells #[.slice ad n cap] 22)).alloc (.cells #[.int .i64 s] 3)) :=
    (((Below.refl _ w).alloc (Nat.le_refl _) _).alloc (by simp) _).alloc (by simp; omega) _
  have hsz4 : (((w.alloc (.cells #[.slice none 0 0] 46)).alloc (.cells #[.slice ad n cap] 22)).alloc (.cells #[.int .i64 s] 3)).heap.size = w.heap.size + 1 + 1 + 1 := by simp
  have bO3 := (bO.alloc (.cells #[.slice ad n cap] 22)).alloc (.cells #[.int .i64 s] 3)
  have bB3 := bB.alloc (.cells #[.int .i64 s] 3)
  simp only [World.size_alloc] at bB3 bN
  clear bO bB
  gi_wp2
  refine wpIn_seqKn rfl (by decide) (gf := 57) (lb := #[.pointer (some ⟨w.heap.size + 1, 0, none⟩), .pointer (some ⟨w.heap.size + 1 + 1, 0, none⟩)]) rfl trivial (enters_of Try.func57 (by kernel_rfl) rfl)
    (chunk1_kn 2 ad n cap s (w.heap.size + 1) (w.heap.size + 1 + 1) xs w _ HL.out HN.out hs hc HCM.out h1 s1 hB0 bB3 bN)
    (fun h k => ⟨h.1.trans k.1, fun hb => k.2.1 (h.2.1 hb), fun hb => k.2.2 (h.2.2 hb)⟩) (ptKp_put (by rw [hsz4]; omega)) (fun _ => rfl)
    (BlI w w.heap.size (w.heap.size + 1 + 1 + 1) w.heap.size) (by rw [hsz4]; exact blI_own _ _ _ _ (by omega) (Nat.le_refl _)) (fun x => fun _ _ _ _ h _ _ => h)
    ⟨_, bO3, Onu.ofNil _ _, hB0, by rw [hsz4]; exact Nat.le_refl _⟩
    (fun x => { tmps := #[.slice ad n cap, .int .i64 s, undef, undef, .slice none 0 0, .pointer (some ⟨w.heap.size, 0, none⟩), .slice x.ad x.N x.cap, .int .i64 s, .bool false, .slice ad n cap, .int .i64 s, .func (.func 57) #[] #[.pointer (some ⟨w.heap.size + 1, 0, none⟩), .pointer (some ⟨w.heap.size + 1 + 1, 0, none⟩)], .slice x.ad x.N x.cap, undef, undef, undef, undef, undef, undef], defers := [] }) ?assign ?body ?done
  case assign =>
    intro l x W K hK
    gi_wp2
    exact hK
  case body =>
    rintro l pre x W ⟨v, hv, hz, hB, hWD⟩ hkn hlen
    rw [hsz4]
    obtain ⟨xad, xN, xcap, xl⟩ := x
    obtain ⟨k1, k2, k3⟩ := hkn
    dsimp only at k1 k2 k3
    have hLl : (pre.map fun x : Pt => leafU x.l).length = pre.length := by simp
    generalize hLs : (pre.map fun x : Pt => leafU x.l) = Ls0 at hz hLl
    have HLS := Lib.hid hLs
    have hLb : Ls0.length ≤ 1000000 := by omega
    have HV := Lib.hid hv
    have HZ := Lib.hid hz
    have HB := Lib.hid hB
    have HK1 := Lib.hid k1
    have HK2 := Lib.hid k2
    have HWD := Lib.hid hWD
    have hWs := hB.size
    have HLF := Lib.hid (leaf_any xad xN xcap xl W.drew (k1.below hB.drew rfl) k2 (by omega))
    have hc1 : W.drew.cell? ⟨w.heap.size, 0, none⟩ = some v := hv.cell
    have hc2 : (W.drew.alloc (.cells #[.int .u64 (gv (leafU xl))] 44)).cell? ⟨w.heap.size, 0, none⟩ = some v := (hv.alloc (.cells #[.int .u64 (gv (leafU xl))] 44)).cell
    have hc4 : (W.alloc (.cells #[.int .u64 (gv (leafU xl))] 44)).drew.cell? ⟨w.heap.size, 0, none⟩ = some v := hc2
    clear hv hz hB k1 k2 hLs hLl hlen bO3 bB3 bN hB0 HL HN HE HCM hds
    generalize hy : leafU xl = y at HLF hc2 hc4
    have HY := Lib.hid hy
    clear hy
    have HZD := Lib.hid ((HZ.out.below (Below.refl _ _).drew).alloc (.cells #[.int .u64 (gv y)] 44))
    gi_wp2_with fail
    refine wpIn_region_any (by kernel_rfl) ?_
    refine an2 (i := 0) (j := 1) rfl rfl (by kernel_rfl) (by rfl) (by rfl) (fun K' hK' => ?_) (fun K' hK' => ?_)
    · go_simp
      refine hK'.out _ _ ?_
      try simp only [Act.put, List.setIfInBounds_toArray, List.set_cons_zero, List.set_cons_succ]
      refine an1 (i := 1) rfl (by kernel_rfl) (by rfl) (fun K' hK' => ?_)
      go_simp
      refine hK'.out _ _ ?_
      try simp only [Act.put, List.setIfInBounds_toArray, List.set_cons_zero, List.set_cons_succ]
      refine an1 (i := 2) rfl (by kernel_rfl) (by rfl) (fun K' hK' => ?_)
      go_simp
      refine ⟨trivial, ?_⟩
      refine ((callsIn_wide.2 HLF.out).inRound l).mono ?_
      rintro e w' ⟨rfl, rfl⟩
      refine hK'.out _ _ ?_
      try simp only [Act.put, List.setIfInBounds_toArray, List.set_cons_zero, List.set_cons_succ]
      refine an1 (i := 3) rfl (by kernel_rfl) (by rfl) (fun K' hK' => ?_)
      go_simp
      refine hK'.out _ _ ?_
      try simp only [Act.put, List.setIfInBounds_toArray, List.set_cons_zero, List.set_cons_succ]
      refine an1 (i := 4) rfl (by kernel_rfl) (by rfl) (fun K' hK' => ?_)
      refine in_append_n (fun _ => trivial) (.tmp 13) (.tmp 16) rfl (w.heap.size + 1 + 1 + 1) v Ls0 rfl HZD.out y _ 0 rfl (cell_newN _ y) hLb (by simp; have := HWD.out; omega) ?_
      intro v' w1 hz' hg
      refine hK'.out _ _ ?_
      try simp only [Act.put, List.setIfInBounds_toArray, List.set_cons_zero, List.set_cons_succ]
      obtain ⟨g', cap', e'⟩ := hz'.cons
      subst e'
      have hr := round_leaf (W := W.drew) (n₀ := w.heap.size) (bb := w.heap.size + 1) (nb := w.heap.size + 1 + 1) (b := .slice ad n cap) (s := s) (show Boxed W.drew w.heap.size 46 v from HV.out) (HZ.out.below (Below.refl _ _).drew) (Nat.le_refl _) (by omega) (by omega) (by omega) (by omega) (by omega) (by omega) hWs hz' hg
      have hc3 := hr.1.cell
      have hf3 := hr.1.frozen
      have HR := Lib.hid hr
      clear hz' hg hr
      refine an1 (i := 5) rfl (by kernel_rfl) (by rfl) (fun K' hK' => ?_)
      go_simp
      refine hK'.out _ _ ?_
      refine wpAnyIn_done (by kernel_rfl) ?_ _
      obtain ⟨_, hk, hp, hbx, hz2⟩ := HR.out
      refine ⟨keeps_drew hk, ⟨(Below.refl _ _).drew.trans hp.1, hp.2.1, hp.2.2⟩, _, hbx, ?_, HB.out.trans ((Below.refl _ _).drew.trans hp.1), Nat.le_trans HWD.out (keeps_drew hk).size⟩
      rw [List.map_append, HLS.out, List.map_singleton, HY.out]
      exact hz2
    · go_simp
      refine hK'.out _ _ ?_
      try simp only [Act.put, List.setIfInBounds_toArray, List.set_cons_zero, List.set_cons_succ]
      refine an2 (i := 0) (j := 2) rfl rfl (by kernel_rfl) (by rfl) (by rfl) (fun K' hK' => ?_) (fun K' hK' => ?_)
      · go_simp
        refine hK'.out _ _ ?_
        try simp only [Act.put, List.setIfInBounds_toArray, List.set_cons_zero, List.set_cons_succ]
        refine an1 (i := 2) rfl (by kernel_rfl) (by rfl) (fun K' hK' => ?_)
        go_simp
        refine ⟨trivial, ?_⟩
        refine ((callsIn_wide.2 HLF.out).inRound l).mono ?_
        rintro e w' ⟨rfl, rfl⟩
        refine hK'.out _ _ ?_
        try simp only [Act.put, List.setIfInBounds_toArray, List.set_cons_zero, List.set_cons_succ]
        refine an1 (i := 3) rfl (by kernel_rfl) (by rfl) (fun K' hK' => ?_)
        go_simp
        refine hK'.out _ _ ?_
        try simp only [Act.put, List.setIfInBounds_toArray, List.set_cons_zero, List.set_cons_succ]
        refine an1 (i := 4) rfl (by kernel_rfl) (by rfl) (fun K' hK' => ?_)
        refine in_append_n (fun _ => trivial) (.tmp 13) (.tmp 16) rfl (w.heap.size + 1 + 1 + 1) v Ls0 rfl HZD.out y _ 0 rfl (cell_newN _ y) hLb (by simp; have := HWD.out; omega) ?_
        intro v' w1 hz' hg
        refine hK'.out _ _ ?_
        try simp only [Act.put, List.setIfInBounds_toArray, List.set_cons_zero, List.set_cons_succ]
        obtain ⟨g', cap', e'⟩ := hz'.cons
        subst e'
        have hr := round_leaf (W := W.drew) (n₀ := w.heap.size) (bb := w.heap.size + 1) (nb := w.heap.size + 1 + 1) (b := .slice ad n cap) (s := s) (show Boxed W.drew w.heap.size 46 v from HV.out) (HZ.out.below (Below.refl _ _).drew) (Nat.le_refl _) (by omega) (by omega) (by omega) (by omega) (by omega) (by omega) hWs hz' hg
        have hc3 := hr.1.cell
        have hf3 := hr.1.frozen
        have HR := Lib.hid hr
        clear hz' hg hr
        refine an1 (i := 5) rfl (by kernel_rfl) (by rfl) (fun K' hK' => ?_)
        go_simp
        refine hK'.out _ _ ?_
        refine wpAnyIn_done (by kernel_rfl) ?_ _
        obtain ⟨_, hk, hp, hbx, hz2⟩ := HR.out
        refine ⟨keeps_drew hk, ⟨(Below.refl _ _).drew.trans hp.1, hp.2.1, hp.2.2⟩, _, hbx, ?_, HB.out.trans ((Below.refl _ _).drew.trans hp.1), Nat.le_trans HWD.out (keeps_drew hk).size⟩
        rw [List.map_append, HLS.out, List.map_singleton, HY.out]
        exact hz2
      · go_simp
        refine ⟨trivial, ?_⟩
        refine ((callsIn_wide.2 HLF.out).inRound l).mono ?_
        rintro e w' ⟨rfl, rfl⟩
        refine hK'.out _ _ ?_
        try simp only [Act.put, List.setIfInBounds_toArray, List.set_cons_zero, List.set_cons_succ]
        refine an2 (i := 0) (j := 3) rfl rfl (by kernel_rfl) (by rfl) (by rfl) (fun K' hK' => ?_) (fun K' hK' => ?_)
        · go_simp
          refine hK'.out _ _ ?_
          try simp only [Act.put, List.setIfInBounds_toArray, List.set_cons_zero, List.set_cons_succ]
          refine an1 (i := 3) rfl (by kernel_rfl) (by rfl) (fun K' hK' => ?_)
          go_simp
          refine hK'.out _ _ ?_
          try simp only [Act.put, List.setIfInBounds_toArray, List.set_cons_zero, List.set_cons_succ]
          refine an1 (i := 4) rfl (by kernel_rfl) (by rfl) (fun K' hK' => ?_)
          refine in_append_n (fun _ => trivial) (.tmp 13) (.tmp 16) rfl (w.heap.size + 1 + 1 + 1) v Ls0 rfl HZD.out y _ 0 rfl (cell_newN _ y) hLb (by simp; have := HWD.out; omega) ?_
          intro v' w1 hz' hg
          refine hK'.out _ _ ?_
          try simp only [Act.put, List.setIfInBounds_toArray, List.set_cons_zero, List.set_cons_succ]
          obtain ⟨g', cap', e'⟩ := hz'.cons
          subst e'
          have hr := round_leaf (W := W.drew) (n₀ := w.heap.size) (bb := w.heap.size + 1) (nb := w.heap.size + 1 + 1) (b := .slice ad n cap) (s := s) (show Boxed W.drew w.heap.size 46 v from HV.out) (HZ.out.below (Below.refl _ _).drew) (Nat.le_refl _) (by omega) (by omega) (by omega) (by omega) (by omega) (by omega) hWs hz' hg
          have hc3 := hr.1.cell
          have hf3 := hr.1.frozen
          have HR := Lib.hid hr
          clear hz' hg hr
          refine an1 (i := 5) rfl (by kernel_rfl) (by rfl) (fun K' hK' => ?_)
          go_simp
          refine hK'.out _ _ ?_
          refine wpAnyIn_done (by kernel_rfl) ?_ _
          obtain ⟨_, hk, hp, hbx, hz2⟩ := HR.out
          refine ⟨keeps_drew hk, ⟨(Below.refl _ _).drew.trans hp.1, hp.2.1, hp.2.2⟩, _, hbx, ?_, HB.out.trans ((Below.refl _ _).drew.trans hp.1), Nat.le_trans HWD.out (keeps_drew hk).size⟩
          rw [List.map_append, HLS.out, List.map_singleton, HY.out]
          exact hz2
        · go_simp
          refine hK'.out _ _ ?_
          try simp only [Act.put, List.setIfInBounds_toArray, List.set_cons_zero, List.set_cons_succ]
          refine an1 (i := 0) rfl (by kernel_rfl) (by rfl) (fun K' hK' => ?_)
          go_simp
          refine hK'.out _ _ ?_
          try simp only [Act.put, List.setIfInBounds_toArray, List.set_cons_zero, List.set_cons_succ]
          refine an1 (i := 4) rfl (by kernel_rfl) (by rfl) (fun K' hK' => ?_)
          refine in_append_n (fun _ => trivial) (.tmp 13) (.tmp 16) rfl (w.heap.size + 1 + 1 + 1) v Ls0 rfl HZD.out y _ 0 rfl (cell_newN _ y) hLb (by simp; have := HWD.out; omega) ?_
          intro v' w1 hz' hg
          refine hK'.out _ _ ?_
          try simp only [Act.put, List.setIfInBounds_toArray, List.set_cons_zero, List.set_cons_succ]
          obtain ⟨g', cap', e'⟩ := hz'.cons
          subst e'
          have hr := round_leaf (W := W.drew) (n₀ := w.heap.size) (bb := w.heap.size + 1) (nb := w.heap.size + 1 + 1) (b := .slice ad n cap) (s := s) (show Boxed W.drew w.heap.size 46 v from HV.out) (HZ.out.below (Below.refl _ _).drew) (Nat.le_refl _) (by omega) (by omega) (by omega) (by omega) (by omega) (by omega) hWs hz' hg
          have hc3 := hr.1.cell
          have hf3 := hr.1.frozen
          have HR := Lib.hid hr
          clear hz' hg hr
          refine an1 (i := 5) rfl (by kernel_rfl) (by rfl) (fun K' hK' => ?_)
          go_simp
          refine hK'.out _ _ ?_
          refine wpAnyIn_done (by kernel_rfl) ?_ _
          obtain ⟨_, hk, hp, hbx, hz2⟩ := HR.out
          refine ⟨keeps_drew hk, ⟨(Below.refl _ _).drew.trans hp.1, hp.2.1, hp.2.2⟩, _, hbx, ?_, HB.out.trans ((Below.refl _ _).drew.trans hp.1), Nat.le_trans HWD.out (keeps_drew hk).size⟩
          rw [List.map_append, HLS.out, List.map_singleton, HY.out]
          exact hz2
  case done =>
    rintro ys W hS ⟨v, hv, hz, hB, hWD⟩ hK
    rw [hsz4] at hK ⊢
    have hc1 := hv.cell
    have HZ := Lib.hid hz
    have HB := Lib.hid hB
    have HK := Lib.hid hK
    have HF : Hid ((ys.map fun x : Pt => leafU x.l) = blkU xs s) := Lib.hid (by rw [HE.out, ← show ys.map (·.l) = partsF s xs from hS, List.map_map]; rfl)
    clear hv hz hB hK hS bO3 bB3 bN hB0
    gi_wp2_with fail
    have hK2 : W.heap[w.heap.size + 1 + 1 + 1]? = some (.deferred (some [])) := HK.out
    have hg2 := grownBy_putObj' W (w.heap.size + 1 + 1 + 1) (.deferred none)
    refine ⟨by simp, .inl ⟨_, _, rfl, run_takeDeferred hK2, ?_⟩⟩
    refine ⟨_, results_tmp rfl _ _ _, v, rfl, ?_, HB.out.grown hg2 HB.out.size (fun k e => by cases e; omega)⟩
    rw [← HF.out]
    refine (HZ.out.kept hg2 ?_).mono (by omega)
    cases hv : v.ownBlock with
    | none => exact .inl rfl
    | some k =>
      right
      intro e
      cases e
      obtain ⟨_, _, cur, hgg⟩ := HZ.out.own _ hv
      rw [hK2] at hgg
      cases hgg
theorem blocks_any (ad : Option Addr) (n cap : Nat) (xs : List UInt8) (size : Int) (w : World) (hl : Lie w ad xs) (hn : n = xs.length) (hs : n ≤ 4096) (hc : n ≤ cap) (hcm : cap ≤ maxLen) (s1 : size ≤ 9223372036854775807) :
    Calls Try.prog 23 #[.slice ad n cap, .int .i64 size] w (GivesN w (blkU xs size)) := by
  by_cases h0 : size < 1
  · have HE := Lib.hid (blkU_no xs size h0)
    clear hl hn
    go_enter Try.func23, Try.ntmps23
    go_wp2
    go_ret
    exact ⟨_, rfl, by rw [HE.out]; exact Onu.ofNil _ _, Below.refl _ _⟩
  obtain ⟨s, rfl⟩ := Int.eq_ofNat_of_zero_le (show 0 ≤ size by omega)
  exact blocks_in ad n cap s xs w hl hn hs hc hcm (by omega) s1
end Go.Proofs.Ytihiccccpjakgaa
