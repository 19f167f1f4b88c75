/-
  The program's Divide.
  slices.IndexFunc over blocks.
  The program's intact and Bytes.
-/
import Derived.Test.YtjiijjdmkeeilaaDoorCBB
import Derived.Test.YtjiijjdmkeeilaaDoorCAN
import Derived.Test.YtjiijjdmkeeilaaDoorCAV
import Derived.Test.YtjiijjdmkeeilaaDoorCAM
import Derived.Deep.LoopGhost
namespace Go.Proofs.YtjiijjdmkeeilaaDoor
open Go.RowKit Go.Shelf
set_option linter.unusedVariables false
set_option linter.unusedSimpArgs false
attribute [local go_sem] Oper.semAt_some
/-- the block of a part -/
def blkP (l : List UInt8) : Blk := ⟨false, false, pad l⟩
theorem pad_take (l : List UInt8) : pad (l.take 64) = pad l := by
  unfold pad
  rw [List.take_take, List.length_take]
  congr 2
  omega
theorem divB_parts (n : Nat) : ∀ xs : List UInt8, xs.length ≤ n → divB xs = (partsF 64 xs).map blkP := by
  induction n with
  | zero =>
    intro xs h
    obtain rfl := List.eq_nil_of_length_eq_zero (Nat.le_zero.1 h)
    rw [parts_nil _ _ (by simp)]
    rfl
  | succ n ih =>
    intro xs h
    by_cases h0 : 0 < xs.length
    · rw [parts_cons 64 xs (by omega) h0, List.map_cons, ← ih (xs.drop 64) (by rw [List.length_drop]; omega)]
      unfold divB
      have hc : cntB xs.length = cntB (xs.drop 64).length + 1 := by unfold cntB; rw [List.length_drop]; omega
      rw [hc, List.range_succ_eq_map, List.map_cons, List.map_map]
      congr 1
      · unfold blkP blkAt
        rw [pad_take]
        simp
      · exact List.map_congr_left (fun i _ => blkAt_succ xs i)
    · obtain rfl := List.eq_nil_of_length_eq_zero (show xs.length = 0 by omega)
      rw [parts_nil _ _ (by simp)]
      rfl
theorem cells_of_cell {w : World} {b k : Nat} {v : Value} (h : w.cell? ⟨b, k, none⟩ = some v) {o : Obj} (ho : w.heap[b]? = some o) : o.isCells = true := by
  cases o <;> simp_all [World.cell?, Obj.isCells]
/-- blocks are kept where no block of cells changes but the list's own -/
theorem Kq.kept {w w' : World} {B C : Nat} {v : Value} {l : List Blk} {row : Option Nat} (h : Kq w B C v l) (hg : w.grownBy w' row) (hr : ∀ r, row = some r → ∃ o, w.heap[r]? = some o ∧ o.isCells = false) : Kq w' B C v l := by
  have hne : ∀ {b k : Nat} {u : Value}, w.cell? ⟨b, k, none⟩ = some u → some b ≠ row := fun {b k u} hc e => by
    obtain ⟨o, ho, hn⟩ := hr b e.symm
    rw [cells_of_cell hc ho] at hn
    cases hn
  obtain ⟨E, e, h1, h2⟩ := h
  refine ⟨E, e, h1.kept hg ?_, fun k hk => ⟨?_, (h2 k hk).le, (h2 k hk).mx, (h2 k hk).nn⟩⟩
  · rcases h1.2 with ⟨h0, _⟩ | ⟨g, cap, cur, hv, hB, hgg, h4⟩
    · left; rw [h0]; rfl
    · right
      intro e
      rw [hv] at e
      obtain ⟨o, ho, hn⟩ := hr g e.symm
      rw [show w.heap[g]? = _ from hgg] at ho
      cases ho
      cases hn
  · rcases (h2 k hk).lie with h0 | ⟨b, off, e, h3, h4, h5, h6⟩
    · exact .inl h0
    · by_cases hl : k.x.d.length = 0
      · exact .inl (List.eq_nil_of_length_eq_zero hl)
      · have h7 := h6 0 (by omega)
        exact .inr ⟨b, off, e, h3, Nat.lt_of_lt_of_le h4 hg.size, h5, fun j hj => (World.cell?_of_block (a := ⟨b, off + j, none⟩) (hg.block b h4 (hne h7))).trans (h6 j hj)⟩
/-- the list's own row is cells -/
theorem Kq.own {w : World} {B C : Nat} {v : Value} {l : List Blk} (h : Kq w B C v l) : ∀ k, v.ownBlock = some k → B ≤ k ∧ k < w.heap.size ∧ ∃ cur, w.heap[k]? = some (.cells cur 57 (0, 0)) := by
  obtain ⟨E, e, h1, h2⟩ := h
  intro k hk
  rcases h1.2 with ⟨h0, _⟩ | ⟨g, cap, cur, hv, hB, hgg, h4⟩
  · rw [h0] at hk; cases hk
  · rw [hv] at hk
    cases hk
    exact ⟨hB, (Array.getElem?_eq_some_iff.1 hgg).1, cur, hgg⟩
/-- What the loop over the iterator keeps. -/
def DvI (w : World) (n₀ D0 B1 : Nat) (pre : List Pt) (W : World) : Prop :=
  ∃ v, Boxed W B1 29 v ∧ Kq W D0 D0 v (pre.map fun x => blkP x.l) ∧ Below n₀ w W ∧ D0 ≤ W.heap.size
theorem dvI_own (w : World) (n₀ D0 B1 : Nat) (hD : n₀ ≤ D0) (hw : n₀ ≤ w.heap.size) : OwnFrom D0 (DvI w n₀ D0 B1) := by
  rintro pre X Y row ⟨v, h1, h2, h4, h5⟩ hg hr
  have hne : some B1 ≠ row := fun e => by
    obtain ⟨_, o, ho, hc⟩ := hr B1 e.symm
    rw [show X.heap[B1]? = _ from h1] at ho
    cases ho
    cases hc
  exact ⟨v, h1.kept hg hne, h2.kept hg (fun r e => (hr r e).2), h4.grown hg (Nat.le_trans hw h4.size) (fun k e => Nat.le_trans hD (hr k e).1), Nat.le_trans h5 hg.size⟩
/-- A round's 'blocks = append(blocks, block)', told at once. -/
theorem round_div {W w2 w5 : World} {n₀ D0 B1 bb nb : Nat} {b v v5 : Value} {s : Int} {L : List Blk} {y : Blk} (hv : Boxed W B1 29 v) (hz : Kq W D0 D0 v L) (hn1 : n₀ ≤ B1) (hD : n₀ ≤ D0) (hbb : bb < D0) (hnb : nb < D0) (hb1D : B1 < D0) (hbb1 : bb ≠ B1) (hnb1 : nb ≠ B1) (hsz : D0 ≤ W.heap.size)
    (h2 : Below W.heap.size W w2) (hz' : Kq w5 D0 D0 v5 (L ++ [y])) (hg : w2.grownBy w5 v.ownBlock) :
    Boxed w5 B1 29 v ∧ KeepsFrom D0 W (w5.setCell ⟨B1, 0, none⟩ v5) ∧ PtKp n₀ bb nb b s W (w5.setCell ⟨B1, 0, none⟩ v5) ∧ Boxed (w5.setCell ⟨B1, 0, none⟩ v5) B1 29 v5 ∧ Kq (w5.setCell ⟨B1, 0, none⟩ v5) D0 D0 v5 (L ++ [y]) := by
  have hlt : ∀ k, v.ownBlock = some k → D0 ≤ k := fun k hk => (hz.own k hk).1
  have hx0 : ∀ {B t u}, B < D0 → Boxed W B t u → Boxed w5 B t u := fun {B t u} h3 hb =>
    (show Boxed w2 B t u from (h2.block B hb.lt).trans hb).kept hg (fun e => by have := hlt _ e.symm; omega)
  have h1 : Boxed w5 B1 29 v := hx0 hb1D hv
  have g1 := grownBy_setCell' w5 B1 v5
  have hz1 : Kq (w5.setCell ⟨B1, 0, none⟩ v5) D0 D0 v5 (L ++ [y]) := by
    refine hz'.keep (fun k hk hk2 => ?_) (by have := g1.size; exact this)
    exact g1.block k hk2 (fun e => by cases e; omega)
  have hx : ∀ {B t u}, B < D0 → B ≠ B1 → Boxed W B t u → Boxed (w5.setCell ⟨B1, 0, none⟩ v5) B t u := fun {B t u} h3 h4 hb =>
    (hx0 h3 hb).kept g1 (fun e => by cases e; exact h4 rfl)
  have hsz5 : W.heap.size ≤ w5.heap.size := Nat.le_trans h2.size hg.size
  refine ⟨h1, ⟨Nat.le_trans hsz5 g1.size, fun k o hk ho hc => ?_⟩, ⟨?_, hx hbb hbb1, hx hnb hnb1⟩, h1.set v5, hz1⟩
  · have hkl : k < W.heap.size := (Array.getElem?_eq_some_iff.1 ho).1
    have e2 : w2.heap[k]? = some o := (h2.block k hkl).trans ho
    have e5 : w5.heap[k]? = some o := (hg.block k (Nat.lt_of_lt_of_le hkl h2.size) (fun e => by
      obtain ⟨_, _, cur, hcur⟩ := hz.own k e.symm
      rw [ho] at hcur
      cases hcur
      cases hc)).trans e2
    exact (g1.block k (Nat.lt_of_lt_of_le hkl hsz5) (fun e => by cases e; omega)).trans e5
  · exact ((h2.mono (Nat.le_trans hD hsz)).grown hg (Nat.le_trans (Nat.le_trans hD hsz) h2.size) (fun k hk => by have := hlt k hk; omega)).setCell (p := ⟨B1, 0, none⟩) hn1 v5
set_option maxRecDepth 100000 in
set_option maxHeartbeats 4000000 in
theorem divide_any (ad : Option Addr) (n cap : Nat) (xs : List UInt8) (w : World) (hl : Lie w ad xs) (hn : n = xs.length) (hc : n ≤ cap) (hcm : cap ≤ maxLen) (had : ad = none → cap = 0) (hs : n ≤ 90000) :
    Calls Tryd.prog 37 #[.slice ad n cap] w (GivesK w (divB xs)) := by
  refine (callsIn_wide (n := 3)).1 ?_
  refine callsIn_of_wp_marks Tryd.func37 rfl trivial ?_ rfl
  simp only [Tryd.ntmps37, List.size_toArray, List.length_cons, List.length_nil, Nat.reduceAdd, Nat.reduceSub, Array.replicate_succ, Array.replicate_zero, List.push_toArray, List.append_toArray, List.nil_append, List.cons_append]
  have HN := Lib.hid hn
  have HL := Lib.hid hl
  have HE := Lib.hid (divB_parts xs.length xs (Nat.le_refl _))
  have HCM := Lib.hid hcm
  clear hn hl had
  gi_wp2_with fail
  refine ⟨trivial, ?_⟩
  refine (chunk_any _ _ n cap 64 _ (by decide)).mono ?_
  rintro e w' ⟨rfl, rfl⟩
  have bO := Boxed.new w 29 (.slice none 0 0)
  have bB := Boxed.new (w.alloc (.cells #[.slice none 0 0] 29)) 26 (.slice ad n cap)
  have bN := Boxed.new ((w.alloc (.cells #[.slice none 0 0] 29)).alloc (.cells #[.slice ad n cap] 26)) 3 (.int .i64 64)
  have hB0 : Below w.heap.size w (((w.alloc (.cells #[.slice none 0 0] 29)).alloc (.cells #[.slice ad n cap] 26)).alloc (.cells #[.int .i64 64] 3)) :=
    (((Below.refl _ w).alloc (Nat.le_refl _) _).alloc (by simp) _).alloc (by simp; omega) _
  have hsz4 : (((w.alloc (.cells #[.slice none 0 0] 29)).alloc (.cells #[.slice ad n cap] 26)).alloc (.cells #[.int .i64 64] 3)).heap.size = w.heap.size + 1 + 1 + 1 := by simp
  have bO3 := (bO.alloc (.cells #[.slice ad n cap] 26)).alloc (.cells #[.int .i64 64] 3)
  have bB3 := bB.alloc (.cells #[.int .i64 64] 3)
  simp only [World.size_alloc] at bB3 bN
  clear bO bB
  gi_wp2
  refine wpIn_seqKn rfl (by decide) (gf := 95) (lb := #[.pointer (some ⟨w.heap.size + 1, 0, none⟩), .pointer (some ⟨w.heap.size + 1 + 1, 0, none⟩)]) rfl trivial (enters_of Tryd.func95 (by kernel_rfl) rfl)
    (chunk1_kn 2 ad n cap 64 (w.heap.size + 1) (w.heap.size + 1 + 1) xs w _ HL.out HN.out (by omega) hc HCM.out (by decide) (by decide) hB0 bB3 bN)
    (fun h k => ⟨h.1.trans k.1, fun hb => k.2.1 (h.2.1 hb), fun hb => k.2.2 (h.2.2 hb)⟩) (ptKp_put (by rw [hsz4]; omega)) (fun _ => rfl)
    (DvI w w.heap.size (w.heap.size + 1 + 1 + 1) w.heap.size) (by rw [hsz4]; exact dvI_own _ _ _ _ (by omega) (Nat.le_refl _)) (fun x => fun _ _ _ _ h _ _ => h)
    ⟨_, bO3, Kq.nil _ _ _, hB0, by rw [hsz4]; exact Nat.le_refl _⟩
    (fun x => { tmps := #[.slice ad n cap, undef, .slice none 0 0, .pointer (some ⟨w.heap.size, 0, none⟩), .slice x.ad x.N x.cap, undef, .slice ad n cap, .func (.func 95) #[] #[.pointer (some ⟨w.heap.size + 1, 0, none⟩), .pointer (some ⟨w.heap.size + 1 + 1, 0, none⟩)], .slice x.ad x.N x.cap, undef, undef, undef, undef, undef, undef, undef, undef, undef, undef], defers := [] }) ?assign ?body ?done
  case assign =>
    intro l x W K hK
    gi_wp2
    exact hK
  case body =>
    rintro l pre x W ⟨v, hv, hz, hB, hWD⟩ hkn hlen
    rw [hsz4]
    obtain ⟨xad, xN, xcap, xl⟩ := x
    obtain ⟨k1, k2, k3⟩ := hkn
    dsimp only at k1 k2 k3
    have hLl : (pre.map fun x : Pt => blkP x.l).length = pre.length := by simp
    generalize hLs : (pre.map fun x : Pt => blkP x.l) = Ls0 at hz hLl
    have HLS := Lib.hid hLs
    have hLb : Ls0.length + 1 ≤ 100000 := by omega
    have HV := Lib.hid hv
    have HZ := Lib.hid hz
    have HB := Lib.hid hB
    have HK1 := Lib.hid k1
    have HK2 := Lib.hid k2
    have HWD := Lib.hid hWD
    have HWS := Lib.hid hB.size
    have HPD := Lib.hid (show pad xl = xl.take 64 ++ (List.replicate 64 0).drop xl.length by unfold pad; rw [List.drop_replicate])
    have HVB := Lib.hid (fun k hk => (hz.own k hk).1)
    clear hv hz hB k1 k2 k3 hLs hLl hlen bO3 bB3 bN hB0 HL HN HE HCM hWD
    gi_wp2_with (first
      | ((refine wpListIn_plain rfl fun K hK => in_make (ops := #[]) (fun _ => trivial) rfl rfl ?_); refine wpList_make_row rfl (.const (.int .i64 64)) (.const (.int .i64 64)) rfl 64 64 64 rfl rfl rfl rfl (by omega) ?_; intro g w1 hrow1 hg1 hb1; refine ⟨rfl, hK _ _ ?_⟩; have HR1 := Lib.hid hrow1; have HG1 := Lib.hid hg1; have HB1 := Lib.hid hb1; have HL1 := Lib.hid ((HK1.out.below HB.out rfl).below hb1 rfl); clear hrow1 hg1 hb1 hK)
      | ((refine wpListIn_plain rfl fun K hK => in_builtin (ops := #[]) (fun _ => trivial) rfl rfl (.inr rfl) ?_); (with_reducible refine wpList_copy_cut rfl (.tmp 10) (.tmp 11) rfl g _ _ rfl _ _ _ rfl xl HK2.out HL1.out _ HR1.out (by rw [List.length_replicate]) W HB1.out HG1.out ?_); intro w2 hrow2 hb2; refine ⟨rfl, hK _ _ ?_⟩; rw [List.length_replicate, ← HPD.out] at hrow2; have HR2 := Lib.hid hrow2; have HB2 := Lib.hid hb2; have hc2 := (show Boxed w2 w.heap.size 29 v from (hb2.block _ HV.out.lt).trans HV.out).cell; have HK3 := Lib.hid ((HZ.out.below hb2).below ((Below.refl _ w2).alloc (Nat.le_refl _) (.cells #[.bool false, .bool false, .slice (some ⟨g, 0, none⟩) 64 64] 57))); have HX2 := Lib.hid (Kx.one (w := w2) false false (some ⟨g, 0, none⟩) (pad xl) 64 (LieX.row (C := w.heap.size + 1 + 1 + 1) (y := v.ownBlock) hrow2 (Nat.le_trans HWD.out HG1.out) (fun e => by have := (HZ.out.own g e).2.1; have := HG1.out; omega)) (by rw [pad_length]; omega) (by unfold maxLen; omega) (fun h => by cases h) _ rfl); rw [pad_length] at HX2; have HS3 := Lib.hid (show w.heap.size + 1 + 1 + 1 ≤ (w2.alloc (.cells #[.bool false, .bool false, .slice (some ⟨g, 0, none⟩) 64 64] 57)).heap.size by have := HWD.out; have := hb2.size; simp; omega); have HB3 := Lib.hid (hb2.alloc hb2.size (.cells #[.bool false, .bool false, .slice (some ⟨g, 0, none⟩) 64 64] 57)); clear hrow2 hb2 hK)
      | ((refine wpListIn_plain rfl fun K hK => in_builtin (ops := #[]) (fun _ => trivial) rfl rfl (.inl rfl) ?_); (with_reducible refine wpList_append_k rfl (.tmp 13) (.tmp 16) rfl (w.heap.size + 1 + 1 + 1) (w.heap.size + 1 + 1 + 1) (w.heap.size + 1 + 1 + 1) (w.heap.size + 1 + 1 + 1) v Ls0 rfl HK3.out _ 1 1 [⟨false, false, pad xl⟩] (fun h => by cases h) HX2.out rfl rfl hLb HS3.out (Nat.le_refl _) (Nat.le_refl _) ?_); intro v5 w5 ho5 hg5 _; refine ⟨rfl, hK _ _ ?_⟩; obtain ⟨ad5, cap5, e5, -⟩ := ho5.read; subst e5; rw [List.length_append, List.length_singleton] at ho5; rw [List.length_append, List.length_singleton]; have hr := round_div (n₀ := w.heap.size) (B1 := w.heap.size) (bb := w.heap.size + 1) (nb := w.heap.size + 1 + 1) (b := .slice ad n cap) (s := ((64 : Nat) : Int)) HV.out HZ.out (Nat.le_refl _) (by omega) (by omega) (by omega) (by omega) (by omega) (by omega) HWD.out HB3.out ho5 hg5; have hc5 := hr.1.cell; have hf5 := hr.1.frozen; have HR := Lib.hid hr; clear ho5 hg5 hr hK))
    obtain ⟨_, hk, hp, hbx, hz2⟩ := HR.out
    refine ⟨hk, hp, _, hbx, ?_, HB.out.trans (hp.1.mono (Nat.le_refl _)), Nat.le_trans HWD.out hk.size⟩
    rw [List.map_append, HLS.out, List.map_singleton]
    exact hz2
  case done =>
    rintro ys W hS ⟨v, hv, hz, hB, hWD⟩ hK
    rw [hsz4] at hK ⊢
    have hc1 := hv.cell
    have HZ := Lib.hid hz
    have HB := Lib.hid hB
    have HK := Lib.hid hK
    have HF : Hid ((ys.map fun x : Pt => blkP x.l) = divB xs) := Lib.hid (by rw [HE.out, ← show ys.map (·.l) = partsF 64 xs from hS, List.map_map]; rfl)
    clear hv hz hB hK hS bO3 bB3 bN hB0
    gi_wp2_with fail
    have hK2 : W.heap[w.heap.size + 1 + 1 + 1]? = some (.deferred (some [])) := HK.out
    have hg2 := grownBy_putObj' W (w.heap.size + 1 + 1 + 1) (.deferred none)
    refine ⟨by simp, .inl ⟨_, _, rfl, run_takeDeferred hK2, ?_⟩⟩
    refine ⟨_, results_tmp rfl _ _ _, v, rfl, ?_, HB.out.grown hg2 HB.out.size (fun k e => by cases e; omega)⟩
    rw [← HF.out]
    exact (HZ.out.kept hg2 (fun r e => by cases e; exact ⟨_, hK2, rfl⟩)).mono (by omega) (by omega)
end Go.Proofs.YtjiijjdmkeeilaaDoor
namespace Go.Proofs.YtjiijjdmkeeilaaDoor
open Go.RowKit
set_option linter.unusedVariables false
/-- the number of the first block that answers, or -1 -/
def fixI (p : Bool → Bool → Nat → Bool) (l : List Blk) : Int :=
  match l.findIdx? (fun b => p b.m b.bad b.d.length) with
  | some k => (k : Int)
  | none => -1
theorem fix_no {p : Bool → Bool → Nat → Bool} {l : List Blk} (h : ∀ j (h : j < l.length), p l[j].m l[j].bad l[j].d.length = false) : fixI p l = -1 := by
  have : l.findIdx? (fun b => p b.m b.bad b.d.length) = none := by
    rw [List.findIdx?_eq_none_iff]
    intro x hx
    obtain ⟨j, hj, rfl⟩ := List.getElem_of_mem hx
    exact h j hj
  unfold fixI
  rw [this]
theorem fix_at {p : Bool → Bool → Nat → Bool} {l : List Blk} {k : Nat} (hk : k < l.length) (h : p l[k].m l[k].bad l[k].d.length = true) (hall : ∀ j (h : j < l.length), j < k → p l[j].m l[j].bad l[j].d.length = false) : fixI p l = (k : Int) := by
  have : l.findIdx? (fun b => p b.m b.bad b.d.length) = some k := by
    rw [List.findIdx?_eq_some_iff_getElem]
    exact ⟨hk, h, fun j hj => by rw [hall j (by omega) hj]; simp⟩
  unfold fixI
  rw [this]
theorem fix_cases (p : Bool → Bool → Nat → Bool) (l : List Blk) : (fixI p l = -1 ∧ ∀ j (h : j < l.length), p l[j].m l[j].bad l[j].d.length = false) ∨
    ∃ k : Nat, fixI p l = (k : Int) ∧ ∃ hk : k < l.length, p l[k].m l[k].bad l[k].d.length = true ∧ ∀ j (h : j < l.length), j < k → p l[j].m l[j].bad l[j].d.length = false := by
  unfold fixI
  cases h : l.findIdx? (fun b => p b.m b.bad b.d.length) with
  | none =>
    rw [List.findIdx?_eq_none_iff] at h
    exact .inl ⟨rfl, fun j hj => h _ (List.getElem_mem hj)⟩
  | some k =>
    rw [List.findIdx?_eq_some_iff_getElem] at h
    obtain ⟨hk, h1, h2⟩ := h
    exact .inr ⟨k, rfl, hk, h1, fun j hj hjk => by simpa using h2 j hjk⟩
/-- does a block answer? -/
def anyI (p : Bool → Bool → Nat → Bool) (l : List Blk) : Bool := decide (0 ≤ fixI p l)
theorem anyI_eq (p : Bool → Bool → Nat → Bool) (l : List Blk) : anyI p l = l.any fun b => p b.m b.bad b.d.length := by
  unfold anyI
  rcases fix_cases p l with ⟨h1, h2⟩ | ⟨k, h1, hk, h2, _⟩
  · rw [h1]
    symm
    rw [show decide ((0 : Int) ≤ -1) = false from rfl, List.any_eq_false]
    intro x hx
    obtain ⟨j, hj, rfl⟩ := List.getElem_of_mem hx
    rw [h2 j hj]; simp
  · rw [h1]
    symm
    rw [show decide ((0 : Int) ≤ (k : Int)) = true from decide_eq_true (by omega), List.any_eq_true]
    exact ⟨l[k], List.getElem_mem hk, h2⟩
/-- what a function that is handed to a search owes -/
structure Says (fn : Nat) (p : Bool → Bool → Nat → Bool) : Prop where
  enter : ∀ args w, (callFunc fn args).run Tryd.prog w = .ok (.enter fn args) w
  calls : ∀ (m bad : Bool) (ad : Option Addr) (n cap : Nat) (w : World), Calls Tryd.prog fn #[.agg #[.bool m, .bool bad, .slice ad n cap]] w fun e w' => e = .returned (.bool (p m bad n)) ∧ Below w.heap.size w w'
attribute [local irreducible] fixI
set_option maxRecDepth 100000 in
set_option maxHeartbeats 1000000 in
theorem index_any (fn : Nat) (p : Bool → Bool → Nat → Bool) (hp : Says fn p) (ad : Option Addr) (n cap : Nat) (l : List Blk) (w : World) (hl : Ki w ad l) (hn : n = l.length) (hs : n ≤ 9223372036854775807) :
    Calls Tryd.prog 101 #[.slice ad n cap, .func (.func fn) #[] #[]] w fun e w' => e = .returned (.int .i64 (fixI p l)) ∧ Below w.heap.size w w' := by
  have HL := Lib.hid hl
  have HN := Lib.hid hn
  have HY := Lib.hid (fun k (hk : k < l.length) => fix_at (p := p) hk)
  have HZ := Lib.hid (@fix_no p l)
  have HP := Lib.hid hp
  clear hl hn hp
  go_enter Tryd.func101, Tryd.ntmps101
  go_wp2
  go_loopg [8] n (fun gk vk wx => ∃ k : Nat, vk = .int .i64 k ∧ k + gk = n ∧ Hid (Below w.heap.size w wx) ∧ Hid (∀ j (h : j < l.length), j < k → p l[j].m l[j].bad l[j].d.length = false))
  case atStart => exact ⟨0, rfl, by omega, Lib.hid (Below.refl _ _), Lib.hid fun j _ hj => by omega⟩
  case round =>
    obtain ⟨k, rfl, hk, hB, hall⟩ := hrel
    cases gk with
    | zero =>
      obtain rfl : k = n := by omega
      have HF := Lib.hid (HZ.out (fun j hj => hall.out j hj (by have := HN.out; omega)))
      go_wp2
      go_ret
      exact ⟨by rw [HF.out]; rfl, hB.out⟩
    | succ gk0 =>
      have hkn : k < n := by omega
      have hkl : k < l.length := by have := HN.out; omega
      obtain ⟨b, off, ad', cap', rfl, hlt, q0, q1, q2, qr⟩ := (HL.out.below hB.out).get hkl
      clear qr
      have HNX : p l[k].m l[k].bad l[k].d.length = false → Hid (∀ j (h : j < l.length), j < k + 1 → p l[j].m l[j].bad l[j].d.length = false) := fun hc => Lib.hid fun j h hj => by
        rcases Nat.lt_or_ge j k with h3 | h3
        · exact hall.out j h h3
        · obtain rfl : j = k := by omega
          exact hc
      have HNO : p l[k].m l[k].bad l[k].d.length = true → Hid (fixI p l = (k : Int)) := fun hc => Lib.hid (HY.out k hkl hc hall.out)
      generalize l[k].m = xm at *
      generalize l[k].bad = xb at *
      generalize l[k].d.length = xn at *
      clear hkl
      go_wp2_with fail
      rw [HP.out.enter]
      refine (HP.out.calls xm xb ad' xn cap' _).mono ?_
      rintro e w5 ⟨rfl, hb⟩
      have HB5 := Lib.hid (hB.out.trans (hb.mono hB.out.size))
      clear hb q0 q1 q2
      cases hok : p xm xb xn
      · have HR := HNX hok
        clear HNX HNO hok
        go_wp2
        go_roundg gk0
        case rel => exact ⟨k + 1, by go_num, by omega, HB5, HR⟩
        case measure => omega
      · have HR := HNO hok
        clear HNX HNO hok
        go_wp2
        go_ret
        exact ⟨by rw [HR.out]; rfl, HB5.out⟩
end Go.Proofs.YtjiijjdmkeeilaaDoor
namespace Go.Proofs.YtjiijjdmkeeilaaDoor
open Go.RowKit
set_option linter.unusedVariables false
def pEnd (m bad : Bool) (n : Nat) : Bool := m || bad
/-- the number of blocks before the first one that is a mark or bad -/
def endK (l : List Blk) : Nat := match l.findIdx? (fun b => pEnd b.m b.bad b.d.length) with | some k => k | none => l.length
theorem endK_cases (l : List Blk) : endK l ≤ l.length ∧ (endK l = l.length ∨ ∃ h : endK l < l.length, (l[endK l].m || l[endK l].bad) = true) ∧ (∀ j (h : j < l.length), j < endK l → (l[j].m || l[j].bad) = false) := by
  unfold endK
  cases h : l.findIdx? (fun b => pEnd b.m b.bad b.d.length) with
  | none =>
    rw [List.findIdx?_eq_none_iff] at h
    exact ⟨Nat.le_refl _, .inl rfl, fun j hj _ => h _ (List.getElem_mem hj)⟩
  | some k =>
    rw [List.findIdx?_eq_some_iff_getElem] at h
    obtain ⟨hk, h1, h2⟩ := h
    exact ⟨Nat.le_of_lt hk, .inr ⟨hk, h1⟩, fun j hj hjk => by simpa [pEnd] using h2 j hjk⟩
theorem endK_fix (l : List Blk) : (fixI pEnd l = -1 ∧ endK l = l.length) ∨ (fixI pEnd l = (endK l : Int)) := by
  unfold fixI endK
  cases l.findIdx? (fun b => pEnd b.m b.bad b.d.length) with
  | none => exact .inl ⟨rfl, rfl⟩
  | some k => exact .inr rfl
set_option maxRecDepth 100000 in
set_option maxHeartbeats 400000 in
theorem end_any (m bad : Bool) (ad : Option Addr) (n cap : Nat) (w : World) :
    Calls Tryd.prog 102 #[.agg #[.bool m, .bool bad, .slice ad n cap]] w fun e w' => e = .returned (.bool (pEnd m bad n)) ∧ Below w.heap.size w w' := by
  have HB := Lib.hid ((Below.refl w.heap.size w).alloc (Nat.le_refl _) (.cells #[.bool m, .bool bad, .slice ad n cap] 57))
  cases m <;> cases bad
  all_goals
    go_enter Tryd.func102, Tryd.ntmps102
    go_wp2
    go_ret
    exact ⟨rfl, HB.out⟩
theorem says_end : Says 102 pEnd := ⟨fun args w => by go_simp, end_any⟩
attribute [local irreducible] fixI endK pEnd
set_option maxRecDepth 100000 in
set_option maxHeartbeats 1000000 in
theorem intact_any (ad : Option Addr) (n cap : Nat) (l : List Blk) (w : World) (hl : Ki w ad l) (hn : n = l.length) (hs : n ≤ 9223372036854775807) :
    Calls Tryd.prog 81 #[.slice ad n cap] w fun e w' => e = .returned (.int .i64 (endK l : Int)) ∧ Below w.heap.size w w' := by
  have HX := Lib.hid (index_any 102 pEnd says_end ad n cap l w hl hn hs)
  have HC := Lib.hid (endK_fix l)
  have HN := Lib.hid hn
  clear hl hn
  generalize endK l = k at *
  go_enter Tryd.func81, Tryd.ntmps81
  go_wp2_with fail
  refine HX.out.mono ?_
  clear HX
  generalize fixI pEnd l = r at *
  rintro e w1 ⟨rfl, hb⟩
  rcases HC.out with ⟨h1, h2⟩ | h1
  · subst h1
    have HK := Lib.hid (h2.trans HN.out.symm)
    clear h2
    go_wp2
    go_ret
    exact ⟨by rw [HK.out]; rfl, hb⟩
  · subst h1
    have h0 : ¬ ((k : Int) < 0) := by omega
    go_wp2
    go_ret
    exact ⟨rfl, hb⟩
set_option maxRecDepth 100000 in
set_option maxHeartbeats 2000000 in
theorem bytes_any (ad : Option Addr) (n cap : Nat) (l : List Blk) (w : World) (hl : Ki w ad l) (hn : n = l.length) (hc : n ≤ cap) (hcm : cap ≤ maxLen) (hs : n ≤ 5000) (hd : ∀ b ∈ l, b.d.length ≤ 1000) :
    Calls Tryd.prog 56 #[.slice ad n cap] w (Gives w (bytB l)) := by
  obtain ⟨e1, e2, e3⟩ := endK_cases l
  have HT := Lib.hid (bytB_stop l (endK l) e1 e2 e3)
  have HALL := Lib.hid e3
  have HI := Lib.hid (intact_any ad n cap l w hl hn (by omega))
  have HL := Lib.hid hl
  have HN := Lib.hid hn
  have HD := Lib.hid hd
  have HCM := Lib.hid hcm
  have hkn : endK l ≤ n := by omega
  unfold maxLen at hcm
  clear hl hn hd e1 e2 e3
  generalize endK l = E at *
  go_enter Tryd.func56, Tryd.ntmps56
  go_wp2_with fail
  refine HI.out.mono ?_
  clear HI
  rintro e w1 ⟨rfl, hb1⟩
  have HB1 := Lib.hid hb1
  clear hb1
  go_wp2
  have HBY := Lib.hid (bytB_take l)
  go_loopg [3, 11] E (fun gk v3 vk wx => ∃ k : Nat, vk = .int .i64 k ∧ k + gk = E ∧ Hid (Own wx w.heap.size v3 (bytB (l.take k))) ∧ Hid (Below w.heap.size w wx))
  case atStart => exact ⟨0, rfl, by omega, Lib.hid (by rw [List.take_zero]; exact Own.ofNil _ _), HB1⟩
  case round =>
    obtain ⟨k, rfl, hk, hO, hB⟩ := hrel
    cases gk with
    | zero =>
      obtain rfl : k = E := by omega
      go_wp2
      go_ret
      exact ⟨_, rfl, by rw [HT.out]; exact hO.out, hB.out⟩
    | succ gk0 =>
      have hkE : k < E := by omega
      have hkl : k < l.length := by have := HN.out; omega
      obtain ⟨b, off, ad', cap', rfl, hlt, q0, q1, q2, hq, hq2, hq3, hq4⟩ := (HL.out.below hB.out).get hkl
      have HNX := Lib.hid (HBY.out k hkl (fun j hj hjk => HALL.out j hj (by omega)))
      have hlen : (bytB (l.take k)).length ≤ k * 1000 := bytB_le _ _ _ (by rw [List.length_take]; omega) (fun b hb => HD.out b (List.mem_of_mem_take hb))
      have hdl : l[k].d.length ≤ 1000 := HD.out _ (List.getElem_mem hkl)
      have hsum : (bytB (l.take k)).length + l[k].d.length ≤ 10000000 := by omega
      have HLI := Lib.hid hq
      have HQ := Lib.hid hq4
      clear hq hq2 hq3 hq4 hlen hdl
      generalize l[k].m = xm at *
      generalize l[k].bad = xb at *
      generalize l[k].d = xd at *
      have HBX := Lib.hid ((Below.refl wr.heap.size wr).alloc (Nat.le_refl _) (.cells #[.bool xm, .bool xb, .slice ad' xd.length cap'] 57))
      have HOX := Lib.hid (hO.out.below HBX.out)
      have HLX := Lib.hid (HLI.out.below HBX.out rfl)
      have HBB := Lib.hid (hB.out.trans (HBX.out.mono hB.out.size))
      go_wp2_with (at_builtin; refine wpList_append_u rfl (.tmp 15) (.tmp 17) rfl w.heap.size _ _ rfl HOX.out _ _ _ xd HQ.out HLX.out rfl rfl hsum HBB.out.size ?_; intro v1 w1 ho1 hg1; have HO1 := Lib.hid ho1; have HB2 := Lib.hid (HBB.out.grown hg1 HBB.out.size (fun k hk => (HOX.out.lt k hk).1)); clear ho1 hg1)
      go_roundg gk0
      case rel => exact ⟨k + 1, by go_num, by omega, Lib.hid (by rw [HNX.out]; exact HO1.out), HB2⟩
      case measure => omega
end Go.Proofs.YtjiijjdmkeeilaaDoor
