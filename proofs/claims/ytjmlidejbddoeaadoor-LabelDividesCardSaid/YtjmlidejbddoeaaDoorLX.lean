/-
  Blocks of the call's own, where the blocks that hold them are as they were.
  The program's Divide.
-/
import Derived.Test.YtjmlidejbddoeaaDoorLG
import Derived.Test.YtjmlidejbddoeaaDoorLW
import Derived.Test.YtjmlidejbddoeaaDoorLK
namespace Go.Proofs.YtjmlidejbddoeaaDoor
open Go.RowKit
set_option linter.unusedVariables false
theorem Kq.keep {w w' : World} {D : Nat} {v : Value} {l : List Blk} (h : Kq w D D v l) (hb : ∀ k, D ≤ k → k < w.heap.size → w'.heap[k]? = w.heap[k]?) (hs : w.heap.size ≤ w'.heap.size) : Kq w' D D v l := by
  obtain ⟨E, e, h1, h2⟩ := h
  refine ⟨E, e, ⟨h1.1, ?_⟩, fun k hk => ⟨?_, (h2 k hk).le, (h2 k hk).mx, (h2 k hk).nn⟩⟩
  · rcases h1.2 with h0 | ⟨g, cap, cur, hv, hB, hg, h4⟩
    · exact .inl h0
    · exact .inr ⟨g, cap, cur, hv, hB, (hb g hB (Array.getElem?_eq_some_iff.1 hg).1).trans hg, h4⟩
  · rcases (h2 k hk).lie with h0 | ⟨b, off, e, h3, h4, h5, h6⟩
    · exact .inl h0
    · exact .inr ⟨b, off, e, h3, Nat.lt_of_lt_of_le h4 hs, h5, fun j hj => (World.cell?_of_block (a := ⟨b, off + j, none⟩) (hb b h3 h4)).trans (h6 j hj)⟩
end Go.Proofs.YtjmlidejbddoeaaDoor
namespace Go.Proofs.YtjmlidejbddoeaaDoor
open Go.RowKit Go.Shelf
set_option linter.unusedVariables false
set_option linter.unusedSimpArgs false
attribute [local go_sem] Oper.semAt_some
/-- the block of a part -/
def blkP (l : List UInt8) : Blk := ⟨false, false, pad l⟩
theorem pad_take (l : List UInt8) : pad (l.take 64) = pad l := by
  unfold pad
  rw [List.take_take, List.length_take]
  congr 2
  omega
theorem divB_parts (n : Nat) : ∀ xs : List UInt8, xs.length ≤ n → divB xs = (partsF 64 xs).map blkP := by
  induction n with
  | zero =>
    intro xs h
    obtain rfl := List.eq_nil_of_length_eq_zero (Nat.le_zero.1 h)
    rw [parts_nil _ _ (by simp)]
    rfl
  | succ n ih =>
    intro xs h
    by_cases h0 : 0 < xs.length
    · rw [parts_cons 64 xs (by omega) h0, List.map_cons, ← ih (xs.drop 64) (by rw [List.length_drop]; omega)]
      unfold divB
      have hc : cntB xs.length = cntB (xs.drop 64).length + 1 := by unfold cntB; rw [List.length_drop]; omega
      rw [hc, List.range_succ_eq_map, List.map_cons, List.map_map]
      congr 1
      · unfold blkP blkAt
        rw [pad_take]
        simp
      · exact List.map_congr_left (fun i _ => blkAt_succ xs i)
    · obtain rfl := List.eq_nil_of_length_eq_zero (show xs.length = 0 by omega)
      rw [parts_nil _ _ (by simp)]
      rfl
theorem cells_of_cell {w : World} {b k : Nat} {v : Value} (h : w.cell? ⟨b, k, none⟩ = some v) {o : Obj} (ho : w.heap[b]? = some o) : o.isCells = true := by
  cases o <;> simp_all [World.cell?, Obj.isCells]
/-- blocks are kept where no block of cells changes but the list's own -/
theorem Kq.kept {w w' : World} {B C : Nat} {v : Value} {l : List Blk} {row : Option Nat} (h : Kq w B C v l) (hg : w.grownBy w' row) (hr : ∀ r, row = some r → ∃ o, w.heap[r]? = some o ∧ o.isCells = false) : Kq w' B C v l := by
  have hne : ∀ {b k : Nat} {u : Value}, w.cell? ⟨b, k, none⟩ = some u → some b ≠ row := fun {b k u} hc e => by
    obtain ⟨o, ho, hn⟩ := hr b e.symm
    rw [cells_of_cell hc ho] at hn
    cases hn
  obtain ⟨E, e, h1, h2⟩ := h
  refine ⟨E, e, h1.kept hg ?_, fun k hk => ⟨?_, (h2 k hk).le, (h2 k hk).mx, (h2 k hk).nn⟩⟩
  · rcases h1.2 with ⟨h0, _⟩ | ⟨g, cap, cur, hv, hB, hgg, h4⟩
    · left; rw [h0]; rfl
    · right
      intro e
      rw [hv] at e
      obtain ⟨o, ho, hn⟩ := hr g e.symm
      rw [show w.heap[g]? = _ from hgg] at ho
      cases ho
      cases hn
  · rcases (h2 k hk).lie with h0 | ⟨b, off, e, h3, h4, h5, h6⟩
    · exact .inl h0
    · by_cases hl : k.x.d.length = 0
      · exact .inl (List.eq_nil_of_length_eq_zero hl)
      · have h7 := h6 0 (by omega)
        exact .inr ⟨b, off, e, h3, Nat.lt_of_lt_of_le h4 hg.size, h5, fun j hj => (World.cell?_of_block (a := ⟨b, off + j, none⟩) (hg.block b h4 (hne h7))).trans (h6 j hj)⟩
/-- the list's own row is cells -/
theorem Kq.own {w : World} {B C : Nat} {v : Value} {l : List Blk} (h : Kq w B C v l) : ∀ k, v.ownBlock = some k → B ≤ k ∧ k < w.heap.size ∧ ∃ cur, w.heap[k]? = some (.cells cur 39 (0, 0)) := by
  obtain ⟨E, e, h1, h2⟩ := h
  intro k hk
  rcases h1.2 with ⟨h0, _⟩ | ⟨g, cap, cur, hv, hB, hgg, h4⟩
  · rw [h0] at hk; cases hk
  · rw [hv] at hk
    cases hk
    exact ⟨hB, (Array.getElem?_eq_some_iff.1 hgg).1, cur, hgg⟩
/-- What the loop over the iterator keeps. -/
def DvI (w : World) (n₀ D0 B1 : Nat) (pre : List Pt) (W : World) : Prop :=
  ∃ v, Boxed W B1 25 v ∧ Kq W D0 D0 v (pre.map fun x => blkP x.l) ∧ Below n₀ w W ∧ D0 ≤ W.heap.size
theorem dvI_own (w : World) (n₀ D0 B1 : Nat) (hD : n₀ ≤ D0) (hw : n₀ ≤ w.heap.size) : OwnFrom D0 (DvI w n₀ D0 B1) := by
  rintro pre X Y row ⟨v, h1, h2, h4, h5⟩ hg hr
  have hne : some B1 ≠ row := fun e => by
    obtain ⟨_, o, ho, hc⟩ := hr B1 e.symm
    rw [show X.heap[B1]? = _ from h1] at ho
    cases ho
    cases hc
  exact ⟨v, h1.kept hg hne, h2.kept hg (fun r e => (hr r e).2), h4.grown hg (Nat.le_trans hw h4.size) (fun k e => Nat.le_trans hD (hr k e).1), Nat.le_trans h5 hg.size⟩
/-- A round's 'blocks = append(blocks, block)', told at once. -/
theorem round_div {W w2 w5 : World} {n₀ D0 B1 bb nb : Nat} {b v v5 : Value} {s : Int} {L : List Blk} {y : Blk} (hv : Boxed W B1 25 v) (hz : Kq W D0 D0 v L) (hn1 : n₀ ≤ B1) (hD : n₀ ≤ D0) (hbb : bb < D0) (hnb : nb < D0) (hb1D : B1 < D0) (hbb1 : bb ≠ B1) (hnb1 : nb ≠ B1) (hsz : D0 ≤ W.heap.size)
    (h2 : Below W.heap.size W w2) (hz' : Kq w5 D0 D0 v5 (L ++ [y])) (hg : w2.grownBy w5 v.ownBlock) :
    Boxed w5 B1 25 v ∧ KeepsFrom D0 W (w5.setCell ⟨B1, 0, none⟩ v5) ∧ PtKp n₀ bb nb b s W (w5.setCell ⟨B1, 0, none⟩ v5) ∧ Boxed (w5.setCell ⟨B1, 0, none⟩ v5) B1 25 v5 ∧ Kq (w5.setCell ⟨B1, 0, none⟩ v5) D0 D0 v5 (L ++ [y]) := by
  have hlt : ∀ k, v.ownBlock = some k → D0 ≤ k := fun k hk => (hz.own k hk).1
  have hx0 : ∀ {B t u}, B < D0 → Boxed W B t u → Boxed w5 B t u := fun {B t u} h3 hb =>
    (show Boxed w2 B t u from (h2.block B hb.lt).trans hb).kept hg (fun e => by have := hlt _ e.symm; omega)
  have h1 : Boxed w5 B1 25 v := hx0 hb1D hv
  have g1 := grownBy_setCell' w5 B1 v5
  have hz1 : Kq (w5.setCell ⟨B1, 0, none⟩ v5) D0 D0 v5 (L ++ [y]) := by
    refine hz'.keep (fun k hk hk2 => ?_) (by have := g1.size; exact this)
    exact g1.block k hk2 (fun e => by cases e; omega)
  have hx : ∀ {B t u}, B < D0 → B ≠ B1 → Boxed W B t u → Boxed (w5.setCell ⟨B1, 0, none⟩ v5) B t u := fun {B t u} h3 h4 hb =>
    (hx0 h3 hb).kept g1 (fun e => by cases e; exact h4 rfl)
  have hsz5 : W.heap.size ≤ w5.heap.size := Nat.le_trans h2.size hg.size
  refine ⟨h1, ⟨Nat.le_trans hsz5 g1.size, fun k o hk ho hc => ?_⟩, ⟨?_, hx hbb hbb1, hx hnb hnb1⟩, h1.set v5, hz1⟩
  · have hkl : k < W.heap.size := (Array.getElem?_eq_some_iff.1 ho).1
    have e2 : w2.heap[k]? = some o := (h2.block k hkl).trans ho
    have e5 : w5.heap[k]? = some o := (hg.block k (Nat.lt_of_lt_of_le hkl h2.size) (fun e => by
      obtain ⟨_, _, cur, hcur⟩ := hz.own k e.symm
      rw [ho] at hcur
      cases hcur
      cases hc)).trans e2
    exact (g1.block k (Nat.lt_of_lt_of_le hkl hsz5) (fun e => by cases e; omega)).trans e5
  · exact ((h2.mono (Nat.le_trans hD hsz)).grown hg (Nat.le_trans (Nat.le_trans hD hsz) h2.size) (fun k hk => by have := hlt k hk; omega)).setCell (p := ⟨B1, 0, none⟩) hn1 v5
set_option maxRecDepth 100000 in
set_option maxHeartbeats 4000000 in
theorem divide_any (ad : Option Addr) (n cap : Nat) (xs : List UInt8) (w : World) (hl : Lie w ad xs) (hn : n = xs.length) (hc : n ≤ cap) (hcm : cap ≤ maxLen) (had : ad = none → cap = 0) (hs : n ≤ 90000) :
    Calls Tryd.prog 22 #[.slice ad n cap] w (GivesK w (divB xs)) := by
  refine (callsIn_wide (n := 3)).1 ?_
  refine callsIn_of_wp_marks Tryd.func22 rfl trivial ?_ rfl
  simp only [Tryd.ntmps22, List.size_toArray, List.length_cons, List.length_nil, Nat.reduceAdd, Nat.reduceSub, Array.replicate_succ, Array.replicate_zero, List.push_toArray, List.append_toArray, List.nil_append, List.cons_append]
  have HN := Lib.hid hn
  have HL := Lib.hid hl
  have HE := Lib.hid (divB_parts xs.length xs (Nat.le_refl _))
  have HCM := Lib.hid hcm
  clear hn hl had
  gi_wp2_with fail
  refine ⟨trivial, ?_⟩
  refine (chunk_any _ _ n cap 64 _ (by decide)).mono ?_
  rintro e w' ⟨rfl, rfl⟩
  have bO := Boxed.new w 25 (.slice none 0 0)
  have bB := Boxed.new (w.alloc (.cells #[.slice none 0 0] 25)) 36 (.slice ad n cap)
  have bN := Boxed.new ((w.alloc (.cells #[.slice none 0 0] 25)).alloc (.cells #[.slice ad n cap] 36)) 3 (.int .i64 64)
  have hB0 : Below w.heap.size w (((w.alloc (.cells #[.slice none 0 0] 25)).alloc (.cells #[.slice ad n cap] 36)).alloc (.cells #[.int .i64 64] 3)) :=
    (((Below.refl _ w).alloc (Nat.le_refl _) _).alloc (by simp) _).alloc (by simp; omega) _
  have hsz4 : (((w.alloc (.cells #[.slice none 0 0] 25)).alloc (.cells #[.slice ad n cap] 36)).alloc (.cells #[.int .i64 64] 3)).heap.size = w.heap.size + 1 + 1 + 1 := by simp
  have bO3 := (bO.alloc (.cells #[.slice ad n cap] 36)).alloc (.cells #[.int .i64 64] 3)
  have bB3 := bB.alloc (.cells #[.int .i64 64] 3)
  simp only [World.size_alloc] at bB3 bN
  clear bO bB
  gi_wp2
  refine wpIn_seqKn rfl (by decide) (gf := 65) (lb := #[.pointer (some ⟨w.heap.size + 1, 0, none⟩), .pointer (some ⟨w.heap.size + 1 + 1, 0, none⟩)]) rfl trivial (enters_of Tryd.func65 (by kernel_rfl) rfl)
    (chunk1_kn 2 ad n cap 64 (w.heap.size + 1) (w.heap.size + 1 + 1) xs w _ HL.out HN.out (by omega) hc HCM.out (by decide) (by decide) hB0 bB3 bN)
    (fun h k => ⟨h.1.trans k.1, fun hb => k.2.1 (h.2.1 hb), fun hb => k.2.2 (h.2.2 hb)⟩) (ptKp_put (by rw [hsz4]; omega)) (fun _ => rfl)
    (DvI w w.heap.size (w.heap.size + 1 + 1 + 1) w.heap.size) (by rw [hsz4]; exact dvI_own _ _ _ _ (by omega) (Nat.le_refl _)) (fun x => fun _ _ _ _ h _ _ => h)
    ⟨_, bO3, Kq.nil _ _ _, hB0, by rw [hsz4]; exact Nat.le_refl _⟩
    (fun x => { tmps := #[.slice ad n cap, undef, .slice none 0 0, .pointer (some ⟨w.heap.size, 0, none⟩), .slice x.ad x.N x.cap, undef, .slice ad n cap, .func (.func 65) #[] #[.pointer (some ⟨w.heap.size + 1, 0, none⟩), .pointer (some ⟨w.heap.size + 1 + 1, 0, none⟩)], .slice x.ad x.N x.cap, undef, undef, undef, undef, undef, undef, undef, undef, undef, undef], defers := [] }) ?assign ?body ?done
  case assign =>
    intro l x W K hK
    gi_wp2
    exact hK
  case body =>
    rintro l pre x W ⟨v, hv, hz, hB, hWD⟩ hkn hlen
    rw [hsz4]
    obtain ⟨xad, xN, xcap, xl⟩ := x
    obtain ⟨k1, k2, k3⟩ := hkn
    dsimp only at k1 k2 k3
    have hLl : (pre.map fun x : Pt => blkP x.l).length = pre.length := by simp
    generalize hLs : (pre.map fun x : Pt => blkP x.l) = Ls0 at hz hLl
    have HLS := Lib.hid hLs
    have hLb : Ls0.length + 1 ≤ 100000 := by omega
    have HV := Lib.hid hv
    have HZ := Lib.hid hz
    have HB := Lib.hid hB
    have HK1 := Lib.hid k1
    have HK2 := Lib.hid k2
    have HWD := Lib.hid hWD
    have HWS := Lib.hid hB.size
    have HPD := Lib.hid (show pad xl = xl.take 64 ++ (List.replicate 64 0).drop xl.length by unfold pad; rw [List.drop_replicate])
    have HVB := Lib.hid (fun k hk => (hz.own k hk).1)
    clear hv hz hB k1 k2 k3 hLs hLl hlen bO3 bB3 bN hB0 HL HN HE HCM hWD
    gi_wp2_with (first
      | ((refine wpListIn_plain rfl fun K hK => in_make (ops := #[]) (fun _ => trivial) rfl rfl ?_); refine wpList_make_row rfl (.const (.int .i64 64)) (.const (.int .i64 64)) rfl 64 64 64 rfl rfl rfl rfl (by omega) ?_; intro g w1 hrow1 hg1 hb1; refine ⟨rfl, hK _ _ ?_⟩; have HR1 := Lib.hid hrow1; have HG1 := Lib.hid hg1; have HB1 := Lib.hid hb1; have HL1 := Lib.hid ((HK1.out.below HB.out rfl).below hb1 rfl); clear hrow1 hg1 hb1 hK)
      | ((refine wpListIn_plain rfl fun K hK => in_builtin (ops := #[]) (fun _ => trivial) rfl rfl (.inr rfl) ?_); (with_reducible refine wpList_copy_cut rfl (.tmp 10) (.tmp 11) rfl g _ _ rfl _ _ _ rfl xl HK2.out HL1.out _ HR1.out (by rw [List.length_replicate]) W HB1.out HG1.out ?_); intro w2 hrow2 hb2; refine ⟨rfl, hK _ _ ?_⟩; rw [List.length_replicate, ← HPD.out] at hrow2; have HR2 := Lib.hid hrow2; have HB2 := Lib.hid hb2; have hc2 := (show Boxed w2 w.heap.size 25 v from (hb2.block _ HV.out.lt).trans HV.out).cell; have HK3 := Lib.hid ((HZ.out.below hb2).below ((Below.refl _ w2).alloc (Nat.le_refl _) (.cells #[.bool false, .bool false, .slice (some ⟨g, 0, none⟩) 64 64] 39))); have HX2 := Lib.hid (Kx.one (w := w2) false false (some ⟨g, 0, none⟩) (pad xl) 64 (LieX.row (C := w.heap.size + 1 + 1 + 1) (y := v.ownBlock) hrow2 (Nat.le_trans HWD.out HG1.out) (fun e => by have := (HZ.out.own g e).2.1; have := HG1.out; omega)) (by rw [pad_length]; omega) (by unfold maxLen; omega) (fun h => by cases h) _ rfl); rw [pad_length] at HX2; have HS3 := Lib.hid (show w.heap.size + 1 + 1 + 1 ≤ (w2.alloc (.cells #[.bool false, .bool false, .slice (some ⟨g, 0, none⟩) 64 64] 39)).heap.size by have := HWD.out; have := hb2.size; simp; omega); have HB3 := Lib.hid (hb2.alloc hb2.size (.cells #[.bool false, .bool false, .slice (some ⟨g, 0, none⟩) 64 64] 39)); clear hrow2 hb2 hK)
      | ((refine wpListIn_plain rfl fun K hK => in_builtin (ops := #[]) (fun _ => trivial) rfl rfl (.inl rfl) ?_); (with_reducible refine wpList_append_k rfl (.tmp 13) (.tmp 16) rfl (w.heap.size + 1 + 1 + 1) (w.heap.size + 1 + 1 + 1) (w.heap.size + 1 + 1 + 1) (w.heap.size + 1 + 1 + 1) v Ls0 rfl HK3.out _ 1 1 [⟨false, false, pad xl⟩] (fun h => by cases h) HX2.out rfl rfl hLb HS3.out (Nat.le_refl _) (Nat.le_refl _) ?_); intro v5 w5 ho5 hg5 _; refine ⟨rfl, hK _ _ ?_⟩; obtain ⟨ad5, cap5, e5, -⟩ := ho5.read; subst e5; rw [List.length_append, List.length_singleton] at ho5; rw [List.length_append, List.length_singleton]; have hr := round_div (n₀ := w.heap.size) (B1 := w.heap.size) (bb := w.heap.size + 1) (nb := w.heap.size + 1 + 1) (b := .slice ad n cap) (s := ((64 : Nat) : Int)) HV.out HZ.out (Nat.le_refl _) (by omega) (by omega) (by omega) (by omega) (by omega) (by omega) HWD.out HB3.out ho5 hg5; have hc5 := hr.1.cell; have hf5 := hr.1.frozen; have HR := Lib.hid hr; clear ho5 hg5 hr hK))
    obtain ⟨_, hk, hp, hbx, hz2⟩ := HR.out
    refine ⟨hk, hp, _, hbx, ?_, HB.out.trans (hp.1.mono (Nat.le_refl _)), Nat.le_trans HWD.out hk.size⟩
    rw [List.map_append, HLS.out, List.map_singleton]
    exact hz2
  case done =>
    rintro ys W hS ⟨v, hv, hz, hB, hWD⟩ hK
    rw [hsz4] at hK ⊢
    have hc1 := hv.cell
    have HZ := Lib.hid hz
    have HB := Lib.hid hB
    have HK := Lib.hid hK
    have HF : Hid ((ys.map fun x : Pt => blkP x.l) = divB xs) := Lib.hid (by rw [HE.out, ← show ys.map (·.l) = partsF 64 xs from hS, List.map_map]; rfl)
    clear hv hz hB hK hS bO3 bB3 bN hB0
    gi_wp2_with fail
    have hK2 : W.heap[w.heap.size + 1 + 1 + 1]? = some (.deferred (some [])) := HK.out
    have hg2 := grownBy_putObj' W (w.heap.size + 1 + 1 + 1) (.deferred none)
    refine ⟨by simp, .inl ⟨_, _, rfl, run_takeDeferred hK2, ?_⟩⟩
    refine ⟨_, results_tmp rfl _ _ _, v, rfl, ?_, HB.out.grown hg2 HB.out.size (fun k e => by cases e; omega)⟩
    rw [← HF.out]
    exact (HZ.out.kept hg2 (fun r e => by cases e; exact ⟨_, hK2, rfl⟩)).mono (by omega) (by omega)
end Go.Proofs.YtjmlidejbddoeaaDoor
