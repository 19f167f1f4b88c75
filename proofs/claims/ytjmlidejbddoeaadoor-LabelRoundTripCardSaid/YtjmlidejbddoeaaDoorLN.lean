/-
  A frame appended: the program's function and the document's own.
  Steps of a region that draws its order, one at a time: an operation taken first, the one that may come up now, and a condition on the world that grows on the way.
  Steps of a region that draws its order: an operation that its guard passes over, two that may come up, and what goes on behind one.
  The specification's Blocks: a label's blocks.
-/
import Derived.Test.YtjmlidejbddoeaaDoorFRNext3
import Derived.Test.YtjmlidejbddoeaaDoorLA
import Derived.Deep.RegionHeld3
import Derived.Deep.RegionWith
import Derived.Test.YtjmlidejbddoeaaDoorLH
import Derived.Test.YtjmlidejbddoeaaDoorLK
namespace Go.Proofs.YtjmlidejbddoeaaDoor
open Go.RowKit
set_option linter.unusedVariables false
set_option linter.unusedSimpArgs false

/-- A frame appended: a slice of the call's own, and no error. -/
def ApP (w : World) (l : List UInt8) (en : Ending) (w' : World) : Prop := ∃ v, en = .returned (.tuple #[v, .int .i64 0]) ∧ Own w' w.heap.size v l ∧ Below w.heap.size w w'

theorem Lie.pair (w : World) (x y : Nat) (hx : x < 256) (hy : y < 256) : Lie (w.alloc (.cells #[.int .u8 x, .int .u8 y] 5)) (some ⟨w.heap.size, 0, none⟩) [UInt8.ofNat x, UInt8.ofNat y] :=
  Lie.lits w _ _ (by unfold cellsU; simp only [List.map_cons, List.map_nil]; rw [toNat8' _ hx, toNat8' _ hy])

set_option maxRecDepth 100000 in
set_option maxHeartbeats 1000000 in
theorem append_any (ad bd : Option Addr) (n cap m mcap : Nat) (xs body : List UInt8) (w : World) (hl : Lie w ad xs) (hn : n = xs.length) (hs : xs.length ≤ 100000) (had : ad = none → cap = 0)
    (hl2 : Lie w bd body) (hm : m = body.length) (hs2 : body.length ≤ 65536) (hbd : bd = none → mcap = 0) (hmg : Mag w) :
    Calls Tryd.prog 23 #[.slice ad n cap, .slice bd m mcap] w (ApP w (xs ++ frm body)) := by
  have hnl : n ≤ 100000 := by omega
  have hml : m ≤ 65536 := by omega
  have hlen : lenF (m : Int) = (m : Int) + 10 := by unfold lenF; rw [if_neg (by omega)]
  have HLEN := Lib.hid hlen
  have HN := Lib.hid hn
  have HM := Lib.hid hm
  clear hlen hn hm
  go_enter Tryd.func23, Tryd.ntmps23
  go_wp2_with fail
  refine (putn_any _ [] w.heap.size m _ (by omega) (Own.ofNil _ _) (Nat.le_refl _) (by simp)).mono ?_
  rintro e w1 ⟨v1, rfl, ho1, hb1⟩
  rw [List.nil_append] at ho1
  obtain ⟨ad1, cap1, rfl, hl1, hc1, hm1, ha1⟩ := ho1.slice
  have HL1 := Lib.hid hl1
  have HB1 := Lib.hid hb1
  have HA1 := Lib.hid ha1
  have HX := Lib.hid (hl.below hb1 rfl)
  have HY := Lib.hid (hl2.below hb1 rfl)
  have HG := Lib.hid (hmg.step hb1)
  have hsz := hb1.size
  have HSZ := Lib.hid hsz
  rw [be4_length] at hc1 ⊢
  clear ho1 hl1 hb1 ha1 hl hl2 hmg hsz
  go_wp2_with fail
  refine (len_any (m : Int) _ (by omega) (by omega)).mono ?_
  rintro e w' ⟨rfl, rfl⟩
  rw [HLEN.out]
  go_wp2_with (first
    | (at_make; refine wpList_make_u rfl (.const (.int .i64 0)) (.tmp 20) rfl w1.heap.size _ (n + m + 10) rfl rfl (by omega) (by omega) (Nat.le_refl _) ?_; intro v2 w2 ho2 hg2; have HO2 := Lib.hid ho2; have HB2 : Hid (Below w1.heap.size w1 w2) := Lib.hid ((Below.refl _ _).grown hg2 (Nat.le_refl _) (by simp)); have HX2 := Lib.hid (HX.out.below HB2.out rfl); have hsz2 := HB2.out.size; have HSZ2 := Lib.hid hsz2; clear ho2 hg2 hsz2)
    | (at_builtin; refine wpList_append_u rfl (.tmp 21) (.tmp 22) rfl w1.heap.size _ [] rfl HO2.out ad n cap xs had HX2.out HN.out rfl (by simp only [List.length_nil]; omega) HSZ2.out ?_; intro v3 w3 ho3 hg3; rw [List.nil_append] at ho3; have HO3 := Lib.hid ho3; have HB3 : Hid (Below w1.heap.size w1 w3) := Lib.hid (HB2.out.trans (below_app HO2.out HSZ2.out hg3)); have hsz3 := HB3.out.size; have HSZ3 := Lib.hid hsz3; have hmg3 := HG.out.step HB3.out; have hg0 := hmg3.c0; have hg1 := hmg3.c1; have HMG3 := Lib.hid hmg3; clear ho3 hg3 hsz3 hmg3)
    | (at_builtin; refine wpList_append_u rfl (.tmp 24) (.tmp 29) rfl w1.heap.size _ xs rfl (HO3.out.alloc _) _ 2 2 [167, 60] (fun h => by cases h) (Lie.pair w3 167 60 (by decide) (by decide)) rfl rfl (by omega) (by have := HSZ3.out; simp; omega) ?_; intro v4 w4 ho4 hg4; have HO4 := Lib.hid ho4; have HB4 : Hid (Below w1.heap.size w1 w4) := Lib.hid (HB3.out.trans (below_add HO3.out HSZ3.out hg4)); have HL4 := Lib.hid (HL1.out.below HB4.out rfl); have hsz4 := HB4.out.size; have HSZ4 := Lib.hid hsz4; clear ho4 hg4 hsz4 hg0 hg1)
    | (at_builtin; refine wpList_append_u rfl (.tmp 31) (.tmp 32) rfl w1.heap.size _ (xs ++ [167, 60]) rfl HO4.out ad1 4 cap1 (be4 m) HA1.out HL4.out rfl rfl (by simp only [List.length_append, List.length_cons, List.length_nil, be4_length]; omega) HSZ4.out ?_; intro v5 w5 ho5 hg5; have HO5 := Lib.hid ho5; have HB5 : Hid (Below w1.heap.size w1 w5) := Lib.hid (HB4.out.trans (below_app HO4.out HSZ4.out hg5)); have HL5 := Lib.hid (HL1.out.below HB5.out rfl); have HY5 := Lib.hid (HY.out.below HB5.out rfl); clear ho5 hg5))
  go_wp2_with fail
  refine (fsum_any _ _ _ _ _ _ (be4 m) body _ HL5.out HY5.out rfl HM.out (by rw [be4_length]; decide) (by omega)).mono ?_
  rintro e w6 ⟨rfl, hb6⟩
  have HB6 : Hid (Below w1.heap.size w1 w6) := Lib.hid (HB5.out.trans (hb6.mono HB5.out.size))
  have HO6 := Lib.hid (HO5.out.below hb6)
  have hcl := crc_lt (be4 m ++ body)
  obtain ⟨C, hC⟩ : ∃ C, crc (be4 m ++ body) = C := ⟨_, rfl⟩
  rw [hC] at hcl ⊢
  have HC := Lib.hid hC
  clear hb6 hC
  go_wp2_with fail
  refine (putn_any v5 _ w1.heap.size C _ hcl HO6.out HB6.out.size (by simp only [List.length_append, List.length_cons, List.length_nil, be4_length]; omega)).mono ?_
  rintro e w7 ⟨v7, rfl, ho7, hb7⟩
  have HO7 := Lib.hid ho7
  have HB7 : Hid (Below w1.heap.size w1 w7) := Lib.hid (HB6.out.trans hb7)
  have HY7 := Lib.hid (HY.out.below HB7.out rfl)
  have hsz7 := HB7.out.size
  have HSZ7 := Lib.hid hsz7
  clear ho7 hb7 hsz7
  go_wp2_with (at_builtin; refine wpList_append_u rfl (.tmp 39) (.tmp 40) rfl w1.heap.size _ _ rfl HO7.out bd m mcap body hbd HY7.out HM.out rfl (by simp only [List.length_append, List.length_cons, List.length_nil, be4_length]; omega) HSZ7.out ?_; intro v8 w8 ho8 hg8)
  have HO8 := Lib.hid ho8
  have HB8 : Hid (Below w1.heap.size w1 w8) := Lib.hid (HB7.out.trans (below_app HO7.out HSZ7.out hg8))
  clear ho8 hg8
  go_wp2
  go_ret2
  refine ⟨v8, rfl, ?_, HB1.out.trans (HB8.out.mono HB1.out.size)⟩
  have h := HO8.out.mono HB1.out.size
  have e : xs ++ [167, 60] ++ be4 m ++ be4 C ++ body = xs ++ frm body := by
    rw [← HC.out, HM.out]
    simp [frm]
  rw [← e]
  exact h

set_option maxRecDepth 100000 in
set_option maxHeartbeats 1000000 in
theorem rappend_any (ad bd : Option Addr) (n cap m mcap : Nat) (xs body : List UInt8) (w : World) (hl : Lie w ad xs) (hn : n = xs.length) (hs : xs.length ≤ 100000) (had : ad = none → cap = 0)
    (hl2 : Lie w bd body) (hm : m = body.length) (hs2 : body.length ≤ 65536) (hbd : bd = none → mcap = 0) :
    Calls Tryd.prog 27 #[.slice ad n cap, .slice bd m mcap] w (ApP w (xs ++ frm body)) := by
  have hnl : n ≤ 100000 := by omega
  have hml : m ≤ 65536 := by omega
  have HN := Lib.hid hn
  have HM := Lib.hid hm
  have HX := Lib.hid hl
  have HY := Lib.hid hl2
  clear hn hm hl hl2
  go_enter Tryd.func27, Tryd.ntmps27
  go_wp2_with (first
    | (at_builtin; refine wpList_append_u rfl (.tmp 10) (.tmp 11) rfl w.heap.size _ [] rfl (Own.ofNil _ _) ad n cap xs had HX.out HN.out rfl (by simp only [List.length_nil]; omega) (Nat.le_refl _) ?_; intro v1 w1 ho1 hg1; rw [List.nil_append] at ho1; have HO1 := Lib.hid ho1; have HB1 : Hid (Below w.heap.size w w1) := Lib.hid (below_app (Own.ofNil _ _) (Nat.le_refl _) hg1); have hsz1 := HB1.out.size; have HSZ1 := Lib.hid hsz1; clear ho1 hg1 hsz1)
    | (at_builtin; refine wpList_append_u rfl (.tmp 13) (.tmp 14) rfl w.heap.size _ xs rfl (HO1.out.alloc _) _ 2 2 [167, 60] (fun h => by cases h) (Lie.pair w1 167 60 (by decide) (by decide)) rfl rfl (by omega) (by have := HSZ1.out; simp; omega) ?_; intro v2 w2 ho2 hg2; have HO2 := Lib.hid ho2; have HB2 : Hid (Below w.heap.size w w2) := Lib.hid (HB1.out.trans (below_add HO1.out HSZ1.out hg2)); have hsz2 := HB2.out.size; have HSZ2 := Lib.hid hsz2; clear ho2 hg2 hsz2))
  refine (four_any m _ (by omega)).mono ?_
  rintro e w3 ⟨rfl, hl3, _, hb3⟩
  have HO3 := Lib.hid (HO2.out.below hb3)
  have HB3 : Hid (Below w.heap.size w w3) := Lib.hid (HB2.out.trans (hb3.mono HSZ2.out))
  have HL3 := Lib.hid hl3
  have hsz3 := HB3.out.size
  have HSZ3 := Lib.hid hsz3
  clear hl3 hb3 hsz3
  go_wp2_with (at_builtin; refine wpList_append_u rfl (.tmp 16) (.tmp 19) rfl w.heap.size _ _ rfl HO3.out _ 4 4 (be4 m) (fun h => by cases h) HL3.out rfl rfl (by simp only [List.length_append, List.length_cons, List.length_nil, be4_length]; omega) HSZ3.out ?_; intro v4 w4 ho4 hg4; have HO4 := Lib.hid ho4; have HB4 : Hid (Below w.heap.size w w4) := Lib.hid (HB3.out.trans (below_app HO3.out HSZ3.out hg4)); have HY4 := Lib.hid (HY.out.below HB4.out rfl); clear ho4 hg4)
  refine (rfsum_any bd m mcap body _ HY4.out HM.out (by omega) hbd).mono ?_
  rintro e w5 ⟨g, rfl, hl5, hb5⟩
  have HO5 := Lib.hid (HO4.out.below hb5)
  have HB5 : Hid (Below w.heap.size w w5) := Lib.hid (HB4.out.trans (hb5.mono HB4.out.size))
  have HL5 := Lib.hid hl5
  have hsz5 := HB5.out.size
  have HSZ5 := Lib.hid hsz5
  clear hl5 hb5 hsz5
  go_wp2_with (first
    | (at_builtin; refine wpList_append_u rfl (.tmp 21) (.tmp 23) rfl w.heap.size _ _ rfl HO5.out _ 4 4 (be4 (crc (be4 body.length ++ body))) (fun h => by cases h) HL5.out rfl rfl (by simp only [List.length_append, List.length_cons, List.length_nil, be4_length]; omega) HSZ5.out ?_; intro v6 w6 ho6 hg6; have HO6 := Lib.hid ho6; have HB6 : Hid (Below w.heap.size w w6) := Lib.hid (HB5.out.trans (below_app HO5.out HSZ5.out hg6)); have HY6 := Lib.hid (HY.out.below HB6.out rfl); have hsz6 := HB6.out.size; have HSZ6 := Lib.hid hsz6; clear ho6 hg6 hsz6)
    | (at_builtin; refine wpList_append_u rfl (.tmp 25) (.tmp 26) rfl w.heap.size _ _ rfl HO6.out bd m mcap body hbd HY6.out HM.out rfl (by simp only [List.length_append, List.length_cons, List.length_nil, be4_length]; omega) HSZ6.out ?_; intro v7 w7 ho7 hg7; have HO7 := Lib.hid ho7; have HB7 : Hid (Below w.heap.size w w7) := Lib.hid (HB6.out.trans (below_app HO6.out HSZ6.out hg7)); clear ho7 hg7))
  go_ret2
  refine ⟨v7, rfl, ?_, HB7.out⟩
  have h := HO7.out
  have e : xs ++ [167, 60] ++ be4 m ++ be4 (crc (be4 body.length ++ body)) ++ body = xs ++ frm body := by
    rw [HM.out]
    simp [frm]
  rw [← e]
  exact h
end Go.Proofs.YtjmlidejbddoeaaDoor
namespace Go.Proofs.YtjmlidejbddoeaaDoor
open Go.RowKit

section
variable {P : Program} {md : Region.Mode} {l : List Oper} {Q : Exit → Act → World → Prop} {S S' : World → Prop}

theorem held_take {i : Nat} {oi : Oper} {v : Value} {fuel : Nat} {listed : Array Bool} {a : Act} {w : World} (hi : l[i]? = some oi)
    (hs : Region.noSelect l.toArray = true) (hf : Region.free md l.toArray listed i = true) (hr : (Region.ready md l.toArray listed).contains i = true)
    (hQ : ∀ c a w, Q (.panic c) (a.put oi.dst v) w → Q (.panic c) a w) (hw : Region.wanted oi (yielded l.toArray a.tmps) = true)
    (hy : ∀ w, S w → (execOp a.eval oi).run P w = .ok (.value v) w) (hS : S w)
    (h : wpAnyH P md l.toArray Q S fuel (listed.setIfInBounds i true) (a.put oi.dst v) w) : wpAnyH P md l.toArray Q S (fuel + 1) listed a w :=
  wpAnyH_take (by rw [List.getElem?_toArray]; exact hi) hs hf hr hQ (Or.inl ⟨hw, hy⟩) hS h

theorem held_call {i : Nat} {oi : Oper} {fuel : Nat} {listed : Array Bool} {a : Act} {w : World} (hi : l[i]? = some oi)
    (hr : Region.ready md l.toArray listed = [i]) (hw : Region.wanted oi (yielded l.toArray a.tmps) = true)
    (h : ∀ K' : Act → World → Prop, Shut (∀ a w, S w → (S w → wpAnyH P md l.toArray Q S fuel (listed.setIfInBounds i true) a w) → K' a w) → Oper.wp P oi a w K' Q) :
    wpAnyH P md l.toArray Q S (fuel + 1) listed a w :=
  wpAnyH_ready hr (by simp) (AllReadyH.cons (by rw [List.getElem?_toArray]; exact hi) (fun K hK => by rw [if_pos hw]; exact h K hK) AllReadyH.nil)

theorem held_imp (hSS : ∀ w, S' w → S w) : ∀ (fuel : Nat) (listed : Array Bool) (a : Act) (w : World), wpAnyH P md l.toArray Q S' fuel listed a w → wpAnyH P md l.toArray Q S fuel listed a w
  | 0, _, _, _, h => h
  | fuel + 1, _, _, _, h => ⟨h.1, fun i hi => wpOp_mono (fun a' w' h' => ⟨hSS _ h'.1, held_imp hSS fuel _ a' w' h'.2⟩) (h.2 i hi)⟩
end
end Go.Proofs.YtjmlidejbddoeaaDoor
namespace Go.Proofs.YtjmlidejbddoeaaDoor
open Go.RowKit
theorem held_go {P : Program} {md : Region.Mode} {ops : Array Oper} {Q : Exit → Act → World → Prop} {S : World → Prop} {fuel : Nat} {listed : Array Bool} {K' : Act → World → Prop} {a : Act} {w : World}
    (hK : Shut (∀ a w, S w → (S w → wpAnyH P md ops Q S fuel listed a w) → K' a w)) (hS : S w) (h : wpAnyH P md ops Q S fuel listed a w) : K' a w := hK.out a w hS (fun _ => h)
theorem held_skip {P : Program} {md : Region.Mode} {l : List Oper} {Q : Exit → Act → World → Prop} {S : World → Prop} {i : Nat} {oi : Oper} {fuel : Nat} {listed : Array Bool} {a : Act} {w : World} (hi : l[i]? = some oi)
    (hs : Region.noSelect l.toArray = true) (hf : Region.free md l.toArray listed i = true) (hr : (Region.ready md l.toArray listed).contains i = true)
    (hQ : ∀ c a w, Q (.panic c) (a.put oi.dst undef) w → Q (.panic c) a w) (hw : Region.wanted oi (yielded l.toArray a.tmps) = false) (hS : S w)
    (h : wpAnyH P md l.toArray Q S fuel (listed.setIfInBounds i true) (a.put oi.dst undef) w) : wpAnyH P md l.toArray Q S (fuel + 1) listed a w :=
  wpAnyH_take (by rw [List.getElem?_toArray]; exact hi) hs hf hr hQ (Or.inr ⟨hw, rfl⟩) hS h
theorem held_two {P : Program} {md : Region.Mode} {l : List Oper} {Q : Exit → Act → World → Prop} {S : World → Prop} {i j : Nat} {oi oj : Oper} {fuel : Nat} {listed : Array Bool} {a : Act} {w : World} (hi : l[i]? = some oi) (hj : l[j]? = some oj)
    (hr : Region.ready md l.toArray listed = [i, j]) (hwi : Region.wanted oi (yielded l.toArray a.tmps) = true) (hwj : Region.wanted oj (yielded l.toArray a.tmps) = true)
    (h1 : ∀ K' : Act → World → Prop, Shut (∀ a w, S w → (S w → wpAnyH P md l.toArray Q S fuel (listed.setIfInBounds i true) a w) → K' a w) → Oper.wp P oi a w K' Q)
    (h2 : ∀ K' : Act → World → Prop, Shut (∀ a w, S w → (S w → wpAnyH P md l.toArray Q S fuel (listed.setIfInBounds j true) a w) → K' a w) → Oper.wp P oj a w K' Q) :
    wpAnyH P md l.toArray Q S (fuel + 1) listed a w :=
  wpAnyH_ready hr (by simp) (AllReadyH.cons (by rw [List.getElem?_toArray]; exact hi) (fun K hK => by rw [if_pos hwi]; exact h1 K hK)
    (AllReadyH.cons (by rw [List.getElem?_toArray]; exact hj) (fun K hK => by rw [if_pos hwj]; exact h2 K hK) AllReadyH.nil))
end Go.Proofs.YtjmlidejbddoeaaDoor
namespace Go.Proofs.YtjmlidejbddoeaaDoor
open Go.RowKit
set_option linter.unusedVariables false
set_option linter.unusedSimpArgs false
/-- a call gives a new list of blocks, and an error -/
def RetBk (w : World) (r : List Blk × Int) (e : Ending) (w' : World) : Prop := ∃ v, e = .returned (.tuple #[v, .int .i64 r.2]) ∧ Kq w' w.heap.size w.heap.size v r.1 ∧ Below w.heap.size w w'
theorem retBk {w w' : World} {R r : List Blk × Int} (h : R = r) (v : Value) (n : Int) (hn : n = r.2) (hk : Kq w' w.heap.size w.heap.size v r.1) (hb : Below w.heap.size w w') : RetBk w R (.returned (.tuple #[v, .int .i64 n])) w' := by
  subst h hn
  exact ⟨v, rfl, hk, hb⟩
theorem blkR_yes {x : Lbl} (h : vldT x = true) : blkR x = (divB (frm (bodyT x)) ++ [markB], 0) := by unfold blkR blkT; rw [h]; rfl
theorem blkR_no {x : Lbl} (h : vldT x = false) : blkR x = ([], 8) := by unfold blkR; rw [h]; rfl
theorem bodyT_eq (bc pl : ByteArray) (ep cr : Int) : bodyT ⟨bc, pl, ep, cr⟩ = ((((encT volume ++ encT bc) ++ encT pl) ++ enc (cod ep)) ++ enc (cod cr)) := rfl
/-- the mark, in the newest cells -/
theorem Kx.mark (w : World) (C : Nat) (y : Option Nat) (g : Nat) (hg : g = w.heap.size) : Kx (w.alloc (.cells #[.bool true, .bool false, .slice none 0 0] 39)) C y (some ⟨g, 0, none⟩) [markB] :=
  Kx.one true false none [] 0 (.inl rfl) (Nat.le_refl _) (Nat.zero_le _) (fun _ => rfl) g hg
set_option maxRecDepth 100000 in
set_option maxHeartbeats 4000000 in
theorem rblocksT_any (x : Lbl) (w : World) (hx : x.Fit) :
    Calls Tryd.prog 10 #[lbV x] w (RetBk w (blkR x)) := by
  have HV := Lib.hid (fun W => rvldT_any x W hx)
  have HN := Lib.hid (@blkR_no x)
  have HY := Lib.hid (@blkR_yes x)
  have HL := Lib.hid (@bodyT_len x)
  have HI := Lib.hid (@vldT_iff x)
  have HBA := Lib.hid (LbAt.new w x 23)
  have HBB := Lib.hid ((Below.refl w.heap.size w).alloc (Nat.le_refl _) (boxL x))
  have HBS := Lib.hid (show (w.alloc (boxL x)).heap.size = w.heap.size + 1 by simp)
  clear hx
  obtain ⟨bc, pl, ep, cr⟩ := x
  dsimp only at HV HN HY HL HI HBA HBB HBS ⊢
  rw [bodyT_eq] at HY HL
  generalize blkR ⟨bc, pl, ep, cr⟩ = R at *
  generalize hVL : vldT ⟨bc, pl, ep, cr⟩ = V at *
  clear hVL
  go_enter Tryd.func10, Tryd.ntmps10
  go_wp2_with fail
  generalize World.alloc w _ = X0 at *
  obtain ⟨-, c0, c1, c2, c3⟩ := HBA.out
  try dsimp only at c0 c1 c2 c3
  go_wp2_with fail
  refine (HV.out _).mono ?_
  rintro e X1 ⟨rfl, hb⟩
  have HA1 := Lib.hid (HBA.out.below hb HBA.out.lt)
  have HB1 := Lib.hid (HBB.out.trans (hb.mono (by have := HBS.out; omega)))
  have hsz1 := hb.size
  have HS1 := Lib.hid (show w.heap.size + 1 ≤ X1.heap.size by have := HBS.out; omega)
  clear hb c0 c1 c2 c3 HBA HBB HBS hsz1
  cases V
  · have HR := Lib.hid (HN.out rfl)
    go_wp2
    go_ret2
    exact retBk HR.out _ _ rfl (Kq.nil _ _ _) HB1.out
  have HR := Lib.hid (HY.out rfl)
  have hlen := HL.out rfl
  obtain ⟨hbar, hnam, hep, hcr⟩ := HI.out.1 rfl
  have h1 := (bar_size hbar).2
  have h2 := (nam_size hnam).2
  try dsimp only at h1 h2 hep hcr
  have HLEN := Lib.hid hlen
  have HSZ := Lib.hid (show bc.size ≤ 24 ∧ pl.size ≤ 24 from ⟨h1, h2⟩)
  have HEC := Lib.hid (show (0 ≤ ep ∧ ep ≤ 1125899906842624) ∧ (0 ≤ cr ∧ cr < 1099511627776) from ⟨hep, hcr⟩)
  clear HN HY HL HI HV hlen hbar hnam h1 h2 hep hcr
  go_wp2_with fail
  have HBX := Lib.hid (Below.refl X1.heap.size X1).drew
  refine wp_region_noPanic ?_
  refine wp_region_held_drew (S := fun X => Below X1.heap.size X1 X) (by kernel_rfl) (HBX.out) (fun hS0 => ?_)
  refine held_take (i := 1) (v := ?_) rfl (by kernel_rfl) (by kernel_rfl) (by kernel_rfl) (fun _ _ _ h => h) (by rfl) ?_ (by assumption) ?_
  rotate_left
  · intro X hSX
    try dsimp only at hSX
    go_simp <;> with_reducible rfl
  simp only [Act.put, List.setIfInBounds_toArray, List.set_cons_zero, List.set_cons_succ]
  refine held_take (i := 2) (v := ?_) rfl (by kernel_rfl) (by kernel_rfl) (by kernel_rfl) (fun _ _ _ h => h) (by rfl) ?_ (by assumption) ?_
  rotate_left
  · intro X hSX
    try dsimp only at hSX
    obtain ⟨-, c0, c1, c2, c3⟩ := HA1.out.below hSX HA1.out.lt
    try dsimp only at c0 c1 c2 c3
    go_simp <;> with_reducible rfl
  simp only [Act.put, List.setIfInBounds_toArray, List.set_cons_zero, List.set_cons_succ]
  refine held_take (i := 4) (v := ?_) rfl (by kernel_rfl) (by kernel_rfl) (by kernel_rfl) (fun _ _ _ h => h) (by rfl) ?_ (by assumption) ?_
  rotate_left
  · intro X hSX
    try dsimp only at hSX
    go_simp <;> with_reducible rfl
  simp only [Act.put, List.setIfInBounds_toArray, List.set_cons_zero, List.set_cons_succ]
  refine held_take (i := 5) (v := ?_) rfl (by kernel_rfl) (by kernel_rfl) (by kernel_rfl) (fun _ _ _ h => h) (by rfl) ?_ (by assumption) ?_
  rotate_left
  · intro X hSX
    try dsimp only at hSX
    obtain ⟨-, c0, c1, c2, c3⟩ := HA1.out.below hSX HA1.out.lt
    try dsimp only at c0 c1 c2 c3
    go_simp <;> with_reducible rfl
  simp only [Act.put, List.setIfInBounds_toArray, List.set_cons_zero, List.set_cons_succ]
  refine held_call (i := 0) rfl (by kernel_rfl) (by rfl) (fun K' hK' => ?_)
  go_simp
  refine (rptext_any none 0 [] volume _ (.nil _ _) (fun _ => rfl) (by simp) (by decide +kernel)).mono ?_
  rintro e X2 ⟨v2, rfl, ho2, hb2⟩
  rw [List.nil_append] at ho2
  obtain ⟨ad2, cap2, rfl, hl2, -, -, ha2⟩ := ho2.slice
  have hS2 : Below X1.heap.size X1 X2 := HBX.out.trans (hb2.mono (Nat.le_refl _))
  have HL2 := Lib.hid hl2
  have HA2 := Lib.hid ha2
  clear ho2 hl2 ha2
  refine held_go hK' (hS2) ?_
  try simp only [Act.put, List.setIfInBounds_toArray, List.set_cons_zero, List.set_cons_succ]
  refine held_call (i := 3) rfl (by kernel_rfl) (by rfl) (fun K' hK' => ?_)
  go_simp
  have hz2 : (encT volume).length = 7 := by decide +kernel
  have hzb := size_le_encT bc
  have hzp := size_le_encT pl
  refine (rptext_any ad2 cap2 _ bc _ HL2.out HA2.out (by omega) (by have := HSZ.out.1; omega)).mono ?_
  rintro e X3 ⟨v3, rfl, ho3, hb3⟩
  have hz3 : (encT volume ++ encT bc).length ≤ 60 := by rw [List.length_append]; have := HSZ.out.1; omega
  generalize encT volume ++ encT bc = P3 at *
  obtain ⟨ad3, cap3, rfl, hl3, -, -, ha3⟩ := ho3.slice
  have hS3 : Below X1.heap.size X1 X3 := hS2.trans (hb3.mono hS2.size)
  have HL3 := Lib.hid hl3
  have HA3 := Lib.hid ha3
  clear ho3 hl3 ha3
  refine held_go hK' (hS3) ?_
  try simp only [Act.put, List.setIfInBounds_toArray, List.set_cons_zero, List.set_cons_succ]
  refine held_call (i := 6) rfl (by kernel_rfl) (by rfl) (fun K' hK' => ?_)
  go_simp
  refine (rptext_any ad3 cap3 P3 pl _ HL3.out HA3.out (by omega) (by have := HSZ.out.2; omega)).mono ?_
  rintro e X4 ⟨v4, rfl, ho4, hb4⟩
  have hz4 : (P3 ++ encT pl).length ≤ 100 := by rw [List.length_append]; have := HSZ.out.2; omega
  generalize P3 ++ encT pl = P4 at *
  obtain ⟨ad4, cap4, rfl, hl4, -, -, ha4⟩ := ho4.slice
  have hS4 : Below X1.heap.size X1 X4 := hS3.trans (hb4.mono hS3.size)
  have HL4 := Lib.hid hl4
  have HA4 := Lib.hid ha4
  clear ho4 hl4 ha4
  refine held_go hK' (hS4) ?_
  try simp only [Act.put, List.setIfInBounds_toArray, List.set_cons_zero, List.set_cons_succ]
  refine held_take (i := 7) (v := ?_) rfl (by kernel_rfl) (by kernel_rfl) (by kernel_rfl) (fun _ _ _ h => h) (by rfl) ?_ (by assumption) ?_
  rotate_left
  · intro X hSX
    try dsimp only at hSX
    go_simp <;> with_reducible rfl
  simp only [Act.put, List.setIfInBounds_toArray, List.set_cons_zero, List.set_cons_succ]
  refine wpAnyH_done (by kernel_rfl) ?_ _
  refine NoPanic.normal ?_
  have HAX := Lib.hid (HA1.out.below hS4 HA1.out.lt)
  have HB4 := Lib.hid (HB1.out.trans (hS4.mono HB1.out.size))
  have HS4 := Lib.hid (Nat.le_trans HS1.out hS4.size)
  have HN4 := Lib.hid hz4
  clear HBX hb2 hb3 hb4 hS2 hS3 hS4 HL2 HA2 HL3 HA3 hz2 hzb hzp hz3 hz4
  try dsimp only
  go_wp2_with fail
  have HBX := Lib.hid (Below.refl X4.heap.size X4).drew
  refine wp_region_noPanic ?_
  refine wp_region_held_drew (S := fun X => Below X4.heap.size X4 X) (by kernel_rfl) (HBX.out) (fun hS0 => ?_)
  refine held_take (i := 0) (v := ?_) rfl (by kernel_rfl) (by kernel_rfl) (by kernel_rfl) (fun _ _ _ h => h) (by rfl) ?_ (by assumption) ?_
  rotate_left
  · intro X hSX
    try dsimp only at hSX
    go_simp <;> with_reducible rfl
  simp only [Act.put, List.setIfInBounds_toArray, List.set_cons_zero, List.set_cons_succ]
  refine held_take (i := 1) (v := ?_) rfl (by kernel_rfl) (by kernel_rfl) (by kernel_rfl) (fun _ _ _ h => h) (by rfl) ?_ (by assumption) ?_
  rotate_left
  · intro X hSX
    try dsimp only at hSX
    go_simp <;> with_reducible rfl
  simp only [Act.put, List.setIfInBounds_toArray, List.set_cons_zero, List.set_cons_succ]
  refine held_take (i := 2) (v := ?_) rfl (by kernel_rfl) (by kernel_rfl) (by kernel_rfl) (fun _ _ _ h => h) (by rfl) ?_ (by assumption) ?_
  rotate_left
  · intro X hSX
    try dsimp only at hSX
    obtain ⟨-, c0, c1, c2, c3⟩ := HAX.out.below hSX HAX.out.lt
    try dsimp only at c0 c1 c2 c3
    go_simp <;> with_reducible rfl
  simp only [Act.put, List.setIfInBounds_toArray, List.set_cons_zero, List.set_cons_succ]
  refine held_take (i := 4) (v := ?_) rfl (by kernel_rfl) (by kernel_rfl) (by kernel_rfl) (fun _ _ _ h => h) (by rfl) ?_ (by assumption) ?_
  rotate_left
  · intro X hSX
    try dsimp only at hSX
    go_simp <;> with_reducible rfl
  simp only [Act.put, List.setIfInBounds_toArray, List.set_cons_zero, List.set_cons_succ]
  refine held_take (i := 5) (v := ?_) rfl (by kernel_rfl) (by kernel_rfl) (by kernel_rfl) (fun _ _ _ h => h) (by rfl) ?_ (by assumption) ?_
  rotate_left
  · intro X hSX
    try dsimp only at hSX
    obtain ⟨-, c0, c1, c2, c3⟩ := HAX.out.below hSX HAX.out.lt
    try dsimp only at c0 c1 c2 c3
    go_simp <;> with_reducible rfl
  simp only [Act.put, List.setIfInBounds_toArray, List.set_cons_zero, List.set_cons_succ]
  refine held_call (i := 3) rfl (by kernel_rfl) (by rfl) (fun K' hK' => ?_)
  go_simp
  refine (rpint_any ad4 cap4 _ ep _ HL4.out.drew HA4.out (by have := HN4.out; omega) (by have := HEC.out; omega) (by have := HEC.out; omega)).mono ?_
  rintro e X5 ⟨v5, rfl, ho5, hb5⟩
  have he5 := enc_len _ (cod_lt ep (by have := HEC.out; omega) (by have := HEC.out; omega))
  have hz5 : (P4 ++ enc (cod ep)).length ≤ 110 := by rw [List.length_append]; have := HN4.out; omega
  generalize P4 ++ enc (cod ep) = P5 at *
  obtain ⟨ad5, cap5, rfl, hl5, -, -, ha5⟩ := ho5.slice
  have hS5 : Below X4.heap.size X4 X5 := HBX.out.trans (hb5.mono (Nat.le_refl _))
  have HL5 := Lib.hid hl5
  have HA5 := Lib.hid ha5
  clear ho5 hl5 ha5
  refine held_go hK' (hS5) ?_
  try simp only [Act.put, List.setIfInBounds_toArray, List.set_cons_zero, List.set_cons_succ]
  refine held_call (i := 6) rfl (by kernel_rfl) (by rfl) (fun K' hK' => ?_)
  go_simp
  refine (rpint_any ad5 cap5 P5 cr _ HL5.out HA5.out (by omega) (by have := HEC.out; omega) (by have := HEC.out; omega)).mono ?_
  rintro e X6 ⟨v6, rfl, ho6, hb6⟩
  generalize P5 ++ enc (cod cr) = P6 at *
  obtain ⟨ad6, cap6, rfl, hl6, -, -, ha6⟩ := ho6.slice
  have hS6 : Below X4.heap.size X4 X6 := hS5.trans (hb6.mono hS5.size)
  have HL6 := Lib.hid hl6
  have HA6 := Lib.hid ha6
  clear ho6 hl6 ha6
  refine held_go hK' (hS6) ?_
  try simp only [Act.put, List.setIfInBounds_toArray, List.set_cons_zero, List.set_cons_succ]
  refine held_take (i := 7) (v := ?_) rfl (by kernel_rfl) (by kernel_rfl) (by kernel_rfl) (fun _ _ _ h => h) (by rfl) ?_ (by assumption) ?_
  rotate_left
  · intro X hSX
    try dsimp only at hSX
    go_simp <;> with_reducible rfl
  simp only [Act.put, List.setIfInBounds_toArray, List.set_cons_zero, List.set_cons_succ]
  refine wpAnyH_done (by kernel_rfl) ?_ _
  refine NoPanic.normal ?_
  have HB6 := Lib.hid (HB4.out.trans (hS6.mono HB4.out.size))
  clear HBX hb5 hb6 hS5 hS6 HL5 HA5 he5 hz5 HL4 HA4 HAX HN4 HB4 HS4 HB1 HS1 HA1
  try dsimp only
  go_wp2_with fail
  refine (rappend_any none ad6 0 0 _ cap6 [] P6 _ (.nil _ _) rfl (by simp) (fun _ => rfl) HL6.out rfl (by have := HLEN.out; omega) HA6.out).mono ?_
  rintro e X7 ⟨v7, rfl, ho7, hb7⟩
  rw [List.nil_append] at ho7
  obtain ⟨ad7, cap7, rfl, hl7, hc7, hm7, ha7⟩ := ho7.slice
  have HL7 := Lib.hid hl7
  have HA7 := Lib.hid ha7
  have HC7 := Lib.hid hc7
  have HM7 := Lib.hid hm7
  have HB7 := Lib.hid (HB6.out.trans (hb7.mono HB6.out.size))
  have HF7 := Lib.hid (show (frm P6).length ≤ 1000 by rw [frm_length]; have := HLEN.out; omega)
  clear ho7 hl7 hc7 hm7 ha7 hb7 HB6 HL6 HA6
  generalize frm P6 = F at *
  go_wp2_with fail
  refine (rdivide_any ad7 _ cap7 F _ HL7.out rfl HC7.out HM7.out HA7.out (by have := HF7.out; omega)).mono ?_
  rintro e X8 ⟨v8, rfl, hk8, hb8⟩
  have HK8 := Lib.hid hk8
  have HB8 := Lib.hid (HB7.out.trans (hb8.mono HB7.out.size))
  have HD8 := Lib.hid (show (divB F).length ≤ 20 by rw [divB_length]; unfold cntB; have := HF7.out; omega)
  have HK9 := Lib.hid (hk8.below ((Below.refl _ X8).alloc (Nat.le_refl _) (.cells #[.bool true, .bool false, .slice none 0 0] 39)))
  have HB9 := Lib.hid (HB8.out.alloc HB8.out.size (.cells #[.bool true, .bool false, .slice none 0 0] 39))
  have HS9 := Lib.hid (show X7.heap.size ≤ (X8.alloc (.cells #[.bool true, .bool false, .slice none 0 0] 39)).heap.size by have := hb8.size; simp; omega)
  have HS7 := Lib.hid HB7.out.size
  clear hk8 hb8 HB7
  go_wp2_with (at_builtin; refine wpList_append_k rfl (.tmp 33) (.tmp 35) rfl X7.heap.size X7.heap.size w.heap.size w.heap.size _ _ rfl HK9.out _ 1 1 [markB] (fun h => by cases h) (Kx.mark X8 _ _ _ rfl) rfl rfl (by have := HD8.out; omega) HS9.out HS7.out (Nat.le_refl _) ?_; intro v10 w10 ho10 hg10 _; have HK10 := Lib.hid ho10; have HB10 := Lib.hid ((HB9.out).grown hg10 HB9.out.size (fun k hk => Nat.le_trans HS7.out (HK9.out.lt k hk).1)); clear ho10 hg10)
  go_ret2
  exact retBk HR.out _ _ rfl (HK10.out.mono HS7.out (Nat.le_refl _)) HB10.out
end Go.Proofs.YtjmlidejbddoeaaDoor
