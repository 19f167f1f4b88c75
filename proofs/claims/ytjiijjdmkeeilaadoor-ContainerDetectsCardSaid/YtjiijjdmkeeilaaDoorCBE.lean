/-
  slices.Clone of bytes and of entries; the program's payload block.
  The program's open: what a payload block says.
-/
import Derived.Test.YtjiijjdmkeeilaaDoorCAP
import Derived.Test.YtjiijjdmkeeilaaDoorCBD
import Derived.Test.YtjiijjdmkeeilaaDoorCAD
import Derived.Lib.Slices
import Derived.Test.YtjiijjdmkeeilaaDoorCAZ
import Derived.Test.YtjiijjdmkeeilaaDoorCAR
namespace Go.Proofs.YtjiijjdmkeeilaaDoor
open Go.RowKit
set_option linter.unusedVariables false
set_option maxRecDepth 100000 in
set_option maxHeartbeats 1000000 in
theorem bclone_any (ad : Option Addr) (n cap : Nat) (xs : List UInt8) (w : World) (hl : Lie w ad xs) (hn : n = xs.length) (hs : xs.length ≤ 10000000) :
    Calls Tryd.prog 74 #[.slice ad n cap] w (Gives w xs) := by
  have hq := fun (w : World) (a : Option Addr) (n c : Nat) => Lib.run_eql_slice_nil (P := Tryd.prog) w 26 5 a n c 0 0 Tryd.underlying26
  have HL := Lib.hid hl
  have HN := Lib.hid hn
  cases ad with
  | none =>
    have hx : xs = [] := by
      rcases hl.at_ with h0 | ⟨b, off, h0, _⟩
      · exact h0
      · cases h0
    subst hx
    obtain rfl : n = 0 := by simpa using hn
    clear hl HL hn HN
    go_enter Tryd.func74, Tryd.ntmps74
    go_wp2
    go_ret
    exact ⟨_, rfl, Own.ofNil _ _, Below.refl _ _⟩
  | some a =>
    clear hl hn
    have HL1 := Lib.hid (HL.out.below ((Below.refl w.heap.size w).alloc (Nat.le_refl _) (.cells #[] 5)) rfl)
    have HB1 := Lib.hid ((Below.refl w.heap.size w).alloc (Nat.le_refl _) (.cells #[] 5))
    have HS := Lib.hid HB1.out.size
    have HM := Lib.hid (show ([] : List UInt8).length + n ≤ 10000000 by simp; have := HN.out; omega)
    go_enter Tryd.func74, Tryd.ntmps74
    go_wp2_with (at_builtin; refine wpList_append_u rfl (.tmp 5) (.tmp 6) rfl w.heap.size _ [] rfl (Own.made w) _ _ cap xs (fun h => by cases h) HL1.out HN.out rfl HM.out HS.out ?_; intro v1 w1 ho1 hg1)
    go_ret
    exact ⟨v1, rfl, by simpa using ho1, HB1.out.grown hg1 HS.out (fun k hk => ((Own.made w).lt k hk).1)⟩
/-- a call gives a list of entries of its own -/
def GivesE (w : World) (l : List Ent) (e : Ending) (w' : World) : Prop := ∃ ad cap, e = .returned (.slice ad l.length cap) ∧ Of 54 5 enC w' w.heap.size (.slice ad l.length cap) l ∧ Below w.heap.size w w'
set_option maxRecDepth 100000 in
set_option maxHeartbeats 1000000 in
theorem eclone_any (ad : Option Addr) (n cap : Nat) (l : List Ent) (w : World) (hl : Lf enC w ad l) (hn : n = l.length) (ha : ad = none → cap = 0) (hs : l.length ≤ 1000000) :
    Calls Tryd.prog 33 #[.slice ad n cap] w (GivesE w l) := by
  have hq := fun (w : World) (a : Option Addr) (n c : Nat) => Lib.run_eql_slice_nil (P := Tryd.prog) w 22 54 a n c 0 0 Tryd.underlying22
  have HL := Lib.hid hl
  have HA := Lib.hid ha
  have HN := Lib.hid hn
  cases ad with
  | none =>
    obtain rfl := ha rfl
    have hx : l = [] := by
      rcases hl with h0 | ⟨b, off, h0, _⟩
      · exact flat_nil celE h0
      · cases h0
    subst hx
    clear hl ha HL HA hn
    go_enter Tryd.func33, Tryd.ntmps33
    go_wp2
    go_ret
    exact ⟨none, 0, rfl, Of.nil _ _ _ _ _, Below.refl _ _⟩
  | some a =>
    clear hl ha hn
    have HL1 := Lib.hid (HL.out.below (co_box1 w (.cells #[] 54)))
    have HB1 := Lib.hid (co_box1 w (.cells #[] 54))
    have HS := Lib.hid HB1.out.size
    have HO1 := Lib.hid (Of.made 54 5 enC w w.heap.size w.heap.size rfl (Nat.le_refl _))
    have HM := Lib.hid (show ([] : List Ent).length + n ≤ 10000000 by simp; have := HN.out; omega)
    go_enter Tryd.func33, Tryd.ntmps33
    go_wp2_with (at_builtin; refine wpList_append_f typE celE rfl (.tmp 5) (.tmp 6) rfl w.heap.size _ [] rfl HO1.out (some a) n cap l HA.out HL1.out HN.out rfl HM.out HS.out ?_; intro v1 w1 ho1 hg1; rw [List.nil_append] at ho1)
    go_ret
    have hb := HB1.out.grown hg1 HS.out (fun k hk => (HO1.out.lt k hk).1)
    obtain ⟨ad1, cap1, rfl, -⟩ := ho1.read
    exact ⟨ad1, cap1, rfl, ho1, hb⟩
/-- a call gives one block, its data of its own -/
def RetB1 (w : World) (x : Blk) (e : Ending) (w' : World) : Prop := ∃ ad cap, e = .returned (.agg #[.bool x.m, .bool x.bad, .slice ad x.d.length cap]) ∧ Own w' w.heap.size (.slice ad x.d.length cap) x.d ∧ Below w.heap.size w w'
theorem infoBk : (Tryd.prog.info? 57).map (·.size) = some 3 := by kernel_rfl
theorem Own.srow {w : World} {B : Nat} {v : Value} {l : List UInt8} (h : Own w B v l) {k : Nat} (hk : k < B) (cs : Array Value) : Own (w.setRow k cs) B v l := by
  refine ⟨h.1, ?_⟩
  rcases h.2 with h0 | ⟨g, cap, cur, hv, hB, hg, h4⟩
  · exact .inl h0
  · exact .inr ⟨g, cap, cur, hv, hB, (setRow_other _ _ _ _ (by omega)).trans hg, h4⟩
theorem st_bk {ops : Array Oper} {rest : List Oper} {o : Oper} {a : Act} {w : World} {g : Nat} {cur : Array Value} {Q : Exit → Act → World → Prop} (hgd : o.guard = none) (x y : Operand) (ho : o.op = .store 57 x y) (hx : a.eval x = .pointer (some ⟨g, 0, none⟩)) (m b : Bool) (d : Option Addr) (n cap : Nat) (hy : a.eval y = .agg #[.bool m, .bool b, .slice d n cap])
    (hr : w.heap[g]? = some (.cells cur 57 (0, 0))) (hcs : cur.size = 3)
    (hh : wpList Tryd.prog ops Q rest (a.put o.dst undef) (w.setRow g #[.bool m, .bool b, .slice d n cap])) : wpList Tryd.prog ops Q (o :: rest) a w :=
  wpList_store_agg hgd _ x y ho g hx _ _ hy _ hr infoBk hcs (by simp [Value.oneCell']) hh
attribute [local irreducible] be4
set_option maxRecDepth 100000 in
set_option maxHeartbeats 2000000 in
theorem block15_any (v : Int) (ad : Option Addr) (n cap : Nat) (q : List UInt8) (w : World) (hv : v = 1 ∨ v = 2) (hl : Lie w ad q) (hn : n = q.length) (hs : q.length ≤ 1000000) :
    Calls Tryd.prog 39 #[.agg #[.int .i64 (prtU v), .bool (decide (v = 2))], .slice ad n cap] w (RetB1 w (pcB v q)) := by
  have hb2 := fun (a : Int) (b : Bool) => co_box2 w (.cells #[.int .i64 a, .bool b] 65) (.cells #[.bool false, .bool false, .slice none 0 0] 57)
  have hn2 := fun (a : Int) (b : Bool) => new2c w (.cells #[.int .i64 a, .bool b] 65) #[.bool false, .bool false, .slice none 0 0] 57
  have hl0 := fun (a : Int) (b : Bool) => hl.below (hb2 a b) rfl
  have h0r := fun (a : Int) (b : Bool) => ((co_box1 _ (.cells #[.bool false, .bool false, .slice none 0 0] 57)).block _ (by simp)).trans (heap_alloc_new w (.cells #[.int .i64 a, .bool b] 65))
  have HN := Lib.hid hn
  rcases hv with rfl | rfl
  · have HB0 := Lib.hid (hb2 64 false)
    have HR0 := Lib.hid (hn2 64 false)
    have HL0 := Lib.hid (hl0 64 false)
    have HZ0 := Lib.hid (h0r 64 false)
    show Calls Tryd.prog 39 #[.agg #[.int .i64 64, .bool false], .slice ad n cap] w (RetB1 w ⟨false, false, q⟩)
    clear hb2 hn2 hl0 h0r hl hn
    go_enter Tryd.func39, Tryd.ntmps39
    go_wp2_with fail
    generalize World.alloc (World.alloc w _) _ = X0 at *
    refine (bclone_any ad n cap q _ HL0.out HN.out (by omega)).mono ?_
    rintro e X1 ⟨v1, rfl, ho1, hb1⟩
    obtain ⟨ad1, cap1, rfl, -⟩ := ho1.slice
    have HO1 := Lib.hid ho1
    have hlt := (Array.getElem?_eq_some_iff.1 HR0.out).1
    have HR1 := Lib.hid ((hb1.block _ hlt).trans HR0.out)
    obtain ⟨-, d0, -⟩ := show True ∧ X1.cell? ⟨w.heap.size, 1, none⟩ = some (.bool false) ∧ True from ⟨trivial, by rw [cell_of_row X1 _ 1 _ _ _ ((hb1.block _ (by omega)).trans HZ0.out)]; rfl, trivial⟩
    have HB1 := Lib.hid (HB0.out.trans (hb1.mono HB0.out.size))
    clear ho1 hb1 HR0 HZ0 HL0 HB0
    go_wp2_with (with_reducible refine st_bk rfl (.tmp 4) (.tmp 28) rfl rfl false false ad1 q.length cap1 rfl HR1.out rfl ?_)
    refine post_cell1 (cs := #[.bool false, .bool false, .slice ad1 q.length cap1]) rfl rfl (setRow_heap _ _ _ _ _ _ HR1.out) Tryd.underlying57 rfl infoBk rfl ?_
    exact ⟨ad1, cap1, rfl, (HO1.out.srow (by omega) _).mono (by omega), below_set HB1.out (by omega) _⟩
  · have HB0 := Lib.hid (hb2 60 true)
    have HR0 := Lib.hid (hn2 60 true)
    have HL0 := Lib.hid (hl0 60 true)
    have HZ0 := Lib.hid (h0r 60 true)
    obtain ⟨r, hr⟩ : ∃ r, r = q ++ be4 (crc q) := ⟨_, rfl⟩
    have HRR := Lib.hid hr
    show Calls Tryd.prog 39 #[.agg #[.int .i64 60, .bool true], .slice ad n cap] w (RetB1 w ⟨false, false, q ++ be4 (crc q)⟩)
    rw [← hr]
    clear hb2 hn2 hl0 h0r hl hn hr
    go_enter Tryd.func39, Tryd.ntmps39
    go_wp2_with fail
    generalize World.alloc (World.alloc w _) _ = X0 at *
    refine (bclone_any ad n cap q _ HL0.out HN.out (by omega)).mono ?_
    rintro e X1 ⟨v1, rfl, ho1, hb1⟩
    have HO1 := Lib.hid ho1
    have hlt := (Array.getElem?_eq_some_iff.1 HR0.out).1
    have HR1 := Lib.hid ((hb1.block _ hlt).trans HR0.out)
    have d0 : X1.cell? ⟨w.heap.size, 1, none⟩ = some (.bool true) := by rw [cell_of_row X1 _ 1 _ _ _ ((hb1.block _ (by omega)).trans HZ0.out)]; rfl
    have HB1 := Lib.hid (HB0.out.trans (hb1.mono HB0.out.size))
    have HL1 := Lib.hid (HL0.out.below hb1 rfl)
    have HS1 := Lib.hid hb1.size
    clear ho1 hb1 HR0 HZ0 HL0 HB0
    go_wp2_with fail
    refine (csum_any ad n cap q _ HL1.out HN.out (by omega)).mono ?_
    rintro e X2 ⟨rfl, hb2⟩
    have hcl := crc_lt q
    generalize crc q = c at *
    have HO2 := Lib.hid (HO1.out.below hb2)
    have HR2 := Lib.hid ((hb2.block _ (Array.getElem?_eq_some_iff.1 HR1.out).1).trans HR1.out)
    have HB2 := Lib.hid (HB1.out.trans (hb2.mono HB1.out.size))
    have HS2 := Lib.hid (Nat.le_trans HS1.out hb2.size)
    clear hb2 HO1 HR1 HB1 HS1 HL1 d0
    have HQL := Lib.hid (show q.length + 4 ≤ 10000000 by omega)
    go_wp2_with (first | (at_builtin; refine wpList_append_u rfl (.tmp 13) (.tmp 25) rfl X0.heap.size _ q rfl (HO2.out.below (co_box1 X2 _)) _ 4 4 (be4 c) (fun h => by cases h) (Lie.lits X2 _ (be4 c) (four_cells c hcl _ _ _ _ (by omega) (by omega) (by omega) (by omega))) (be4_length c).symm rfl HQL.out (by have := HS2.out; simp; omega) ?_; intro v3 w3 ho3 hg3; rw [← HRR.out] at ho3; obtain ⟨ad3, cap3, rfl, -⟩ := ho3.slice; have HO3 := Lib.hid ho3; have hb3 : Below X0.heap.size X2 w3 := ((Below.refl X0.heap.size X2).alloc HS2.out _).grown hg3 (by have := HS2.out; simp; omega) (fun k hk => (HO2.out.lt k hk).1); have HR3 := Lib.hid ((hb3.block _ (by omega)).trans HR2.out); have HB3 := Lib.hid (HB2.out.trans (hb3.mono (by have := HB2.out.size; omega))); clear ho3 hg3 hb3) | (with_reducible refine st_bk rfl (.tmp 4) (.tmp 28) rfl rfl false false ad3 r.length cap3 rfl HR3.out rfl ?_))
    refine post_cell1 (cs := #[.bool false, .bool false, .slice ad3 r.length cap3]) rfl rfl (setRow_heap _ _ _ _ _ _ HR3.out) Tryd.underlying57 rfl infoBk rfl ?_
    exact ⟨ad3, cap3, rfl, (HO3.out.srow (by omega) _).mono (by omega), below_set HB3.out (by omega) _⟩
end Go.Proofs.YtjiijjdmkeeilaaDoor
namespace Go.Proofs.YtjiijjdmkeeilaaDoor
open Go.RowKit
set_option linter.unusedVariables false
set_option linter.unusedSimpArgs false
/-- a call gives bytes that lie and an error -/
def RetPE (w : World) (r : List UInt8 × Int) (e : Ending) (w' : World) : Prop := ∃ ad cap, e = .returned (.tuple #[.slice ad r.1.length cap, .int .i64 r.2]) ∧ Lie w' ad r.1 ∧ (ad = none → cap = 0) ∧ Below w.heap.size w w'
theorem retPE0 {w w' : World} {R : List UInt8 × Int} {k : Int} (h : R = ([], k)) (hb : Below w.heap.size w w') : RetPE w R (.returned (.tuple #[.slice none 0 0, .int .i64 k])) w' := by subst h; exact ⟨none, 0, rfl, .nil _ _, fun _ => rfl, hb⟩
attribute [local irreducible] be4 prtU pcB
set_option maxRecDepth 100000 in
set_option maxHeartbeats 8000000 in
theorem open_any (v sz i : Int) (N : Nat) (x : Blk) (bd : Option Addr) (bcap : Nat) (w : World) (hv : v = 1 ∨ v = 2) (hN : nU v sz i = (N : Int)) (hN64 : N ≤ 64)
    (hl : Lie w bd x.d) (hc : x.d.length ≤ bcap) (hcm : bcap ≤ maxLen) (hbd : bd = none → bcap = 0) (hd : x.d.length ≤ 1000000) :
    Calls Tryd.prog 91 #[.agg #[.int .i64 (prtU v), .bool (decide (v = 2))], .agg #[.bool x.m, .bool x.bad, .slice bd x.d.length bcap], .int .i64 N] w (RetPE w (chkU v sz i x)) := by
  obtain ⟨xm, xb, xd⟩ := x
  dsimp only at hl hc hd ⊢
  have HU := Lib.hid (show chkU v sz i ⟨xm, xb, xd⟩ = if xb = true then ([], 15) else
    if xm = true ∨ (v = 1 ∧ (xd.length : Int) ≠ nU v sz i) ∨ (v = 2 ∧ (xd.length : Int) ≠ nU v sz i + 4) then ([], 1) else
    if v = 2 ∧ be4 (crc (xd.take (nU v sz i).toNat)) ≠ xd.drop (nU v sz i).toNat then ([], 4) else (xd.take (nU v sz i).toNat, 0) from rfl)
  obtain ⟨R, hR⟩ : ∃ R, R = chkU v sz i ⟨xm, xb, xd⟩ := ⟨_, rfl⟩
  rw [← hR] at HU ⊢
  rw [hN, Int.toNat_natCast] at HU
  have HBK := Lib.hid (fun ad n cap q W h1 h2 h3 => block15_any v ad n cap q W hv h1 h2 h3)
  obtain ⟨L, hL⟩ : ∃ L, L = xd.length := ⟨_, rfl⟩
  have HLL := Lib.hid hL
  rw [← hL] at HU hc hd ⊢
  have HL := Lib.hid hl
  have HC := Lib.hid hc
  have HCM := Lib.hid hcm
  have HBD := Lib.hid hbd
  have HPCB := Lib.hid (fun q => show (pcB v q).m = false ∧ (pcB v q).bad = false ∧ (pcB v q).d = if v = 2 then q ++ be4 (crc q) else q by unfold pcB; exact ⟨rfl, rfl, rfl⟩)
  clear hR hl hbd hN hL
  generalize prtU v = pv at *
  have hY := fun b => new2c w (.cells #[.int .i64 pv, .bool b] 65) #[.bool xm, .bool xb, .slice bd L bcap] 57
  have hB := fun b => co_box2 w (.cells #[.int .i64 pv, .bool b] 65) (.cells #[.bool xm, .bool xb, .slice bd L bcap] 57)
  have hZ := fun b => ((co_box1 _ (.cells #[.bool xm, .bool xb, .slice bd L bcap] 57)).block _ (by simp)).trans (heap_alloc_new w (.cells #[.int .i64 pv, .bool b] 65))
  obtain ⟨dv, hdv⟩ : ∃ dv, dv = decide (v = 2) := ⟨_, rfl⟩
  rw [← hdv] at HBK ⊢
  have HY0 := Lib.hid (show BkRow _ _ _ _ _ _ _ from hY dv)
  have HB0 := Lib.hid (hB dv)
  have HZ0 := Lib.hid (hZ dv)
  clear hY hB hZ
  cases xb
  rotate_left
  · have HR := Lib.hid (HU.out.trans (if_pos rfl))
    obtain ⟨c0, c1, c2⟩ := HY0.out.at_
    clear HU hdv
    go_enter Tryd.func91, Tryd.ntmps91
    go_wp2
    go_ret2
    exact retPE0 HR.out HB0.out
  replace HU := Lib.hid (HU.out.trans (if_neg (by simp)))
  rcases hv with rfl | rfl
  · obtain rfl : dv = false := by rw [hdv]; rfl
    clear hdv
    cases xm
    rotate_left
    · have HR := Lib.hid (HU.out.trans (if_pos (.inl rfl)))
      obtain ⟨c0, c1, c2⟩ := HY0.out.at_
      have d1 := cell_of_row _ _ 1 _ _ _ HZ0.out
      change _ = some (Value.bool false) at d1
      clear HU
      go_enter Tryd.func91, Tryd.ntmps91
      go_wp2
      go_ret2
      exact retPE0 HR.out HB0.out
    by_cases hLN : (L : Int) = (N : Int)
    rotate_left
    · have HR := Lib.hid (HU.out.trans (if_pos (.inr (.inl ⟨rfl, hLN⟩))))
      have kne : ((L : Int) != (N : Int)) = true := ne_t hLN
      obtain ⟨c0, c1, c2⟩ := HY0.out.at_
      have d1 := cell_of_row _ _ 1 _ _ _ HZ0.out
      change _ = some (Value.bool false) at d1
      clear HU hLN
      go_enter Tryd.func91, Tryd.ntmps91
      go_wp2
      go_ret2
      exact retPE0 HR.out HB0.out
    replace HU := Lib.hid (HU.out.trans (if_neg (by rintro (h | ⟨_, h⟩ | ⟨h, _⟩); cases h; exact h hLN; cases h)))
    have kne : ((L : Int) != (N : Int)) = false := ne_f hLN
    have hNL : N ≤ L := by omega
    have HLN := Lib.hid hLN
    have HTL := Lib.hid (show N = (xd.take N).length by rw [List.length_take, ← HLL.out]; omega)
    have HQ := Lib.hid (HL.out.pt (cap := bcap) (by rw [← HLL.out]; exact HC.out) 0 N)
    rw [List.drop_zero] at HQ
    have HQN := Lib.hid (ptA_nil HBD.out 0)
    have kfr := fun W => run_front bd L bcap N W (Nat.le_trans hNL hc)
    obtain ⟨q, hq⟩ : ∃ q, q = xd.take N := ⟨_, rfl⟩
    rw [← hq] at HU HTL HQ
    have HQE := Lib.hid hq
    obtain ⟨X0, hX0⟩ : ∃ X, X = (w.alloc (.cells #[.int .i64 pv, .bool false] 65)).alloc (.cells #[.bool false, .bool false, .slice bd L bcap] 57) := ⟨_, rfl⟩
    generalize ptA bd bcap 0 = qd at *
    obtain ⟨c0, c1, c2⟩ := HY0.out.at_
    have d1 := cell_of_row _ _ 1 _ _ _ HZ0.out
    change _ = some (Value.bool false) at d1
    clear hq hLN
    go_enter Tryd.func91, Tryd.ntmps91
    go_wp2_with fail
    rw [← hX0] at HY0 HZ0 HB0 ⊢
    clear c0 c1 c2 d1 hX0 kfr
    have HBX := Lib.hid (Below.refl X0.heap.size X0).drew
    have hlz := (Array.getElem?_eq_some_iff.1 HZ0.out).1
    refine wp_region_noPanic ?_
    refine wp_region_held_drew (S := fun X => Below X0.heap.size X0 X) (by kernel_rfl) (HBX.out) (fun hS0 => ?_)
    generalize World.drew X0 = X1 at *
    refine held_take (i := 0) (v := ?_) rfl (by kernel_rfl) (by kernel_rfl) (by kernel_rfl) (fun _ _ _ h => h) (by rfl) ?_ (by assumption) ?_
    rotate_left
    · intro X hSX
      try dsimp only at hSX
      obtain ⟨c0, c1, c2⟩ := (HY0.out.below hSX HY0.out.lt).at_
      go_simp <;> with_reducible rfl
    simp only [Act.put, List.setIfInBounds_toArray, List.set_cons_zero, List.set_cons_succ]
    refine held_take (i := 1) (v := ?_) rfl (by kernel_rfl) (by kernel_rfl) (by kernel_rfl) (fun _ _ _ h => h) (by rfl) ?_ (by assumption) ?_
    rotate_left
    · intro X hSX
      try dsimp only at hSX
      have d0 : X.cell? ⟨w.heap.size, 0, none⟩ = some (.int .i64 pv) := cell_of_row X w.heap.size 0 _ _ _ ((hSX.block _ hlz).trans HZ0.out)
      have d1 : X.cell? ⟨w.heap.size, 1, none⟩ = some (.bool false) := cell_of_row X w.heap.size 1 _ _ _ ((hSX.block _ hlz).trans HZ0.out)
      go_simp <;> with_reducible rfl
    simp only [Act.put, List.setIfInBounds_toArray, List.set_cons_zero, List.set_cons_succ]
    refine held_take (i := 2) (v := ?_) rfl (by kernel_rfl) (by kernel_rfl) (by kernel_rfl) (fun _ _ _ h => h) (by rfl) ?_ (by assumption) ?_
    rotate_left
    · intro X hSX
      try dsimp only at hSX
      go_simp <;> with_reducible rfl
    simp only [Act.put, List.setIfInBounds_toArray, List.set_cons_zero, List.set_cons_succ]
    refine held_call (i := 3) rfl (by kernel_rfl) (by rfl) (fun K' hK' => ?_)
    go_simp
    refine (HBK.out qd N bcap q _ (HQ.out.below (HB0.out.trans (HBX.out.mono HB0.out.size)) rfl) HTL.out (by have := HTL.out; omega)).mono ?_
    rintro e X2 ⟨ad2, cap2, rfl, ho2, hb2⟩
    have HS2 := Lib.hid (HBX.out.trans (hb2.mono HBX.out.size))
    obtain ⟨ad3, cap3, e3, hl3, -⟩ := ho2.slice
    cases e3
    have HL3 := Lib.hid hl3
    clear ho2 hb2 hl3
    refine held_go hK' (HS2.out) ?_
    try simp only [Act.put, List.setIfInBounds_toArray, List.set_cons_zero, List.set_cons_succ]
    refine held_call (i := 4) rfl (by kernel_rfl) (by rfl) (fun K' hK' => ?_)
    go_simp
    refine (samedata_any _ _ _ _ xd (pcB 1 q).d bd ad2 L _ bcap cap2 _ (HL.out.below (HB0.out.trans (HS2.out.mono HB0.out.size)) rfl) HL3.out HLL.out rfl).mono ?_
    rw [show decide (xd = (pcB 1 q).d) = true from decide_eq_true (by rw [(HPCB.out q).2.2, if_neg (by decide), HQE.out, List.take_of_length_le (by rw [← HLL.out]; have := HLN.out; omega)])]
    rintro e X3 ⟨rfl, hb3⟩
    have HS3 := Lib.hid (HS2.out.trans (hb3.mono HS2.out.size))
    clear hb3
    refine held_go hK' (HS3.out) ?_
    try simp only [Act.put, List.setIfInBounds_toArray, List.set_cons_zero, List.set_cons_succ]
    refine held_take (i := 5) (v := ?_) rfl (by kernel_rfl) (by kernel_rfl) (by kernel_rfl) (fun _ _ _ h => h) (by rfl) ?_ (by assumption) ?_
    rotate_left
    · intro X hSX
      try dsimp only at hSX
      go_simp <;> with_reducible rfl
    simp only [Act.put, List.setIfInBounds_toArray, List.set_cons_zero, List.set_cons_succ]
    refine wpAnyH_done (by kernel_rfl) ?_ _
    refine NoPanic.normal ?_
    have HR := Lib.hid (HU.out.trans (if_neg (by rintro ⟨h, _⟩; cases h)))
    have HB3 := Lib.hid (HB0.out.trans (HS3.out.mono HB0.out.size))
    go_wp2_with fail
    go_ret2
    exact ⟨qd, bcap, by rw [HR.out]; dsimp only; rw [← HTL.out]; rfl, by rw [HR.out]; exact HQ.out.below HB3.out rfl, HQN.out, HB3.out⟩
  · obtain rfl : dv = true := by rw [hdv]; rfl
    clear hdv
    have kw : IntKind.i64.wrap ((N : Int) + 4) = (N : Int) + 4 := IntWalk.i64_in _ (by omega)
    cases xm
    rotate_left
    · have HR := Lib.hid (HU.out.trans (if_pos (.inl rfl)))
      obtain ⟨c0, c1, c2⟩ := HY0.out.at_
      have d1 := cell_of_row _ _ 1 _ _ _ HZ0.out
      change _ = some (Value.bool true) at d1
      clear HU
      go_enter Tryd.func91, Tryd.ntmps91
      go_wp2
      go_ret2
      exact retPE0 HR.out HB0.out
    by_cases hLN : (L : Int) = ((N : Int) + 4)
    rotate_left
    · have HR := Lib.hid (HU.out.trans (if_pos (.inr (.inr ⟨rfl, hLN⟩))))
      have kne : ((L : Int) != ((N : Int) + 4)) = true := ne_t hLN
      obtain ⟨c0, c1, c2⟩ := HY0.out.at_
      have d1 := cell_of_row _ _ 1 _ _ _ HZ0.out
      change _ = some (Value.bool true) at d1
      clear HU hLN
      go_enter Tryd.func91, Tryd.ntmps91
      go_wp2
      go_ret2
      exact retPE0 HR.out HB0.out
    replace HU := Lib.hid (HU.out.trans (if_neg (by rintro (h | ⟨h, _⟩ | ⟨_, h⟩); cases h; cases h; exact h hLN)))
    have kne : ((L : Int) != ((N : Int) + 4)) = false := ne_f hLN
    have hNL : N ≤ L := by omega
    have HLN := Lib.hid hLN
    have HTL := Lib.hid (show N = (xd.take N).length by rw [List.length_take, ← HLL.out]; omega)
    have HQ := Lib.hid (HL.out.pt (cap := bcap) (by rw [← HLL.out]; exact HC.out) 0 N)
    rw [List.drop_zero] at HQ
    have HQN := Lib.hid (ptA_nil HBD.out 0)
    have kfr := fun W => run_front bd L bcap N W (Nat.le_trans hNL hc)
    obtain ⟨q, hq⟩ : ∃ q, q = xd.take N := ⟨_, rfl⟩
    rw [← hq] at HU HTL HQ
    have HQE := Lib.hid hq
    obtain ⟨X0, hX0⟩ : ∃ X, X = (w.alloc (.cells #[.int .i64 pv, .bool true] 65)).alloc (.cells #[.bool false, .bool false, .slice bd L bcap] 57) := ⟨_, rfl⟩
    generalize ptA bd bcap 0 = qd at *
    obtain ⟨c0, c1, c2⟩ := HY0.out.at_
    have d1 := cell_of_row _ _ 1 _ _ _ HZ0.out
    change _ = some (Value.bool true) at d1
    clear hq hLN
    go_enter Tryd.func91, Tryd.ntmps91
    go_wp2_with fail
    rw [← hX0] at HY0 HZ0 HB0 ⊢
    clear c0 c1 c2 d1 hX0 kfr
    have HBX := Lib.hid (Below.refl X0.heap.size X0).drew
    have hlz := (Array.getElem?_eq_some_iff.1 HZ0.out).1
    refine wp_region_noPanic ?_
    refine wp_region_held_drew (S := fun X => Below X0.heap.size X0 X) (by kernel_rfl) (HBX.out) (fun hS0 => ?_)
    generalize World.drew X0 = X1 at *
    refine held_take (i := 0) (v := ?_) rfl (by kernel_rfl) (by kernel_rfl) (by kernel_rfl) (fun _ _ _ h => h) (by rfl) ?_ (by assumption) ?_
    rotate_left
    · intro X hSX
      try dsimp only at hSX
      obtain ⟨c0, c1, c2⟩ := (HY0.out.below hSX HY0.out.lt).at_
      go_simp <;> with_reducible rfl
    simp only [Act.put, List.setIfInBounds_toArray, List.set_cons_zero, List.set_cons_succ]
    refine held_take (i := 1) (v := ?_) rfl (by kernel_rfl) (by kernel_rfl) (by kernel_rfl) (fun _ _ _ h => h) (by rfl) ?_ (by assumption) ?_
    rotate_left
    · intro X hSX
      try dsimp only at hSX
      have d0 : X.cell? ⟨w.heap.size, 0, none⟩ = some (.int .i64 pv) := cell_of_row X w.heap.size 0 _ _ _ ((hSX.block _ hlz).trans HZ0.out)
      have d1 : X.cell? ⟨w.heap.size, 1, none⟩ = some (.bool true) := cell_of_row X w.heap.size 1 _ _ _ ((hSX.block _ hlz).trans HZ0.out)
      go_simp <;> with_reducible rfl
    simp only [Act.put, List.setIfInBounds_toArray, List.set_cons_zero, List.set_cons_succ]
    refine held_take (i := 2) (v := ?_) rfl (by kernel_rfl) (by kernel_rfl) (by kernel_rfl) (fun _ _ _ h => h) (by rfl) ?_ (by assumption) ?_
    rotate_left
    · intro X hSX
      try dsimp only at hSX
      go_simp <;> with_reducible rfl
    simp only [Act.put, List.setIfInBounds_toArray, List.set_cons_zero, List.set_cons_succ]
    refine held_call (i := 3) rfl (by kernel_rfl) (by rfl) (fun K' hK' => ?_)
    go_simp
    refine (HBK.out qd N bcap q _ (HQ.out.below (HB0.out.trans (HBX.out.mono HB0.out.size)) rfl) HTL.out (by have := HTL.out; omega)).mono ?_
    rintro e X2 ⟨ad2, cap2, rfl, ho2, hb2⟩
    have HS2 := Lib.hid (HBX.out.trans (hb2.mono HBX.out.size))
    obtain ⟨ad3, cap3, e3, hl3, -⟩ := ho2.slice
    cases e3
    have HL3 := Lib.hid hl3
    clear ho2 hb2 hl3
    refine held_go hK' (HS2.out) ?_
    try simp only [Act.put, List.setIfInBounds_toArray, List.set_cons_zero, List.set_cons_succ]
    refine held_call (i := 4) rfl (by kernel_rfl) (by rfl) (fun K' hK' => ?_)
    go_simp
    refine (samedata_any _ _ _ _ xd (pcB 2 q).d bd ad2 L _ bcap cap2 _ (HL.out.below (HB0.out.trans (HS2.out.mono HB0.out.size)) rfl) HL3.out HLL.out rfl).mono ?_
    have HIF := Lib.hid (show xd = (pcB 2 q).d ↔ be4 (crc q) = xd.drop N by
      rw [(HPCB.out q).2.2, if_pos (by trivial), HQE.out]
      constructor
      · intro h
        exact (List.append_cancel_left ((List.take_append_drop N xd).trans h)).symm
      · intro h
        rw [h, List.take_append_drop])
    by_cases hbe : be4 (crc q) = xd.drop N
    · rw [show decide (xd = (pcB 2 q).d) = true from decide_eq_true (HIF.out.2 hbe)]
      have HR := Lib.hid (HU.out.trans (if_neg (by rintro ⟨_, h⟩; exact h hbe)))
      clear hbe
      rintro e X3 ⟨rfl, hb3⟩
      have HS3 := Lib.hid (HS2.out.trans (hb3.mono HS2.out.size))
      clear hb3
      refine held_go hK' (HS3.out) ?_
      try simp only [Act.put, List.setIfInBounds_toArray, List.set_cons_zero, List.set_cons_succ]
      refine held_take (i := 5) (v := ?_) rfl (by kernel_rfl) (by kernel_rfl) (by kernel_rfl) (fun _ _ _ h => h) (by rfl) ?_ (by assumption) ?_
      rotate_left
      · intro X hSX
        try dsimp only at hSX
        go_simp <;> with_reducible rfl
      simp only [Act.put, List.setIfInBounds_toArray, List.set_cons_zero, List.set_cons_succ]
      refine wpAnyH_done (by kernel_rfl) ?_ _
      refine NoPanic.normal ?_
      have HB3 := Lib.hid (HB0.out.trans (HS3.out.mono HB0.out.size))
      go_wp2_with fail
      go_ret2
      exact ⟨qd, bcap, by rw [HR.out]; dsimp only; rw [← HTL.out]; rfl, by rw [HR.out]; exact HQ.out.below HB3.out rfl, HQN.out, HB3.out⟩
    · rw [show decide (xd = (pcB 2 q).d) = false from decide_eq_false (fun h => hbe (HIF.out.1 h))]
      have HR := Lib.hid (HU.out.trans (if_pos ⟨by trivial, hbe⟩))
      clear hbe
      rintro e X3 ⟨rfl, hb3⟩
      have HS3 := Lib.hid (HS2.out.trans (hb3.mono HS2.out.size))
      clear hb3
      refine held_go hK' (HS3.out) ?_
      try simp only [Act.put, List.setIfInBounds_toArray, List.set_cons_zero, List.set_cons_succ]
      refine held_take (i := 5) (v := ?_) rfl (by kernel_rfl) (by kernel_rfl) (by kernel_rfl) (fun _ _ _ h => h) (by rfl) ?_ (by assumption) ?_
      rotate_left
      · intro X hSX
        try dsimp only at hSX
        go_simp <;> with_reducible rfl
      simp only [Act.put, List.setIfInBounds_toArray, List.set_cons_zero, List.set_cons_succ]
      refine wpAnyH_done (by kernel_rfl) ?_ _
      refine NoPanic.normal ?_
      have HB3 := Lib.hid (HB0.out.trans (HS3.out.mono HB0.out.size))
      go_wp2_with fail
      go_ret2
      exact retPE0 HR.out HB3.out
end Go.Proofs.YtjiijjdmkeeilaaDoor
