/-
  The program's perform: the first error of the checks, or else what an operation makes of a drive and a cartridge.
-/
import Derived.Test.YtepmmlnopdjjdaaDpChk
import Derived.Test.YtepmmlnopdjjdaaQCop
import Derived.Test.YtepmmlnopdjjdaaDrWrite
namespace Go.Proofs.Ytepmmlnopdjjdaa
open Go.RowKit
set_option linter.unusedVariables false
set_option linter.unusedSimpArgs false
set_option maxRecDepth 100000
/-- the boxes of perform behind its operation: g the first -/
structure Pf (g : Nat) (w3 X : World) (d : Drv) (c : Crt) (ad : Option Addr) (cap : Nat) (x : Drv) (y : Crt) (yd : Option Addr) (yc : Nat) : Prop where
  d : X.heap[g + 1]? = some (.cells (drK d) 25 (0, 0))
  c : X.heap[g + 2]? = some (.cells (crQ c ad cap) 30 (0, 0))
  x : X.heap[g + 3]? = some (.cells (drK x) 25 (0, 0))
  y : X.heap[g + 4]? = some (.cells (crQ y yd yc) 30 (0, 0))
  b : Below 0 w3 X
  o : ∀ k, k < w3.heap.size → ¬ (g ≤ k ∧ k < g + 5) → X.heap[k]? = w3.heap[k]?
section
variable {w3 X Y : World} {g : Nat} {d : Drv} {c : Crt} {ad : Option Addr} {cap : Nat} {x : Drv} {y : Crt} {yd : Option Addr} {yc : Nat}
theorem Pf.dat (h : Pf g w3 X d c ad cap x y yd yc) : DrAt X (g + 1) d.st d.bc d.hd d.lo d.pa d.si := DrAt.of h.d
theorem Pf.cat (h : Pf g w3 X d c ad cap x y yd yc) : CrAt X (g + 2) c.bc c.W c.L c.S c.T c.J c.R c.wo c.lk ad c.l.length cap c.ep c.lo c.pa := CrAt.of h.c
theorem Pf.next (h : Pf g w3 X d c ad cap x y yd yc) (hb : Below X.heap.size X Y) : Pf g w3 Y d c ad cap x y yd yc :=
  ⟨row_next h.d hb, row_next h.c hb, row_next h.x hb, row_next h.y hb, h.b.trans (hb.mono (Nat.zero_le _)), fun k hk hn => (hb.block k (Nat.lt_of_lt_of_le hk h.b.size)).trans (h.o k hk hn)⟩
theorem Pf.setc (h : Pf g w3 X d c ad cap x y yd yc) (i : Nat) (u : Value) (c2 : Crt) (ad2 : Option Addr) (cap2 : Nat) (hd : (crQ c ad cap).setIfInBounds i u = crQ c2 ad2 cap2) : Pf g w3 (X.setCell ⟨g + 2, i, none⟩ u) d c2 ad2 cap2 x y yd yc := by
  refine ⟨?_, by rw [← hd]; exact heap_set_b X (g + 2) i u _ _ _ h.c, ?_, ?_, h.b.setCell (by show 0 ≤ g + 2; omega) _, fun k hk hn => ?_⟩
  · rw [Below.heap_setCell _ _ _ _ (by show g + 1 ≠ g + 2; omega)]; exact h.d
  · rw [Below.heap_setCell _ _ _ _ (by show g + 3 ≠ g + 2; omega)]; exact h.x
  · rw [Below.heap_setCell _ _ _ _ (by show g + 4 ≠ g + 2; omega)]; exact h.y
  · rw [Below.heap_setCell _ _ _ _ (by show k ≠ g + 2; omega)]; exact h.o k hk hn
theorem Pf.rowx (h : Pf g w3 X d c ad cap x y yd yc) (x2 : Drv) : Pf g w3 (X.setRow (g + 3) (drK x2)) d c ad cap x2 y yd yc := by
  refine ⟨?_, ?_, setRow_heap _ _ _ _ _ _ h.x, ?_, below_set h.b (by omega) _, fun k hk hn => ?_⟩
  · rw [setRow_other _ _ _ _ (by omega)]; exact h.d
  · rw [setRow_other _ _ _ _ (by omega)]; exact h.c
  · rw [setRow_other _ _ _ _ (by omega)]; exact h.y
  · rw [setRow_other _ _ _ _ (by omega)]; exact h.o k hk hn
theorem Pf.rowy (h : Pf g w3 X d c ad cap x y yd yc) (y2 : Crt) (yd2 : Option Addr) (yc2 : Nat) : Pf g w3 (X.setRow (g + 4) (crQ y2 yd2 yc2)) d c ad cap x y2 yd2 yc2 := by
  refine ⟨?_, ?_, ?_, setRow_heap _ _ _ _ _ _ h.y, below_set h.b (by omega) _, fun k hk hn => ?_⟩
  · rw [setRow_other _ _ _ _ (by omega)]; exact h.d
  · rw [setRow_other _ _ _ _ (by omega)]; exact h.c
  · rw [setRow_other _ _ _ _ (by omega)]; exact h.x
  · rw [setRow_other _ _ _ _ (by omega)]; exact h.o k hk hn
end
/-- checks loaded whole -/
theorem ld_ch {ops : Array Oper} {rest : List Oper} {op : Oper} {a : Act} {w : World} {Q : Exit → Act → World → Prop} (hgd : op.guard = none) (x : Operand) (ho : op.op = .load 72 x)
    (g : Nat) (hx : a.eval x = .pointer (some ⟨g, 0, none⟩)) (c0 c1 c2 c3 c4 c5 c6 : Int) (hg : w.heap[g]? = some (.cells (chK c0 c1 c2 c3 c4 c5 c6) 72 (0, 0)))
    (h : wpList Try.prog ops Q rest (a.put op.dst (.agg (chK c0 c1 c2 c3 c4 c5 c6))) w) : wpList Try.prog ops Q (op :: rest) a w :=
  wpList_load_row hgd _ x ho g hx _ _ hg _ Try.underlying72 rfl infoK h
/-- the boxes of perform at its begin -/
abbrev pfL (a b c0 c1 e f g : Int) (d : Drv) (c : Crt) (ad : Option Addr) (cap : Nat) : List (Array Value × TypeId) :=
  [(chK a b c0 c1 e f g, 72), (drK d, 25), (crQ c ad cap, 30), (drK drZ, 25), (crQ crZ none 0, 30)]
/-- what an operation owes perform -/
def RunP (w : World) (C0 : Nat) (E : World → Prop) (r : Drv × Crt × Int × Int) (X : World) (e : Ending) (X' : World) : Prop :=
  e = .returned (.tuple #[.int .i64 r.2.2.1, .int .i64 r.2.2.2]) ∧
  (r.2.2.2 = 0 → ∃ ad' cap', X'.heap[w.heap.size + 1]? = some (.cells (drK r.1) 25 (0, 0)) ∧ X'.heap[w.heap.size + 2]? = some (.cells (crQ r.2.1 ad' cap') 30 (0, 0)) ∧ CrIn X' r.2.1 ad' cap') ∧
  X'.heap[w.heap.size + 3]? = some (.cells (drK drZ) 25 (0, 0)) ∧ X'.heap[w.heap.size + 4]? = some (.cells (crQ crZ none 0) 30 (0, 0)) ∧ Below C0 X X' ∧ E X'
/-- what perform leaves -/
def RetPf (w : World) (C0 : Nat) (E : World → Prop) (r : Drv × Crt × Int × Int) (e : Ending) (w' : World) : Prop :=
  ∃ ad' cap', e = .returned (.tuple #[drV r.1, crV r.2.1 ad' cap', .int .i64 r.2.2.1, .int .i64 r.2.2.2]) ∧ CrIn w' r.2.1 ad' cap' ∧ Kfr w' w.heap.size ad' r.2.1.l ∧ Below C0 w w' ∧ E w'
theorem ret_pfZ {w w' : World} {C0 : Nat} {E : World → Prop} {x : Int} (h : Below C0 w w') (hE : E w') : RetPf w C0 E (drZ, crZ, 0, x) (.returned (.tuple #[.agg (drK drZ), .agg (crQ crZ none 0), .int .i64 0, .int .i64 x])) w' :=
  ⟨none, 0, rfl, ⟨Ki.nil _ _, Nat.le_refl _, Nat.zero_le _, fun _ => rfl, by show (0 : Nat) ≤ maxLen; omega⟩, fun X _ _ => Ki.nil _ _, h, hE⟩
/-- behind the operation -/
theorem pf_end {w w2 w3 X : World} {C0 : Nat} {E : World → Prop} {d1 : Drv} {y1 : Crt} {t1 : Int} {ad1 ad5 : Option Addr} {cap1 cap5 : Nat} (hC0 : C0 ≤ w.heap.size) (hT : Pf w.heap.size w3 X d1 ⟨y1.bc, y1.W, y1.L, y1.S, y1.T, y1.J, y1.R, y1.wo, y1.lk, y1.l, y1.ep, y1.lo, y1.pa⟩ ad5 cap5 d1 ⟨y1.bc, y1.W, y1.L, y1.S, y1.T, y1.J, y1.R, y1.wo, y1.lk, y1.l, y1.ep, y1.lo, y1.pa⟩ ad5 cap5)
    (hs2 : w.heap.size + 5 ≤ w2.heap.size) (hs3 : w.heap.size + 5 ≤ w3.heap.size) (hb3 : Below C0 w w3) (hk : Kq w3 w2.heap.size w2.heap.size (.slice ad5 y1.l.length cap5) y1.l) (hi : CrIn w2 y1 ad1 cap1) (hE3 : E w3)
    (hE : ∀ X Y, E X → (∀ k, k < X.heap.size → ¬ (w.heap.size ≤ k ∧ k < w.heap.size + 5) → Y.heap[k]? = X.heap[k]?) → X.heap.size ≤ Y.heap.size → E Y) :
    RetPf w C0 E (d1, y1, t1, 0) (.returned (.tuple #[.agg (drK d1), .agg (crQ ⟨y1.bc, y1.W, y1.L, y1.S, y1.T, y1.J, y1.R, y1.wo, y1.lk, y1.l, y1.ep, y1.lo, y1.pa⟩ ad5 cap5), .int .i64 t1, .int .i64 0])) X := by
  have hb : Below C0 w3 X := ⟨hT.b.os, hT.b.tape, hT.b.output, hT.b.size, fun k hk => hT.o k (by omega) (by omega)⟩
  have hk2 := hk.keep (w' := X) (fun k hk hlt => hT.o k hlt (by omega)) hT.b.size
  obtain ⟨ad6, cap6, e6, hx6, h61, h62, h63, _⟩ := hk2.read
  cases e6
  refine ⟨ad5, cap5, rfl, ⟨hx6.ki, h61, h62, h63, hi.bs⟩, fun Y hY hs => ?_, hb3.trans hb, hE w3 X hE3 (fun k hk hn => hT.o k hk hn) hT.b.size⟩
  obtain ⟨ad7, cap7, e7, hx7, _⟩ := (hk2.keep (w' := Y) (fun k hk hlt => hY k (by omega) hlt) hs).read
  cases e7
  exact hx7.ki
attribute [local irreducible] frs
set_option maxHeartbeats 4000000 in
theorem perform_no (a b c0 c1 e f g : Int) (d : Drv) (c : Crt) (ad : Option Addr) (cap : Nat) (v : Value) (er : Int) (w : World) (h0 : frs [a, b, c0, c1, e, f, g] = er) (her : er ≠ 0) :
    Calls Try.prog 39 #[.agg (chK a b c0 c1 e f g), drV d, crV c ad cap, v] w fun e w' => e = .returned (.tuple #[.agg (drK drZ), .agg (crQ crZ none 0), .int .i64 0, .int .i64 er]) ∧ Below w.heap.size w w' := by
  have HX := Lib.hid (show Bx w (((((w.alloc (.cells (chK a b c0 c1 e f g) 72)).alloc (boxDr d)).alloc (boxCx c ad cap)).alloc (.cells #[.int .i64 0, .string ⟨#[]⟩, .int .i64 0, .int .i64 0, .int .i64 0, .int .i64 0] 25)).alloc (boxK ⟨#[]⟩ 0 0 0 0 0 0 false false none 0 0 0 0 0)) (pfL a b c0 c1 e f g d c ad cap) from Bx.start w (pfL a b c0 c1 e f g d c ad cap))
  have HFI := Lib.hid (fun X => first_any a b c0 c1 e f g X)
  rw [h0] at HFI
  clear h0
  go_enter Try.func39, Try.ntmps39
  go_wp2_with (with_reducible refine ld_ch rfl (.tmp 4) rfl w.heap.size rfl _ _ _ _ _ _ _ (HX.out.at_ 0 _ rfl) ?_)
  generalize World.alloc _ _ = X0 at *
  refine (HFI.out X0).mono ?_
  rintro e' w1 ⟨rfl, hb⟩
  replace HX := Lib.hid (HX.out.next hb)
  clear hb
  have hne : (er != 0) = true := by simp [her]
  have R3 := Lib.hid (show w1.heap[w.heap.size + 3]? = some (.cells (drK drZ) 25 (0, 0)) from HX.out.at_ 3 _ rfl)
  have R4 := Lib.hid (show (w1.setRow (w.heap.size + 3) (drK drZ)).heap[w.heap.size + 4]? = some (.cells (crQ crZ none 0) 30 (0, 0)) by rw [setRow_other _ _ _ _ (by omega)]; exact HX.out.at_ 4 _ rfl)
  go_wp2_with (first
    | (with_reducible refine wpList_store_dr rfl (.tmp 8) (.tmp 19) rfl (w.heap.size + 3) rfl _ _ _ _ _ _ rfl drZ R3.out ?_)
    | (with_reducible refine wpList_store_cr rfl (.tmp 9) (.tmp 20) rfl (w.heap.size + 4) rfl _ _ _ _ _ _ _ _ _ _ _ _ _ _ _ rfl _ _ _ _ _ _ _ _ _ _ _ _ _ _ _ R4.out ?_))
  refine post_cells2 rfl rfl (show ((w1.setRow (w.heap.size + 3) (drK drZ)).setRow (w.heap.size + 4) (crQ crZ none 0)).heap[w.heap.size + 3]? = some (.cells (drK drZ) 25 (0, 0)) by rw [setRow_other _ _ _ _ (by omega)]; exact setRow_heap _ _ _ (drK drZ) _ _ R3.out) Try.underlying25 rfl infoD rfl (setRow_heap _ _ _ (crQ crZ none 0) _ _ R4.out) Try.underlying30 rfl infoC rfl rfl rfl ?_
  exact ⟨rfl, below_set (below_set HX.out.b (by omega) _) (by omega) _⟩
set_option maxHeartbeats 4000000 in
theorem perform_load (gm : Nat) (a b c0 c1 e f g : Int) (d : Drv) (c : Crt) (ad : Option Addr) (cap : Nat) (w : World) (r : Drv × Crt × Int × Int) (C0 : Nat) (E : World → Prop) (h0 : frs [a, b, c0, c1, e, f, g] = 0) (hC0 : C0 ≤ w.heap.size)
    (hz : r.2.2.2 ≠ 0 → r = (drZ, crZ, 0, r.2.2.2)) (hsm : r.2.2.2 = 0 → r.2.1.l.length ≤ 4096 ∧ ∀ b ∈ r.2.1.l, b.d.length ≤ 10000)
    (hE : ∀ X Y, E X → (∀ k, k < X.heap.size → ¬ (w.heap.size ≤ k ∧ k < w.heap.size + 5) → Y.heap[k]? = X.heap[k]?) → X.heap.size ≤ Y.heap.size → E Y)
    (hrun : ∀ X, Bx w X (pfL a b c0 c1 e f g d c ad cap) → Calls Try.prog 40 #[.pointer (some ⟨w.heap.size + 1, 0, none⟩), .pointer (some ⟨w.heap.size + 2, 0, none⟩), .pointer (some ⟨gm, 0, none⟩)] X fun e' X' => RunP w C0 E r X e' X') :
    Calls Try.prog 39 #[.agg (chK a b c0 c1 e f g), drV d, crV c ad cap, .func (.func 40) #[] #[.pointer (some ⟨gm, 0, none⟩)]] w fun e w' => RetPf w C0 E r e w' := by
  have HX := Lib.hid (show Bx w (((((w.alloc (.cells (chK a b c0 c1 e f g) 72)).alloc (boxDr d)).alloc (boxCx c ad cap)).alloc (.cells #[.int .i64 0, .string ⟨#[]⟩, .int .i64 0, .int .i64 0, .int .i64 0, .int .i64 0] 25)).alloc (boxK ⟨#[]⟩ 0 0 0 0 0 0 false false none 0 0 0 0 0)) (pfL a b c0 c1 e f g d c ad cap) from Bx.start w (pfL a b c0 c1 e f g d c ad cap))
  have HFI := Lib.hid (fun X => first_any a b c0 c1 e f g X)
  rw [h0] at HFI
  have HRUN := Lib.hid hrun
  have HE := Lib.hid hE
  have HZ := Lib.hid hz
  have HSM := Lib.hid hsm
  have HC0 := Lib.hid hC0
  clear h0 hrun hE hz hsm hC0
  obtain ⟨d1, y1, t1, e1⟩ := r
  simp only at HZ HSM
  go_enter Try.func39, Try.ntmps39
  go_wp2_with (with_reducible refine ld_ch rfl (.tmp 4) rfl w.heap.size rfl _ _ _ _ _ _ _ (HX.out.at_ 0 _ rfl) ?_)
  generalize World.alloc _ _ = X0 at *
  refine (HFI.out X0).mono ?_
  rintro e' w1 ⟨rfl, hb⟩
  replace HX := Lib.hid (HX.out.next hb)
  clear hb HFI
  go_wp2_with fail
  refine (HRUN.out w1 HX.out).mono ?_
  rintro e' w2 ⟨rfl, h1, hx, hy, hbl, he⟩
  simp only at h1
  have HB2 := Lib.hid ((HX.out.b.mono HC0.out).trans hbl)
  have HW2 := Lib.hid he
  have HS1 := Lib.hid (Nat.le_trans HX.out.size hbl.size)
  have R3 := Lib.hid hx
  have R4 := Lib.hid (show (w2.setRow (w.heap.size + 3) (drK drZ)).heap[w.heap.size + 4]? = some (.cells (crQ crZ none 0) 30 (0, 0)) by rw [setRow_other _ _ _ _ (by omega)]; exact hy)
  have HY4 := Lib.hid hy
  have H1 := Lib.hid h1
  clear hx hy hbl he h1 HRUN HX
  by_cases h0 : e1 = 0
  rotate_left
  · have hr := HZ.out h0
    cases hr
    have hne : (e1 != 0) = true := by simp [h0]
    have HN1 : Hid (∀ k, k < w2.heap.size → ¬ (w.heap.size ≤ k ∧ k < w.heap.size + 5) → ((w2.setRow (w.heap.size + 3) (drK drZ)).setRow (w.heap.size + 4) (crQ crZ none 0)).heap[k]? = w2.heap[k]?) := Lib.hid (fun k hk hn => by rw [setRow_other _ _ _ _ (by omega), setRow_other _ _ _ _ (by omega)])
    go_wp2_with (first
      | (with_reducible refine wpList_store_dr rfl (.tmp 8) (.tmp 29) rfl (w.heap.size + 3) rfl _ _ _ _ _ _ rfl drZ R3.out ?_)
      | (with_reducible refine wpList_store_cr rfl (.tmp 9) (.tmp 30) rfl (w.heap.size + 4) rfl _ _ _ _ _ _ _ _ _ _ _ _ _ _ _ rfl _ _ _ _ _ _ _ _ _ _ _ _ _ _ _ R4.out ?_))
    refine post_cells2 rfl rfl (show ((w2.setRow (w.heap.size + 3) (drK drZ)).setRow (w.heap.size + 4) (crQ crZ none 0)).heap[w.heap.size + 3]? = some (.cells (drK drZ) 25 (0, 0)) by rw [setRow_other _ _ _ _ (by omega)]; exact setRow_heap _ _ _ (drK drZ) _ _ R3.out) Try.underlying25 rfl infoD rfl (setRow_heap _ _ _ (crQ crZ none 0) _ _ R4.out) Try.underlying30 rfl infoC rfl rfl rfl ?_
    exact ret_pfZ (below_set (below_set HB2.out (by have := HC0.out; omega) _) (by have := HC0.out; omega) _) (HE.out _ _ HW2.out HN1.out (by simp [World.setRow]))
  subst h0
  obtain ⟨ad1, cap1, hr1, hr2, hi⟩ := H1.out rfl
  obtain ⟨hs1, hs2⟩ := HSM.out rfl
  have HT := Lib.hid (show Pf w.heap.size w2 w2 d1 y1 ad1 cap1 drZ crZ none 0 from ⟨hr1, hr2, R3.out, HY4.out, Below.refl _ _, fun _ _ _ => rfl⟩)
  have HI := Lib.hid hi
  have HCP := Lib.hid (dcopied_any ad1 y1.l.length cap1 y1.l w2 hi.ki rfl hs1 hs2 hi.nn)
  clear hr1 hr2 hi hs1 hs2 H1 HSM HZ R3 R4 HY4
  obtain ⟨_, k0, k1, k2, k3, k4, k5, k6, k7, k8, k9, k10, k11, k12⟩ := HT.out.cat
  go_wp2_with fail
  clear k0 k1 k2 k3 k4 k5 k6 k7 k8 k9 k10 k11 k12
  refine HCP.out.mono ?_
  rintro e' w3 ⟨v5, rfl, hk5, hb⟩
  obtain ⟨ad5, cap5, rfl, -⟩ := hk5.read
  have HK5 := Lib.hid hk5
  have HW3 := Lib.hid (HE.out w2 w3 HW2.out (fun k hk _ => hb.block k hk) hb.size)
  have HB3 := Lib.hid (HB2.out.trans (hb.mono (Nat.le_trans HC0.out (Nat.le_trans (Nat.le_add_right _ _) HS1.out))))
  have HS3 := Lib.hid (Nat.le_trans HS1.out hb.size)
  replace HT := Lib.hid (show Pf w.heap.size w3 w3 d1 y1 ad1 cap1 drZ crZ none 0 from ⟨row_next HT.out.d hb, row_next HT.out.c hb, row_next HT.out.x hb, row_next HT.out.y hb, Below.refl _ _, fun _ _ _ => rfl⟩)
  clear hk5 hb HW2 HB2 HCP
  obtain ⟨_, k0, k1, k2, k3, k4, k5, k6, k7, k8, k9, k10, k11, k12⟩ := HT.out.cat
  have f9 := froz_of HT.out.c 9
  go_wp2_with fail
  clear k0 k1 k2 k3 k4 k5 k6 k7 k8 k9 k10 k11 k12 f9
  replace HT := Lib.hid (HT.out.setc 9 (.slice ad5 y1.l.length cap5) ⟨y1.bc, y1.W, y1.L, y1.S, y1.T, y1.J, y1.R, y1.wo, y1.lk, y1.l, y1.ep, y1.lo, y1.pa⟩ ad5 cap5 rfl)
  generalize World.setCell w3 _ _ = Y0 at *
  replace HT := Lib.hid (HT.out.next (Below.refl Y0.heap.size Y0).drew)
  refine wp_region_noPanic ?_
  refine wp_region_held_drew (S := (fun X => DrAt X (w.heap.size + 1) d1.st d1.bc d1.hd d1.lo d1.pa d1.si ∧ CrAt X (w.heap.size + 2) y1.bc y1.W y1.L y1.S y1.T y1.J y1.R y1.wo y1.lk ad5 y1.l.length cap5 y1.ep y1.lo y1.pa)) (by kernel_rfl) (⟨HT.out.dat, HT.out.cat⟩) (fun hS0 => ?_)
  generalize World.drew Y0 = X9 at *
  refine held_take (i := 0) (v := ?_) rfl (by kernel_rfl) (by kernel_rfl) (by kernel_rfl) (fun _ _ _ h => h) (by rfl) ?_ (by assumption) ?_
  rotate_left
  · intro X hSX
    try dsimp only at hSX
    obtain ⟨⟨_, d0, d1, d2, d3, d4, d5⟩, -⟩ := hSX
    go_simp <;> with_reducible rfl
  simp only [Act.put, List.setIfInBounds_toArray, List.set_cons_zero, List.set_cons_succ]
  refine held_take (i := 1) (v := ?_) rfl (by kernel_rfl) (by kernel_rfl) (by kernel_rfl) (fun _ _ _ h => h) (by rfl) ?_ (by assumption) ?_
  rotate_left
  · intro X hSX
    try dsimp only at hSX
    obtain ⟨-, ⟨_, k0, k1, k2, k3, k4, k5, k6, k7, k8, k9, k10, k11, k12⟩⟩ := hSX
    go_simp <;> with_reducible rfl
  simp only [Act.put, List.setIfInBounds_toArray, List.set_cons_zero, List.set_cons_succ]
  refine held_take (i := 2) (v := ?_) rfl (by kernel_rfl) (by kernel_rfl) (by kernel_rfl) (fun _ _ _ h => h) (by rfl) ?_ (by assumption) ?_
  rotate_left
  · intro X hSX
    try dsimp only at hSX
    go_simp <;> with_reducible rfl
  simp only [Act.put, List.setIfInBounds_toArray, List.set_cons_zero, List.set_cons_succ]
  refine held_call (i := 3) rfl (by kernel_rfl) (by rfl) (fun K' hK' => ?_)
  refine oper_store_dr (.tmp 8) (.tmp 36) rfl (w.heap.size + 3) rfl d1 rfl drZ HT.out.x ?_
  replace HT := Lib.hid (HT.out.rowx d1)
  refine held_go hK' (⟨HT.out.dat, HT.out.cat⟩) ?_
  try simp only [Act.put, List.setIfInBounds_toArray, List.set_cons_zero, List.set_cons_succ]
  generalize World.setRow X9 _ _ = X10 at *
  clear hS0
  have hS0 := (⟨HT.out.dat, HT.out.cat⟩ : DrAt X10 (w.heap.size + 1) d1.st d1.bc d1.hd d1.lo d1.pa d1.si ∧ CrAt X10 (w.heap.size + 2) y1.bc y1.W y1.L y1.S y1.T y1.J y1.R y1.wo y1.lk ad5 y1.l.length cap5 y1.ep y1.lo y1.pa)
  refine held_call (i := 4) rfl (by kernel_rfl) (by rfl) (fun K' hK' => ?_)
  refine oper_store_cq (.tmp 9) (.tmp 37) rfl (w.heap.size + 4) rfl ⟨y1.bc, y1.W, y1.L, y1.S, y1.T, y1.J, y1.R, y1.wo, y1.lk, y1.l, y1.ep, y1.lo, y1.pa⟩ ad5 cap5 rfl crZ none 0 HT.out.y ?_
  replace HT := Lib.hid (HT.out.rowy ⟨y1.bc, y1.W, y1.L, y1.S, y1.T, y1.J, y1.R, y1.wo, y1.lk, y1.l, y1.ep, y1.lo, y1.pa⟩ ad5 cap5)
  refine held_go hK' (⟨HT.out.dat, HT.out.cat⟩) ?_
  try simp only [Act.put, List.setIfInBounds_toArray, List.set_cons_zero, List.set_cons_succ]
  generalize World.setRow X10 _ _ = X11 at *
  clear hS0
  have hS0 := (⟨HT.out.dat, HT.out.cat⟩ : DrAt X11 (w.heap.size + 1) d1.st d1.bc d1.hd d1.lo d1.pa d1.si ∧ CrAt X11 (w.heap.size + 2) y1.bc y1.W y1.L y1.S y1.T y1.J y1.R y1.wo y1.lk ad5 y1.l.length cap5 y1.ep y1.lo y1.pa)
  refine held_take (i := 5) (v := ?_) rfl (by kernel_rfl) (by kernel_rfl) (by kernel_rfl) (fun _ _ _ h => h) (by rfl) ?_ (by assumption) ?_
  rotate_left
  · intro X hSX
    try dsimp only at hSX
    go_simp <;> with_reducible rfl
  simp only [Act.put, List.setIfInBounds_toArray, List.set_cons_zero, List.set_cons_succ]
  refine held_take (i := 6) (v := ?_) rfl (by kernel_rfl) (by kernel_rfl) (by kernel_rfl) (fun _ _ _ h => h) (by rfl) ?_ (by assumption) ?_
  rotate_left
  · intro X hSX
    try dsimp only at hSX
    go_simp <;> with_reducible rfl
  simp only [Act.put, List.setIfInBounds_toArray, List.set_cons_zero, List.set_cons_succ]
  refine wpAnyH_done (by kernel_rfl) ?_ _
  refine NoPanic.normal ?_
  clear hS0
  go_wp2_with fail
  refine post_cells2 rfl rfl HT.out.x Try.underlying25 rfl infoD rfl HT.out.y Try.underlying30 rfl infoC rfl rfl rfl ?_
  exact pf_end HC0.out HT.out HS1.out HS3.out HB3.out HK5.out HI.out HW3.out HE.out
set_option maxHeartbeats 4000000 in
theorem perform_unload (gm : Nat) (a b c0 c1 e f g : Int) (d : Drv) (c : Crt) (ad : Option Addr) (cap : Nat) (w : World) (r : Drv × Crt × Int × Int) (C0 : Nat) (E : World → Prop) (h0 : frs [a, b, c0, c1, e, f, g] = 0) (hC0 : C0 ≤ w.heap.size)
    (hz : r.2.2.2 ≠ 0 → r = (drZ, crZ, 0, r.2.2.2)) (hsm : r.2.2.2 = 0 → r.2.1.l.length ≤ 4096 ∧ ∀ b ∈ r.2.1.l, b.d.length ≤ 10000)
    (hE : ∀ X Y, E X → (∀ k, k < X.heap.size → ¬ (w.heap.size ≤ k ∧ k < w.heap.size + 5) → Y.heap[k]? = X.heap[k]?) → X.heap.size ≤ Y.heap.size → E Y)
    (hrun : ∀ X, Bx w X (pfL a b c0 c1 e f g d c ad cap) → Calls Try.prog 51 #[.pointer (some ⟨w.heap.size + 1, 0, none⟩), .pointer (some ⟨w.heap.size + 2, 0, none⟩), .pointer (some ⟨gm, 0, none⟩)] X fun e' X' => RunP w C0 E r X e' X') :
    Calls Try.prog 39 #[.agg (chK a b c0 c1 e f g), drV d, crV c ad cap, .func (.func 51) #[] #[.pointer (some ⟨gm, 0, none⟩)]] w fun e w' => RetPf w C0 E r e w' := by
  have HX := Lib.hid (show Bx w (((((w.alloc (.cells (chK a b c0 c1 e f g) 72)).alloc (boxDr d)).alloc (boxCx c ad cap)).alloc (.cells #[.int .i64 0, .string ⟨#[]⟩, .int .i64 0, .int .i64 0, .int .i64 0, .int .i64 0] 25)).alloc (boxK ⟨#[]⟩ 0 0 0 0 0 0 false false none 0 0 0 0 0)) (pfL a b c0 c1 e f g d c ad cap) from Bx.start w (pfL a b c0 c1 e f g d c ad cap))
  have HFI := Lib.hid (fun X => first_any a b c0 c1 e f g X)
  rw [h0] at HFI
  have HRUN := Lib.hid hrun
  have HE := Lib.hid hE
  have HZ := Lib.hid hz
  have HSM := Lib.hid hsm
  have HC0 := Lib.hid hC0
  clear h0 hrun hE hz hsm hC0
  obtain ⟨d1, y1, t1, e1⟩ := r
  simp only at HZ HSM
  go_enter Try.func39, Try.ntmps39
  go_wp2_with (with_reducible refine ld_ch rfl (.tmp 4) rfl w.heap.size rfl _ _ _ _ _ _ _ (HX.out.at_ 0 _ rfl) ?_)
  generalize World.alloc _ _ = X0 at *
  refine (HFI.out X0).mono ?_
  rintro e' w1 ⟨rfl, hb⟩
  replace HX := Lib.hid (HX.out.next hb)
  clear hb HFI
  go_wp2_with fail
  refine (HRUN.out w1 HX.out).mono ?_
  rintro e' w2 ⟨rfl, h1, hx, hy, hbl, he⟩
  simp only at h1
  have HB2 := Lib.hid ((HX.out.b.mono HC0.out).trans hbl)
  have HW2 := Lib.hid he
  have HS1 := Lib.hid (Nat.le_trans HX.out.size hbl.size)
  have R3 := Lib.hid hx
  have R4 := Lib.hid (show (w2.setRow (w.heap.size + 3) (drK drZ)).heap[w.heap.size + 4]? = some (.cells (crQ crZ none 0) 30 (0, 0)) by rw [setRow_other _ _ _ _ (by omega)]; exact hy)
  have HY4 := Lib.hid hy
  have H1 := Lib.hid h1
  clear hx hy hbl he h1 HRUN HX
  by_cases h0 : e1 = 0
  rotate_left
  · have hr := HZ.out h0
    cases hr
    have hne : (e1 != 0) = true := by simp [h0]
    have HN1 : Hid (∀ k, k < w2.heap.size → ¬ (w.heap.size ≤ k ∧ k < w.heap.size + 5) → ((w2.setRow (w.heap.size + 3) (drK drZ)).setRow (w.heap.size + 4) (crQ crZ none 0)).heap[k]? = w2.heap[k]?) := Lib.hid (fun k hk hn => by rw [setRow_other _ _ _ _ (by omega), setRow_other _ _ _ _ (by omega)])
    go_wp2_with (first
      | (with_reducible refine wpList_store_dr rfl (.tmp 8) (.tmp 29) rfl (w.heap.size + 3) rfl _ _ _ _ _ _ rfl drZ R3.out ?_)
      | (with_reducible refine wpList_store_cr rfl (.tmp 9) (.tmp 30) rfl (w.heap.size + 4) rfl _ _ _ _ _ _ _ _ _ _ _ _ _ _ _ rfl _ _ _ _ _ _ _ _ _ _ _ _ _ _ _ R4.out ?_))
    refine post_cells2 rfl rfl (show ((w2.setRow (w.heap.size + 3) (drK drZ)).setRow (w.heap.size + 4) (crQ crZ none 0)).heap[w.heap.size + 3]? = some (.cells (drK drZ) 25 (0, 0)) by rw [setRow_other _ _ _ _ (by omega)]; exact setRow_heap _ _ _ (drK drZ) _ _ R3.out) Try.underlying25 rfl infoD rfl (setRow_heap _ _ _ (crQ crZ none 0) _ _ R4.out) Try.underlying30 rfl infoC rfl rfl rfl ?_
    exact ret_pfZ (below_set (below_set HB2.out (by have := HC0.out; omega) _) (by have := HC0.out; omega) _) (HE.out _ _ HW2.out HN1.out (by simp [World.setRow]))
  subst h0
  obtain ⟨ad1, cap1, hr1, hr2, hi⟩ := H1.out rfl
  obtain ⟨hs1, hs2⟩ := HSM.out rfl
  have HT := Lib.hid (show Pf w.heap.size w2 w2 d1 y1 ad1 cap1 drZ crZ none 0 from ⟨hr1, hr2, R3.out, HY4.out, Below.refl _ _, fun _ _ _ => rfl⟩)
  have HI := Lib.hid hi
  have HCP := Lib.hid (dcopied_any ad1 y1.l.length cap1 y1.l w2 hi.ki rfl hs1 hs2 hi.nn)
  clear hr1 hr2 hi hs1 hs2 H1 HSM HZ R3 R4 HY4
  obtain ⟨_, k0, k1, k2, k3, k4, k5, k6, k7, k8, k9, k10, k11, k12⟩ := HT.out.cat
  go_wp2_with fail
  clear k0 k1 k2 k3 k4 k5 k6 k7 k8 k9 k10 k11 k12
  refine HCP.out.mono ?_
  rintro e' w3 ⟨v5, rfl, hk5, hb⟩
  obtain ⟨ad5, cap5, rfl, -⟩ := hk5.read
  have HK5 := Lib.hid hk5
  have HW3 := Lib.hid (HE.out w2 w3 HW2.out (fun k hk _ => hb.block k hk) hb.size)
  have HB3 := Lib.hid (HB2.out.trans (hb.mono (Nat.le_trans HC0.out (Nat.le_trans (Nat.le_add_right _ _) HS1.out))))
  have HS3 := Lib.hid (Nat.le_trans HS1.out hb.size)
  replace HT := Lib.hid (show Pf w.heap.size w3 w3 d1 y1 ad1 cap1 drZ crZ none 0 from ⟨row_next HT.out.d hb, row_next HT.out.c hb, row_next HT.out.x hb, row_next HT.out.y hb, Below.refl _ _, fun _ _ _ => rfl⟩)
  clear hk5 hb HW2 HB2 HCP
  obtain ⟨_, k0, k1, k2, k3, k4, k5, k6, k7, k8, k9, k10, k11, k12⟩ := HT.out.cat
  have f9 := froz_of HT.out.c 9
  go_wp2_with fail
  clear k0 k1 k2 k3 k4 k5 k6 k7 k8 k9 k10 k11 k12 f9
  replace HT := Lib.hid (HT.out.setc 9 (.slice ad5 y1.l.length cap5) ⟨y1.bc, y1.W, y1.L, y1.S, y1.T, y1.J, y1.R, y1.wo, y1.lk, y1.l, y1.ep, y1.lo, y1.pa⟩ ad5 cap5 rfl)
  generalize World.setCell w3 _ _ = Y0 at *
  replace HT := Lib.hid (HT.out.next (Below.refl Y0.heap.size Y0).drew)
  refine wp_region_noPanic ?_
  refine wp_region_held_drew (S := (fun X => DrAt X (w.heap.size + 1) d1.st d1.bc d1.hd d1.lo d1.pa d1.si ∧ CrAt X (w.heap.size + 2) y1.bc y1.W y1.L y1.S y1.T y1.J y1.R y1.wo y1.lk ad5 y1.l.length cap5 y1.ep y1.lo y1.pa)) (by kernel_rfl) (⟨HT.out.dat, HT.out.cat⟩) (fun hS0 => ?_)
  generalize World.drew Y0 = X9 at *
  refine held_take (i := 0) (v := ?_) rfl (by kernel_rfl) (by kernel_rfl) (by kernel_rfl) (fun _ _ _ h => h) (by rfl) ?_ (by assumption) ?_
  rotate_left
  · intro X hSX
    try dsimp only at hSX
    obtain ⟨⟨_, d0, d1, d2, d3, d4, d5⟩, -⟩ := hSX
    go_simp <;> with_reducible rfl
  simp only [Act.put, List.setIfInBounds_toArray, List.set_cons_zero, List.set_cons_succ]
  refine held_take (i := 1) (v := ?_) rfl (by kernel_rfl) (by kernel_rfl) (by kernel_rfl) (fun _ _ _ h => h) (by rfl) ?_ (by assumption) ?_
  rotate_left
  · intro X hSX
    try dsimp only at hSX
    obtain ⟨-, ⟨_, k0, k1, k2, k3, k4, k5, k6, k7, k8, k9, k10, k11, k12⟩⟩ := hSX
    go_simp <;> with_reducible rfl
  simp only [Act.put, List.setIfInBounds_toArray, List.set_cons_zero, List.set_cons_succ]
  refine held_take (i := 2) (v := ?_) rfl (by kernel_rfl) (by kernel_rfl) (by kernel_rfl) (fun _ _ _ h => h) (by rfl) ?_ (by assumption) ?_
  rotate_left
  · intro X hSX
    try dsimp only at hSX
    go_simp <;> with_reducible rfl
  simp only [Act.put, List.setIfInBounds_toArray, List.set_cons_zero, List.set_cons_succ]
  refine held_call (i := 3) rfl (by kernel_rfl) (by rfl) (fun K' hK' => ?_)
  refine oper_store_dr (.tmp 8) (.tmp 36) rfl (w.heap.size + 3) rfl d1 rfl drZ HT.out.x ?_
  replace HT := Lib.hid (HT.out.rowx d1)
  refine held_go hK' (⟨HT.out.dat, HT.out.cat⟩) ?_
  try simp only [Act.put, List.setIfInBounds_toArray, List.set_cons_zero, List.set_cons_succ]
  generalize World.setRow X9 _ _ = X10 at *
  clear hS0
  have hS0 := (⟨HT.out.dat, HT.out.cat⟩ : DrAt X10 (w.heap.size + 1) d1.st d1.bc d1.hd d1.lo d1.pa d1.si ∧ CrAt X10 (w.heap.size + 2) y1.bc y1.W y1.L y1.S y1.T y1.J y1.R y1.wo y1.lk ad5 y1.l.length cap5 y1.ep y1.lo y1.pa)
  refine held_call (i := 4) rfl (by kernel_rfl) (by rfl) (fun K' hK' => ?_)
  refine oper_store_cq (.tmp 9) (.tmp 37) rfl (w.heap.size + 4) rfl ⟨y1.bc, y1.W, y1.L, y1.S, y1.T, y1.J, y1.R, y1.wo, y1.lk, y1.l, y1.ep, y1.lo, y1.pa⟩ ad5 cap5 rfl crZ none 0 HT.out.y ?_
  replace HT := Lib.hid (HT.out.rowy ⟨y1.bc, y1.W, y1.L, y1.S, y1.T, y1.J, y1.R, y1.wo, y1.lk, y1.l, y1.ep, y1.lo, y1.pa⟩ ad5 cap5)
  refine held_go hK' (⟨HT.out.dat, HT.out.cat⟩) ?_
  try simp only [Act.put, List.setIfInBounds_toArray, List.set_cons_zero, List.set_cons_succ]
  generalize World.setRow X10 _ _ = X11 at *
  clear hS0
  have hS0 := (⟨HT.out.dat, HT.out.cat⟩ : DrAt X11 (w.heap.size + 1) d1.st d1.bc d1.hd d1.lo d1.pa d1.si ∧ CrAt X11 (w.heap.size + 2) y1.bc y1.W y1.L y1.S y1.T y1.J y1.R y1.wo y1.lk ad5 y1.l.length cap5 y1.ep y1.lo y1.pa)
  refine held_take (i := 5) (v := ?_) rfl (by kernel_rfl) (by kernel_rfl) (by kernel_rfl) (fun _ _ _ h => h) (by rfl) ?_ (by assumption) ?_
  rotate_left
  · intro X hSX
    try dsimp only at hSX
    go_simp <;> with_reducible rfl
  simp only [Act.put, List.setIfInBounds_toArray, List.set_cons_zero, List.set_cons_succ]
  refine held_take (i := 6) (v := ?_) rfl (by kernel_rfl) (by kernel_rfl) (by kernel_rfl) (fun _ _ _ h => h) (by rfl) ?_ (by assumption) ?_
  rotate_left
  · intro X hSX
    try dsimp only at hSX
    go_simp <;> with_reducible rfl
  simp only [Act.put, List.setIfInBounds_toArray, List.set_cons_zero, List.set_cons_succ]
  refine wpAnyH_done (by kernel_rfl) ?_ _
  refine NoPanic.normal ?_
  clear hS0
  go_wp2_with fail
  refine post_cells2 rfl rfl HT.out.x Try.underlying25 rfl infoD rfl HT.out.y Try.underlying30 rfl infoC rfl rfl rfl ?_
  exact pf_end HC0.out HT.out HS1.out HS3.out HB3.out HK5.out HI.out HW3.out HE.out
set_option maxHeartbeats 4000000 in
theorem perform_seek (gt : Nat) (a b c0 c1 e f g : Int) (d : Drv) (c : Crt) (ad : Option Addr) (cap : Nat) (w : World) (r : Drv × Crt × Int × Int) (C0 : Nat) (E : World → Prop) (h0 : frs [a, b, c0, c1, e, f, g] = 0) (hC0 : C0 ≤ w.heap.size)
    (hz : r.2.2.2 ≠ 0 → r = (drZ, crZ, 0, r.2.2.2)) (hsm : r.2.2.2 = 0 → r.2.1.l.length ≤ 4096 ∧ ∀ b ∈ r.2.1.l, b.d.length ≤ 10000)
    (hE : ∀ X Y, E X → (∀ k, k < X.heap.size → ¬ (w.heap.size ≤ k ∧ k < w.heap.size + 5) → Y.heap[k]? = X.heap[k]?) → X.heap.size ≤ Y.heap.size → E Y)
    (hrun : ∀ X, Bx w X (pfL a b c0 c1 e f g d c ad cap) → Calls Try.prog 43 #[.pointer (some ⟨w.heap.size + 1, 0, none⟩), .pointer (some ⟨w.heap.size + 2, 0, none⟩), .pointer (some ⟨gt, 0, none⟩)] X fun e' X' => RunP w C0 E r X e' X') :
    Calls Try.prog 39 #[.agg (chK a b c0 c1 e f g), drV d, crV c ad cap, .func (.func 43) #[] #[.pointer (some ⟨gt, 0, none⟩)]] w fun e w' => RetPf w C0 E r e w' := by
  have HX := Lib.hid (show Bx w (((((w.alloc (.cells (chK a b c0 c1 e f g) 72)).alloc (boxDr d)).alloc (boxCx c ad cap)).alloc (.cells #[.int .i64 0, .string ⟨#[]⟩, .int .i64 0, .int .i64 0, .int .i64 0, .int .i64 0] 25)).alloc (boxK ⟨#[]⟩ 0 0 0 0 0 0 false false none 0 0 0 0 0)) (pfL a b c0 c1 e f g d c ad cap) from Bx.start w (pfL a b c0 c1 e f g d c ad cap))
  have HFI := Lib.hid (fun X => first_any a b c0 c1 e f g X)
  rw [h0] at HFI
  have HRUN := Lib.hid hrun
  have HE := Lib.hid hE
  have HZ := Lib.hid hz
  have HSM := Lib.hid hsm
  have HC0 := Lib.hid hC0
  clear h0 hrun hE hz hsm hC0
  obtain ⟨d1, y1, t1, e1⟩ := r
  simp only at HZ HSM
  go_enter Try.func39, Try.ntmps39
  go_wp2_with (with_reducible refine ld_ch rfl (.tmp 4) rfl w.heap.size rfl _ _ _ _ _ _ _ (HX.out.at_ 0 _ rfl) ?_)
  generalize World.alloc _ _ = X0 at *
  refine (HFI.out X0).mono ?_
  rintro e' w1 ⟨rfl, hb⟩
  replace HX := Lib.hid (HX.out.next hb)
  clear hb HFI
  go_wp2_with fail
  refine (HRUN.out w1 HX.out).mono ?_
  rintro e' w2 ⟨rfl, h1, hx, hy, hbl, he⟩
  simp only at h1
  have HB2 := Lib.hid ((HX.out.b.mono HC0.out).trans hbl)
  have HW2 := Lib.hid he
  have HS1 := Lib.hid (Nat.le_trans HX.out.size hbl.size)
  have R3 := Lib.hid hx
  have R4 := Lib.hid (show (w2.setRow (w.heap.size + 3) (drK drZ)).heap[w.heap.size + 4]? = some (.cells (crQ crZ none 0) 30 (0, 0)) by rw [setRow_other _ _ _ _ (by omega)]; exact hy)
  have HY4 := Lib.hid hy
  have H1 := Lib.hid h1
  clear hx hy hbl he h1 HRUN HX
  by_cases h0 : e1 = 0
  rotate_left
  · have hr := HZ.out h0
    cases hr
    have hne : (e1 != 0) = true := by simp [h0]
    have HN1 : Hid (∀ k, k < w2.heap.size → ¬ (w.heap.size ≤ k ∧ k < w.heap.size + 5) → ((w2.setRow (w.heap.size + 3) (drK drZ)).setRow (w.heap.size + 4) (crQ crZ none 0)).heap[k]? = w2.heap[k]?) := Lib.hid (fun k hk hn => by rw [setRow_other _ _ _ _ (by omega), setRow_other _ _ _ _ (by omega)])
    go_wp2_with (first
      | (with_reducible refine wpList_store_dr rfl (.tmp 8) (.tmp 29) rfl (w.heap.size + 3) rfl _ _ _ _ _ _ rfl drZ R3.out ?_)
      | (with_reducible refine wpList_store_cr rfl (.tmp 9) (.tmp 30) rfl (w.heap.size + 4) rfl _ _ _ _ _ _ _ _ _ _ _ _ _ _ _ rfl _ _ _ _ _ _ _ _ _ _ _ _ _ _ _ R4.out ?_))
    refine post_cells2 rfl rfl (show ((w2.setRow (w.heap.size + 3) (drK drZ)).setRow (w.heap.size + 4) (crQ crZ none 0)).heap[w.heap.size + 3]? = some (.cells (drK drZ) 25 (0, 0)) by rw [setRow_other _ _ _ _ (by omega)]; exact setRow_heap _ _ _ (drK drZ) _ _ R3.out) Try.underlying25 rfl infoD rfl (setRow_heap _ _ _ (crQ crZ none 0) _ _ R4.out) Try.underlying30 rfl infoC rfl rfl rfl ?_
    exact ret_pfZ (below_set (below_set HB2.out (by have := HC0.out; omega) _) (by have := HC0.out; omega) _) (HE.out _ _ HW2.out HN1.out (by simp [World.setRow]))
  subst h0
  obtain ⟨ad1, cap1, hr1, hr2, hi⟩ := H1.out rfl
  obtain ⟨hs1, hs2⟩ := HSM.out rfl
  have HT := Lib.hid (show Pf w.heap.size w2 w2 d1 y1 ad1 cap1 drZ crZ none 0 from ⟨hr1, hr2, R3.out, HY4.out, Below.refl _ _, fun _ _ _ => rfl⟩)
  have HI := Lib.hid hi
  have HCP := Lib.hid (dcopied_any ad1 y1.l.length cap1 y1.l w2 hi.ki rfl hs1 hs2 hi.nn)
  clear hr1 hr2 hi hs1 hs2 H1 HSM HZ R3 R4 HY4
  obtain ⟨_, k0, k1, k2, k3, k4, k5, k6, k7, k8, k9, k10, k11, k12⟩ := HT.out.cat
  go_wp2_with fail
  clear k0 k1 k2 k3 k4 k5 k6 k7 k8 k9 k10 k11 k12
  refine HCP.out.mono ?_
  rintro e' w3 ⟨v5, rfl, hk5, hb⟩
  obtain ⟨ad5, cap5, rfl, -⟩ := hk5.read
  have HK5 := Lib.hid hk5
  have HW3 := Lib.hid (HE.out w2 w3 HW2.out (fun k hk _ => hb.block k hk) hb.size)
  have HB3 := Lib.hid (HB2.out.trans (hb.mono (Nat.le_trans HC0.out (Nat.le_trans (Nat.le_add_right _ _) HS1.out))))
  have HS3 := Lib.hid (Nat.le_trans HS1.out hb.size)
  replace HT := Lib.hid (show Pf w.heap.size w3 w3 d1 y1 ad1 cap1 drZ crZ none 0 from ⟨row_next HT.out.d hb, row_next HT.out.c hb, row_next HT.out.x hb, row_next HT.out.y hb, Below.refl _ _, fun _ _ _ => rfl⟩)
  clear hk5 hb HW2 HB2 HCP
  obtain ⟨_, k0, k1, k2, k3, k4, k5, k6, k7, k8, k9, k10, k11, k12⟩ := HT.out.cat
  have f9 := froz_of HT.out.c 9
  go_wp2_with fail
  clear k0 k1 k2 k3 k4 k5 k6 k7 k8 k9 k10 k11 k12 f9
  replace HT := Lib.hid (HT.out.setc 9 (.slice ad5 y1.l.length cap5) ⟨y1.bc, y1.W, y1.L, y1.S, y1.T, y1.J, y1.R, y1.wo, y1.lk, y1.l, y1.ep, y1.lo, y1.pa⟩ ad5 cap5 rfl)
  generalize World.setCell w3 _ _ = Y0 at *
  replace HT := Lib.hid (HT.out.next (Below.refl Y0.heap.size Y0).drew)
  refine wp_region_noPanic ?_
  refine wp_region_held_drew (S := (fun X => DrAt X (w.heap.size + 1) d1.st d1.bc d1.hd d1.lo d1.pa d1.si ∧ CrAt X (w.heap.size + 2) y1.bc y1.W y1.L y1.S y1.T y1.J y1.R y1.wo y1.lk ad5 y1.l.length cap5 y1.ep y1.lo y1.pa)) (by kernel_rfl) (⟨HT.out.dat, HT.out.cat⟩) (fun hS0 => ?_)
  generalize World.drew Y0 = X9 at *
  refine held_take (i := 0) (v := ?_) rfl (by kernel_rfl) (by kernel_rfl) (by kernel_rfl) (fun _ _ _ h => h) (by rfl) ?_ (by assumption) ?_
  rotate_left
  · intro X hSX
    try dsimp only at hSX
    obtain ⟨⟨_, d0, d1, d2, d3, d4, d5⟩, -⟩ := hSX
    go_simp <;> with_reducible rfl
  simp only [Act.put, List.setIfInBounds_toArray, List.set_cons_zero, List.set_cons_succ]
  refine held_take (i := 1) (v := ?_) rfl (by kernel_rfl) (by kernel_rfl) (by kernel_rfl) (fun _ _ _ h => h) (by rfl) ?_ (by assumption) ?_
  rotate_left
  · intro X hSX
    try dsimp only at hSX
    obtain ⟨-, ⟨_, k0, k1, k2, k3, k4, k5, k6, k7, k8, k9, k10, k11, k12⟩⟩ := hSX
    go_simp <;> with_reducible rfl
  simp only [Act.put, List.setIfInBounds_toArray, List.set_cons_zero, List.set_cons_succ]
  refine held_take (i := 2) (v := ?_) rfl (by kernel_rfl) (by kernel_rfl) (by kernel_rfl) (fun _ _ _ h => h) (by rfl) ?_ (by assumption) ?_
  rotate_left
  · intro X hSX
    try dsimp only at hSX
    go_simp <;> with_reducible rfl
  simp only [Act.put, List.setIfInBounds_toArray, List.set_cons_zero, List.set_cons_succ]
  refine held_call (i := 3) rfl (by kernel_rfl) (by rfl) (fun K' hK' => ?_)
  refine oper_store_dr (.tmp 8) (.tmp 36) rfl (w.heap.size + 3) rfl d1 rfl drZ HT.out.x ?_
  replace HT := Lib.hid (HT.out.rowx d1)
  refine held_go hK' (⟨HT.out.dat, HT.out.cat⟩) ?_
  try simp only [Act.put, List.setIfInBounds_toArray, List.set_cons_zero, List.set_cons_succ]
  generalize World.setRow X9 _ _ = X10 at *
  clear hS0
  have hS0 := (⟨HT.out.dat, HT.out.cat⟩ : DrAt X10 (w.heap.size + 1) d1.st d1.bc d1.hd d1.lo d1.pa d1.si ∧ CrAt X10 (w.heap.size + 2) y1.bc y1.W y1.L y1.S y1.T y1.J y1.R y1.wo y1.lk ad5 y1.l.length cap5 y1.ep y1.lo y1.pa)
  refine held_call (i := 4) rfl (by kernel_rfl) (by rfl) (fun K' hK' => ?_)
  refine oper_store_cq (.tmp 9) (.tmp 37) rfl (w.heap.size + 4) rfl ⟨y1.bc, y1.W, y1.L, y1.S, y1.T, y1.J, y1.R, y1.wo, y1.lk, y1.l, y1.ep, y1.lo, y1.pa⟩ ad5 cap5 rfl crZ none 0 HT.out.y ?_
  replace HT := Lib.hid (HT.out.rowy ⟨y1.bc, y1.W, y1.L, y1.S, y1.T, y1.J, y1.R, y1.wo, y1.lk, y1.l, y1.ep, y1.lo, y1.pa⟩ ad5 cap5)
  refine held_go hK' (⟨HT.out.dat, HT.out.cat⟩) ?_
  try simp only [Act.put, List.setIfInBounds_toArray, List.set_cons_zero, List.set_cons_succ]
  generalize World.setRow X10 _ _ = X11 at *
  clear hS0
  have hS0 := (⟨HT.out.dat, HT.out.cat⟩ : DrAt X11 (w.heap.size + 1) d1.st d1.bc d1.hd d1.lo d1.pa d1.si ∧ CrAt X11 (w.heap.size + 2) y1.bc y1.W y1.L y1.S y1.T y1.J y1.R y1.wo y1.lk ad5 y1.l.length cap5 y1.ep y1.lo y1.pa)
  refine held_take (i := 5) (v := ?_) rfl (by kernel_rfl) (by kernel_rfl) (by kernel_rfl) (fun _ _ _ h => h) (by rfl) ?_ (by assumption) ?_
  rotate_left
  · intro X hSX
    try dsimp only at hSX
    go_simp <;> with_reducible rfl
  simp only [Act.put, List.setIfInBounds_toArray, List.set_cons_zero, List.set_cons_succ]
  refine held_take (i := 6) (v := ?_) rfl (by kernel_rfl) (by kernel_rfl) (by kernel_rfl) (fun _ _ _ h => h) (by rfl) ?_ (by assumption) ?_
  rotate_left
  · intro X hSX
    try dsimp only at hSX
    go_simp <;> with_reducible rfl
  simp only [Act.put, List.setIfInBounds_toArray, List.set_cons_zero, List.set_cons_succ]
  refine wpAnyH_done (by kernel_rfl) ?_ _
  refine NoPanic.normal ?_
  clear hS0
  go_wp2_with fail
  refine post_cells2 rfl rfl HT.out.x Try.underlying25 rfl infoD rfl HT.out.y Try.underlying30 rfl infoC rfl rfl rfl ?_
  exact pf_end HC0.out HT.out HS1.out HS3.out HB3.out HK5.out HI.out HW3.out HE.out
set_option maxHeartbeats 4000000 in
theorem perform_write (gm gl : Nat) (a b c0 c1 e f g : Int) (d : Drv) (c : Crt) (ad : Option Addr) (cap : Nat) (w : World) (r : Drv × Crt × Int × Int) (C0 : Nat) (E : World → Prop) (h0 : frs [a, b, c0, c1, e, f, g] = 0) (hC0 : C0 ≤ w.heap.size)
    (hz : r.2.2.2 ≠ 0 → r = (drZ, crZ, 0, r.2.2.2)) (hsm : r.2.2.2 = 0 → r.2.1.l.length ≤ 4096 ∧ ∀ b ∈ r.2.1.l, b.d.length ≤ 10000)
    (hE : ∀ X Y, E X → (∀ k, k < X.heap.size → ¬ (w.heap.size ≤ k ∧ k < w.heap.size + 5) → Y.heap[k]? = X.heap[k]?) → X.heap.size ≤ Y.heap.size → E Y)
    (hrun : ∀ X, Bx w X (pfL a b c0 c1 e f g d c ad cap) → Calls Try.prog 45 #[.pointer (some ⟨w.heap.size + 1, 0, none⟩), .pointer (some ⟨w.heap.size + 2, 0, none⟩), .pointer (some ⟨gm, 0, none⟩), .pointer (some ⟨gl, 0, none⟩)] X fun e' X' => RunP w C0 E r X e' X') :
    Calls Try.prog 39 #[.agg (chK a b c0 c1 e f g), drV d, crV c ad cap, .func (.func 45) #[] #[.pointer (some ⟨gm, 0, none⟩), .pointer (some ⟨gl, 0, none⟩)]] w fun e w' => RetPf w C0 E r e w' := by
  have HX := Lib.hid (show Bx w (((((w.alloc (.cells (chK a b c0 c1 e f g) 72)).alloc (boxDr d)).alloc (boxCx c ad cap)).alloc (.cells #[.int .i64 0, .string ⟨#[]⟩, .int .i64 0, .int .i64 0, .int .i64 0, .int .i64 0] 25)).alloc (boxK ⟨#[]⟩ 0 0 0 0 0 0 false false none 0 0 0 0 0)) (pfL a b c0 c1 e f g d c ad cap) from Bx.start w (pfL a b c0 c1 e f g d c ad cap))
  have HFI := Lib.hid (fun X => first_any a b c0 c1 e f g X)
  rw [h0] at HFI
  have HRUN := Lib.hid hrun
  have HE := Lib.hid hE
  have HZ := Lib.hid hz
  have HSM := Lib.hid hsm
  have HC0 := Lib.hid hC0
  clear h0 hrun hE hz hsm hC0
  obtain ⟨d1, y1, t1, e1⟩ := r
  simp only at HZ HSM
  go_enter Try.func39, Try.ntmps39
  go_wp2_with (with_reducible refine ld_ch rfl (.tmp 4) rfl w.heap.size rfl _ _ _ _ _ _ _ (HX.out.at_ 0 _ rfl) ?_)
  generalize World.alloc _ _ = X0 at *
  refine (HFI.out X0).mono ?_
  rintro e' w1 ⟨rfl, hb⟩
  replace HX := Lib.hid (HX.out.next hb)
  clear hb HFI
  go_wp2_with fail
  refine (HRUN.out w1 HX.out).mono ?_
  rintro e' w2 ⟨rfl, h1, hx, hy, hbl, he⟩
  simp only at h1
  have HB2 := Lib.hid ((HX.out.b.mono HC0.out).trans hbl)
  have HW2 := Lib.hid he
  have HS1 := Lib.hid (Nat.le_trans HX.out.size hbl.size)
  have R3 := Lib.hid hx
  have R4 := Lib.hid (show (w2.setRow (w.heap.size + 3) (drK drZ)).heap[w.heap.size + 4]? = some (.cells (crQ crZ none 0) 30 (0, 0)) by rw [setRow_other _ _ _ _ (by omega)]; exact hy)
  have HY4 := Lib.hid hy
  have H1 := Lib.hid h1
  clear hx hy hbl he h1 HRUN HX
  by_cases h0 : e1 = 0
  rotate_left
  · have hr := HZ.out h0
    cases hr
    have hne : (e1 != 0) = true := by simp [h0]
    have HN1 : Hid (∀ k, k < w2.heap.size → ¬ (w.heap.size ≤ k ∧ k < w.heap.size + 5) → ((w2.setRow (w.heap.size + 3) (drK drZ)).setRow (w.heap.size + 4) (crQ crZ none 0)).heap[k]? = w2.heap[k]?) := Lib.hid (fun k hk hn => by rw [setRow_other _ _ _ _ (by omega), setRow_other _ _ _ _ (by omega)])
    go_wp2_with (first
      | (with_reducible refine wpList_store_dr rfl (.tmp 8) (.tmp 29) rfl (w.heap.size + 3) rfl _ _ _ _ _ _ rfl drZ R3.out ?_)
      | (with_reducible refine wpList_store_cr rfl (.tmp 9) (.tmp 30) rfl (w.heap.size + 4) rfl _ _ _ _ _ _ _ _ _ _ _ _ _ _ _ rfl _ _ _ _ _ _ _ _ _ _ _ _ _ _ _ R4.out ?_))
    refine post_cells2 rfl rfl (show ((w2.setRow (w.heap.size + 3) (drK drZ)).setRow (w.heap.size + 4) (crQ crZ none 0)).heap[w.heap.size + 3]? = some (.cells (drK drZ) 25 (0, 0)) by rw [setRow_other _ _ _ _ (by omega)]; exact setRow_heap _ _ _ (drK drZ) _ _ R3.out) Try.underlying25 rfl infoD rfl (setRow_heap _ _ _ (crQ crZ none 0) _ _ R4.out) Try.underlying30 rfl infoC rfl rfl rfl ?_
    exact ret_pfZ (below_set (below_set HB2.out (by have := HC0.out; omega) _) (by have := HC0.out; omega) _) (HE.out _ _ HW2.out HN1.out (by simp [World.setRow]))
  subst h0
  obtain ⟨ad1, cap1, hr1, hr2, hi⟩ := H1.out rfl
  obtain ⟨hs1, hs2⟩ := HSM.out rfl
  have HT := Lib.hid (show Pf w.heap.size w2 w2 d1 y1 ad1 cap1 drZ crZ none 0 from ⟨hr1, hr2, R3.out, HY4.out, Below.refl _ _, fun _ _ _ => rfl⟩)
  have HI := Lib.hid hi
  have HCP := Lib.hid (dcopied_any ad1 y1.l.length cap1 y1.l w2 hi.ki rfl hs1 hs2 hi.nn)
  clear hr1 hr2 hi hs1 hs2 H1 HSM HZ R3 R4 HY4
  obtain ⟨_, k0, k1, k2, k3, k4, k5, k6, k7, k8, k9, k10, k11, k12⟩ := HT.out.cat
  go_wp2_with fail
  clear k0 k1 k2 k3 k4 k5 k6 k7 k8 k9 k10 k11 k12
  refine HCP.out.mono ?_
  rintro e' w3 ⟨v5, rfl, hk5, hb⟩
  obtain ⟨ad5, cap5, rfl, -⟩ := hk5.read
  have HK5 := Lib.hid hk5
  have HW3 := Lib.hid (HE.out w2 w3 HW2.out (fun k hk _ => hb.block k hk) hb.size)
  have HB3 := Lib.hid (HB2.out.trans (hb.mono (Nat.le_trans HC0.out (Nat.le_trans (Nat.le_add_right _ _) HS1.out))))
  have HS3 := Lib.hid (Nat.le_trans HS1.out hb.size)
  replace HT := Lib.hid (show Pf w.heap.size w3 w3 d1 y1 ad1 cap1 drZ crZ none 0 from ⟨row_next HT.out.d hb, row_next HT.out.c hb, row_next HT.out.x hb, row_next HT.out.y hb, Below.refl _ _, fun _ _ _ => rfl⟩)
  clear hk5 hb HW2 HB2 HCP
  obtain ⟨_, k0, k1, k2, k3, k4, k5, k6, k7, k8, k9, k10, k11, k12⟩ := HT.out.cat
  have f9 := froz_of HT.out.c 9
  go_wp2_with fail
  clear k0 k1 k2 k3 k4 k5 k6 k7 k8 k9 k10 k11 k12 f9
  replace HT := Lib.hid (HT.out.setc 9 (.slice ad5 y1.l.length cap5) ⟨y1.bc, y1.W, y1.L, y1.S, y1.T, y1.J, y1.R, y1.wo, y1.lk, y1.l, y1.ep, y1.lo, y1.pa⟩ ad5 cap5 rfl)
  generalize World.setCell w3 _ _ = Y0 at *
  replace HT := Lib.hid (HT.out.next (Below.refl Y0.heap.size Y0).drew)
  refine wp_region_noPanic ?_
  refine wp_region_held_drew (S := (fun X => DrAt X (w.heap.size + 1) d1.st d1.bc d1.hd d1.lo d1.pa d1.si ∧ CrAt X (w.heap.size + 2) y1.bc y1.W y1.L y1.S y1.T y1.J y1.R y1.wo y1.lk ad5 y1.l.length cap5 y1.ep y1.lo y1.pa)) (by kernel_rfl) (⟨HT.out.dat, HT.out.cat⟩) (fun hS0 => ?_)
  generalize World.drew Y0 = X9 at *
  refine held_take (i := 0) (v := ?_) rfl (by kernel_rfl) (by kernel_rfl) (by kernel_rfl) (fun _ _ _ h => h) (by rfl) ?_ (by assumption) ?_
  rotate_left
  · intro X hSX
    try dsimp only at hSX
    obtain ⟨⟨_, d0, d1, d2, d3, d4, d5⟩, -⟩ := hSX
    go_simp <;> with_reducible rfl
  simp only [Act.put, List.setIfInBounds_toArray, List.set_cons_zero, List.set_cons_succ]
  refine held_take (i := 1) (v := ?_) rfl (by kernel_rfl) (by kernel_rfl) (by kernel_rfl) (fun _ _ _ h => h) (by rfl) ?_ (by assumption) ?_
  rotate_left
  · intro X hSX
    try dsimp only at hSX
    obtain ⟨-, ⟨_, k0, k1, k2, k3, k4, k5, k6, k7, k8, k9, k10, k11, k12⟩⟩ := hSX
    go_simp <;> with_reducible rfl
  simp only [Act.put, List.setIfInBounds_toArray, List.set_cons_zero, List.set_cons_succ]
  refine held_take (i := 2) (v := ?_) rfl (by kernel_rfl) (by kernel_rfl) (by kernel_rfl) (fun _ _ _ h => h) (by rfl) ?_ (by assumption) ?_
  rotate_left
  · intro X hSX
    try dsimp only at hSX
    go_simp <;> with_reducible rfl
  simp only [Act.put, List.setIfInBounds_toArray, List.set_cons_zero, List.set_cons_succ]
  refine held_call (i := 3) rfl (by kernel_rfl) (by rfl) (fun K' hK' => ?_)
  refine oper_store_dr (.tmp 8) (.tmp 36) rfl (w.heap.size + 3) rfl d1 rfl drZ HT.out.x ?_
  replace HT := Lib.hid (HT.out.rowx d1)
  refine held_go hK' (⟨HT.out.dat, HT.out.cat⟩) ?_
  try simp only [Act.put, List.setIfInBounds_toArray, List.set_cons_zero, List.set_cons_succ]
  generalize World.setRow X9 _ _ = X10 at *
  clear hS0
  have hS0 := (⟨HT.out.dat, HT.out.cat⟩ : DrAt X10 (w.heap.size + 1) d1.st d1.bc d1.hd d1.lo d1.pa d1.si ∧ CrAt X10 (w.heap.size + 2) y1.bc y1.W y1.L y1.S y1.T y1.J y1.R y1.wo y1.lk ad5 y1.l.length cap5 y1.ep y1.lo y1.pa)
  refine held_call (i := 4) rfl (by kernel_rfl) (by rfl) (fun K' hK' => ?_)
  refine oper_store_cq (.tmp 9) (.tmp 37) rfl (w.heap.size + 4) rfl ⟨y1.bc, y1.W, y1.L, y1.S, y1.T, y1.J, y1.R, y1.wo, y1.lk, y1.l, y1.ep, y1.lo, y1.pa⟩ ad5 cap5 rfl crZ none 0 HT.out.y ?_
  replace HT := Lib.hid (HT.out.rowy ⟨y1.bc, y1.W, y1.L, y1.S, y1.T, y1.J, y1.R, y1.wo, y1.lk, y1.l, y1.ep, y1.lo, y1.pa⟩ ad5 cap5)
  refine held_go hK' (⟨HT.out.dat, HT.out.cat⟩) ?_
  try simp only [Act.put, List.setIfInBounds_toArray, List.set_cons_zero, List.set_cons_succ]
  generalize World.setRow X10 _ _ = X11 at *
  clear hS0
  have hS0 := (⟨HT.out.dat, HT.out.cat⟩ : DrAt X11 (w.heap.size + 1) d1.st d1.bc d1.hd d1.lo d1.pa d1.si ∧ CrAt X11 (w.heap.size + 2) y1.bc y1.W y1.L y1.S y1.T y1.J y1.R y1.wo y1.lk ad5 y1.l.length cap5 y1.ep y1.lo y1.pa)
  refine held_take (i := 5) (v := ?_) rfl (by kernel_rfl) (by kernel_rfl) (by kernel_rfl) (fun _ _ _ h => h) (by rfl) ?_ (by assumption) ?_
  rotate_left
  · intro X hSX
    try dsimp only at hSX
    go_simp <;> with_reducible rfl
  simp only [Act.put, List.setIfInBounds_toArray, List.set_cons_zero, List.set_cons_succ]
  refine held_take (i := 6) (v := ?_) rfl (by kernel_rfl) (by kernel_rfl) (by kernel_rfl) (fun _ _ _ h => h) (by rfl) ?_ (by assumption) ?_
  rotate_left
  · intro X hSX
    try dsimp only at hSX
    go_simp <;> with_reducible rfl
  simp only [Act.put, List.setIfInBounds_toArray, List.set_cons_zero, List.set_cons_succ]
  refine wpAnyH_done (by kernel_rfl) ?_ _
  refine NoPanic.normal ?_
  clear hS0
  go_wp2_with fail
  refine post_cells2 rfl rfl HT.out.x Try.underlying25 rfl infoD rfl HT.out.y Try.underlying30 rfl infoC rfl rfl rfl ?_
  exact pf_end HC0.out HT.out HS1.out HS3.out HB3.out HK5.out HI.out HW3.out HE.out
set_option maxHeartbeats 4000000 in
theorem perform_read (gn gb ge : Nat) (a b c0 c1 e f g : Int) (d : Drv) (c : Crt) (ad : Option Addr) (cap : Nat) (w : World) (r : Drv × Crt × Int × Int) (C0 : Nat) (E : World → Prop) (h0 : frs [a, b, c0, c1, e, f, g] = 0) (hC0 : C0 ≤ w.heap.size)
    (hz : r.2.2.2 ≠ 0 → r = (drZ, crZ, 0, r.2.2.2)) (hsm : r.2.2.2 = 0 → r.2.1.l.length ≤ 4096 ∧ ∀ b ∈ r.2.1.l, b.d.length ≤ 10000)
    (hE : ∀ X Y, E X → (∀ k, k < X.heap.size → ¬ (w.heap.size ≤ k ∧ k < w.heap.size + 5) → Y.heap[k]? = X.heap[k]?) → X.heap.size ≤ Y.heap.size → E Y)
    (hrun : ∀ X, Bx w X (pfL a b c0 c1 e f g d c ad cap) → Calls Try.prog 48 #[.pointer (some ⟨w.heap.size + 1, 0, none⟩), .pointer (some ⟨w.heap.size + 2, 0, none⟩), .pointer (some ⟨gn, 0, none⟩), .pointer (some ⟨gb, 0, none⟩), .pointer (some ⟨ge, 0, none⟩)] X fun e' X' => RunP w C0 E r X e' X') :
    Calls Try.prog 39 #[.agg (chK a b c0 c1 e f g), drV d, crV c ad cap, .func (.func 48) #[] #[.pointer (some ⟨gn, 0, none⟩), .pointer (some ⟨gb, 0, none⟩), .pointer (some ⟨ge, 0, none⟩)]] w fun e w' => RetPf w C0 E r e w' := by
  have HX := Lib.hid (show Bx w (((((w.alloc (.cells (chK a b c0 c1 e f g) 72)).alloc (boxDr d)).alloc (boxCx c ad cap)).alloc (.cells #[.int .i64 0, .string ⟨#[]⟩, .int .i64 0, .int .i64 0, .int .i64 0, .int .i64 0] 25)).alloc (boxK ⟨#[]⟩ 0 0 0 0 0 0 false false none 0 0 0 0 0)) (pfL a b c0 c1 e f g d c ad cap) from Bx.start w (pfL a b c0 c1 e f g d c ad cap))
  have HFI := Lib.hid (fun X => first_any a b c0 c1 e f g X)
  rw [h0] at HFI
  have HRUN := Lib.hid hrun
  have HE := Lib.hid hE
  have HZ := Lib.hid hz
  have HSM := Lib.hid hsm
  have HC0 := Lib.hid hC0
  clear h0 hrun hE hz hsm hC0
  obtain ⟨d1, y1, t1, e1⟩ := r
  simp only at HZ HSM
  go_enter Try.func39, Try.ntmps39
  go_wp2_with (with_reducible refine ld_ch rfl (.tmp 4) rfl w.heap.size rfl _ _ _ _ _ _ _ (HX.out.at_ 0 _ rfl) ?_)
  generalize World.alloc _ _ = X0 at *
  refine (HFI.out X0).mono ?_
  rintro e' w1 ⟨rfl, hb⟩
  replace HX := Lib.hid (HX.out.next hb)
  clear hb HFI
  go_wp2_with fail
  refine (HRUN.out w1 HX.out).mono ?_
  rintro e' w2 ⟨rfl, h1, hx, hy, hbl, he⟩
  simp only at h1
  have HB2 := Lib.hid ((HX.out.b.mono HC0.out).trans hbl)
  have HW2 := Lib.hid he
  have HS1 := Lib.hid (Nat.le_trans HX.out.size hbl.size)
  have R3 := Lib.hid hx
  have R4 := Lib.hid (show (w2.setRow (w.heap.size + 3) (drK drZ)).heap[w.heap.size + 4]? = some (.cells (crQ crZ none 0) 30 (0, 0)) by rw [setRow_other _ _ _ _ (by omega)]; exact hy)
  have HY4 := Lib.hid hy
  have H1 := Lib.hid h1
  clear hx hy hbl he h1 HRUN HX
  by_cases h0 : e1 = 0
  rotate_left
  · have hr := HZ.out h0
    cases hr
    have hne : (e1 != 0) = true := by simp [h0]
    have HN1 : Hid (∀ k, k < w2.heap.size → ¬ (w.heap.size ≤ k ∧ k < w.heap.size + 5) → ((w2.setRow (w.heap.size + 3) (drK drZ)).setRow (w.heap.size + 4) (crQ crZ none 0)).heap[k]? = w2.heap[k]?) := Lib.hid (fun k hk hn => by rw [setRow_other _ _ _ _ (by omega), setRow_other _ _ _ _ (by omega)])
    go_wp2_with (first
      | (with_reducible refine wpList_store_dr rfl (.tmp 8) (.tmp 29) rfl (w.heap.size + 3) rfl _ _ _ _ _ _ rfl drZ R3.out ?_)
      | (with_reducible refine wpList_store_cr rfl (.tmp 9) (.tmp 30) rfl (w.heap.size + 4) rfl _ _ _ _ _ _ _ _ _ _ _ _ _ _ _ rfl _ _ _ _ _ _ _ _ _ _ _ _ _ _ _ R4.out ?_))
    refine post_cells2 rfl rfl (show ((w2.setRow (w.heap.size + 3) (drK drZ)).setRow (w.heap.size + 4) (crQ crZ none 0)).heap[w.heap.size + 3]? = some (.cells (drK drZ) 25 (0, 0)) by rw [setRow_other _ _ _ _ (by omega)]; exact setRow_heap _ _ _ (drK drZ) _ _ R3.out) Try.underlying25 rfl infoD rfl (setRow_heap _ _ _ (crQ crZ none 0) _ _ R4.out) Try.underlying30 rfl infoC rfl rfl rfl ?_
    exact ret_pfZ (below_set (below_set HB2.out (by have := HC0.out; omega) _) (by have := HC0.out; omega) _) (HE.out _ _ HW2.out HN1.out (by simp [World.setRow]))
  subst h0
  obtain ⟨ad1, cap1, hr1, hr2, hi⟩ := H1.out rfl
  obtain ⟨hs1, hs2⟩ := HSM.out rfl
  have HT := Lib.hid (show Pf w.heap.size w2 w2 d1 y1 ad1 cap1 drZ crZ none 0 from ⟨hr1, hr2, R3.out, HY4.out, Below.refl _ _, fun _ _ _ => rfl⟩)
  have HI := Lib.hid hi
  have HCP := Lib.hid (dcopied_any ad1 y1.l.length cap1 y1.l w2 hi.ki rfl hs1 hs2 hi.nn)
  clear hr1 hr2 hi hs1 hs2 H1 HSM HZ R3 R4 HY4
  obtain ⟨_, k0, k1, k2, k3, k4, k5, k6, k7, k8, k9, k10, k11, k12⟩ := HT.out.cat
  go_wp2_with fail
  clear k0 k1 k2 k3 k4 k5 k6 k7 k8 k9 k10 k11 k12
  refine HCP.out.mono ?_
  rintro e' w3 ⟨v5, rfl, hk5, hb⟩
  obtain ⟨ad5, cap5, rfl, -⟩ := hk5.read
  have HK5 := Lib.hid hk5
  have HW3 := Lib.hid (HE.out w2 w3 HW2.out (fun k hk _ => hb.block k hk) hb.size)
  have HB3 := Lib.hid (HB2.out.trans (hb.mono (Nat.le_trans HC0.out (Nat.le_trans (Nat.le_add_right _ _) HS1.out))))
  have HS3 := Lib.hid (Nat.le_trans HS1.out hb.size)
  replace HT := Lib.hid (show Pf w.heap.size w3 w3 d1 y1 ad1 cap1 drZ crZ none 0 from ⟨row_next HT.out.d hb, row_next HT.out.c hb, row_next HT.out.x hb, row_next HT.out.y hb, Below.refl _ _, fun _ _ _ => rfl⟩)
  clear hk5 hb HW2 HB2 HCP
  obtain ⟨_, k0, k1, k2, k3, k4, k5, k6, k7, k8, k9, k10, k11, k12⟩ := HT.out.cat
  have f9 := froz_of HT.out.c 9
  go_wp2_with fail
  clear k0 k1 k2 k3 k4 k5 k6 k7 k8 k9 k10 k11 k12 f9
  replace HT := Lib.hid (HT.out.setc 9 (.slice ad5 y1.l.length cap5) ⟨y1.bc, y1.W, y1.L, y1.S, y1.T, y1.J, y1.R, y1.wo, y1.lk, y1.l, y1.ep, y1.lo, y1.pa⟩ ad5 cap5 rfl)
  generalize World.setCell w3 _ _ = Y0 at *
  replace HT := Lib.hid (HT.out.next (Below.refl Y0.heap.size Y0).drew)
  refine wp_region_noPanic ?_
  refine wp_region_held_drew (S := (fun X => DrAt X (w.heap.size + 1) d1.st d1.bc d1.hd d1.lo d1.pa d1.si ∧ CrAt X (w.heap.size + 2) y1.bc y1.W y1.L y1.S y1.T y1.J y1.R y1.wo y1.lk ad5 y1.l.length cap5 y1.ep y1.lo y1.pa)) (by kernel_rfl) (⟨HT.out.dat, HT.out.cat⟩) (fun hS0 => ?_)
  generalize World.drew Y0 = X9 at *
  refine held_take (i := 0) (v := ?_) rfl (by kernel_rfl) (by kernel_rfl) (by kernel_rfl) (fun _ _ _ h => h) (by rfl) ?_ (by assumption) ?_
  rotate_left
  · intro X hSX
    try dsimp only at hSX
    obtain ⟨⟨_, d0, d1, d2, d3, d4, d5⟩, -⟩ := hSX
    go_simp <;> with_reducible rfl
  simp only [Act.put, List.setIfInBounds_toArray, List.set_cons_zero, List.set_cons_succ]
  refine held_take (i := 1) (v := ?_) rfl (by kernel_rfl) (by kernel_rfl) (by kernel_rfl) (fun _ _ _ h => h) (by rfl) ?_ (by assumption) ?_
  rotate_left
  · intro X hSX
    try dsimp only at hSX
    obtain ⟨-, ⟨_, k0, k1, k2, k3, k4, k5, k6, k7, k8, k9, k10, k11, k12⟩⟩ := hSX
    go_simp <;> with_reducible rfl
  simp only [Act.put, List.setIfInBounds_toArray, List.set_cons_zero, List.set_cons_succ]
  refine held_take (i := 2) (v := ?_) rfl (by kernel_rfl) (by kernel_rfl) (by kernel_rfl) (fun _ _ _ h => h) (by rfl) ?_ (by assumption) ?_
  rotate_left
  · intro X hSX
    try dsimp only at hSX
    go_simp <;> with_reducible rfl
  simp only [Act.put, List.setIfInBounds_toArray, List.set_cons_zero, List.set_cons_succ]
  refine held_call (i := 3) rfl (by kernel_rfl) (by rfl) (fun K' hK' => ?_)
  refine oper_store_dr (.tmp 8) (.tmp 36) rfl (w.heap.size + 3) rfl d1 rfl drZ HT.out.x ?_
  replace HT := Lib.hid (HT.out.rowx d1)
  refine held_go hK' (⟨HT.out.dat, HT.out.cat⟩) ?_
  try simp only [Act.put, List.setIfInBounds_toArray, List.set_cons_zero, List.set_cons_succ]
  generalize World.setRow X9 _ _ = X10 at *
  clear hS0
  have hS0 := (⟨HT.out.dat, HT.out.cat⟩ : DrAt X10 (w.heap.size + 1) d1.st d1.bc d1.hd d1.lo d1.pa d1.si ∧ CrAt X10 (w.heap.size + 2) y1.bc y1.W y1.L y1.S y1.T y1.J y1.R y1.wo y1.lk ad5 y1.l.length cap5 y1.ep y1.lo y1.pa)
  refine held_call (i := 4) rfl (by kernel_rfl) (by rfl) (fun K' hK' => ?_)
  refine oper_store_cq (.tmp 9) (.tmp 37) rfl (w.heap.size + 4) rfl ⟨y1.bc, y1.W, y1.L, y1.S, y1.T, y1.J, y1.R, y1.wo, y1.lk, y1.l, y1.ep, y1.lo, y1.pa⟩ ad5 cap5 rfl crZ none 0 HT.out.y ?_
  replace HT := Lib.hid (HT.out.rowy ⟨y1.bc, y1.W, y1.L, y1.S, y1.T, y1.J, y1.R, y1.wo, y1.lk, y1.l, y1.ep, y1.lo, y1.pa⟩ ad5 cap5)
  refine held_go hK' (⟨HT.out.dat, HT.out.cat⟩) ?_
  try simp only [Act.put, List.setIfInBounds_toArray, List.set_cons_zero, List.set_cons_succ]
  generalize World.setRow X10 _ _ = X11 at *
  clear hS0
  have hS0 := (⟨HT.out.dat, HT.out.cat⟩ : DrAt X11 (w.heap.size + 1) d1.st d1.bc d1.hd d1.lo d1.pa d1.si ∧ CrAt X11 (w.heap.size + 2) y1.bc y1.W y1.L y1.S y1.T y1.J y1.R y1.wo y1.lk ad5 y1.l.length cap5 y1.ep y1.lo y1.pa)
  refine held_take (i := 5) (v := ?_) rfl (by kernel_rfl) (by kernel_rfl) (by kernel_rfl) (fun _ _ _ h => h) (by rfl) ?_ (by assumption) ?_
  rotate_left
  · intro X hSX
    try dsimp only at hSX
    go_simp <;> with_reducible rfl
  simp only [Act.put, List.setIfInBounds_toArray, List.set_cons_zero, List.set_cons_succ]
  refine held_take (i := 6) (v := ?_) rfl (by kernel_rfl) (by kernel_rfl) (by kernel_rfl) (fun _ _ _ h => h) (by rfl) ?_ (by assumption) ?_
  rotate_left
  · intro X hSX
    try dsimp only at hSX
    go_simp <;> with_reducible rfl
  simp only [Act.put, List.setIfInBounds_toArray, List.set_cons_zero, List.set_cons_succ]
  refine wpAnyH_done (by kernel_rfl) ?_ _
  refine NoPanic.normal ?_
  clear hS0
  go_wp2_with fail
  refine post_cells2 rfl rfl HT.out.x Try.underlying25 rfl infoD rfl HT.out.y Try.underlying30 rfl infoC rfl rfl rfl ?_
  exact pf_end HC0.out HT.out HS1.out HS3.out HB3.out HK5.out HI.out HW3.out HE.out
end Go.Proofs.Ytepmmlnopdjjdaa
