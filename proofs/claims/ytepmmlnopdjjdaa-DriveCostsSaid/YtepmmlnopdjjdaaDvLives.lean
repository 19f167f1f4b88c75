/-
  The law package's lives: the chapter's example.
-/
import Derived.Test.YtepmmlnopdjjdaaQSide
import Derived.Deep.LoopGhost
namespace Go.Proofs.Ytepmmlnopdjjdaa
open Go.RowKit
set_option linter.unusedVariables false
set_option linter.unusedSimpArgs false
set_option maxRecDepth 100000
abbrev cEk (ad : Option Addr) (k cap : Nat) (lo pa : Int) : Array Value := crK bcE 2 10 1 5 3 2 false false ad k cap 0 lo pa
/-- while the blocks are appended -/
structure Lv0 (w X : World) (k : Nat) (ad : Option Addr) (cap : Nat) : Prop where
  m : X.heap[w.heap.size]? = some (.cells (mdK mE) 23 (0, 0))
  c : X.heap[w.heap.size + 1]? = some (.cells (cEk ad k cap 0 0) 30 (0, 0))
  b : Below w.heap.size w X
  s : w.heap.size + 2 ≤ X.heap.size
  q : Kq X (w.heap.size + 2) (w.heap.size + 2) (.slice ad k cap) (blE k)
/-- behind them: the boxes of the model, of the cartridge, of the drive -/
structure Lv (w X : World) (g : Nat) (d : Drv) (lo pa : Int) (ad : Option Addr) (cap : Nat) : Prop where
  m : X.heap[w.heap.size]? = some (.cells (mdK mE) 23 (0, 0))
  c : X.heap[w.heap.size + 1]? = some (.cells (cEk ad 12 cap lo pa) 30 (0, 0))
  d : X.heap[g]? = some (.cells (drK d) 25 (0, 0))
  b : Below w.heap.size w X
  g2 : w.heap.size + 2 ≤ g
  k : KnoS X (fun j => (w.heap.size ≤ j ∧ j < w.heap.size + 2) ∨ j = g) ad (blE 12)
  e : (12 : Nat) ≤ cap ∧ cap ≤ maxLen ∧ (ad = none → cap = 0)
theorem Lv.i {w X : World} {g : Nat} {d : Drv} {lo pa : Int} {ad : Option Addr} {cap : Nat} (h : Lv w X g d lo pa ad cap) : CrIn X (cE lo pa) ad cap := ⟨h.k.ki, by show (blE 12).length ≤ cap; rw [blE_len]; exact h.e.1, h.e.2.1, h.e.2.2, by show (1 : Nat) ≤ maxLen; unfold maxLen; decide⟩
theorem Lv.next {w X Y : World} {g : Nat} {d : Drv} {lo pa : Int} {ad : Option Addr} {cap : Nat} (h : Lv w X g d lo pa ad cap) (hb : Below X.heap.size X Y) : Lv w Y g d lo pa ad cap :=
  ⟨row_next h.m hb, row_next h.c hb, row_next h.d hb, h.b.trans (hb.mono h.b.size), h.g2, h.k.below hb, h.e⟩
/-- a call has handed back a drive and a cartridge -/
theorem Lv.call {w X Y : World} {g : Nat} {d d2 : Drv} {lo pa lo2 pa2 : Int} {ad ad2 : Option Addr} {cap cap2 : Nat} (h : Lv w X g d lo pa ad cap) (hb : Below X.heap.size X Y) (hk : KpS X ad (blE 12) Y ad2 (blE 12)) (hi : CrIn Y (cE lo2 pa2) ad2 cap2) :
    Lv w ((Y.setRow g (drK d2)).setRow (w.heap.size + 1) (cEk ad2 12 cap2 lo2 pa2)) g d2 lo2 pa2 ad2 cap2 := by
  have h2 := h.next hb
  have hg := h.g2
  have hgl := (Array.getElem?_eq_some_iff.1 h.d).1
  have hs := h.b.size
  have hcl := (Array.getElem?_eq_some_iff.1 h.c).1
  refine ⟨?_, ?_, ?_, below_set (below_set h2.b (by omega) _) (by omega) _, hg, ?_, ?_, hi.mx, hi.nn⟩
  · rw [setRow_other _ _ _ _ (by omega), setRow_other _ _ _ _ (by omega)]; exact h2.m
  · exact setRow_heap _ _ _ _ _ _ (by rw [setRow_other _ _ _ _ (by omega)]; exact h2.c)
  · rw [setRow_other _ _ _ _ (by omega)]; exact setRow_heap _ _ _ _ _ _ h2.d
  · exact (hk _ (fun k hk => by omega) h.k).step (fun k hk _ => by rw [setRow_other _ _ _ _ (by omega), setRow_other _ _ _ _ (by omega)]) (by simp [World.setRow])
  · have := hi.le; rw [show (cE lo2 pa2).l.length = 12 from blE_len 12] at this; exact this
theorem kx_new (wr : World) (k : Nat) (hk : k < 256) (C : Nat) (hC : C ≤ wr.heap.size) (y : Option Nat) (hy : ∀ g, y = some g → g < wr.heap.size) :
    Kx ((wr.alloc (.cells #[.int .u8 (k : Int)] 5)).alloc (.cells #[.bool false, .bool false, .slice (some ⟨wr.heap.size, 0, none⟩) 1 1] 61)) C y (some ⟨wr.heap.size + 1, 0, none⟩) [⟨false, false, [UInt8.ofNat k]⟩] := by
  have e1 := heap_alloc_new (wr.alloc (.cells #[.int .u8 (k : Int)] 5)) (.cells #[.bool false, .bool false, .slice (some ⟨wr.heap.size, 0, none⟩) 1 1] 61)
  rw [World.size_alloc] at e1
  have e0 := row_next (heap_alloc_new wr (.cells #[.int .u8 (k : Int)] 5)) (below_boxC (wr.alloc (.cells #[.int .u8 (k : Int)] 5)) (.cells #[.bool false, .bool false, .slice (some ⟨wr.heap.size, 0, none⟩) 1 1] 61))
  refine ⟨[⟨⟨false, false, [UInt8.ofNat k]⟩, some ⟨wr.heap.size, 0, none⟩, 1⟩], rfl, .inr ⟨wr.heap.size + 1, 0, rfl, by simp, fun j u hu => ?_⟩, fun q hq => ?_⟩
  · rw [Nat.zero_add, row_cell e1 j]
    simpa [cellsB, Bk.cells] using hu
  · obtain rfl : q = ⟨⟨false, false, [UInt8.ofNat k]⟩, some ⟨wr.heap.size, 0, none⟩, 1⟩ := by simpa using hq
    refine ⟨.inr ⟨wr.heap.size, 0, rfl, hC, by simp; omega, fun e => ?_, fun j hj => ?_⟩, Nat.le_refl 1, show (1 : Nat) ≤ maxLen by unfold maxLen; decide, fun h => by cases h⟩
    · have := hy _ e.symm; omega
    · obtain rfl : j = 0 := by simpa using hj
      rw [row_cell e0 0]
      show some (Value.int .u8 (k : Int)) = some (Value.int .u8 (((UInt8.ofNat k).toNat : Nat) : Int))
      rw [toNat_ofNat8 k hk]
theorem lv0_step {w wr w1 : World} {k : Nat} {ad ad1 : Option Addr} {cap cap1 : Nat} (h : Lv0 w wr k ad cap) (hb : Below (w.heap.size + 2) wr w1) (hq : Kq w1 (w.heap.size + 2) (w.heap.size + 2) (.slice ad1 (k + 1) cap1) (blE k ++ [⟨false, false, [UInt8.ofNat k]⟩])) :
    Lv0 w (w1.setCell ⟨w.heap.size + 1, 9, none⟩ (.slice ad1 (k + 1) cap1)) (k + 1) ad1 cap1 := by
  refine ⟨?_, ?_, ?_, ?_, ?_⟩
  · rw [Below.heap_setCell _ _ _ _ (by show w.heap.size ≠ w.heap.size + 1; omega)]
    exact (hb.block _ (by omega)).trans h.m
  · have := heap_set_b w1 (w.heap.size + 1) 9 (.slice ad1 (k + 1) cap1) _ _ _ ((hb.block _ (by omega)).trans h.c)
    exact this
  · exact (h.b.trans (hb.mono (by omega))).setCell (by show w.heap.size ≤ w.heap.size + 1; omega) _
  · have h1 := hb.size
    have h2 := h.s
    simp [World.setCell]
    omega
  · rw [blE_succ]
    exact hq.keep (fun j hj _ => Below.heap_setCell _ _ _ _ (by show j ≠ w.heap.size + 1; omega)) (by simp [World.setCell])
theorem lv0_kno {w wr : World} {ad : Option Addr} {cap : Nat} (h : Lv0 w wr 12 ad cap) : KnoS wr (fun j => w.heap.size ≤ j ∧ j < w.heap.size + 2) ad (blE 12) := fun X hX hs => by
  have hq := h.q.keep (w' := X) (fun k hk hlt => hX k (by omega) hlt) hs
  obtain ⟨ad5, cap5, e5, hx, _⟩ := hq.read
  cases e5
  exact hx.ki
theorem lv_first {w wr w1 : World} {ad ad1 : Option Addr} {cap cap1 : Nat} (h : Lv0 w wr 12 ad cap) (hb : Below wr.heap.size wr w1) (hk : KnoS w1 (fun j => w.heap.size ≤ j ∧ j < w.heap.size + 2) ad1 (blE 12)) (hi : CrIn w1 (cE 1 0) ad1 cap1) :
    Lv w (((w1.alloc (.cells #[.int .i64 0, .string ⟨#[]⟩, .int .i64 0, .int .i64 0, .int .i64 0, .int .i64 0] 25)).setRow w1.heap.size (drK (dE 0 0))).setRow (w.heap.size + 1) (cEk ad1 12 cap1 1 0)) w1.heap.size (dE 0 0) 1 0 ad1 cap1 := by
  have hs := h.s
  have hs1 := hb.size
  have ha : ∀ k, k < w1.heap.size → (w1.alloc (.cells #[.int .i64 0, .string ⟨#[]⟩, .int .i64 0, .int .i64 0, .int .i64 0, .int .i64 0] 25)).heap[k]? = w1.heap[k]? := fun k hk => (below_boxC w1 _).block k hk
  refine ⟨?_, ?_, ?_, below_set (below_set (h.b.trans ((hb.mono h.b.size).trans ((below_boxC w1 _).mono (by omega)))) (by omega) _) (by omega) _, by omega, fun X hX hXs => hk X (fun k hk2 hlt => ?_) ?_, ?_, hi.mx, hi.nn⟩
  · rw [setRow_other _ _ _ _ (by omega), setRow_other _ _ _ _ (by omega)]; exact row_next (row_next h.m hb) (below_boxC w1 _)
  · exact setRow_heap _ _ _ _ _ _ (by rw [setRow_other _ _ _ _ (by omega)]; exact row_next (row_next h.c hb) (below_boxC w1 _))
  · rw [setRow_other _ _ _ _ (by omega)]; exact setRow_heap _ _ _ (drK (dE 0 0)) _ _ (heap_alloc_new w1 _)
  · have h1 := hX k (by omega) (by simp [World.setRow]; omega)
    rw [h1, setRow_other _ _ _ _ (by omega), setRow_other _ _ _ _ (by omega)]
    exact ha k hlt
  · exact Nat.le_trans (by simp [World.setRow]) hXs
  · have := hi.le; rw [show (cE 1 0).l.length = 12 from blE_len 12] at this; exact this
theorem lie_ten {X : World} {ad : Option Addr} (h : Lie X ad [10]) : ∃ b o, ad = some ⟨b, o, none⟩ ∧ b < X.heap.size ∧ X.cell? ⟨b, o, none⟩ = some (.int .u8 10) := by
  rcases h.at_ with h0 | ⟨b, o, e, hlt, hc⟩
  · cases h0
  · exact ⟨b, o, e, hlt, hc 0 (by decide)⟩
attribute [local irreducible] blE
set_option maxHeartbeats 8000000 in
theorem lives_any (w : World) : Calls Try.prog 8 #[] w fun e w' => e = .returned (.bool true) ∧ Below w.heap.size w w' := by
  have HX := Lib.hid (show Bx w ((w.alloc (.cells #[.int .i64 40, .int .i64 30, .int .i64 20, .int .i64 1000, .int .i64 0] 23)).alloc (.cells #[.string bcE, .int .i64 2, .int .i64 10, .int .i64 1, .int .i64 5, .int .i64 3, .int .i64 2, .bool false, .bool false, .slice none 0 0, .int .i64 0, .int .i64 0, .int .i64 0] 30)) [(mdK mE, 23), (cEk none 0 0 0 0, 30)] from Bx.start w [(mdK mE, 23), (cEk none 0 0 0 0, 30)])
  go_enter Try.func8, Try.ntmps8
  go_wp2
  generalize World.alloc _ _ = X0 at *
  go_loopg [3] 12 (fun gk v3 wx => ∃ k : Nat, v3 = .int .i64 k ∧ k + gk = 12 ∧ Hid (∃ ad cap, Lv0 w wx k ad cap))
  case atStart => exact ⟨0, rfl, rfl, Lib.hid ⟨none, 0, HX.out.at_ 0 _ rfl, HX.out.at_ 1 _ rfl, HX.out.b, HX.out.size, by unfold blE; exact Kq.nil _ _ _⟩⟩
  case round =>
    obtain ⟨k, rfl, hk, hL⟩ := hrel
    obtain ⟨ad, cap, hl⟩ := hL.out
    have HL := Lib.hid hl
    clear hl hL HX
    cases gk with
    | zero =>
      obtain rfl : k = 12 := by omega
      have HKX := Lib.hid HL.out.q.read
      obtain ⟨ad0, cap0, e0, hkx, hx1, hx2, hx3, -⟩ := HKX.out
      rw [blE_len] at e0 hx1
      cases e0
      have HIN := Lib.hid (show CrIn wr (cE 0 0) ad cap from ⟨hkx.ki, by show (blE 12).length ≤ cap; rw [blE_len]; exact hx1, hx2, hx3, by show (1 : Nat) ≤ maxLen; unfold maxLen; decide⟩)
      have HKN := Lib.hid (lv0_kno HL.out)
      clear HKX hkx hx1 hx2 hx3
      obtain ⟨_, m0, m1, m2, m3, m4⟩ := MdAt.of HL.out.m
      obtain ⟨_, k0, k1, k2, k3, k4, k5, k6, k7, k8, k9, k10, k11, k12⟩ := crAt_row HL.out.c
      dsimp only at m0 m1 m2 m3 m4
      go_wp2_with fail
      clear m0 m1 m2 m3 m4 k0 k1 k2 k3 k4 k5 k6 k7 k8 k9 k10 k11 k12
      refine (exLoad ad cap wr HIN.out).mono ?_
      rintro e w1 ⟨ad1, cap1, rfl, hi, hkp, hb⟩
      have HV1 := Lib.hid (lv_first HL.out hb (hkp _ (fun j hj => by have h1 := HL.out.s; omega) HKN.out) hi)
      have R3 := Lib.hid (show (w1.alloc (.cells #[.int .i64 0, .string ⟨#[]⟩, .int .i64 0, .int .i64 0, .int .i64 0, .int .i64 0] 25)).heap[w1.heap.size]? = some (.cells (drK drZ) 25 (0, 0)) from heap_alloc_new w1 _)
      have R4 := Lib.hid (show ((w1.alloc (.cells #[.int .i64 0, .string ⟨#[]⟩, .int .i64 0, .int .i64 0, .int .i64 0, .int .i64 0] 25)).setRow w1.heap.size (drK (dE 0 0))).heap[w.heap.size + 1]? = some (.cells (cEk ad 12 cap 0 0) 30 (0, 0)) by
        rw [setRow_other _ _ _ _ (by have h1 := HL.out.s; have h2 := hb.size; omega)]
        exact row_next (row_next HL.out.c hb) (below_boxC w1 _))
      clear hi hkp hb HIN HKN HL
      obtain ⟨_, m0, m1, m2, m3, m4⟩ := MdAt.of HV1.out.m
      obtain ⟨_, d0, d1, d2, d3, d4, d5⟩ := DrAt.of HV1.out.d
      obtain ⟨_, k0, k1, k2, k3, k4, k5, k6, k7, k8, k9, k10, k11, k12⟩ := crAt_row HV1.out.c
      dsimp only at d0 d1 d2 d3 d4 d5 m0 m1 m2 m3 m4
      go_wp2_with (first
        | (with_reducible refine wpList_store_dr rfl (.tmp 4) (.tmp 35) rfl w1.heap.size rfl _ _ _ _ _ _ rfl drZ R3.out ?_)
        | (with_reducible refine wpList_store_cr rfl (.tmp 2) (.tmp 36) rfl (w.heap.size + 1) rfl _ _ _ _ _ _ _ _ _ _ _ _ _ _ _ rfl _ _ _ _ _ _ _ _ _ _ _ _ _ _ _ R4.out ?_))
      clear m0 m1 m2 m3 m4 d0 d1 d2 d3 d4 d5 k0 k1 k2 k3 k4 k5 k6 k7 k8 k9 k10 k11 k12
      clear R3 R4
      generalize World.setRow (World.setRow (World.alloc w1 _) _ _) _ _ = Y1 at *
      generalize w1.heap.size = g at *
      have HV := Lib.hid HV1.out
      clear HV1
      refine (exSeek ad1 cap1 Y1 HV.out.i).mono ?_
      rintro e w2 ⟨ad2, cap2, rfl, hi, hkp, hb⟩
      have HV2 := Lib.hid (HV.out.call (d2 := dE 9 900) hb hkp hi)
      have R3 := Lib.hid (show w2.heap[g]? = some (.cells (drK (dE 0 0)) 25 (0, 0)) from row_next HV.out.d hb)
      have R4 := Lib.hid (show (w2.setRow g (drK (dE 9 900))).heap[w.heap.size + 1]? = some (.cells (cEk ad1 12 cap1 1 0) 30 (0, 0)) by rw [setRow_other _ _ _ _ (by have h1 := HV.out.g2; omega)]; exact row_next HV.out.c hb)
      clear hi hkp hb HV
      obtain ⟨_, m0, m1, m2, m3, m4⟩ := MdAt.of HV2.out.m
      obtain ⟨_, d0, d1, d2, d3, d4, d5⟩ := DrAt.of HV2.out.d
      obtain ⟨_, k0, k1, k2, k3, k4, k5, k6, k7, k8, k9, k10, k11, k12⟩ := crAt_row HV2.out.c
      dsimp only at d0 d1 d2 d3 d4 d5 m0 m1 m2 m3 m4
      go_wp2_with (first
        | (with_reducible refine wpList_store_dr rfl (.tmp 4) (.tmp 44) rfl g rfl _ _ _ _ _ _ rfl (dE 0 0) R3.out ?_)
        | (with_reducible refine wpList_store_cr rfl (.tmp 2) (.tmp 45) rfl (w.heap.size + 1) rfl _ _ _ _ _ _ _ _ _ _ _ _ _ _ _ rfl _ _ _ _ _ _ _ _ _ _ _ _ _ _ _ R4.out ?_))
      clear m0 m1 m2 m3 m4 d0 d1 d2 d3 d4 d5 k0 k1 k2 k3 k4 k5 k6 k7 k8 k9 k10 k11 k12
      clear R3 R4
      generalize World.setRow (World.setRow w2 _ _) _ _ = Y2 at *
      have HV := Lib.hid HV2.out
      clear HV2
      refine (exRead ad2 cap2 Y2 HV.out.i).mono ?_
      rintro e w3 ⟨ad3, cap3, zd, zc, rfl, hi, hkp, hkz, hb⟩
      have HV3 := Lib.hid (HV.out.call (d2 := dE 11 1000) hb hkp hi)
      have HZ := Lib.hid (show Ki ((w3.setRow g (drK (dE 11 1000))).setRow (w.heap.size + 1) (cEk ad3 12 cap3 1 1000)) zd rdE2 from hkz _ (fun k h1 h2 => by
        have h3 := (Array.getElem?_eq_some_iff.1 HV.out.d).1
        have h4 := (Array.getElem?_eq_some_iff.1 HV.out.c).1
        rw [setRow_other _ _ _ _ (by omega), setRow_other _ _ _ _ (by omega)]) (by simp [World.setRow]))
      have R3 := Lib.hid (show w3.heap[g]? = some (.cells (drK (dE 9 900)) 25 (0, 0)) from row_next HV.out.d hb)
      have R4 := Lib.hid (show (w3.setRow g (drK (dE 11 1000))).heap[w.heap.size + 1]? = some (.cells (cEk ad2 12 cap2 1 900) 30 (0, 0)) by rw [setRow_other _ _ _ _ (by have h1 := HV.out.g2; omega)]; exact row_next HV.out.c hb)
      clear hi hkp hkz hb HV
      obtain ⟨zb, zo, za', zc', rfl, zlt, z0, z1, z2, zl, -, -, -⟩ := HZ.out.get (i := 1) (by show 1 < rdE2.length; decide)
      obtain ⟨yb, yo, rfl, ylt, y0⟩ := lie_ten (show Lie _ za' [10] from zl)
      have z2' := (show ((w3.setRow g (drK (dE 11 1000))).setRow (w.heap.size + 1) (cEk ad3 12 cap3 1 1000)).cell? ⟨zb, zo + 3 + 2, none⟩ = some (.slice (some ⟨yb, yo, none⟩) 1 zc') from z2)
      clear zl z0 z1 z2
      obtain ⟨_, m0, m1, m2, m3, m4⟩ := MdAt.of HV3.out.m
      obtain ⟨_, d0, d1, d2, d3, d4, d5⟩ := DrAt.of HV3.out.d
      obtain ⟨_, k0, k1, k2, k3, k4, k5, k6, k7, k8, k9, k10, k11, k12⟩ := crAt_row HV3.out.c
      dsimp only at d0 d1 d2 d3 d4 d5 m0 m1 m2 m3 m4
      go_wp2_with (first
        | (with_reducible refine wpList_store_dr rfl (.tmp 4) (.tmp 53) rfl g rfl _ _ _ _ _ _ rfl (dE 9 900) R3.out ?_)
        | (with_reducible refine wpList_store_cr rfl (.tmp 2) (.tmp 54) rfl (w.heap.size + 1) rfl _ _ _ _ _ _ _ _ _ _ _ _ _ _ _ rfl _ _ _ _ _ _ _ _ _ _ _ _ _ _ _ R4.out ?_))
      clear m0 m1 m2 m3 m4 d0 d1 d2 d3 d4 d5 k0 k1 k2 k3 k4 k5 k6 k7 k8 k9 k10 k11 k12
      clear R3 R4 z2' y0 zlt ylt HZ
      generalize World.setRow (World.setRow w3 _ _) _ _ = Y3 at *
      have HV := Lib.hid HV3.out
      clear HV3
      refine (exUnload ad3 cap3 Y3 HV.out.i).mono ?_
      rintro e w4 ⟨ad4, cap4, rfl, hi, hkp, hb⟩
      have HV4 := Lib.hid (HV.out.call (d2 := ⟨0, ⟨#[]⟩, 0, 1, 1800, 1800⟩) hb hkp hi)
      have R3 := Lib.hid (show w4.heap[g]? = some (.cells (drK (dE 11 1000)) 25 (0, 0)) from row_next HV.out.d hb)
      have R4 := Lib.hid (show (w4.setRow g (drK ⟨0, ⟨#[]⟩, 0, 1, 1800, 1800⟩)).heap[w.heap.size + 1]? = some (.cells (cEk ad3 12 cap3 1 1000) 30 (0, 0)) by rw [setRow_other _ _ _ _ (by have h1 := HV.out.g2; omega)]; exact row_next HV.out.c hb)
      clear hi hkp hb HV
      obtain ⟨_, m0, m1, m2, m3, m4⟩ := MdAt.of HV4.out.m
      obtain ⟨_, d0, d1, d2, d3, d4, d5⟩ := DrAt.of HV4.out.d
      obtain ⟨_, k0, k1, k2, k3, k4, k5, k6, k7, k8, k9, k10, k11, k12⟩ := crAt_row HV4.out.c
      dsimp only at d0 d1 d2 d3 d4 d5 m0 m1 m2 m3 m4
      go_wp2_with (first
        | (with_reducible refine wpList_store_dr rfl (.tmp 4) (.tmp 93) rfl g rfl _ _ _ _ _ _ rfl (dE 11 1000) R3.out ?_)
        | (with_reducible refine wpList_store_cr rfl (.tmp 2) (.tmp 94) rfl (w.heap.size + 1) rfl _ _ _ _ _ _ _ _ _ _ _ _ _ _ _ rfl _ _ _ _ _ _ _ _ _ _ _ _ _ _ _ R4.out ?_))
      clear m0 m1 m2 m3 m4 d0 d1 d2 d3 d4 d5 k0 k1 k2 k3 k4 k5 k6 k7 k8 k9 k10 k11 k12
      clear R3 R4
      generalize World.setRow (World.setRow w4 _ _) _ _ = Y4 at *
      refine (exDue Y4).mono ?_
      rintro e w5 ⟨rfl, hb⟩
      have HV5 := Lib.hid (HV4.out.next hb)
      clear hb HV4
      obtain ⟨_, m0, m1, m2, m3, m4⟩ := MdAt.of HV5.out.m
      obtain ⟨_, d0, d1, d2, d3, d4, d5⟩ := DrAt.of HV5.out.d
      obtain ⟨_, k0, k1, k2, k3, k4, k5, k6, k7, k8, k9, k10, k11, k12⟩ := crAt_row HV5.out.c
      dsimp only at d0 d1 d2 d3 d4 d5 m0 m1 m2 m3 m4
      go_wp2_with fail
      clear m0 m1 m2 m3 m4 d0 d1 d2 d3 d4 d5 k0 k1 k2 k3 k4 k5 k6 k7 k8 k9 k10 k11 k12
      refine (exWorn ad4 cap4 w5).mono ?_
      rintro e w6 ⟨rfl, hb⟩
      have HB6 := Lib.hid (HV5.out.next hb).b
      clear hb HV5
      go_wp2
      go_ret
      exact ⟨rfl, HB6.out⟩
    | succ gk0 =>
      have hk12 : k < 12 := by omega
      have HS := Lib.hid HL.out.s
      have k9 := row_cell HL.out.c 9
      have f9 := froz_of HL.out.c 9
      simp only [List.getElem?_toArray, List.getElem?_cons_zero, List.getElem?_cons_succ] at k9
      have HB2 := Lib.hid (((Below.refl (w.heap.size + 2) wr).alloc HL.out.s (.cells #[.int .u8 (k : Int)] 5)).alloc (by simp; have := HL.out.s; omega) (.cells #[.bool false, .bool false, .slice (some ⟨wr.heap.size, 0, none⟩) 1 1] 61))
      have HQ2 := Lib.hid ((HL.out.q.below ((Below.refl wr.heap.size wr).alloc (Nat.le_refl _) (.cells #[.int .u8 (k : Int)] 5))).below (below_boxC (wr.alloc (.cells #[.int .u8 (k : Int)] 5)) (.cells #[.bool false, .bool false, .slice (some ⟨wr.heap.size, 0, none⟩) 1 1] 61)))
      have HK2 := Lib.hid (kx_new wr k (by omega) (w.heap.size + 2) HL.out.s (Value.slice ad k cap).ownBlock (fun g hg => (HL.out.q.lt g hg).2))
      have HSB := Lib.hid (show w.heap.size + 2 ≤ ((wr.alloc (.cells #[.int .u8 (k : Int)] 5)).alloc (.cells #[.bool false, .bool false, .slice (some ⟨wr.heap.size, 0, none⟩) 1 1] 61)).heap.size by simp; have := HL.out.s; omega)
      have HLN := Lib.hid (show (blE k).length + 1 ≤ 100000 by rw [blE_len]; omega)
      have HLL := Lib.hid (show (blE k ++ [(⟨false, false, [UInt8.ofNat k]⟩ : Blk)]).length = k + 1 by rw [List.length_append, blE_len]; rfl)
      go_wp2_with (at_builtin; refine wpList_append_k rfl (.tmp 22) (.tmp 27) rfl (w.heap.size + 2) (w.heap.size + 2) (w.heap.size + 2) (w.heap.size + 2) (.slice ad k cap) (blE k) rfl HQ2.out _ 1 1 [⟨false, false, [UInt8.ofNat k]⟩] (fun h => by cases h) HK2.out rfl rfl HLN.out HSB.out (Nat.le_refl _) (Nat.le_refl _) ?_; intro v1 w1 hq1 hg1 _; obtain ⟨ad1, cap1, e1, -⟩ := hq1.read; rw [HLL.out] at e1; subst e1; have HQ1 := Lib.hid hq1; have HB1 := Lib.hid (HB2.out.grown hg1 HSB.out (fun g hg => (HQ2.out.lt g hg).1)); have k9' := (HB1.out.cell (p := ⟨w.heap.size + 1, 9, none⟩) (by show w.heap.size + 1 < w.heap.size + 2; omega)).trans k9; have f9' : w1.frozen? ⟨w.heap.size + 1, 9, none⟩ = false := froz_of ((HB1.out.block (w.heap.size + 1) (by omega)).trans HL.out.c) 9; clear hq1 hg1)
      go_roundg gk0
      case rel => exact ⟨k + 1, by go_num, by omega, Lib.hid ⟨ad1, cap1, lv0_step HL.out HB1.out HQ1.out⟩⟩
      case measure => omega
end Go.Proofs.Ytepmmlnopdjjdaa
