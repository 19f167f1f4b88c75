/-
  The law RobotFinds: in the hand.
-/
import Derived.Test.YtmhaeipklifhcaaRbFin
namespace Go.Proofs.Ytmhaeipklifhcaa
open Go.RowKit
set_option linter.unusedVariables false
attribute [local irreducible] inn mdlR rail dst vldR trvR finR locR picR putR perR farR posR empR
set_option maxRecDepth 100000 in
set_option maxHeartbeats 2000000 in
theorem law_finds3 (r : Rbt) (ad : Option Addr) (n cap : Nat) (b : ByteArray) (w : World) (ha : RoArg w r ad n cap) (hbz : b.size ≤ maxLen) (hbe : b ≠ emp) (hf : finR (fewR r) b = (3, 0, true)) (hx : (fewR r).ha = b) (hc : 0 < (allR (fewR r)).count b) :
    Calls Try.prog 8 #[roV r ad n cap, .string b] w fun e w' => e = .returned (.bool true) ∧ Below w.heap.size w w' := by
  have HY := Lib.hid (And.intro hf (And.intro hx hc))
  have HBE := Lib.hid hbe
  clear hf hx hc hbe
  have HBZ := Lib.hid hbz
  clear hbz
  obtain ⟨hB, hR⟩ := box_r w r ad n cap
  have HB := Lib.hid hB
  have HR := Lib.hid hR
  have HA := Lib.hid ha
  have HF := Lib.hid (fun X (h : Below w.heap.size w X) => few_any r ad n cap X (ha.l.below h rfl) ha.len ha.c ha.mx)
  clear hB hR ha
  go_enter Try.func8, Try.ntmps8
  go_wp2_with fail
  generalize World.alloc _ _ = X0 at *
  refine (HF.out X0 HB.out).mono ?_
  rintro e w1 ⟨n1, rfl, hn1, h70, hb1⟩
  have HR1 := Lib.hid (row_step HR.out hb1)
  have HB1 := Lib.hid (HB.out.trans (hb1.mono HB.out.size))
  have HB2 := Lib.hid (below_set HB1.out (g := w.heap.size) (Nat.le_refl _) (roK (fewR r) ad n1 cap))
  have HR2 := Lib.hid (show (w1.setRow w.heap.size (roK (fewR r) ad n1 cap)).heap[w.heap.size]? = some (boxR (fewR r) ad n1 cap) from setRow_heap _ _ _ _ _ _ HR1.out)
  have HI2 := Lib.hid (show RoIn (w1.setRow w.heap.size (roK (fewR r) ad n1 cap)) (fewR r) ad n1 cap from ⟨(HA.out.l.take 70).below HB2.out rfl, hn1, by omega, HA.out.nn, few_z HA.out.z⟩)
  have HCP := Lib.hid (show n1 ≤ cap from by
    have h1 : (fewR r).l.length ≤ r.l.length := by show (r.l.take 70).length ≤ _; rw [List.length_take]; omega
    have h2 := HA.out.c
    have h3 := HA.out.len
    omega)
  have hmx : cap ≤ maxLen := HA.out.mx
  unfold maxLen at hmx
  have HMX := Lib.hid hmx
  clear hn1 h70 hb1 hmx
  go_upto_region 2 with (with_reducible refine wpList_store_ro rfl (.tmp 2) (.tmp 10) rfl w.heap.size rfl _ _ _ _ _ _ _ rfl r ad n cap HR1.out ?_)
  generalize World.setRow _ _ _ = X1 at *
  clear HR1 HF HR HB HB1 HA
  obtain ⟨f, hf⟩ : ∃ f, f = fewR r := ⟨_, rfl⟩
  rw [← hf] at HR2 HI2 HY ⊢
  clear hf
  have hcp := HCP.out
  have hmx := HMX.out
  obtain ⟨_, k0, k1, k2, k3, k4⟩ := RoAt.of HR2.out
  have HFD := Lib.hid (find_any f ad n1 cap b X1 HI2.out.l HI2.out.len HI2.out.le HI2.out.z)
  have hx0 : b.toList.isEmpty = false := by rw [isE]; simp [HBE.out]
  have hbb : (b.toList == b.toList) = true := by rw [eqT]; simp
  obtain ⟨hf, hx, hc⟩ := HY.out
  have HCC := Lib.hid hc
  have HXX := Lib.hid hx
  rw [hf] at HFD
  clear hf hc hx HY
  go_wp2_with fail
  clear k0 k1 k2 k3 k4
  refine HFD.out.mono ?_
  rintro e w2 ⟨rfl, hb2⟩
  have HX := Lib.hid (show Fx w (w2.alloc (boxE 3 0)) f ad n1 cap w2.heap.size 3 0 from ⟨HB2.out.trans ((hb2.trans ((below_box1 w2 (boxE 3 0)).mono hb2.size)).mono HB2.out.size), row_step (row_step HR2.out hb2) (below_box1 _ _), ElAt.new _ _ _ _, (HI2.out.below hb2).below (below_box1 _ _)⟩)
  clear hb2 HFD
  have HL := Lib.hid (show (allR f).length ≤ 1002 from by rw [show (allR f).length = f.l.length + 2 from by simp [allR], ← HI2.out.len]; have := HI2.out.le; omega)
  obtain ⟨_, k0, k1, k2, k3, k4⟩ := RoAt.of HX.out.row
  obtain ⟨_, e0, e1⟩ := HX.out.el
  go_wp2_with fail
  generalize w2.heap.size = p1 at *
  generalize World.alloc _ _ = X2 at *
  clear k0 k1 k2 k3 k4 e0 e1
  refine (held_any f ad n1 cap X2 HX.out.ri).mono ?_
  rintro e w3 ⟨v1, rfl, hv1, hb3⟩
  obtain ⟨ad1, cp1, rfl, hs1, _, _, _, _⟩ := hv1.read
  have HX := Lib.hid (HX.out.next hb3)
  obtain ⟨L1, hL1⟩ : ∃ L, L = allR f := ⟨_, rfl⟩
  obtain ⟨N1, hN1⟩ : ∃ N, N = L1.length := ⟨_, rfl⟩
  rw [← hL1] at hs1 HL HCC ⊢
  rw [← hN1] at HL ⊢
  have HC3 := Lib.hid (count_any ad1 N1 cp1 L1 b w3 hs1 hN1 (by have := HL.out; omega))
  clear hL1 hN1 hb3 hv1 hs1
  go_wp2_with fail
  obtain ⟨N, hN⟩ : ∃ N : Int, N = ((L1.count b : Nat) : Int) := ⟨_, rfl⟩
  rw [← hN] at HC3
  have hN0 : 0 < N := by have := HCC.out; omega
  clear hN
  refine HC3.out.mono ?_
  rintro e w4 ⟨rfl, rfl⟩
  obtain ⟨_, k0, k1, k2, k3, k4⟩ := RoAt.of HX.out.row
  obtain ⟨_, e0, e1⟩ := HX.out.el
  rw [HXX.out] at k4
  go_upto_region 12 with fail
  clear k0 k1 k2 k3 k4 e0 e1
  obtain ⟨_, k0, k1, k2, k3, k4⟩ := RoAt.of HX.out.row
  obtain ⟨_, e0, e1⟩ := HX.out.el
  go_wp2_with fail
  clear k0 k1 k2 k3 k4 e0 e1
  have HEM := Lib.hid (empty_any f ad n1 cap _ HX.out.ri)
  rcases emp_cases f.l with ⟨he, hc⟩ | ⟨i, hi, he, hx, hc⟩
  · rw [he] at HEM
    refine HEM.out.mono ?_
    rintro e w9 ⟨rfl, hb9⟩
    have HX9 := Lib.hid (HX.out.next hb9)
    have HC9 := Lib.hid (count_any ad n1 cap f.l emp w9 HX9.out.ri.l HX9.out.ri.len (by have := HX9.out.ri.le; omega))
    rw [hc] at HC9
    clear hc he hb9
    obtain ⟨_, k0, k1, k2, k3, k4⟩ := RoAt.of HX9.out.row
    go_wp2_with fail
    refine HC9.out.mono ?_
    rintro e w10 ⟨rfl, rfl⟩
    clear k0 k1 k2 k3 k4
    go_wp2_with fail
    refine (awake_any _).mono ?_
    rintro e w11 ⟨rfl, hb11⟩
    have HX11 := Lib.hid (HX9.out.next hb11)
    clear hb11
    go_wp2
    go_ret
    exact ⟨rfl, HX11.out.b⟩
  · rw [he] at HEM
    refine HEM.out.mono ?_
    rintro e w9 ⟨rfl, hb9⟩
    have HX9 := Lib.hid (HX.out.next hb9)
    have hin1 : i < n1 := by have := HX9.out.ri.len; omega
    have HC9 := Lib.hid (count_any ad i cap (f.l.take i) emp w9 (HX9.out.ri.l.take i) (by rw [List.length_take]; omega) (by have := HX9.out.ri.le; omega))
    rw [hc] at HC9
    obtain ⟨bk, off, hade, hlt, q0⟩ := HX9.out.ri.l.get hi
    rw [hx] at q0
    have hic : i ≤ cap := by omega
    clear hc he hb9 hi hx
    obtain ⟨_, k0, k1, k2, k3, k4⟩ := RoAt.of HX9.out.row
    rw [hade] at k2 HC9
    clear hade
    go_wp2_with fail
    refine HC9.out.mono ?_
    rintro e w10 ⟨rfl, rfl⟩
    clear k0 k1 k2 k3 k4 q0
    go_wp2_with fail
    refine (awake_any _).mono ?_
    rintro e w11 ⟨rfl, hb11⟩
    have HX11 := Lib.hid (HX9.out.next hb11)
    clear hb11
    go_wp2
    go_ret
    exact ⟨rfl, HX11.out.b⟩
end Go.Proofs.Ytmhaeipklifhcaa
