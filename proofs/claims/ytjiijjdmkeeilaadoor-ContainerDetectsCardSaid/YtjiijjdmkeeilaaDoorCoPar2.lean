/-
  The specification's Parse of containers: the walk.
-/
import Derived.Test.YtjiijjdmkeeilaaDoorCAU
import Derived.Test.YtjiijjdmkeeilaaDoorCAN
import Derived.Test.YtjiijjdmkeeilaaDoorCAJ
import Derived.Test.YtjiijjdmkeeilaaDoorCAM
import Derived.Deep.CutBlock
import Derived.Deep.DeepCutAuto
namespace Go.Proofs.YtjiijjdmkeeilaaDoor
open Go.RowKit
set_option linter.unusedVariables false
set_option linter.unusedSimpArgs false
/-- a call gives a header and two numbers -/
def RetH3 (w : World) (r : Hdr × Int × Int) (e : Ending) (w' : World) : Prop :=
  ∃ ad cap, e = .returned (.tuple #[hdV r.1 ad r.1.es.length cap, .int .i64 r.2.1, .int .i64 r.2.2]) ∧ HdOw w' w.heap.size r.1 ad r.1.es.length cap ∧ Below w.heap.size w w'
theorem retH3 {w w' : World} {R : Hdr × Int × Int} {H : Hdr} {x y : Int} (h : R = (H, x, y)) {ad : Option Addr} {cap : Nat} (ho : HdOw w' w.heap.size H ad H.es.length cap) (hb : Below w.heap.size w w') : RetH3 w R (.returned (.tuple #[.agg (hdC H ad H.es.length cap), .int .i64 x, .int .i64 y])) w' := by
  subst h
  exact ⟨ad, cap, rfl, ho, hb⟩
attribute [local irreducible] decU bytB bodyAt fulB zerB parH cntB
set_option maxRecDepth 100000 in
set_option maxHeartbeats 4000000 in
theorem rparseh_any (ad : Option Addr) (n cap : Nat) (l : List Blk) (w : World) (hl : Ki w ad l) (hn : n = l.length) (hs : n ≤ 5000) (hd : ∀ b ∈ l, b.d.length ≤ 1000) (hbl : (bytB l).length ≤ 1000000) :
    Calls Tryd.prog 24 #[.slice ad n cap] w (RetH3 w (parH l)) := by
  have HBL := Lib.hid hbl
  have HN := Lib.hid hn
  have HX0 := Lib.hid (HdRow.new w .zero none 0 0)
  have HB0 := Lib.hid (co_box1 w (boxH .zero none 0 0))
  have HL0 := Lib.hid (hl.below (co_box1 w (boxH .zero none 0 0)))
  have HD := Lib.hid hd
  have HS0 := Lib.hid (show w.heap.size < (w.alloc (boxH .zero none 0 0)).heap.size by simp)
  have PN := Lib.hid (@parH_next l)
  have PF := Lib.hid (fun e => @parH_ful l e)
  have PZ := Lib.hid (fun e => @parH_zer l e)
  have PE := Lib.hid (fun e => @parH_fin l e)
  clear hl hn hd hbl
  go_enter Tryd.func24, Tryd.ntmps24
  go_wp2_with fail
  change Calls Tryd.prog 61 _ (w.alloc (boxH .zero none 0 0)) _
  generalize World.alloc w _ = X0 at *
  refine (rbytes_any ad n cap l _ HL0.out HN.out (by omega) HD.out).mono ?_
  rintro e X1 ⟨v1, rfl, ho1, hb1⟩
  obtain ⟨ad1, cap1, rfl, hl1, hc1, hm1, ha1⟩ := ho1.slice
  have HL1 := Lib.hid hl1
  have HC1 := Lib.hid hc1
  have HM1 := Lib.hid hm1
  have HA1 := Lib.hid ha1
  have HX1 := Lib.hid (HX0.out.below hb1 HS0.out)
  have HB1 := Lib.hid (HB0.out.trans (hb1.mono (Nat.le_of_lt HS0.out)))
  have HK1 := Lib.hid (HL0.out.below hb1)
  clear ho1 hl1 hc1 hm1 ha1 hb1 HX0 HB0 HS0 HL0
  have HCE := Lib.hid (@chk_end (bytB l))
  have HCL := Lib.hid (fun e => @cnt_len l e)
  generalize bytB l = bs at *
  generalize hbn : bs.length = bn at *
  have HBN := Lib.hid hbn
  clear hbn
  go_wp2_with fail
  refine (rnext_any ad1 bn cap1 bs 0 _ HL1.out HBN.out.symm (by rw [HBN.out]; exact HBL.out) HC1.out HM1.out HA1.out).mono ?_
  rintro e X2 ⟨v2, rfl, ho2, hb2⟩
  have HX2 := Lib.hid (HX1.out.below hb2 HX1.out.lt)
  have HB2 := Lib.hid (HB1.out.trans (hb2.mono HB1.out.size))
  have HK2 := Lib.hid (HK1.out.below hb2)
  have HL2 := Lib.hid (HL1.out.below hb2 rfl)
  clear hb2 HX1 HB1 HK1 HL1
  by_cases hce : (chk bs 0).2 = 0
  rotate_left
  · have HR := Lib.hid (PN.out hce)
    have k1 := ne_t hce
    generalize (chk bs 0).2 = ce at *
    generalize (chk bs 0).1 = cx at *
    clear hce
    go_wp2_with (with_reducible refine st_hdr rfl (.tmp 2) (.tmp 24) rfl rfl .zero none 0 0 rfl HX2.out ?_)
    refine post_cell3 (cs := hdC .zero none 0 0) (x := .int .i64 0) (y := .int .i64 ce) rfl rfl (HdRow.put HX2.out .zero none 0 0).row Tryd.underlying25 rfl infoHd rfl rfl rfl ?_
    exact retH3 HR.out ⟨Of.nil _ _ _ _ _, rfl⟩ (below_set HB2.out (Nat.le_refl _) _)
  obtain ⟨E, hE, hEl⟩ := HCE.out hce
  have HBD := Lib.hid (show (bodyAt bs 0).length ≤ 1000000 from Nat.le_trans (body_le bs 0) (by have := HBL.out; have := HBN.out; omega))
  replace PF := Lib.hid (PF.out E hE)
  replace PZ := Lib.hid (PZ.out E hE)
  replace PE := Lib.hid (PE.out E hE)
  rw [hE]
  clear hE hce PN HCE
  have hEb : E ≤ 1000000 := by have := HBL.out; have := HBN.out; omega
  obtain ⟨ad2, cap2, rfl, hl2, hc2, hm2, ha2⟩ := ho2.slice
  have HO2 := Lib.hid hl2
  have HC2 := Lib.hid hc2
  have HM2 := Lib.hid hm2
  have HA2 := Lib.hid ha2
  clear ho2 hl2 hc2 hm2 ha2
  generalize bodyAt bs 0 = body at *
  have hq : ((E : Int) + 63) / 64 = (cntB E : Int) := by unfold cntB; omega
  have hC : cntB E ≤ 16000 := by unfold cntB; omega
  have hEC : E ≤ 64 * cntB E := by unfold cntB; omega
  generalize hcn : cntB E = C at *
  replace HCL := Lib.hid (hcn ▸ HCL.out E (by omega))
  clear hcn
  go_upto_block 0 with fail
  rw [hq]
  clear hq
  go_cut [10] from 29 to 47 (fun s10 wx => Hid (fulB l C) ∧ wx = X2)
  case first =>
    go_wp2_with fail
    go_loopg [10] C (fun gk vk wx => ∃ k : Nat, vk = .int .i64 k ∧ k + gk = C ∧ wx = X2 ∧ Hid (fulB l k))
    case atStart => exact ⟨0, rfl, by omega, rfl, Lib.hid (by unfold fulB; exact ⟨by omega, fun i _ h => by omega⟩)⟩
    case round =>
      obtain ⟨k, rfl, hk, rfl, hful⟩ := hrel
      cases gk with
      | zero =>
        obtain rfl : k = C := by omega
        go_wp2
        go_meet
        case rel => exact ⟨hful, rfl⟩
      | succ gk0 =>
        have hkC : k < C := by omega
        by_cases hkn : (n : Int) ≤ (k : Int)
        · have HR := Lib.hid (PF.out (by unfold fulB; rintro ⟨h, -⟩; have := HN.out; omega))
          go_wp2_with (with_reducible refine st_hdr rfl (.tmp 2) (.tmp 47) rfl rfl .zero none 0 0 rfl HX2.out ?_)
          refine post_cell3 (cs := hdC .zero none 0 0) (x := .int .i64 0) (y := .int .i64 1) rfl rfl (HdRow.put HX2.out .zero none 0 0).row Tryd.underlying25 rfl infoHd rfl rfl rfl ?_
          exact retH3 HR.out ⟨Of.nil _ _ _ _ _, rfl⟩ (below_set HB2.out (Nat.le_refl _) _)
        have hkl : k < l.length := by have := HN.out; omega
        obtain ⟨b, off, ad', cap', rfl, hlt, q0, q1, q2, -⟩ := HK2.out.get hkl
        by_cases h64 : l[k].d.length = 64
        rotate_left
        · have HR := Lib.hid (PF.out (by unfold fulB; rintro ⟨-, h⟩; exact h64 (h k hkl hkC)))
          have k1 := ne_t (show ((l[k].d.length : Nat) : Int) ≠ 64 by omega)
          generalize l[k].d.length = M at *
          clear h64
          go_wp2_with (with_reducible refine st_hdr rfl (.tmp 2) (.tmp 47) rfl rfl .zero none 0 0 rfl HX2.out ?_)
          refine post_cell3 (cs := hdC .zero none 0 0) (x := .int .i64 0) (y := .int .i64 1) rfl rfl (HdRow.put HX2.out .zero none 0 0).row Tryd.underlying25 rfl infoHd rfl rfl rfl ?_
          exact retH3 HR.out ⟨Of.nil _ _ _ _ _, rfl⟩ (below_set HB2.out (Nat.le_refl _) _)
        have HF2 := Lib.hid (show fulB l (k + 1) by
          have := hful.out
          unfold fulB at this ⊢
          exact ⟨by omega, fun i h h' => by
            rcases Nat.lt_or_ge i k with h3 | h3
            · exact this.2 i h h3
            · obtain rfl : i = k := by omega
              exact h64⟩)
        rw [h64] at q2
        clear h64
        go_wp2
        go_roundg gk0
        case rel => exact ⟨k + 1, by go_num, by omega, rfl, HF2⟩
        case measure => omega
  case rest =>
    obtain ⟨hful, rfl⟩ := hcut
    have hlen := HCL.out hful.out
    go_upto_block 2 with fail
    have hCE : E ≤ 64 * C := hEC
    go_cut [11] from 49 to 60 (fun s11 wx => Hid (zerB bs E (64 * C)) ∧ wx = wc)
    case first =>
      go_wp2_with fail
      go_loopg [11] (64 * C - E) (fun gk vk wx => ∃ k : Nat, vk = .int .i64 k ∧ k + gk = 64 * C ∧ E ≤ k ∧ wx = wc ∧ Hid (zerB bs E k))
      case atStart => exact ⟨E, rfl, by omega, by omega, rfl, Lib.hid (by unfold zerB; exact fun i _ h h' => by omega)⟩
      case round =>
        obtain ⟨k, rfl, hk, hEk, rfl, hzer⟩ := hrel
        cases gk with
        | zero =>
          obtain rfl : k = 64 * C := by omega
          have hkC : ¬ ((64 * C : Nat) : Int) < 64 * (C : Int) := by omega
          go_wp2
          go_meet
          case rel => exact ⟨hzer, rfl⟩
        | succ gk0 =>
          have hkC : (k : Int) < 64 * (C : Int) := by omega
          have hkb : k < bs.length := by have := HBN.out; omega
          have hkb2 : k < bn := by have := HBN.out; omega
          rcases HL2.out.at_ with h0 | ⟨b, off, rfl, hlt, hcell⟩
          · rw [h0] at hkb; simp at hkb
          have q0 := hcell k hkb
          clear hcell hlt
          by_cases hz : bs[k] = 0
          rotate_left
          · have HR := Lib.hid (PZ.out (by unfold zerB; exact fun h => hz (h k hkb hEk (by omega))))
            have hz2 : ((bs[k].toNat : Nat) : Int) ≠ 0 := fun h => hz (UInt8.toNat_inj.1 (by simpa using h))
            have k1 := ne_t hz2
            generalize bs[k].toNat = M at *
            clear hz hz2
            go_wp2_with (with_reducible refine st_hdr rfl (.tmp 2) (.tmp 60) rfl rfl .zero none 0 0 rfl HX2.out ?_)
            refine post_cell3 (cs := hdC .zero none 0 0) (x := .int .i64 0) (y := .int .i64 1) rfl rfl (HdRow.put HX2.out .zero none 0 0).row Tryd.underlying25 rfl infoHd rfl rfl rfl ?_
            exact retH3 HR.out ⟨Of.nil _ _ _ _ _, rfl⟩ (below_set HB2.out (Nat.le_refl _) _)
          have HF2 := Lib.hid (show zerB bs E (k + 1) by
            have := hzer.out
            unfold zerB at this ⊢
            exact fun i h h1 h2 => by
              rcases Nat.lt_or_ge i k with h3 | h3
              · exact this i h h1 h3
              · obtain rfl : i = k := by omega
                exact hz)
          rw [hz] at q0
          clear hz
          go_wp2
          go_roundg gk0
          case rel => exact ⟨k + 1, by go_num, by omega, by omega, rfl, HF2⟩
          case measure => omega
    case rest =>
      obtain ⟨hzer, rfl⟩ := hcut
      replace PE := Lib.hid (PE.out hful.out hzer.out)
      go_wp2_with fail
      refine (rdecode_any ad2 body.length cap2 body _ HO2.out rfl HBD.out).mono ?_
      rintro e X3 ⟨ad3, cap3, rfl, ho3, hb3⟩
      have HX3 := Lib.hid ((HX2.out.below hb3 HX2.out.lt).below (co_box1 _ (boxH .zero none 0 0)) (HX2.out.below hb3 HX2.out.lt).lt)
      have HY3 := Lib.hid (HdRow.new X3 .zero none 0 0)
      have HX4 := Lib.hid ((HX2.out.below hb3 HX2.out.lt).below (co_box1 _ (boxH (decU body).1 ad3 (decU body).1.es.length cap3)) (HX2.out.below hb3 HX2.out.lt).lt)
      have HY4 := Lib.hid (HdRow.new X3 (decU body).1 ad3 (decU body).1.es.length cap3)
      have HB4 := Lib.hid ((HB2.out.trans (hb3.mono HB2.out.size)).alloc (Nat.le_trans HB2.out.size hb3.size) (boxH (decU body).1 ad3 (decU body).1.es.length cap3))
      have HO4 := Lib.hid (ho3.below (co_box1 X3 (boxH (decU body).1 ad3 (decU body).1.es.length cap3)))
      have HWL := Lib.hid HX2.out.lt
      clear ho3 hb3 HX2 HB2 HK2 HL2 HO2 HC2 HM2 HA2
      rcases hD : decU body with ⟨H, V⟩
      rw [hD] at PE HX4 HY4 HB4 HO4
      clear hD
      dsimp only at PE HX4 HY4 HB4 HO4 ⊢
      cases V
      · have HR := Lib.hid (PE.out.trans (if_neg (by simp)))
        go_wp2_with (first
          | ((with_reducible refine st_hdr rfl (.tmp 12) (.tmp 64) rfl rfl H ad3 H.es.length cap3 rfl HY3.out ?_))
          | ((with_reducible refine st_hdr rfl (.tmp 2) (.tmp 68) rfl rfl .zero none 0 0 rfl HX4.out ?_)))
        refine post_cell3 (cs := hdC .zero none 0 0) (x := .int .i64 0) (y := .int .i64 24) rfl rfl (HdRow.put HX4.out .zero none 0 0).row Tryd.underlying25 rfl infoHd rfl rfl rfl ?_
        exact retH3 HR.out ⟨Of.nil _ _ _ _ _, rfl⟩ (below_set HB4.out (Nat.le_refl _) _)
      · have HR := Lib.hid (PE.out.trans (if_pos (by simp)))
        go_wp2_with (first
          | ((with_reducible refine st_hdr rfl (.tmp 12) (.tmp 64) rfl rfl H ad3 H.es.length cap3 rfl HY3.out ?_))
          | ((with_reducible refine ld_hdr rfl (.tmp 12) rfl rfl HY4.out ?_))
          | ((with_reducible refine st_hdr rfl (.tmp 2) (.tmp 69) rfl rfl H ad3 H.es.length cap3 rfl HX4.out ?_)))
        refine post_cell3 (cs := hdC H ad3 H.es.length cap3) (x := .int .i64 C) (y := .int .i64 0) rfl rfl (HdRow.put HX4.out H ad3 H.es.length cap3).row Tryd.underlying25 rfl infoHd rfl rfl rfl ?_
        exact retH3 HR.out ((HO4.out.row (k := w.heap.size) HWL.out _).mono (Nat.le_of_lt HWL.out)) (below_set HB4.out (Nat.le_refl _) _)
end Go.Proofs.YtjiijjdmkeeilaaDoor
