/-
  The specification's Parse.
  The law package's few.
  The specification's Copied: blocks of their own.
  Appends that come up alone in a drawn region: bytes, blocks.
  The specification's Copied (layer 14): blocks of their own.
-/
import Derived.Test.YtjmlidejbddoeaaDoorLI
import Derived.Test.YtjmlidejbddoeaaDoorLJ
import Derived.Test.YtjmlidejbddoeaaDoorLN
import Derived.Deep.CutBlock
import Derived.Deep.DeepCutAuto
import Derived.Test.YtjmlidejbddoeaaDoorLG
import Derived.Deep.LoopGhost
import Derived.Test.YtjmlidejbddoeaaDoorLK
namespace Go.Proofs.YtjmlidejbddoeaaDoor
open Go.RowKit
set_option linter.unusedVariables false
/-- a call returns a label and two numbers -/
def RetL3 (w : World) (r : Lbl × Int × Int) (e : Ending) (w' : World) : Prop := e = .returned (.tuple #[lbV r.1, .int .i64 r.2.1, .int .i64 r.2.2]) ∧ Below w.heap.size w w'
theorem retL3 {w w' : World} {R : Lbl × Int × Int} {r : Lbl × Int × Int} (h : R = r) (hb : Below w.heap.size w w') : RetL3 w R (.returned (.tuple #[.agg #[.string r.1.bc, .string r.1.pl, .int .i64 r.1.ep, .int .i64 r.1.cr], .int .i64 r.2.1, .int .i64 r.2.2])) w' := by subst h; exact ⟨rfl, hb⟩
theorem parT_med {l : List Blk} (h : medB l = true) : parT l = (.zero, 0, 15) := by unfold parT; rw [if_pos h]
theorem parT_next {l : List Blk} (hm : medB l = false) (h : (chk (bytB l) 0).2 ≠ 0) : parT l = (.zero, 0, (chk (bytB l) 0).2) := by unfold parT; rw [if_neg (by rw [hm]; simp), if_pos h]
theorem parT_fld {l : List Blk} (hm : medB l = false) (h : (chk (bytB l) 0).2 = 0) (h2 : (fldT (bodyAt (bytB l) 0)).2 ≠ 0) : parT l = (.zero, 0, (fldT (bodyAt (bytB l) 0)).2) := by
  unfold parT; rw [if_neg (by rw [hm]; simp), if_neg (fun h' => h' h), if_pos h2]
theorem parT_fin {l : List Blk} (hm : medB l = false) (h : (chk (bytB l) 0).2 = 0) {z : Lbl} (h2 : fldT (bodyAt (bytB l) 0) = (z, 0)) : parT l = if l.take (blkT z).length = blkT z then (z, ((blkT z).length : Int), 0) else (.zero, 0, 24) := by
  unfold parT; rw [if_neg (by rw [hm]; simp), if_neg (fun h' => h' h), if_neg (by rw [h2]; simp), h2]
theorem fldT_vld {xs : List UInt8} (h : (fldT xs).2 = 0) : vldT (fldT xs).1 = true := by
  revert h
  unfold fldT
  dsimp only
  repeat' split
  all_goals first | (intro h; simp_all; done) | (intro _; rename_i hv; simpa using hv)
theorem fldT_fit {xs : List UInt8} : (fldT xs).1.Fit := by
  have hz : Lbl.zero.Fit := ⟨by decide, by decide⟩
  by_cases h : (fldT xs).2 = 0
  · have hv := vldT_iff.1 (fldT_vld h)
    have h1 := bar_size hv.1
    have h2 := nam_size hv.2.1
    exact ⟨by unfold maxLen; omega, by unfold maxLen; omega⟩
  · revert h
    unfold fldT
    dsimp only
    repeat' split
    all_goals first | (intro _; exact hz) | (intro h; exact absurd rfl h)
theorem Ki.front {w : World} {b off : Nat} {l : List Blk} (h : Ki w (some ⟨b, off, none⟩) l) (m : Nat) : Ki w (some ⟨b, off, none⟩) (l.take m) := by
  have := h.part 0 m
  rwa [Nat.zero_mul, Nat.add_zero, List.drop_zero] at this
attribute [local irreducible] fldT chk bodyAt bytB blkT divB frm vldT parT
set_option maxRecDepth 100000 in
set_option maxHeartbeats 4000000 in
theorem rparse_any (ad : Option Addr) (n cap : Nat) (l : List Blk) (w : World) (hl : Ki w ad l) (hn : n = l.length) (hc : n ≤ cap) (hcm : cap ≤ maxLen) (ha : ad = none → cap = 0) (hs : n ≤ 1000) (hd : ∀ b ∈ l, b.d.length ≤ 1000) :
    Calls Tryd.prog 18 #[.slice ad n cap] w (RetL3 w (parT l)) := by
  have HL := Lib.hid hl
  have HN := Lib.hid hn
  have HD := Lib.hid hd
  have HA := Lib.hid ha
  have HCM := Lib.hid hcm
  have HM := Lib.hid (@parT_med l)
  have HX0 := Lib.hid (LbRow.new w .zero)
  have HB0 := Lib.hid (vl_box1 w (boxL .zero))
  clear hl hn hd ha hcm
  go_enter Tryd.func18, Tryd.ntmps18
  go_upto_block 0 with fail
  go_cut [5] from 12 to 28 (fun s5 wx => Hid (medB l = false) ∧ wx = w.alloc (boxL .zero))
  case first =>
    go_wp2_with fail
    go_loopg [5] n (fun gk vk wx => ∃ k : Nat, vk = .int .i64 k ∧ k + gk = n ∧ wx = w.alloc (boxL .zero) ∧ Hid (∀ j (h : j < l.length), j < k → l[j].m = false ∧ l[j].bad = false))
    case atStart => exact ⟨0, rfl, by omega, rfl, Lib.hid fun j _ h => by omega⟩
    case round =>
      obtain ⟨k, rfl, hk, rfl, hall⟩ := hrel
      cases gk with
      | zero =>
        obtain rfl : k = n := by omega
        have HZ := Lib.hid (medB_none l (fun j hj => hall.out j hj (by have := HN.out; omega)))
        go_wp2
        go_meet
        case rel => exact ⟨HZ, rfl⟩
      | succ gk0 =>
        have hkn : k < n := by omega
        have hkl : k < l.length := by have := HN.out; omega
        obtain ⟨b, off, ad', cap', rfl, hlt, q0, q1, q2, hq, hq2, hq3, hq4⟩ := (HL.out.below HB0.out).get hkl
        have HS := Lib.hid (medB_skip l k hkl hall.out)
        have HAL : Hid (l[k].m = false → l[k].bad = false → ∀ j (h : j < l.length), j < k + 1 → l[j].m = false ∧ l[j].bad = false) := Lib.hid (fun h h' j hj hjk => by
          rcases Nat.lt_or_ge j k with h3 | h3
          · exact hall.out j hj h3
          · obtain rfl : j = k := by omega
            exact ⟨h, h'⟩)
        clear hq hq2 hq3 hq4
        generalize l[k].m = xm at *
        generalize l[k].bad = xb at *
        cases xb
        · cases xm
          · have HAN := Lib.hid (HAL.out rfl rfl)
            clear HAL HS
            go_wp2
            go_roundg gk0
            case rel => exact ⟨k + 1, by go_num, by omega, rfl, HAN⟩
            case measure => omega
          · have HZ := Lib.hid (show medB l = false from HS.out)
            go_wp2
            go_meet
            case rel => exact ⟨HZ, rfl⟩
        · have HR := Lib.hid (HM.out (show medB l = true from HS.out))
          go_wp2_with (with_reducible refine wpList_store_lb rfl (.tmp 2) (.tmp 23) rfl w.heap.size rfl .zero .zero rfl HX0.out ?_)
          refine post_cell3 (cs := lbC .zero) (x := .int .i64 0) (y := .int .i64 15) rfl rfl (HX0.out.put .zero).row Tryd.underlying23 rfl infoLb rfl rfl rfl ?_
          exact retL3 HR.out (below_set HB0.out (Nat.le_refl _) _)
  case rest =>
    obtain ⟨HZ, rfl⟩ := hcut
    have HS0 := Lib.hid (show w.heap.size < (w.alloc (boxL .zero)).heap.size by simp)
    have HKI := Lib.hid (HL.out.below HB0.out)
    have hblen : (bytB l).length ≤ 1000000 := by
      have := bytB_le l 1000 1000 (by have := HN.out; omega) HD.out
      omega
    have HBL := Lib.hid hblen
    clear hblen
    generalize World.alloc w _ = X0 at *
    go_wp2_with fail
    refine (rbytes_any ad n cap l _ HKI.out HN.out (by omega) HD.out).mono ?_
    rintro e X1 ⟨v1, rfl, ho1, hb1⟩
    obtain ⟨ad1, cap1, rfl, hl1, hc1, hm1, ha1⟩ := ho1.slice
    have HL1 := Lib.hid hl1
    have HC1 := Lib.hid hc1
    have HM1 := Lib.hid hm1
    have HA1 := Lib.hid ha1
    have HX1 := Lib.hid (HX0.out.below hb1 HS0.out)
    have HB1 := Lib.hid (HB0.out.trans (hb1.mono (Nat.le_of_lt HS0.out)))
    have HS1 := Lib.hid (Nat.lt_of_lt_of_le HS0.out hb1.size)
    have HK1 := Lib.hid (HKI.out.below hb1)
    clear ho1 hl1 hc1 hm1 ha1 hb1 HX0 HB0 HS0 HKI
    have PN := Lib.hid (@parT_next l HZ.out)
    have PF := Lib.hid (@parT_fld l HZ.out)
    have PE := Lib.hid (@parT_fin l HZ.out)
    clear HM HZ
    generalize bytB l = bs at *
    generalize hbn : bs.length = bn at *
    have HBN := Lib.hid hbn
    clear hbn
    go_wp2_with fail
    refine (rnext_any ad1 bn cap1 bs 0 _ HL1.out HBN.out.symm (by rw [HBN.out]; exact HBL.out) HC1.out HM1.out HA1.out).mono ?_
    rintro e X2 ⟨v2, rfl, ho2, hb2⟩
    have HX2 := Lib.hid (HX1.out.below hb2 HS1.out)
    have HB2 := Lib.hid (HB1.out.trans (hb2.mono (Nat.le_of_lt HS1.out)))
    have HS2 := Lib.hid (Nat.lt_of_lt_of_le HS1.out hb2.size)
    have HK2 := Lib.hid (HK1.out.below hb2)
    have HBD := Lib.hid (show (bodyAt bs 0).length ≤ 1000000 by
      have h1 : (bodyAt bs 0).length ≤ bs.length := by
        unfold bodyAt
        split
        · rw [List.length_take, List.length_drop]; omega
        · simp
      have := HBL.out
      have := HBN.out
      omega)
    generalize bodyAt bs 0 = body at *
    generalize (chk bs 0).1 = cx at *
    generalize (chk bs 0).2 = ce at *
    clear hb2 HX1 HB1 HS1 HK1 HL1 HC1 HM1 HA1
    by_cases hce : ce = 0
    rotate_left
    · have HR := Lib.hid (PN.out hce)
      have k1 : (ce != 0) = true := by simpa using hce
      clear hce PN PF PE ho2
      go_wp2_with (with_reducible refine wpList_store_lb rfl (.tmp 2) (.tmp 38) rfl w.heap.size rfl .zero .zero rfl HX2.out ?_)
      refine post_cell3 (cs := lbC .zero) (x := .int .i64 0) (y := .int .i64 ce) rfl rfl (HX2.out.put .zero).row Tryd.underlying23 rfl infoLb rfl rfl rfl ?_
      exact retL3 HR.out (below_set HB2.out (Nat.le_refl _) _)
    subst hce
    replace PF := Lib.hid (PF.out rfl)
    replace PE := Lib.hid (fun z (h : fldT body = (z, 0)) => PE.out rfl h)
    clear PN
    obtain ⟨ad2, cap2, rfl, hl2, hc2, hm2, ha2⟩ := ho2.slice
    have HL2 := Lib.hid hl2
    have HC2 := Lib.hid hc2
    have HA2 := Lib.hid ha2
    clear ho2 hl2 hc2 hm2 ha2
    generalize hdn : body.length = dn at *
    have HDN := Lib.hid hdn
    clear hdn
    go_wp2_with fail
    refine (rfields_any ad2 dn cap2 body _ HL2.out HDN.out.symm HC2.out HBD.out HA2.out).mono ?_
    rintro e X3 ⟨rfl, hb3⟩
    have HX3 := Lib.hid ((HX2.out.below hb3 HS2.out).below (vl_box1 X3 (boxL (fldT body).1)) (Nat.lt_of_lt_of_le HS2.out hb3.size))
    have HB3 := Lib.hid ((HB2.out.trans (hb3.mono (Nat.le_of_lt HS2.out))).alloc (Nat.le_of_lt (Nat.lt_of_lt_of_le HS2.out hb3.size)) (boxL (fldT body).1))
    have HS3 := Lib.hid (show w.heap.size < (X3.alloc (boxL (fldT body).1)).heap.size by have := HS2.out; have := hb3.size; simp; omega)
    have HK3 := Lib.hid ((HK2.out.below hb3).below (vl_box1 X3 (boxL (fldT body).1)))
    have HQ3 := Lib.hid (LbRow.new X3 (fldT body).1)
    have HV := Lib.hid (@fldT_vld body)
    have HFT := Lib.hid (@fldT_fit body)
    clear hb3 HX2 HB2 HS2 HK2 HL2 HC2 HA2
    rcases hfl : fldT body with ⟨z, e2⟩
    rw [hfl] at HX3 HB3 HS3 HK3 HQ3 HV HFT PF
    replace PE := Lib.hid (fun h : e2 = 0 => PE.out z (by rw [hfl, h]))
    clear hfl
    dsimp only at HX3 HB3 HS3 HK3 HQ3 HV HFT PF ⊢
    by_cases he2 : e2 = 0
    rotate_left
    · have HR := Lib.hid (PF.out he2)
      have k1 : (e2 != 0) = true := by simpa using he2
      clear he2 PF PE HV HQ3
      go_wp2_with (with_reducible refine wpList_store_lb rfl (.tmp 2) (.tmp 47) rfl w.heap.size rfl .zero .zero rfl HX3.out ?_)
      refine post_cell3 (cs := lbC .zero) (x := .int .i64 0) (y := .int .i64 e2) rfl rfl (HX3.out.put .zero).row Tryd.underlying23 rfl infoLb rfl rfl rfl ?_
      exact retL3 HR.out (below_set HB3.out (Nat.le_refl _) _)
    subst he2
    replace PE := Lib.hid (PE.out rfl)
    have HBR := Lib.hid (show blkR z = (blkT z, 0) by unfold blkR; rw [HV.out rfl]; rfl)
    clear PF HV
    obtain ⟨-, c0, c1, c2, c3⟩ := HQ3.out.at_
    go_wp2_with fail
    have hq4 : X3.heap.size < (X3.alloc (boxL z)).heap.size := by simp
    generalize World.alloc X3 _ = X4 at *
    generalize X3.heap.size = g4 at *
    refine (rblocksT_any z _ HFT.out).mono ?_
    rintro e X5 ⟨v5, rfl, hk5, hb5⟩
    rw [HBR.out] at hk5 ⊢
    dsimp only at hk5 ⊢
    obtain ⟨ad5, cap5, rfl, hx5, hc5, -, ha5, -⟩ := hk5.read
    have HX5 := Lib.hid (HX3.out.below hb5 HS3.out)
    have HB5 := Lib.hid (HB3.out.trans (hb5.mono (Nat.le_of_lt HS3.out)))
    have HS5 := Lib.hid (Nat.lt_of_lt_of_le HS3.out hb5.size)
    have HK5 := Lib.hid (HK3.out.below hb5)
    have HQ5 := Lib.hid (HQ3.out.below hb5 hq4)
    have HW5 := Lib.hid hx5.ki
    have hm1 : 1 ≤ (blkT z).length := by rw [blkT_length]; omega
    clear hk5 hb5 hx5 HX3 HB3 HS3 HK3 HQ3 hc5 ha5 c0 c1 c2 c3 hq4 HBR
    generalize blkT z = want at *
    generalize hmm : want.length = m at *
    have HMM := Lib.hid hmm
    clear hmm
    by_cases hnm : n < m
    · have HR := Lib.hid (PE.out.trans (if_neg (fun h => by have := congrArg List.length h; rw [List.length_take] at this; have := HN.out; have := HMM.out; omega)))
      clear PE
      go_wp2_with (with_reducible refine wpList_store_lb rfl (.tmp 2) (.tmp 68) rfl w.heap.size rfl .zero .zero rfl HX5.out ?_)
      refine post_cell3 (cs := lbC .zero) (x := .int .i64 0) (y := .int .i64 24) rfl rfl (HX5.out.put .zero).row Tryd.underlying23 rfl infoLb rfl rfl rfl ?_
      exact retL3 HR.out (below_set HB5.out (Nat.le_refl _) _)
    obtain ⟨b, off, rfl⟩ : ∃ b off, ad = some ⟨b, off, none⟩ := by
      obtain ⟨E, h1, h2, -⟩ := HL.out
      rcases h2 with h0 | ⟨b, off, e, _⟩
      · have hz : E = [] := List.eq_nil_of_length_eq_zero (by have := cellsB_length E; rw [h0] at this; simp at this; omega)
        subst hz
        have := HN.out
        rw [← h1] at this
        simp at this
        omega
      · exact ⟨b, off, e⟩
    have HSM : Hid (∀ W, Below X5.heap.size X5 W → Calls Tryd.prog 11 #[.slice (some ⟨b, off, none⟩) m cap, .slice ad5 m cap5] W fun e w' => e = .returned (.bool (eqK (l.take m) want)) ∧ Below W.heap.size W w') :=
      Lib.hid fun W hW => rsamel_any _ _ _ _ _ _ _ _ W ((HK5.out.below hW).front m) (HW5.out.below hW) (by rw [List.length_take]; have := HN.out; omega) HMM.out.symm (by omega)
    have hmc : m ≤ cap := by omega
    by_cases heq : l.take m = want
    · have HR := Lib.hid (PE.out.trans (if_pos heq))
      rw [eqK_yes heq] at HSM
      clear PE heq
      go_wp2_with fail
      refine (HSM.out _ (Below.refl _ _)).mono ?_
      rintro e X6 ⟨rfl, hb6⟩
      have HX6 := Lib.hid (HX5.out.below hb6 HS5.out)
      have HB6 := Lib.hid (HB5.out.trans (hb6.mono (Nat.le_of_lt HS5.out)))
      obtain ⟨-, c0, c1, c2, c3⟩ := (HQ5.out.below hb6 HQ5.out.at_.lt).at_
      clear hb6
      go_wp2_with (with_reducible refine wpList_store_lb rfl (.tmp 2) (.tmp 69) rfl w.heap.size rfl z .zero rfl HX6.out ?_)
      refine post_cell3 (cs := lbC z) (x := .int .i64 m) (y := .int .i64 0) rfl rfl (HX6.out.put z).row Tryd.underlying23 rfl infoLb rfl rfl rfl ?_
      exact retL3 HR.out (below_set HB6.out (Nat.le_refl _) _)
    · have HR := Lib.hid (PE.out.trans (if_neg heq))
      rw [eqK_no heq] at HSM
      clear PE heq
      go_wp2_with fail
      refine (HSM.out _ (Below.refl _ _)).mono ?_
      rintro e X6 ⟨rfl, hb6⟩
      have HX6 := Lib.hid (HX5.out.below hb6 HS5.out)
      have HB6 := Lib.hid (HB5.out.trans (hb6.mono (Nat.le_of_lt HS5.out)))
      clear hb6
      go_wp2_with (with_reducible refine wpList_store_lb rfl (.tmp 2) (.tmp 68) rfl w.heap.size rfl .zero .zero rfl HX6.out ?_)
      refine post_cell3 (cs := lbC .zero) (x := .int .i64 0) (y := .int .i64 24) rfl rfl (HX6.out.put .zero).row Tryd.underlying23 rfl infoLb rfl rfl rfl ?_
      exact retL3 HR.out (below_set HB6.out (Nat.le_refl _) _)
end Go.Proofs.YtjmlidejbddoeaaDoor
namespace Go.Proofs.YtjmlidejbddoeaaDoor
open Go.RowKit
set_option linter.unusedVariables false
def feB (l : List Blk) : Bool := decide (l.length ≤ 60) && l.all fun b => decide (b.d.length ≤ 200)
theorem feB_iff {l : List Blk} : feB l = true ↔ l.length ≤ 60 ∧ ∀ b ∈ l, b.d.length ≤ 200 := by
  unfold feB
  rw [Bool.and_eq_true, decide_eq_true_iff, List.all_eq_true]
  simp only [decide_eq_true_eq]
theorem feB_no {l : List Blk} {i : Nat} (h : i < l.length) (h2 : 200 < l[i].d.length) : feB l = false := by
  cases hl : feB l with
  | false => rfl
  | true => have := (feB_iff.1 hl).2 _ (List.getElem_mem h); omega
theorem feB_long {l : List Blk} (h : 60 < l.length) : feB l = false := by
  cases hl : feB l with
  | false => rfl
  | true => have := (feB_iff.1 hl).1; omega
attribute [local irreducible] feB
set_option maxRecDepth 100000 in
set_option maxHeartbeats 1000000 in
theorem fewl_any (ad : Option Addr) (n cap : Nat) (l : List Blk) (w : World) (hl : Ki w ad l) (hn : n = l.length) :
    Calls Tryd.prog 16 #[.slice ad n cap] w fun e w' => e = .returned (.bool (feB l)) ∧ Below w.heap.size w w' := by
  have HL := Lib.hid hl
  have HN := Lib.hid hn
  have HNO := Lib.hid (fun i (h : i < l.length) => @feB_no l i h)
  have HLG := Lib.hid (@feB_long l)
  have HY := Lib.hid (@feB_iff l)
  clear hl hn
  by_cases h3 : 60 < n
  · have HF := Lib.hid (HLG.out (by rw [← HN.out]; exact h3))
    go_enter Tryd.func16, Tryd.ntmps16
    go_wp2
    go_ret
    exact ⟨by rw [HF.out]; rfl, Below.refl _ _⟩
  go_enter Tryd.func16, Tryd.ntmps16
  go_wp2
  go_loopg [3] n (fun gk vk wx => ∃ k : Nat, vk = .int .i64 k ∧ k + gk = n ∧ wx = w ∧ Hid (∀ j (h : j < l.length), j < k → l[j].d.length ≤ 200))
  case atStart => exact ⟨0, rfl, by omega, rfl, Lib.hid fun j _ hj => by omega⟩
  case round =>
    obtain ⟨k, rfl, hk, rfl, hall⟩ := hrel
    cases gk with
    | zero =>
      obtain rfl : k = n := by omega
      have HF := Lib.hid (HY.out.2 ⟨by rw [← HN.out]; omega, fun b hb => by
        obtain ⟨j, hj, rfl⟩ := List.getElem_of_mem hb
        exact hall.out j hj (by rw [HN.out]; exact hj)⟩)
      go_wp2
      go_ret
      exact ⟨by rw [HF.out]; rfl, Below.refl _ _⟩
    | succ gk0 =>
      have hkn : k < n := by omega
      have hkl : k < l.length := by rw [← HN.out]; exact hkn
      obtain ⟨b, off, ad', cap', rfl, hlt, q0, q1, q2, qr⟩ := HL.out.get hkl
      clear qr q0 q1
      have HNX : l[k].d.length ≤ 200 → Hid (∀ j (h : j < l.length), j < k + 1 → l[j].d.length ≤ 200) := fun hc => Lib.hid fun j h hj => by
        rcases Nat.lt_or_ge j k with h3 | h3
        · exact hall.out j h h3
        · obtain rfl : j = k := by omega
          exact hc
      have HN2 : 200 < l[k].d.length → Hid (feB l = false) := fun hc => Lib.hid (HNO.out k hkl hc)
      generalize l[k].d.length = xn at *
      clear hkl
      by_cases hx : 200 < xn
      · have HR := HN2 hx
        clear HNX HN2
        go_wp2
        go_ret
        exact ⟨by rw [HR.out]; rfl, Below.refl _ _⟩
      · have HR := HNX (by omega)
        clear HNX HN2
        go_wp2
        go_roundg gk0
        case rel => exact ⟨k + 1, by go_num, by omega, rfl, HR⟩
        case measure => omega
end Go.Proofs.YtjmlidejbddoeaaDoor
namespace Go.Proofs.YtjmlidejbddoeaaDoor
open Go.RowKit
set_option linter.unusedVariables false
theorem heap_newC (w : World) (o : Obj) : (w.alloc o).heap[w.heap.size]? = some o := heap_alloc_new w o
/-- an empty list of bytes of the call's own, in the newest cells -/
theorem Own.empty (w : World) (g : Nat) (hg : g = w.heap.size) (B : Nat) (hB : B ≤ g) : Own (w.alloc (.cells #[] 5)) B (.slice (some ⟨g, 0, none⟩) 0 0) [] := by
  subst hg
  exact ⟨rfl, .inr ⟨w.heap.size, 0, #[], rfl, hB, heap_alloc_new w _, Nat.le_refl _, by unfold maxLen; omega, rfl, rfl⟩⟩
theorem LieX.far {w : World} {C : Nat} {x : Option Nat} {ad : Option Addr} {l : List UInt8} (h : LieX w C x ad l) (p : Addr) (hp : p.block < C) (v : Value) : LieX (w.setCell p v) C x ad l := by
  rcases h with h0 | ⟨b, off, e, h3, h4, h5, h6⟩
  · exact .inl h0
  · exact .inr ⟨b, off, e, h3, by simpa using h4, h5, fun j hj => by rw [World.cell?_setCell_far _ _ _ _ (by show p.block ≠ b; omega)]; exact h6 j hj⟩
/-- behind the copy of a block's bytes -/
theorem copy_step {w wr w1 : World} {u3 v1 : Value} {lk : List Blk} {xm xb : Bool} {sl : Value} {xd : List UInt8} (hB : Below w.heap.size w wr) (hK : Kq wr w.heap.size w.heap.size u3 lk)
    (hg : ((wr.alloc (.cells #[.bool xm, .bool xb, sl] 39)).alloc (.cells #[] 5)).grownBy w1 (some (wr.heap.size + 1))) (ho : Own w1 (wr.heap.size + 1) v1 xd) :
    ∃ ad1 cap1, v1 = .slice ad1 xd.length cap1 ∧ w1.cell? ⟨wr.heap.size, 0, none⟩ = some (.bool xm) ∧ w1.cell? ⟨wr.heap.size, 1, none⟩ = some (.bool xb) ∧ w1.cell? ⟨wr.heap.size, 2, none⟩ = some sl ∧ w1.frozen? ⟨wr.heap.size, 2, none⟩ = false ∧ wr.heap.size < w1.heap.size ∧
      Hid (Kq ((w1.setCell ⟨wr.heap.size, 2, none⟩ (.slice ad1 xd.length cap1)).alloc (.cells #[.bool xm, .bool xb, .slice ad1 xd.length cap1] 39)) w.heap.size w.heap.size u3 lk) ∧
      Hid (Kx ((w1.setCell ⟨wr.heap.size, 2, none⟩ (.slice ad1 xd.length cap1)).alloc (.cells #[.bool xm, .bool xb, .slice ad1 xd.length cap1] 39)) (wr.heap.size + 1) u3.ownBlock (some ⟨w1.heap.size, 0, none⟩) [⟨xm, xb, xd⟩]) ∧
      Hid (Below w.heap.size w ((w1.setCell ⟨wr.heap.size, 2, none⟩ (.slice ad1 xd.length cap1)).alloc (.cells #[.bool xm, .bool xb, .slice ad1 xd.length cap1] 39))) := by
  obtain ⟨ad1, cap1, rfl, hx, h1, h2, h3⟩ := LieX.of_own (x := u3.ownBlock) ho (fun g hg => by have := (hK.lt g hg).2; omega)
  have hsz : wr.heap.size + 2 ≤ w1.heap.size := by have := hg.size; simpa using this
  have hrow : w1.heap[wr.heap.size]? = some (.cells #[.bool xm, .bool xb, sl] 39 (0, 0)) := by
    rw [hg.block wr.heap.size (by simp; omega) (by intro e; have := Option.some.inj e; omega), Below.heap_alloc _ _ _ (by simp)]
    exact heap_alloc_new wr _
  have hb1 : Below wr.heap.size wr w1 := (below_box2 wr _ _).grown hg (by simp; omega) (fun k hk => by have := Option.some.inj hk; omega)
  have hb2 : Below wr.heap.size wr (w1.setCell ⟨wr.heap.size, 2, none⟩ (.slice ad1 xd.length cap1)) := hb1.setCell (Nat.le_refl _) _
  have hsz2 : (w1.setCell ⟨wr.heap.size, 2, none⟩ (.slice ad1 xd.length cap1)).heap.size = w1.heap.size := by simp [World.setCell]
  have hb3 := hb2.alloc (by rw [hsz2]; omega) (.cells #[.bool xm, .bool xb, .slice ad1 xd.length cap1] 39)
  refine ⟨ad1, cap1, rfl, ?_, ?_, ?_, by simp [World.frozen?, hrow], by omega, Lib.hid (hK.below hb3), Lib.hid ?_, Lib.hid (hB.trans (hb3.mono hB.size))⟩
  · rw [cell_of_row w1 wr.heap.size 0 _ _ (0, 0) hrow]; rfl
  · rw [cell_of_row w1 wr.heap.size 1 _ _ (0, 0) hrow]; rfl
  · rw [cell_of_row w1 wr.heap.size 2 _ _ (0, 0) hrow]; rfl
  · exact Kx.one xm xb ad1 xd cap1 (hx.far _ (by show wr.heap.size < wr.heap.size + 1; omega) _) h1 h2 h3 _ hsz2.symm
end Go.Proofs.YtjmlidejbddoeaaDoor
namespace Go.Proofs.YtjmlidejbddoeaaDoor
open Go.RowKit
set_option linter.unusedVariables false
theorem wp_append_bu {w : World} {o : Oper} {a : Act} {K : Act → World → Prop} {Q : Exit → Act → World → Prop} (s x : Operand)
    (ho : o.op = .call { callee := .builtin .append, args := #[s, x], argTypes := #[36, 36] })
    (B : Nat) (v : Value) (ys : List UInt8) (hs : a.eval s = v) (hown : Own w B v ys) (ad : Option Addr) (n cap : Nat) (xs : List UInt8) (hcap : ad = none → cap = 0) (hl : Lie w ad xs) (hn : n = xs.length) (hx : a.eval x = .slice ad n cap) (hlen : ys.length + n ≤ 10000000) (hbase : B ≤ w.heap.size)
    (h : ∀ v' w', Own w' B v' (ys ++ xs) → w.grownBy w' v.ownBlock → K (a.put o.dst v') w') : Oper.wp Tryd.prog o a w K Q := by
  subst hn
  obtain ⟨i, hi, hz0, hz1, hz2⟩ := info_u
  cases ad with
  | none =>
    obtain rfl := hcap rfl
    have hxs : xs = [] := by
      rcases hl.at_ with h0 | ⟨b', off', h0, _, _⟩
      · exact h0
      · cases h0
    subst hxs
    have hrun := run_append_owned_none (P := Tryd.prog) (w := w) B 36 o.type 5 i 1 Tryd.underlying36 hi v ys.length (cellsU ys) hown.row
    unfold Oper.wp execOp
    simp only [List.length_nil] at hx
    simp only [ho, resolve, invoke, builtin, Sem.run_bind, Sem.run_pure, Result.andThen_ok, List.map_toArray, List.map_cons, List.map_nil, hs, hx, hrun]
    exact h v w (by rw [List.append_nil]; exact hown) ⟨rfl, rfl, rfl, Nat.le_refl _, fun _ _ _ => rfl⟩
  | some a0 =>
    have hnews : ∀ j u, (cellsU xs)[j]? = some u → w.cell? (a0.add j) = some u := by
      intro j u hu
      have hj : j < xs.length := by
        have := (List.getElem?_eq_some_iff.1 hu).1
        rwa [cellsU_length] at this
      rcases hl.at_ with h0 | ⟨b', off', h0, _, hc⟩
      · subst h0; simp at hj
      · cases h0
        rw [Go.WideShapes.add_plain, hc j hj]
        rw [cellsU_get xs j hj] at hu
        exact hu
    obtain ⟨v', w', hr, h2, h3, h4, h5⟩ := run_append_own_at (P := Tryd.prog) w B 36 o.type 5 i (.int .u8 0) 1 1 Tryd.underlying36 hi hz0 hz1 hz2 rfl (by decide) v ys.length (cellsU ys) hown.row a0 xs.length cap (cellsU xs) (by rw [cellsU_length, Nat.mul_one]) hnews (cellsU_one _) (by unfold maxLen; omega) (by omega) hbase
    unfold Oper.wp execOp
    simp only [ho, resolve, invoke, builtin, Sem.run_bind, Sem.run_pure, Result.andThen_ok, List.map_toArray, List.map_cons, List.map_nil, hs, hx, hr]
    refine h v' w' ?_ h3
    unfold Own
    rw [cellsU_append] at h2
    rw [List.length_append]
    exact h2
theorem wp_append_bk {w : World} {o : Oper} {a : Act} {K : Act → World → Prop} {Q : Exit → Act → World → Prop} (s x : Operand)
    (ho : o.op = .call { callee := .builtin .append, args := #[s, x], argTypes := #[25, 25] })
    (B C C2 C' : Nat) (v : Value) (l : List Blk) (hs : a.eval s = v) (hown : Kq w B C v l) (ad : Addr) (n cap : Nat) (z : List Blk) (hz : Kx w C2 v.ownBlock (some ad) z) (hn : n = z.length) (hx : a.eval x = .slice (some ad) n cap) (hlen : l.length + n ≤ 100000) (hbase : B ≤ w.heap.size) (hC : C' ≤ C) (hC2 : C' ≤ C2)
    (h : ∀ v' w', Kq w' B C' v' (l ++ z) → w.grownBy w' v.ownBlock → (v'.ownBlock = v.ownBlock ∨ v'.ownBlock = some w.heap.size) → K (a.put o.dst v') w') : Oper.wp Tryd.prog o a w K Q := by
  subst hn
  obtain ⟨i, hi, hz0, hz1, hz2⟩ := info_b
  obtain ⟨E, rfl, h1, h2⟩ := hown
  obtain ⟨F, rfl, h3, h4⟩ := hz
  have hnews : ∀ j u, (cellsB F)[j]? = some u → w.cell? (ad.add j) = some u := by
    rcases h3 with h0 | ⟨b, off, e, _, hc⟩
    · rw [h0]; intro j u hu; simp at hu
    · cases e
      intro j u hu
      rw [Go.WideShapes.add_plain]
      exact hc j u hu
  simp only [List.length_map] at hlen hx
  obtain ⟨v', w', hr, h5, h6, _, hat⟩ := run_append_own_at (P := Tryd.prog) w B 25 o.type 39 i (.agg #[.bool false, .bool false, .slice none 0 0]) 3 32 Tryd.underlying25 hi hz0 hz1 hz2 rfl (by decide) v _ (cellsB E) h1 ad F.length cap (cellsB F) (cellsB_length F) hnews (cellsB_one F) (by simp only [List.length_map]; unfold maxLen; omega) (by simp only [List.length_map]; omega) hbase
  unfold Oper.wp execOp
  simp only [ho, resolve, invoke, builtin, Sem.run_bind, Sem.run_pure, Result.andThen_ok, List.map_toArray, List.map_cons, List.map_nil, hs, hx, hr]
  refine h v' w' ⟨E ++ F, by rw [List.map_append], ?_, fun k hk => ?_⟩ h6 hat
  · rw [List.length_append, List.length_map, List.length_map, cellsB_append]
    rw [List.length_map] at h5
    exact h5
  · rcases List.mem_append.1 hk with hk | hk
    · exact ((h2 k hk).grown h6 hat).mono hC
    · exact ((h4 k hk).grown h6 hat).mono hC2
end Go.Proofs.YtjmlidejbddoeaaDoor
namespace Go.Proofs.YtjmlidejbddoeaaDoor
open Go.RowKit
set_option linter.unusedVariables false
set_option linter.unusedSimpArgs false
set_option maxRecDepth 100000 in
set_option maxHeartbeats 4000000 in
theorem rcopiedl_any (ad : Option Addr) (n cap : Nat) (l : List Blk) (w : World) (hl : Ki w ad l) (hn : n = l.length) (hs : n ≤ 20000) (hd : ∀ b ∈ l, b.d.length ≤ 10000) :
    Calls Tryd.prog 21 #[.slice ad n cap] w (GivesK w l) := by
  have HN := Lib.hid hn
  have HL := Lib.hid hl
  have HD := Lib.hid hd
  clear hn hl hd
  go_enter Tryd.func21, Tryd.ntmps21
  go_wp2
  go_loopg [3, 4] n (fun gk v3 vk wx => ∃ k : Nat, k + gk = n ∧ vk = .int .i64 k ∧ Hid (Kq wx w.heap.size w.heap.size v3 (l.take k)) ∧ Hid (Below w.heap.size w wx))
  case atStart => exact ⟨0, by omega, rfl, Lib.hid (by rw [List.take_zero]; exact Kq.made0 _ _ _ _ rfl (Nat.le_refl _)), Lib.hid ((Below.refl _ _).alloc (Nat.le_refl _) _)⟩
  case round =>
    obtain ⟨k, hk, rfl, hK, hB⟩ := hrel
    cases gk with
    | zero =>
      obtain rfl : k = n := by omega
      have HT := Lib.hid (show l.take k = l from List.take_of_length_le (by have := HN.out; omega))
      go_wp2
      go_ret
      exact ⟨_, rfl, by rw [← HT.out]; exact hK.out, hB.out⟩
    | succ gk0 =>
      have hkM : k < n := by omega
      have hkl : k < l.length := by rw [← HN.out]; exact hkM
      obtain ⟨b, off, ad', cap', hadr, hlt, q0, q1, q2, hq, hq2, hq3, hq4⟩ := (HL.out.below hB.out).get hkl
      have hbw : b < w.heap.size := by
        obtain ⟨b2, _, _, _, e2, h2, _⟩ := HL.out.get hkl
        rw [hadr] at e2
        cases e2
        exact h2
      subst hadr
      have hdl : l[k].d.length ≤ 10000 := HD.out _ (List.getElem_mem hkl)
      have HNX := Lib.hid (show l.take (k + 1) = l.take k ++ [⟨l[k].m, l[k].bad, l[k].d⟩] by rw [List.take_succ_eq_append_getElem hkl])
      generalize l[k].m = xm at *
      generalize l[k].bad = xb at *
      generalize l[k].d = xd at *
      have HLI := Lib.hid hq
      have HQN := Lib.hid hq4
      have HQ := Lib.hid (show wr.cell? ⟨b, off + k * 3, none⟩ = some (.bool xm) ∧ wr.cell? ⟨b, off + k * 3 + 1, none⟩ = some (.bool xb) ∧ wr.cell? ⟨b, off + k * 3 + 2, none⟩ = some (.slice ad' xd.length cap') ∧ b < w.heap.size from ⟨q0, q1, q2, hbw⟩)
      have HSW := Lib.hid (show w.heap.size ≤ wr.heap.size from hB.out.size)
      have HLT := Lib.hid hK.out.lt
      have hlen2 : (l.take k).length + 1 ≤ 100000 := by rw [List.length_take]; omega
      clear hq hq2 hq3 hq4 q0 q1 q2 hkl
      go_wp2_with fail
      have HBX := Lib.hid (Below.refl w.heap.size wr).drew
      refine wp_region_noPanic ?_
      refine wp_region_held_drew (S := fun X => Below w.heap.size wr X) (by kernel_rfl) (HBX.out) (fun hS0 => ?_)
      refine held_take (i := 0) (v := ?_) rfl (by kernel_rfl) (by kernel_rfl) (by kernel_rfl) (fun _ _ _ h => h) (by rfl) ?_ (by assumption) ?_
      rotate_left
      · intro X hSX
        try dsimp only at hSX
        go_simp <;> with_reducible rfl
      simp only [Act.put, List.setIfInBounds_toArray, List.set_cons_zero, List.set_cons_succ]
      refine held_take (i := 1) (v := ?_) rfl (by kernel_rfl) (by kernel_rfl) (by kernel_rfl) (fun _ _ _ h => h) (by rfl) ?_ (by assumption) ?_
      rotate_left
      · intro X hSX
        try dsimp only at hSX
        go_simp <;> with_reducible rfl
      simp only [Act.put, List.setIfInBounds_toArray, List.set_cons_zero, List.set_cons_succ]
      refine held_take (i := 2) (v := ?_) rfl (by kernel_rfl) (by kernel_rfl) (by kernel_rfl) (fun _ _ _ h => h) (by rfl) ?_ (by assumption) ?_
      rotate_left
      · intro X hSX
        try dsimp only at hSX
        go_simp <;> with_reducible rfl
      simp only [Act.put, List.setIfInBounds_toArray, List.set_cons_zero, List.set_cons_succ]
      refine held_take (i := 3) (v := ?_) rfl (by kernel_rfl) (by kernel_rfl) (by kernel_rfl) (fun _ _ _ h => h) (by rfl) ?_ (by assumption) ?_
      rotate_left
      · intro X hSX
        try dsimp only at hSX
        go_simp <;> with_reducible rfl
      simp only [Act.put, List.setIfInBounds_toArray, List.set_cons_zero, List.set_cons_succ]
      refine held_take (i := 4) (v := ?_) rfl (by kernel_rfl) (by kernel_rfl) (by kernel_rfl) (fun _ _ _ h => h) (by rfl) ?_ (by assumption) ?_
      rotate_left
      · intro X hSX
        try dsimp only at hSX
        go_simp <;> with_reducible rfl
      simp only [Act.put, List.setIfInBounds_toArray, List.set_cons_zero, List.set_cons_succ]
      refine held_take (i := 5) (v := ?_) rfl (by kernel_rfl) (by kernel_rfl) (by kernel_rfl) (fun _ _ _ h => h) (by rfl) ?_ (by assumption) ?_
      rotate_left
      · intro X hSX
        try dsimp only at hSX
        have q0 := (hSX.cell (p := ⟨b, off + k * 3, none⟩) HQ.out.2.2.2).trans HQ.out.1
        go_simp <;> with_reducible rfl
      simp only [Act.put, List.setIfInBounds_toArray, List.set_cons_zero, List.set_cons_succ]
      refine held_take (i := 6) (v := ?_) rfl (by kernel_rfl) (by kernel_rfl) (by kernel_rfl) (fun _ _ _ h => h) (by rfl) ?_ (by assumption) ?_
      rotate_left
      · intro X hSX
        try dsimp only at hSX
        go_simp <;> with_reducible rfl
      simp only [Act.put, List.setIfInBounds_toArray, List.set_cons_zero, List.set_cons_succ]
      refine held_take (i := 7) (v := ?_) rfl (by kernel_rfl) (by kernel_rfl) (by kernel_rfl) (fun _ _ _ h => h) (by rfl) ?_ (by assumption) ?_
      rotate_left
      · intro X hSX
        try dsimp only at hSX
        go_simp <;> with_reducible rfl
      simp only [Act.put, List.setIfInBounds_toArray, List.set_cons_zero, List.set_cons_succ]
      refine held_take (i := 8) (v := ?_) rfl (by kernel_rfl) (by kernel_rfl) (by kernel_rfl) (fun _ _ _ h => h) (by rfl) ?_ (by assumption) ?_
      rotate_left
      · intro X hSX
        try dsimp only at hSX
        go_simp <;> with_reducible rfl
      simp only [Act.put, List.setIfInBounds_toArray, List.set_cons_zero, List.set_cons_succ]
      refine held_take (i := 9) (v := ?_) rfl (by kernel_rfl) (by kernel_rfl) (by kernel_rfl) (fun _ _ _ h => h) (by rfl) ?_ (by assumption) ?_
      rotate_left
      · intro X hSX
        try dsimp only at hSX
        go_simp <;> with_reducible rfl
      simp only [Act.put, List.setIfInBounds_toArray, List.set_cons_zero, List.set_cons_succ]
      refine held_take (i := 10) (v := ?_) rfl (by kernel_rfl) (by kernel_rfl) (by kernel_rfl) (fun _ _ _ h => h) (by rfl) ?_ (by assumption) ?_
      rotate_left
      · intro X hSX
        try dsimp only at hSX
        have q1 := (hSX.cell (p := ⟨b, off + k * 3 + 1, none⟩) HQ.out.2.2.2).trans HQ.out.2.1
        go_simp <;> with_reducible rfl
      simp only [Act.put, List.setIfInBounds_toArray, List.set_cons_zero, List.set_cons_succ]
      refine held_take (i := 12) (v := ?_) rfl (by kernel_rfl) (by kernel_rfl) (by kernel_rfl) (fun _ _ _ h => h) (by rfl) ?_ (by assumption) ?_
      rotate_left
      · intro X hSX
        try dsimp only at hSX
        go_simp <;> with_reducible rfl
      simp only [Act.put, List.setIfInBounds_toArray, List.set_cons_zero, List.set_cons_succ]
      refine held_take (i := 13) (v := ?_) rfl (by kernel_rfl) (by kernel_rfl) (by kernel_rfl) (fun _ _ _ h => h) (by rfl) ?_ (by assumption) ?_
      rotate_left
      · intro X hSX
        try dsimp only at hSX
        go_simp <;> with_reducible rfl
      simp only [Act.put, List.setIfInBounds_toArray, List.set_cons_zero, List.set_cons_succ]
      refine held_take (i := 14) (v := ?_) rfl (by kernel_rfl) (by kernel_rfl) (by kernel_rfl) (fun _ _ _ h => h) (by rfl) ?_ (by assumption) ?_
      rotate_left
      · intro X hSX
        try dsimp only at hSX
        go_simp <;> with_reducible rfl
      simp only [Act.put, List.setIfInBounds_toArray, List.set_cons_zero, List.set_cons_succ]
      refine held_take (i := 15) (v := ?_) rfl (by kernel_rfl) (by kernel_rfl) (by kernel_rfl) (fun _ _ _ h => h) (by rfl) ?_ (by assumption) ?_
      rotate_left
      · intro X hSX
        try dsimp only at hSX
        go_simp <;> with_reducible rfl
      simp only [Act.put, List.setIfInBounds_toArray, List.set_cons_zero, List.set_cons_succ]
      refine held_take (i := 16) (v := ?_) rfl (by kernel_rfl) (by kernel_rfl) (by kernel_rfl) (fun _ _ _ h => h) (by rfl) ?_ (by assumption) ?_
      rotate_left
      · intro X hSX
        try dsimp only at hSX
        have q2 := (hSX.cell (p := ⟨b, off + k * 3 + 2, none⟩) HQ.out.2.2.2).trans HQ.out.2.2.1
        go_simp <;> with_reducible rfl
      simp only [Act.put, List.setIfInBounds_toArray, List.set_cons_zero, List.set_cons_succ]
      refine held_call (i := 11) rfl (by kernel_rfl) (by rfl) (fun K' hK' => ?_)
      go_simp
      have hb1 : Below wr.heap.size wr (wr.drew.alloc (.cells #[] 5)) := (Below.refl wr.heap.size wr).drew.alloc (by simp) _
      refine held_go hK' (hb1.mono HSW.out) ?_
      try simp only [Act.put, List.setIfInBounds_toArray, List.set_cons_zero, List.set_cons_succ]
      refine held_call (i := 17) rfl (by kernel_rfl) (by rfl) (fun K' hK' => ?_)
      refine wp_append_bu (.tmp 23) (.tmp 28) rfl wr.heap.size _ [] rfl (Own.empty wr.drew wr.heap.size rfl wr.heap.size (Nat.le_refl _)) ad' xd.length cap' xd HQN.out (HLI.out.below hb1 rfl) rfl rfl (by simp; omega) (by simp) ?_
      intro v1 w1 ho1 hg1
      rw [List.nil_append] at ho1
      obtain ⟨ad1, cap1, rfl, hx1, h11, h12, h13⟩ := LieX.of_own (x := u3.ownBlock) ho1 (fun g hg => (HLT.out g hg).2)
      have hb2 : Below wr.heap.size wr w1 := hb1.grown hg1 (by simp) (fun g hg => by have : wr.heap.size = g := Option.some.inj hg; omega)
      have hx1' := hx1
      have hS2 : Below w.heap.size wr w1 := hb2.mono HSW.out
      refine held_go hK' (hb2.mono HSW.out) ?_
      try simp only [Act.put, List.setIfInBounds_toArray, List.set_cons_zero, List.set_cons_succ]
      refine held_take (i := 18) (v := ?_) rfl (by kernel_rfl) (by kernel_rfl) (by kernel_rfl) (fun _ _ _ h => h) (by rfl) ?_ (by assumption) ?_
      rotate_left
      · intro X hSX
        try dsimp only at hSX
        go_simp <;> with_reducible rfl
      simp only [Act.put, List.setIfInBounds_toArray, List.set_cons_zero, List.set_cons_succ]
      refine held_call (i := 19) rfl (by kernel_rfl) (by rfl) (fun K' hK' => ?_)
      go_simp
      have hb3 : Below wr.heap.size wr (w1.alloc (.cells #[.bool xm, .bool xb, .slice ad1 xd.length cap1] 39)) := hb2.alloc hb2.size _
      refine held_go hK' (hb3.mono HSW.out) ?_
      try simp only [Act.put, List.setIfInBounds_toArray, List.set_cons_zero, List.set_cons_succ]
      refine held_call (i := 20) rfl (by kernel_rfl) (by rfl) (fun K' hK' => ?_)
      refine wp_append_bk (.tmp 12) (.tmp 31) rfl w.heap.size w.heap.size wr.heap.size w.heap.size u3 (l.take k) rfl (hK.out.below hb3) ⟨w1.heap.size, 0, none⟩ 1 1 [⟨xm, xb, xd⟩] (Kx.one xm xb ad1 xd cap1 hx1' h11 h12 h13 _ rfl) rfl rfl hlen2 (Nat.le_trans HSW.out hb3.size) (Nat.le_refl _) HSW.out ?_
      intro v5 w5 hk5 hg5 _
      have hb5 : Below w.heap.size wr w5 := (hb3.mono HSW.out).grown hg5 (Nat.le_trans HSW.out hb3.size) (fun g hg => (HLT.out g hg).1)
      refine held_go hK' (hb5) ?_
      try simp only [Act.put, List.setIfInBounds_toArray, List.set_cons_zero, List.set_cons_succ]
      refine held_take (i := 21) (v := ?_) rfl (by kernel_rfl) (by kernel_rfl) (by kernel_rfl) (fun _ _ _ h => h) (by rfl) ?_ (by assumption) ?_
      rotate_left
      · intro X hSX
        try dsimp only at hSX
        go_simp <;> with_reducible rfl
      simp only [Act.put, List.setIfInBounds_toArray, List.set_cons_zero, List.set_cons_succ]
      refine wpAnyH_done (by kernel_rfl) ?_ _
      refine NoPanic.normal ?_
      have HK5 := Lib.hid hk5
      have HB5 := Lib.hid (hB.out.trans hb5)
      clear hk5 hg5 hb5 hb3 hb2 hb1 ho1 hg1 hx1 hx1' HBX
      go_wp2
      go_roundg gk0
      case rel => exact ⟨k + 1, by omega, by go_num, by rw [HNX.out]; exact HK5, HB5⟩
      case measure => omega
end Go.Proofs.YtjmlidejbddoeaaDoor
