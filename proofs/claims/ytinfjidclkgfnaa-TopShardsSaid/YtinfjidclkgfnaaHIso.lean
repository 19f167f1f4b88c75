/-
  A row multiplied so that its element in a column becomes 1, and its multiples added to all other rows.
-/
import Derived.Test.YtinfjidclkgfnaaHPivot
import Derived.Test.YtinfjidclkgfnaaKIso
import Derived.Test.YtinfjidclkgfnaaQField
import Derived.Test.YtinfjidclkgfnaaQScale
import Derived.Deep.DeepCutAuto
import Derived.Deep.RegionWith
import Derived.Deep.LoopGhost
namespace Go.Proofs.Ytinfjidclkgfnaa
open Go.RowKit
/-- what it leaves -/
def IsoP (w : World) (B g r L : Nat) (M : Nat → Nat → UInt8) (e : Ending) (w' : World) : Prop := e = .returned (.tuple #[]) ∧ Out w' B g r w'.heap.size (matL r L M) ∧ Below B w w'
attribute [local irreducible] matL rowF sc isoN divR
set_option maxRecDepth 100000 in
set_option maxHeartbeats 1000000 in
theorem isolate_any (B g D r L R c : Nat) (M : Nat → Nat → UInt8) (w : World) (hO : Out w B g r D (matL r L M)) (hr : r ≤ 1000) (hL : L ≤ 1000) (hW : c < L) (hR : R < r) :
    Calls Try.prog 66 #[.slice (some ⟨g, 0, none⟩) r r, .int .i64 R, .int .i64 c] w (IsoP w B g r L (isoN R c r M)) := by
  have HO := Lib.hid hO
  clear hO
  have hmk : ∃ mk : Array Value, (∀ w, (Instr.makeSlice 33 (.int .i64 (L : Int)) (.int .i64 (L : Int))).run Try.prog w = .ok (.slice (some ⟨w.heap.size, 0, none⟩) L L) (w.alloc (.cells mk 5))) ∧ Hid (mk = (cellsU (List.replicate L 0)).toArray) := by
    obtain ⟨i, hi, hz0, hz1, hz2⟩ := info_u
    refine ⟨madeCells (Value.int .u8 0).cells (L * 1), fun w => ?_, ?_⟩
    · have := run_make (P := Try.prog) w 33 5 i (.int .u8 0) Try.underlying33 hi hz0 .i64 .i64 L L (by omega) (Int.le_refl _) (by rw [hz2]; omega) (by omega)
      rw [hz1, Int.toNat_natCast] at this
      exact this
    · refine Lib.hid ?_
      rw [← made_eq]
  obtain ⟨mk, hmk, HMK⟩ := hmk
  obtain ⟨b, off, cap, f1, f2, -, g1, g2⟩ := HO.out.elem R c hR hW
  unfold maxLen at g2
  have hcL : (c : Int) < (L : Int) := by omega
  have hRr : (R : Int) < (r : Int) := by omega
  go_enter Try.func66, Try.ntmps66
  go_wp2_with fail
  refine (inv_any _ _).mono ?_
  rintro e w1 ⟨rfl, hb1⟩
  have HO1 := Lib.hid (HO.out.below hb1)
  have HB1 : Hid (Below B w w1) := Lib.hid (hb1.mono (by have := HO.out.base; have := HO.out.lt; omega))
  clear f1 f2 hb1 g1 g2
  generalize nz (M R c) = NZ
  go_upto_region 1 with fail
  go_cut [33] (fun _ wx => Hid (Out wx B g r wx.heap.size (matL r L (divR R c M))) ∧ Hid (Below B w wx))
  case first =>
    obtain ⟨b, off, cap, f1, f2, hl, g1, g2⟩ := HO1.out.elem R c hR hW
    have HL := Lib.hid hl
    have f1a : ∀ o, (w1.alloc o).cell? ⟨g, R, none⟩ = some (.slice (some ⟨b, off, none⟩) L cap) := fun o => by
      rw [World.cell?_alloc_some _ _ _ (by rw [f1]; rfl)]; exact f1
    have HX : Hid (∀ w3 v, Below w1.heap.size w1 w3 → Own w3 w1.heap.size v (sc (List.replicate L 0) (rowF L (M R)) (invU (M R c))) → Out (w3.setCell ⟨g, R, none⟩ v) B g r (w3.setCell ⟨g, R, none⟩ v).heap.size (matL r L (divR R c M)) ∧ Below B w (w3.setCell ⟨g, R, none⟩ v)) := Lib.hid fun w3 v hb ho => by
      have h := (HO1.out.below hb).setOwn R (by rw [matL_length]; exact hR) v _ _ ho (by exact HO1.out.lt)
      rw [div_set] at h
      exact ⟨by simpa using h, (HB1.out.trans (hb.mono (by have := HO1.out.base; have := HO1.out.lt; omega))).setCell (p := ⟨g, R, none⟩) HO1.out.base v⟩
    have HZ : Hid (∀ w2, w2 = (w1.alloc (.cells mk 5)).drew → Lie w2 (some ⟨w1.heap.size, 0, none⟩) (List.replicate L 0) ∧ Lie w2 (some ⟨b, off, none⟩) (rowF L (M R)) ∧ Below w1.heap.size w1 w2) := Lib.hid fun w2 e => by
      subst e
      have hbb : Below w1.heap.size w1 (w1.alloc (.cells mk 5)).drew := ((Below.refl _ _).alloc (Nat.le_refl _) _).drew
      refine ⟨?_, (HL.out.lie HO1.out.leD).below hbb rfl, hbb⟩
      rw [HMK.out]
      have hR0 : Rowu (w1.alloc (.cells (cellsU (List.replicate L 0)).toArray 5)) w1.heap.size (List.replicate L 0) := heap_alloc_last _ _
      exact hR0.lie.drew
    clear hl
    go_region_with (first
      | (go_at_call 61; obtain ⟨z1, z2, z3⟩ := HZ.out _ rfl; refine (scale_n _ _ L L L cap (List.replicate L 0) (rowF L (M R)) (invU (M R c)) _ (by simp) (by rw [rowF_length]) z1 (fun h => by cases h) (by omega) z2 (by omega)).mono ?_; rintro e w3 ⟨v, rfl, ho, hb⟩; have h3 : Below w1.heap.size w1 w3 := z3.trans (hb.mono z3.size); have hS := Lib.hid (HX.out w3 v h3 (ho.mono z3.size)); have hu : w3.cell? ⟨g, R, none⟩ = some (.slice (some ⟨b, off, none⟩) L cap) := (h3.cell (p := ⟨g, R, none⟩) HO1.out.lt).trans f1; have hz : w3.frozen? ⟨g, R, none⟩ = false := (HO1.out.below h3).frozen R; obtain ⟨ad', cap', rfl, -⟩ := ho.slice; clear ho hb h3 z1 z2 z3))
    all_goals (go_wp2_with fail; go_meet; exact ⟨Lib.hid hS.out.1, Lib.hid hS.out.2⟩)
  case rest =>
    obtain ⟨hO2, hB2⟩ := hcut
    clear HO1 HB1 hmk HMK
    go_wp2_with fail
    go_loopg [37] r (fun gk vk wx => ∃ k : Nat, vk = .int .i64 k ∧ k + gk = r ∧ Hid (Out wx B g r wx.heap.size (matL r L (isoN R c k M))) ∧ Hid (Below B w wx))
    case atStart => exact ⟨0, rfl, by omega, by rw [isoN_zero]; exact hO2, hB2⟩
    case round =>
      obtain ⟨k, rfl, hk, hO, hB⟩ := hrel
      cases gk with
      | zero =>
        have hlt : ¬ (k : Int) < (r : Int) := by omega
        obtain rfl : k = r := by omega
        go_wp2
        first
          | go_end0
          | refine bodyPost_ret (results_none rfl _ _ _) rfl ?_
        exact ⟨rfl, hO.out, hB.out⟩
      | succ gk0 =>
        have hlt : (k : Int) < (r : Int) := by omega
        by_cases hkR : k = R
        · have hkR2 : (k : Int) = (R : Int) := by omega
          have HS := Lib.hid (isoN_skip R c M)
          go_wp2
          go_roundg gk0
          case rel => exact ⟨k + 1, by go_num, by omega, by subst hkR; rw [HS.out]; exact hO, hB⟩
          case measure => omega
        · have hkR2 : ¬ (k : Int) = (R : Int) := by omega
          obtain ⟨b1, off1, cap1, f1, f2, hl1, g1, g2⟩ := hO.out.elem k c (by omega) hW
          obtain ⟨b2, off2, cap2, f3, -, hl2, g3, g4⟩ := hO.out.elem R c hR hW
          unfold maxLen at g2 g4
          have HL1 := Lib.hid (hl1.lie hO.out.leD)
          have HL2 := Lib.hid (hl2.lie hO.out.leD)
          have HX : Hid (∀ w3 v, Below wr.heap.size wr w3 → Own w3 wr.heap.size v (sc (rowF L (isoN R c k M k)) (rowF L (isoN R c k M R)) (isoN R c k M k c)) → Out (w3.setCell ⟨g, k, none⟩ v) B g r (w3.setCell ⟨g, k, none⟩ v).heap.size (matL r L (isoN R c (k + 1) M)) ∧ Below B w (w3.setCell ⟨g, k, none⟩ v)) := Lib.hid fun w3 v hb ho => by
            have h := (hO.out.below hb).setOwn k (by rw [matL_length]; omega) v _ _ ho (by exact hO.out.lt)
            rw [iso_set r L R c k M hkR] at h
            exact ⟨by simpa using h, (hB.out.trans (hb.mono (by have := hO.out.base; have := hO.out.lt; omega))).setCell (p := ⟨g, k, none⟩) hO.out.base v⟩
          generalize isoN R c k M k c = x at f2 HX
          clear hl1 hl2
          go_wp2_with fail
          go_region_with (first
            | (go_at_call 61; refine (scale_n _ _ L L cap1 cap2 (rowF L (isoN R c k M k)) (rowF L (isoN R c k M R)) x _ (by rw [rowF_length]) (by rw [rowF_length]) (by exact HL1.out.drew) (fun h => by cases h) (by omega) (by exact HL2.out.drew) (by omega)).mono ?_; rintro e w3 ⟨v, rfl, ho, hb⟩; have h3 : Below wr.heap.size wr w3 := (Below.refl _ _).drew.trans hb; have hS := Lib.hid (HX.out w3 v h3 ho); have hu : w3.cell? ⟨g, k, none⟩ = some (.slice (some ⟨b1, off1, none⟩) L cap1) := (h3.cell (p := ⟨g, k, none⟩) hO.out.lt).trans f1; have hz : w3.frozen? ⟨g, k, none⟩ = false := (hO.out.below h3).frozen k; obtain ⟨ad', cap', rfl, -⟩ := ho.slice; clear ho hb h3))
          all_goals (go_wp2; go_roundg gk0)
          all_goals first
            | (exact ⟨k + 1, by go_num, by omega, Lib.hid hS.out.1, Lib.hid hS.out.2⟩)
            | omega
end Go.Proofs.Ytinfjidclkgfnaa
