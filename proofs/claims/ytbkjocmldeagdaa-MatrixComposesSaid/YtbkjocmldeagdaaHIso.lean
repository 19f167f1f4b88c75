/-
  A row multiplied so that its element in a column becomes 1, and its multiples added to all other rows.
-/
import Derived.Test.YtbkjocmldeagdaaHPivot
import Derived.Test.YtbkjocmldeagdaaGPow
import Derived.Test.YtbkjocmldeagdaaGScale
import Derived.Deep.DeepCutAuto
import Derived.Deep.RegionWith
import Derived.Deep.LoopGhost
namespace Go.Proofs.Ytbkjocmldeagdaa
open Go.RowKit
/-- row R divided by its element in column c -/
def divR (R c : Nat) (M : Nat → Nat → UInt8) (i k : Nat) : UInt8 := if i = R then mulU (M R k) (invU (M R c)) else M i k
/-- .. and its multiples added to the rows before n -/
def isoN (R c n : Nat) (M : Nat → Nat → UInt8) (i k : Nat) : UInt8 := if i = R then mulU (M R k) (invU (M R c)) else if i < n then M i k ^^^ mulU (M i c) (mulU (M R k) (invU (M R c))) else M i k
theorem isoN_zero (R c : Nat) (M : Nat → Nat → UInt8) : isoN R c 0 M = divR R c M := by
  funext i k
  unfold isoN divR
  by_cases e : i = R
  · rw [if_pos e, if_pos e]
  · rw [if_neg e, if_neg e, if_neg (Nat.not_lt_zero _)]
theorem isoN_skip (R c : Nat) (M : Nat → Nat → UInt8) : isoN R c (R + 1) M = isoN R c R M := by
  funext i k
  unfold isoN
  by_cases e : i = R
  · rw [if_pos e, if_pos e]
  · rw [if_neg e, if_neg e]
    by_cases h : i < R
    · rw [if_pos (by omega), if_pos h]
    · rw [if_neg (by omega), if_neg h]
theorem sc_rowF (L : Nat) (f h : Nat → UInt8) (x : UInt8) : sc (rowF L f) (rowF L h) x = rowF L fun k => f k ^^^ mulU (h k) x := by
  have gen : ∀ l : List Nat, sc (l.map f) (l.map h) x = l.map fun k => f k ^^^ mulU (h k) x := fun l => by
    induction l with
    | nil => rfl
    | cons a l ih => simp only [List.map_cons, sc, ih]
  exact gen _
theorem zeros_rowF (L : Nat) : List.replicate L (0 : UInt8) = rowF L fun _ => 0 := by
  unfold rowF
  rw [List.map_const', List.length_range]
theorem matL_set (r L i : Nat) (M N : Nat → Nat → UInt8) (h : ∀ j, j < r → ∀ k, k < L → (j = i → N i k = N i k) ∧ (j ≠ i → N j k = M j k)) : (matL r L M).set i (rowF L (N i)) = matL r L N := by
  apply List.ext_getElem
  · simp [matL_length]
  · intro j h1 h2
    rw [List.getElem_set, matL_rowF]
    have hj : j < r := by rw [matL_length] at h2; exact h2
    by_cases e : i = j
    · subst e; rw [if_pos rfl, matL_rowF]
    · rw [if_neg e, matL_rowF]
      exact List.map_congr_left fun k hk => ((h j hj k (by simpa using hk)).2 (fun e' => e e'.symm)).symm
theorem div_set (r L R c : Nat) (M : Nat → Nat → UInt8) : (matL r L M).set R (sc (List.replicate L 0) (rowF L (M R)) (invU (M R c))) = matL r L (divR R c M) := by
  rw [zeros_rowF, sc_rowF, show (fun k => (0 : UInt8) ^^^ mulU (M R k) (invU (M R c))) = divR R c M R by
    funext k; unfold divR; rw [if_pos rfl, UInt8.zero_xor]]
  exact matL_set r L R M _ fun j _ k _ => ⟨fun _ => rfl, fun e => by unfold divR; rw [if_neg e]⟩
theorem iso_set (r L R c n : Nat) (M : Nat → Nat → UInt8) (hne : n ≠ R) : (matL r L (isoN R c n M)).set n (sc (rowF L (isoN R c n M n)) (rowF L (isoN R c n M R)) (isoN R c n M n c)) = matL r L (isoN R c (n + 1) M) := by
  rw [sc_rowF, show (fun k => isoN R c n M n k ^^^ mulU (isoN R c n M R k) (isoN R c n M n c)) = isoN R c (n + 1) M n by
    funext k; unfold isoN; rw [if_neg hne, if_neg (Nat.lt_irrefl _), if_pos rfl, if_neg hne, if_neg (Nat.lt_irrefl _), if_neg hne, if_pos (Nat.lt_succ_self _), mulU_comm (M n c)]]
  refine matL_set r L n _ _ fun j _ k _ => ⟨fun _ => rfl, fun e => ?_⟩
  unfold isoN
  by_cases e2 : j = R
  · rw [if_pos e2, if_pos e2]
  · rw [if_neg e2, if_neg e2]
    by_cases h : j < n
    · rw [if_pos h, if_pos (by omega)]
    · rw [if_neg h, if_neg (by omega)]

theorem scale_n (ad bd : Option Addr) (n m cap bc : Nat) (xs ys : List UInt8) (x : UInt8) (w : World) (hn : n = xs.length) (hm : m = ys.length) (hl : Lie w ad xs) (ha : ad = none → cap = 0) (hs : n ≤ 1000000) (hl2 : Lie w bd ys) (hs2 : m ≤ 1000000) :
    Calls Try.prog 27 #[.slice ad n cap, .slice bd m bc, .int .u8 (ev x)] w (GivesU w (sc xs ys x)) := by
  subst hn hm
  exact scale_any ad bd cap bc xs ys x w hl ha hs hl2 hs2
/-- what it leaves -/
def IsoP (w : World) (B g r L : Nat) (M : Nat → Nat → UInt8) (e : Ending) (w' : World) : Prop := e = .returned (.tuple #[]) ∧ Out w' B g r w'.heap.size (matL r L M) ∧ Below B w w'
attribute [local irreducible] matL rowF sc isoN divR
set_option maxRecDepth 100000 in
set_option maxHeartbeats 1000000 in
theorem isolate_any (B g D r L R c : Nat) (M : Nat → Nat → UInt8) (w : World) (hO : Out w B g r D (matL r L M)) (hr : r ≤ 1000) (hL : L ≤ 1000) (hW : c < L) (hR : R < r) :
    Calls Try.prog 42 #[.slice (some ⟨g, 0, none⟩) r r, .int .i64 R, .int .i64 c] w (IsoP w B g r L (isoN R c r M)) := by
  have HO := Lib.hid hO
  clear hO
  have hmk : ∃ mk : Array Value, (∀ w, (Instr.makeSlice 23 (.int .i64 (L : Int)) (.int .i64 (L : Int))).run Try.prog w = .ok (.slice (some ⟨w.heap.size, 0, none⟩) L L) (w.alloc (.cells mk 5))) ∧ Hid (mk = (cellsU (List.replicate L 0)).toArray) := by
    obtain ⟨i, hi, hz0, hz1, hz2⟩ := info_u
    refine ⟨madeCells (Value.int .u8 0).cells (L * 1), fun w => ?_, ?_⟩
    · have := run_make (P := Try.prog) w 23 5 i (.int .u8 0) Try.underlying23 hi hz0 .i64 .i64 L L (by omega) (Int.le_refl _) (by rw [hz2]; omega) (by omega)
      rw [hz1, Int.toNat_natCast] at this
      exact this
    · refine Lib.hid ?_
      rw [← made_eq]
  obtain ⟨mk, hmk, HMK⟩ := hmk
  obtain ⟨b, off, cap, f1, f2, -, g1, g2⟩ := HO.out.elem R c hR hW
  unfold maxLen at g2
  have hcL : (c : Int) < (L : Int) := by omega
  have hRr : (R : Int) < (r : Int) := by omega
  go_enter Try.func42, Try.ntmps42
  go_wp2_with fail
  refine (inv_any _ _).mono ?_
  rintro e w1 ⟨rfl, hb1⟩
  have HO1 := Lib.hid (HO.out.below hb1)
  have HB1 : Hid (Below B w w1) := Lib.hid (hb1.mono (by have := HO.out.base; have := HO.out.lt; omega))
  clear f1 f2 hb1 g1 g2
  generalize nz (M R c) = NZ
  go_upto_region 1 with fail
  go_cut [33] (fun _ wx => Hid (Out wx B g r wx.heap.size (matL r L (divR R c M))) ∧ Hid (Below B w wx))
  case first =>
    obtain ⟨b, off, cap, f1, f2, hl, g1, g2⟩ := HO1.out.elem R c hR hW
    have HL := Lib.hid hl
    have f1a : ∀ o, (w1.alloc o).cell? ⟨g, R, none⟩ = some (.slice (some ⟨b, off, none⟩) L cap) := fun o => by
      rw [World.cell?_alloc_some _ _ _ (by rw [f1]; rfl)]; exact f1
    have HX : Hid (∀ w3 v, Below w1.heap.size w1 w3 → Own w3 w1.heap.size v (sc (List.replicate L 0) (rowF L (M R)) (invU (M R c))) → Out (w3.setCell ⟨g, R, none⟩ v) B g r (w3.setCell ⟨g, R, none⟩ v).heap.size (matL r L (divR R c M)) ∧ Below B w (w3.setCell ⟨g, R, none⟩ v)) := Lib.hid fun w3 v hb ho => by
      have h := (HO1.out.below hb).setOwn R (by rw [matL_length]; exact hR) v _ _ ho (by exact HO1.out.lt)
      rw [div_set] at h
      exact ⟨by simpa using h, (HB1.out.trans (hb.mono (by have := HO1.out.base; have := HO1.out.lt; omega))).setCell (p := ⟨g, R, none⟩) HO1.out.base v⟩
    have HZ : Hid (∀ w2, w2 = (w1.alloc (.cells mk 5)).drew → Lie w2 (some ⟨w1.heap.size, 0, none⟩) (List.replicate L 0) ∧ Lie w2 (some ⟨b, off, none⟩) (rowF L (M R)) ∧ Below w1.heap.size w1 w2) := Lib.hid fun w2 e => by
      subst e
      have hbb : Below w1.heap.size w1 (w1.alloc (.cells mk 5)).drew := ((Below.refl _ _).alloc (Nat.le_refl _) _).drew
      refine ⟨?_, (HL.out.lie HO1.out.leD).below hbb rfl, hbb⟩
      rw [HMK.out]
      have hR0 : Rowu (w1.alloc (.cells (cellsU (List.replicate L 0)).toArray 5)) w1.heap.size (List.replicate L 0) := heap_alloc_last _ _
      exact hR0.lie.drew
    clear hl
    go_region_with (first
      | (go_at_call 27; obtain ⟨z1, z2, z3⟩ := HZ.out _ rfl; refine (scale_n _ _ L L L cap (List.replicate L 0) (rowF L (M R)) (invU (M R c)) _ (by simp) (by rw [rowF_length]) z1 (fun h => by cases h) (by omega) z2 (by omega)).mono ?_; rintro e w3 ⟨v, rfl, ho, hb⟩; have h3 : Below w1.heap.size w1 w3 := z3.trans (hb.mono z3.size); have hS := Lib.hid (HX.out w3 v h3 (ho.mono z3.size)); have hu : w3.cell? ⟨g, R, none⟩ = some (.slice (some ⟨b, off, none⟩) L cap) := (h3.cell (p := ⟨g, R, none⟩) HO1.out.lt).trans f1; have hz : w3.frozen? ⟨g, R, none⟩ = false := (HO1.out.below h3).frozen R; obtain ⟨ad', cap', rfl, -⟩ := ho.slice; clear ho hb h3 z1 z2 z3))
    all_goals (go_wp2_with fail; go_meet; exact ⟨Lib.hid hS.out.1, Lib.hid hS.out.2⟩)
  case rest =>
    obtain ⟨hO2, hB2⟩ := hcut
    clear HO1 HB1 hmk HMK
    go_wp2_with fail
    go_loopg [37] r (fun gk vk wx => ∃ k : Nat, vk = .int .i64 k ∧ k + gk = r ∧ Hid (Out wx B g r wx.heap.size (matL r L (isoN R c k M))) ∧ Hid (Below B w wx))
    case atStart => exact ⟨0, rfl, by omega, by rw [isoN_zero]; exact hO2, hB2⟩
    case round =>
      obtain ⟨k, rfl, hk, hO, hB⟩ := hrel
      cases gk with
      | zero =>
        have hlt : ¬ (k : Int) < (r : Int) := by omega
        obtain rfl : k = r := by omega
        go_wp2
        first
          | go_end0
          | refine bodyPost_ret (results_none rfl _ _ _) rfl ?_
        exact ⟨rfl, hO.out, hB.out⟩
      | succ gk0 =>
        have hlt : (k : Int) < (r : Int) := by omega
        by_cases hkR : k = R
        · have hkR2 : (k : Int) = (R : Int) := by omega
          have HS := Lib.hid (isoN_skip R c M)
          go_wp2
          go_roundg gk0
          case rel => exact ⟨k + 1, by go_num, by omega, by subst hkR; rw [HS.out]; exact hO, hB⟩
          case measure => omega
        · have hkR2 : ¬ (k : Int) = (R : Int) := by omega
          obtain ⟨b1, off1, cap1, f1, f2, hl1, g1, g2⟩ := hO.out.elem k c (by omega) hW
          obtain ⟨b2, off2, cap2, f3, -, hl2, g3, g4⟩ := hO.out.elem R c hR hW
          unfold maxLen at g2 g4
          have HL1 := Lib.hid (hl1.lie hO.out.leD)
          have HL2 := Lib.hid (hl2.lie hO.out.leD)
          have HX : Hid (∀ w3 v, Below wr.heap.size wr w3 → Own w3 wr.heap.size v (sc (rowF L (isoN R c k M k)) (rowF L (isoN R c k M R)) (isoN R c k M k c)) → Out (w3.setCell ⟨g, k, none⟩ v) B g r (w3.setCell ⟨g, k, none⟩ v).heap.size (matL r L (isoN R c (k + 1) M)) ∧ Below B w (w3.setCell ⟨g, k, none⟩ v)) := Lib.hid fun w3 v hb ho => by
            have h := (hO.out.below hb).setOwn k (by rw [matL_length]; omega) v _ _ ho (by exact hO.out.lt)
            rw [iso_set r L R c k M hkR] at h
            exact ⟨by simpa using h, (hB.out.trans (hb.mono (by have := hO.out.base; have := hO.out.lt; omega))).setCell (p := ⟨g, k, none⟩) hO.out.base v⟩
          generalize isoN R c k M k c = x at f2 HX
          clear hl1 hl2
          go_wp2_with fail
          go_region_with (first
            | (go_at_call 27; refine (scale_n _ _ L L cap1 cap2 (rowF L (isoN R c k M k)) (rowF L (isoN R c k M R)) x _ (by rw [rowF_length]) (by rw [rowF_length]) (by exact HL1.out.drew) (fun h => by cases h) (by omega) (by exact HL2.out.drew) (by omega)).mono ?_; rintro e w3 ⟨v, rfl, ho, hb⟩; have h3 : Below wr.heap.size wr w3 := (Below.refl _ _).drew.trans hb; have hS := Lib.hid (HX.out w3 v h3 ho); have hu : w3.cell? ⟨g, k, none⟩ = some (.slice (some ⟨b1, off1, none⟩) L cap1) := (h3.cell (p := ⟨g, k, none⟩) hO.out.lt).trans f1; have hz : w3.frozen? ⟨g, k, none⟩ = false := (hO.out.below h3).frozen k; obtain ⟨ad', cap', rfl, -⟩ := ho.slice; clear ho hb h3))
          all_goals (go_wp2; go_roundg gk0)
          all_goals first
            | (exact ⟨k + 1, by go_num, by omega, Lib.hid hS.out.1, Lib.hid hS.out.2⟩)
            | omega
end Go.Proofs.Ytbkjocmldeagdaa
