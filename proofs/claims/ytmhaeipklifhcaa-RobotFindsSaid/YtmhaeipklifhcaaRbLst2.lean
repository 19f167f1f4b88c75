/-
  Empty by both sides, the specification's Find and Same, the law's few.
-/
import Derived.Test.YtmhaeipklifhcaaRbList
namespace Go.Proofs.Ytmhaeipklifhcaa
open Go.RowKit
set_option linter.unusedVariables false
theorem emp_at {l : List ByteArray} {i : Nat} (h : l.findIdx? (fun x => decide (x = emp)) = some i) : empR l = ((i : Int), true) := by unfold empR; rw [h]
theorem emp_no {l : List ByteArray} (h : l.findIdx? (fun x => decide (x = emp)) = none) : empR l = (0, false) := by unfold empR; rw [h]
theorem emp_idx (l : List ByteArray) : (idxT l emp = -1 ∧ empR l = (0, false)) ∨ ∃ i : Nat, idxT l emp = (i : Int) ∧ empR l = ((i : Int), true) := by
  cases h : l.findIdx? (fun x => decide (x = emp)) with
  | none => exact .inl ⟨by unfold idxT; rw [h], emp_no h⟩
  | some i => exact .inr ⟨i, by unfold idxT; rw [h], emp_at h⟩
attribute [local irreducible] inn mdlR rail dst vldR idxT empR finR
set_option maxRecDepth 100000 in
set_option maxHeartbeats 1000000 in
theorem empty_any (r : Rbt) (ad : Option Addr) (n cap : Nat) (w : World) (hin : RoIn w r ad n cap) :
    Calls Try.prog 14 #[roV r ad n cap] w fun e w' => e = .returned (.tuple #[.int .i64 (empR r.l).1, .bool (empR r.l).2]) ∧ Below w.heap.size w w' := by
  obtain ⟨hB, hR⟩ := box_r w r ad n cap
  have HB := Lib.hid hB
  have HI := Lib.hid (hin.below hB)
  clear hB hR hin
  have hle := HI.out.le
  go_enter Try.func14, Try.ntmps14
  go_wp2_with fail
  refine (index_any ad n cap r.l emp _ HI.out.l HI.out.len (by omega)).mono ?_
  rintro e w1 ⟨rfl, rfl⟩
  rcases emp_idx r.l with ⟨h1, h2⟩ | ⟨i, h1, h2⟩
  · have HE := Lib.hid h2
    rw [h1]
    clear h1 h2
    go_wp2
    go_ret2
    exact ⟨by rw [HE.out]; rfl, HB.out⟩
  · have HE := Lib.hid h2
    rw [h1]
    clear h1 h2
    have hd : decide ((i : Int) < 0) = false := decide_eq_false (by omega)
    have hd2 : decide ((0 : Int) ≤ (i : Int)) = true := decide_eq_true (by omega)
    have hi0 : (0 : Int) ≤ (i : Int) := by omega
    by_cases hi : i = 0
    · subst hi
      go_wp2
      go_ret2
      exact ⟨by rw [HE.out]; rfl, HB.out⟩
    · have hip : (0 : Int) < (i : Int) := by omega
      go_wp2
      all_goals go_ret2
      all_goals exact ⟨by rw [HE.out]; rfl, HB.out⟩
set_option maxRecDepth 100000 in
set_option maxHeartbeats 1000000 in
theorem rempty_any (r : Rbt) (ad : Option Addr) (n cap : Nat) (w : World) (hin : RoIn w r ad n cap) :
    Calls Try.prog 15 #[roV r ad n cap] w fun e w' => e = .returned (.tuple #[.int .i64 (empR r.l).1, .bool (empR r.l).2]) ∧ Below w.heap.size w w' := by
  obtain ⟨hB, hR⟩ := box_r w r ad n cap
  have HB := Lib.hid hB
  have HR := Lib.hid (RoAt.of hR)
  have HI := Lib.hid (hin.below hB)
  have HY := Lib.hid (fun i (hi : i < r.l.length) h1 h2 => emp_at (idx_at (s := emp) hi h1 h2))
  have HZ := Lib.hid (fun h => emp_no (@idx_no r.l emp h))
  clear hB hR hin
  have hle := HI.out.le
  go_enter Try.func15, Try.ntmps15
  go_wp2
  generalize World.alloc _ _ = X0 at *
  go_loopg [4] n (fun gk vk wx => ∃ k : Nat, vk = .int .i64 k ∧ k + gk = n ∧ wx = X0 ∧ Hid (∀ j (h : j < r.l.length), j < k → r.l[j] ≠ emp))
  case atStart => exact ⟨0, rfl, by omega, rfl, Lib.hid fun j h hj => by omega⟩
  case round =>
    obtain ⟨k, rfl, hk, rfl, hc⟩ := hrel
    obtain ⟨_, k0, k1, k2, k3, k4⟩ := HR.out
    cases gk with
    | zero =>
      obtain rfl : k = n := by omega
      have HC := Lib.hid (HZ.out fun j h => hc.out j h (by have := HI.out.len; omega))
      go_wp2
      go_ret2
      exact ⟨by rw [HC.out]; rfl, HB.out⟩
    | succ gk0 =>
      have hkn : k < n := by omega
      have hkl : k < r.l.length := by have := HI.out.len; omega
      obtain ⟨b, off, rfl, hlt, q0⟩ := HI.out.l.get hkl
      have HNX := Lib.hid (show r.l[k] ≠ emp → ∀ j (h : j < r.l.length), j < k + 1 → r.l[j] ≠ emp from fun he j h hj => by
        rcases Nat.lt_or_ge j k with h3 | h3
        · exact hc.out j h h3
        · obtain rfl : j = k := by omega
          exact he)
      have HNO := Lib.hid (fun he : r.l[k] = emp => HY.out k hkl hc.out he)
      generalize r.l[k] = x at *
      clear hkl
      by_cases he : x = emp
      · have hq : x.toList.isEmpty = true := by rw [isE]; simp [he]
        have HF := Lib.hid (HNO.out he)
        clear he
        go_wp2
        go_ret2
        exact ⟨by rw [HF.out]; rfl, HB.out⟩
      · have hq : x.toList.isEmpty = false := by rw [isE]; simp [he]
        have HF := Lib.hid (HNX.out he)
        clear he
        go_wp2
        go_roundg gk0
        case rel => exact ⟨k + 1, by go_num, by omega, rfl, HF⟩
        case measure => omega
/-- the boxes of a robot and of an element -/
theorem box_re (w : World) (r : Rbt) (ad : Option Addr) (n cap : Nat) (k i : Int) :
    Below w.heap.size w ((w.alloc (boxR r ad n cap)).alloc (boxE k i)) ∧ ((w.alloc (boxR r ad n cap)).alloc (boxE k i)).heap[w.heap.size]? = some (boxR r ad n cap) ∧ ((w.alloc (boxR r ad n cap)).alloc (boxE k i)).heap[w.heap.size + 1]? = some (boxE k i) := by
  refine ⟨below_box2 _ _ _, row_step (heap_new _ _) (below_box1 _ _), ?_⟩
  have h := heap_new (w.alloc (boxR r ad n cap)) (boxE k i)
  rwa [World.size_alloc] at h
/-- an element is stored -/
theorem el_put {W : World} {g : Nat} {k0 i0 : Int} (h : W.heap[g]? = some (boxE k0 i0)) (k i : Int) : ((W.setCell ⟨g, 0, none⟩ (.int .i64 k)).setCell ⟨g, 1, none⟩ (.int .i64 i)).heap[g]? = some (boxE k i) := by
  have h1 := heap_set_b W g 0 (.int .i64 k) _ _ _ h
  exact heap_set_b _ g 1 (.int .i64 i) _ _ _ h1
set_option maxRecDepth 100000 in
set_option maxHeartbeats 1000000 in
theorem rfind_any (r : Rbt) (ad : Option Addr) (n cap : Nat) (b : ByteArray) (w : World) (hin : RoIn w r ad n cap) :
    Calls Try.prog 13 #[roV r ad n cap, .string b] w fun e w' => e = .returned (.tuple #[elV (finR r b).1 (finR r b).2.1, .bool (finR r b).2.2]) ∧ Below w.heap.size w w' := by
  obtain ⟨hB, hR, hE⟩ := box_re w r ad n cap 0 0
  have HB := Lib.hid hB
  have HR := Lib.hid (RoAt.of hR)
  have HE := Lib.hid hE
  have HI := Lib.hid (hin.below hB)
  clear hB hR hE hin
  have hle := HI.out.le
  by_cases hb : b = emp
  · have HF := Lib.hid (show finR r b = (0, 0, false) by rw [hb, fin_emp])
    have hq : b.toList.isEmpty = true := by rw [isE]; simp [hb]
    clear hb
    go_enter Try.func13, Try.ntmps13
    go_wp2
    exact post_cell2 rfl rfl HE.out Try.underlying28 rfl infoE rfl rfl ⟨by rw [HF.out]; rfl, HB.out⟩
  have hq : b.toList.isEmpty = false := by rw [isE]; simp [hb]
  have HBE := Lib.hid hb
  clear hb
  go_enter Try.func13, Try.ntmps13
  go_wp2
  generalize World.alloc _ _ = X0 at *
  go_loopg [6] n (fun gk vk wx => ∃ k : Nat, vk = .int .i64 k ∧ k + gk = n ∧ wx = X0 ∧ Hid (∀ j (h : j < r.l.length), j < k → r.l[j] ≠ b))
  case atStart => exact ⟨0, rfl, by omega, rfl, Lib.hid fun j h hj => by omega⟩
  case round =>
    obtain ⟨k, rfl, hk, rfl, hc⟩ := hrel
    obtain ⟨_, k0, k1, k2, k3, k4⟩ := HR.out
    obtain ⟨_, e0, e1⟩ := ElAt.of HE.out
    have f0 := froz_of HE.out 0
    have f1 := froz_of HE.out 1
    cases gk with
    | zero =>
      obtain rfl : k = n := by omega
      have HC := Lib.hid (show ∀ j (h : j < r.l.length), r.l[j] ≠ b from fun j h => hc.out j h (by have := HI.out.len; omega))
      by_cases hp : r.po = b
      · have HF := Lib.hid (fin_port HBE.out HC.out hp)
        have hp2 : (r.po.toList == b.toList) = true := by rw [eqT]; simp [hp]
        clear hp
        go_wp2
        exact post_cell2 rfl rfl (el_put HE.out 2 0) Try.underlying28 rfl infoE rfl rfl ⟨by rw [HF.out]; rfl, (HB.out.setCell (p := ⟨w.heap.size + 1, 0, none⟩) (by show w.heap.size ≤ w.heap.size + 1; omega) _).setCell (p := ⟨w.heap.size + 1, 1, none⟩) (by show w.heap.size ≤ w.heap.size + 1; omega) _⟩
      have hp2 : (r.po.toList == b.toList) = false := by rw [eqT]; simp [hp]
      by_cases hh : r.ha = b
      · have HF := Lib.hid (fin_hand HBE.out HC.out hp hh)
        have hh2 : (r.ha.toList == b.toList) = true := by rw [eqT]; simp [hh]
        clear hp hh
        go_wp2
        exact post_cell2 rfl rfl (el_put HE.out 3 0) Try.underlying28 rfl infoE rfl rfl ⟨by rw [HF.out]; rfl, (HB.out.setCell (p := ⟨w.heap.size + 1, 0, none⟩) (by show w.heap.size ≤ w.heap.size + 1; omega) _).setCell (p := ⟨w.heap.size + 1, 1, none⟩) (by show w.heap.size ≤ w.heap.size + 1; omega) _⟩
      have hh2 : (r.ha.toList == b.toList) = false := by rw [eqT]; simp [hh]
      have HF := Lib.hid (fin_none HC.out hp hh)
      clear hp hh
      go_wp2
      exact post_cell2 rfl rfl (el_put HE.out 0 0) Try.underlying28 rfl infoE rfl rfl ⟨by rw [HF.out]; rfl, (HB.out.setCell (p := ⟨w.heap.size + 1, 0, none⟩) (by show w.heap.size ≤ w.heap.size + 1; omega) _).setCell (p := ⟨w.heap.size + 1, 1, none⟩) (by show w.heap.size ≤ w.heap.size + 1; omega) _⟩
    | succ gk0 =>
      have hkn : k < n := by omega
      have hkl : k < r.l.length := by have := HI.out.len; omega
      obtain ⟨bb, off, rfl, hlt, q0⟩ := HI.out.l.get hkl
      have HNX := Lib.hid (show r.l[k] ≠ b → ∀ j (h : j < r.l.length), j < k + 1 → r.l[j] ≠ b from fun he j h hj => by
        rcases Nat.lt_or_ge j k with h3 | h3
        · exact hc.out j h h3
        · obtain rfl : j = k := by omega
          exact he)
      have HNO := Lib.hid (fun he : r.l[k] = b => fin_slot HBE.out hkl hc.out he)
      generalize r.l[k] = x at *
      clear hkl
      by_cases he : x = b
      · have hx2 : (x.toList == b.toList) = true := by rw [eqT]; simp [he]
        have HF := Lib.hid (HNO.out he)
        clear he
        go_wp2
        exact post_cell2 rfl rfl (el_put HE.out 0 k) Try.underlying28 rfl infoE rfl rfl ⟨by rw [HF.out]; rfl, (HB.out.setCell (p := ⟨w.heap.size + 1, 0, none⟩) (by show w.heap.size ≤ w.heap.size + 1; omega) _).setCell (p := ⟨w.heap.size + 1, 1, none⟩) (by show w.heap.size ≤ w.heap.size + 1; omega) _⟩
      · have hx2 : (x.toList == b.toList) = false := by rw [eqT]; simp [he]
        have HF := Lib.hid (HNX.out he)
        clear he
        go_wp2
        go_roundg gk0
        case rel => exact ⟨k + 1, by go_num, by omega, rfl, HF⟩
        case measure => omega
/-- two robots in boxes -/
theorem box_rr (w : World) (r : Rbt) (ad1 ad2 : Option Addr) (n1 cap1 n2 cap2 : Nat) :
    Below w.heap.size w ((w.alloc (boxR r ad1 n1 cap1)).alloc (boxR r ad2 n2 cap2)) ∧ ((w.alloc (boxR r ad1 n1 cap1)).alloc (boxR r ad2 n2 cap2)).heap[w.heap.size]? = some (boxR r ad1 n1 cap1) ∧ ((w.alloc (boxR r ad1 n1 cap1)).alloc (boxR r ad2 n2 cap2)).heap[w.heap.size + 1]? = some (boxR r ad2 n2 cap2) := by
  refine ⟨below_box2 _ _ _, row_step (heap_new _ _) (below_box1 _ _), ?_⟩
  have h := heap_new (w.alloc (boxR r ad1 n1 cap1)) (boxR r ad2 n2 cap2)
  rwa [World.size_alloc] at h
/-- a robot's slots, to be read -/
structure RoSx (w : World) (r : Rbt) (ad : Option Addr) (n cap : Nat) : Prop where
  l : Sx w ad r.l
  len : n = r.l.length
  le : n ≤ 1000
theorem RoSx.below {w X : World} {r : Rbt} {ad : Option Addr} {n cap : Nat} (h : RoSx w r ad n cap) (hb : Below w.heap.size w X) : RoSx X r ad n cap := ⟨h.l.below hb rfl, h.len, h.le⟩
theorem RoIn.sx {w : World} {r : Rbt} {ad : Option Addr} {n cap : Nat} (h : RoIn w r ad n cap) : RoSx w r ad n cap := ⟨h.l, h.len, h.le⟩
set_option maxRecDepth 100000 in
set_option maxHeartbeats 1000000 in
theorem same_any (r : Rbt) (ad1 ad2 : Option Addr) (n cap1 cap2 : Nat) (w : World) (h1 : RoSx w r ad1 n cap1) (h2 : RoSx w r ad2 n cap2) :
    Calls Try.prog 25 #[roV r ad1 n cap1, roV r ad2 n cap2] w fun e w' => e = .returned (.bool true) ∧ Below w.heap.size w w' := by
  obtain ⟨hB, hR, hS⟩ := box_rr w r ad1 ad2 n cap1 n cap2
  have HB := Lib.hid hB
  have HR := Lib.hid (RoAt.of hR)
  have HS := Lib.hid (RoAt.of hS)
  have H1 := Lib.hid (h1.below hB)
  have H2 := Lib.hid (h2.below hB)
  have hle := h1.le
  clear hB hR hS h1 h2
  go_enter Try.func25, Try.ntmps25
  go_wp2
  generalize World.alloc _ _ = X0 at *
  go_loopg [5] n (fun gk vk wx => ∃ k : Nat, vk = .int .i64 k ∧ k + gk = n ∧ Hid (Below X0.heap.size X0 wx))
  case atStart => exact ⟨0, rfl, by omega, Lib.hid (Below.refl _ _)⟩
  case round =>
    obtain ⟨k, rfl, hk, hb⟩ := hrel
    obtain ⟨_, k0, k1, k2, k3, k4⟩ := HR.out.step hb.out
    obtain ⟨_, j0, j1, j2, j3, j4⟩ := HS.out.step hb.out
    cases gk with
    | zero =>
      obtain rfl : k = n := by omega
      go_wp2
      go_ret
      exact ⟨rfl, HB.out.trans (hb.out.mono HB.out.size)⟩
    | succ gk0 =>
      have hkn : k < n := by omega
      have hkl : k < r.l.length := by have := H1.out.len; omega
      obtain ⟨b1, off1, rfl, hlt1, q1⟩ := (H1.out.below hb.out).l.get hkl
      obtain ⟨b2, off2, rfl, hlt2, q2⟩ := (H2.out.below hb.out).l.get hkl
      generalize r.l[k] = x at *
      clear hkl
      go_wp2_with fail
      go_quiet (fail)
      generalize hX : World.drewN wr _ = w3
      have HB3 := Lib.hid (show Below X0.heap.size X0 w3 by rw [← hX]; exact below_drewN hb.out _)
      clear hX k0 k1 k2 k3 k4 j0 j1 j2 j3 j4 q1 q2
      go_wp2
      go_roundg gk0
      case rel => exact ⟨k + 1, by go_num, by omega, HB3⟩
      case measure => omega
/-- a robot with at most 70 slots -/
def fewR (r : Rbt) : Rbt := { r with l := r.l.take 70 }
/-- a call hands back a robot with the same array of slots -/
def RetF (w : World) (r : Rbt) (ad : Option Addr) (cap : Nat) (e : Ending) (w' : World) : Prop := ∃ n, e = .returned (roV r ad n cap) ∧ n = r.l.length ∧ n ≤ 70 ∧ Below w.heap.size w w'
theorem box_rz (w : World) (r : Rbt) (ad : Option Addr) (n cap : Nat) :
    Below w.heap.size w ((w.alloc (boxR r ad n cap)).alloc (boxR rz none 0 0)) ∧ ((w.alloc (boxR r ad n cap)).alloc (boxR rz none 0 0)).heap[w.heap.size]? = some (boxR r ad n cap) ∧ ((w.alloc (boxR r ad n cap)).alloc (boxR rz none 0 0)).heap[w.heap.size + 1]? = some (boxR rz none 0 0) := by
  refine ⟨below_box2 _ _ _, row_step (heap_new _ _) (below_box1 _ _), ?_⟩
  have h := heap_new (w.alloc (boxR r ad n cap)) (boxR rz none 0 0)
  rwa [World.size_alloc] at h
theorem heap_two (w : World) (o p : Obj) : ((w.alloc o).alloc p).heap[w.heap.size + 1]? = some p := by
  have h := heap_new (w.alloc o) p
  rwa [World.size_alloc] at h
set_option maxRecDepth 100000 in
set_option maxHeartbeats 1000000 in
theorem few_any (r : Rbt) (ad : Option Addr) (n cap : Nat) (w : World) (hl : Sx w ad r.l) (hn : n = r.l.length) (hc : n ≤ cap) (hm : cap ≤ maxLen) :
    Calls Try.prog 9 #[roV r ad n cap] w (RetF w (fewR r) ad cap) := by
  have HL := Lib.hid hl
  have HN := Lib.hid hn
  unfold maxLen at hm
  clear hl hn
  by_cases hlen : 70 < n
  · have HL70 := Lib.hid (show 70 = (fewR r).l.length by have := HN.out; show 70 = (r.l.take 70).length; rw [List.length_take]; omega)
    obtain ⟨b, off, rfl, hbl, -⟩ := HL.out.get (i := 0) (by have := HN.out; omega)
    go_enter Try.func9, Try.ntmps9
    go_wp2_with fail
    have hb := below_box2 w (.cells (roK (fewR r) (some ⟨b, off, none⟩) 70 cap) 26) (.cells (roK (fewR r) (some ⟨b, off, none⟩) 70 cap) 26)
    exact post_cell1 rfl rfl (heap_two _ _ _) Try.underlying26 rfl infoR rfl ⟨70, rfl, HL70.out, Nat.le_refl _, hb⟩
  · have hle : n ≤ 70 := by omega
    have HF := Lib.hid (show fewR r = r by obtain ⟨p, f, l, po, ha⟩ := r; unfold fewR; simp only; rw [List.take_of_length_le]; have := HN.out; simp only at this; omega)
    rw [HF.out]
    go_enter Try.func9, Try.ntmps9
    go_wp2_with fail
    have hb := below_box2 w (boxR r ad n cap) (boxR r ad n cap)
    exact post_cell1 rfl rfl (heap_two _ _ _) Try.underlying26 rfl infoR rfl ⟨n, rfl, HN.out, hle, hb⟩
end Go.Proofs.Ytmhaeipklifhcaa
