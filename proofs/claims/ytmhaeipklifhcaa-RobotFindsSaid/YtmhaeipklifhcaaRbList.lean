/-
  Functions over the slots: few, held, count, Clone, Index, Empty, the specification's Find and Same.
-/
import Derived.Test.YtmhaeipklifhcaaRbCell
import Derived.Test.YtmhaeipklifhcaaRbPos
namespace Go.Proofs.Ytmhaeipklifhcaa
open Go.RowKit
set_option linter.unusedVariables false
/-- a call gives a new list with these strings -/
def GivesS (w : World) (l : List ByteArray) (e : Ending) (w' : World) : Prop := ∃ v, e = .returned v ∧ Sq w' w.heap.size v l ∧ Below w.heap.size w w'
set_option maxRecDepth 100000 in
set_option maxHeartbeats 1000000 in
theorem clone_any (ad : Option Addr) (n cap : Nat) (l : List ByteArray) (w : World) (hl : Sx w ad l) (hn : n = l.length) (ha : ad ≠ none) (hs : n ≤ 1000) :
    Calls Try.prog 48 #[.slice ad n cap] w (GivesS w l) := by
  have hq := fun (w : World) (a : Option Addr) (n c : Nat) => Lib.run_eql_slice_nil (P := Try.prog) w 24 9 a n c 0 0 Try.underlying24
  obtain ⟨a, rfl⟩ := Option.ne_none_iff_exists'.1 ha
  have HL1 := Lib.hid (hl.below (below_box1 w (.cells #[] 9)) rfl)
  have HB1 := Lib.hid (below_box1 w (.cells #[] 9))
  have HS := Lib.hid HB1.out.size
  have HN := Lib.hid hn
  clear hl ha hn
  go_enter Try.func48, Try.ntmps48
  go_wp2_with (at_builtin; refine wpList_append_t rfl (.tmp 5) (.tmp 6) rfl w.heap.size _ [] rfl (Sq.made w) (some a) n cap l (fun h => by cases h) HL1.out HN.out rfl (by simp; omega) HS.out ?_; intro v1 w1 ho1 hg1)
  go_ret
  exact ⟨v1, rfl, by simpa using ho1, HB1.out.grown hg1 HS.out (fun k hk => ((Sq.made w).lt k hk).1)⟩
set_option maxRecDepth 100000 in
set_option maxHeartbeats 1000000 in
theorem held_any (r : Rbt) (ad : Option Addr) (n cap : Nat) (w : World) (hin : RoIn w r ad n cap) :
    Calls Try.prog 28 #[roV r ad n cap] w (GivesS w (allR r)) := by
  obtain ⟨hB, hR⟩ := box_r w r ad n cap
  have HB0 := Lib.hid hB
  have HR0 := Lib.hid (RoAt.of hR)
  have HI := Lib.hid (hin.below hB)
  clear hB hR hin
  go_enter Try.func28, Try.ntmps28
  have HL2 := Lib.hid (HI.out.l.below (below_box1 _ (.cells #[] 9)) rfl)
  have HS1 := Lib.hid (below_box1 (w.alloc (boxR r ad n cap)) (.cells #[] 9)).size
  have HM := Lib.hid (Sq.made (w.alloc (boxR r ad n cap)))
  have hle := HI.out.le
  have HSZ := Lib.hid (show (w.alloc (boxR r ad n cap)).heap.size = w.heap.size + 1 from World.size_alloc ..)
  rw [HSZ.out] at HM
  go_wp2_with (first
    | (at_builtin; refine wpList_append_t rfl (.tmp 4) (.tmp 6) rfl (w.heap.size + 1) _ [] rfl HM.out ad n cap r.l HI.out.nn HL2.out HI.out.len rfl (by simp; omega) (Nat.le_trans (Nat.le_of_eq HSZ.out.symm) HS1.out) ?_; intro v1 w3 ho1 hg1; rw [List.nil_append] at ho1; have HB3 := Lib.hid (((Below.refl _ (w.alloc (boxR r ad n cap))).alloc (Nat.le_refl _) (.cells #[] 9)).grown hg1 HS1.out (fun k e => by cases e; exact Nat.le_of_eq HSZ.out)); obtain ⟨_, q0, q1, q2, q3, q4⟩ := HR0.out.step HB3.out; have HO1 := Lib.hid (ho1.below (below_box1 w3 (.cells #[.string r.po, .string r.ha] 9))); have HX2 := Lib.hid (Sx.two w3 r.po r.ha); have HB4 := Lib.hid (HB3.out.alloc HB3.out.size (.cells #[.string r.po, .string r.ha] 9)); have HS2 := Lib.hid HB4.out.size; clear ho1 hg1)
    | (at_builtin; refine wpList_append_t rfl (.tmp 8) (.tmp 13) rfl (w.heap.size + 1) v1 r.l rfl HO1.out (some ⟨w3.heap.size, 0, none⟩) 2 2 [r.po, r.ha] (fun h => by cases h) HX2.out rfl rfl (by rw [← HI.out.len]; omega) (Nat.le_trans (Nat.le_of_eq HSZ.out.symm) HS2.out) ?_; intro v2 w4 ho2 hg2; have HB5 := Lib.hid (HB4.out.grown hg2 HS2.out (fun k e => Nat.le_trans (Nat.le_of_eq HSZ.out) (HO1.out.lt k e).1))))
  go_ret
  exact ⟨v2, rfl, ho2.mono (by omega), HB0.out.trans (HB5.out.mono HB0.out.size)⟩
set_option maxRecDepth 100000 in
set_option maxHeartbeats 1000000 in
theorem count_any (ad : Option Addr) (n cap : Nat) (l : List ByteArray) (s : ByteArray) (w : World) (hl : Sx w ad l) (hn : n = l.length) (hs : n ≤ 100000) :
    Calls Try.prog 29 #[.slice ad n cap, .string s] w fun e w' => e = .returned (.int .i64 (l.count s : Nat)) ∧ w' = w := by
  have HL := Lib.hid hl
  have HN := Lib.hid hn
  have HE := Lib.hid (show (l.take n).count s = l.count s by rw [List.take_of_length_le (by omega)])
  clear hl hn
  go_enter Try.func29, Try.ntmps29
  go_wp2
  go_loopg [5, 6] n (fun gk vc vk wx => ∃ k c : Nat, vk = .int .i64 k ∧ vc = .int .i64 c ∧ k + gk = n ∧ c ≤ k ∧ wx = w ∧ Hid ((l.take k).count s = c))
  case atStart => exact ⟨0, 0, rfl, rfl, by omega, by omega, rfl, Lib.hid (by simp)⟩
  case round =>
    obtain ⟨k, c, rfl, rfl, hk, hck, rfl, hc⟩ := hrel
    cases gk with
    | zero =>
      obtain rfl : k = n := by omega
      have HC := Lib.hid (HE.out.symm.trans hc.out)
      go_wp2
      go_ret
      exact ⟨by rw [HC.out]; rfl, rfl⟩
    | succ gk0 =>
      have hkn : k < n := by omega
      have hkl : k < l.length := by have := HN.out; omega
      obtain ⟨b, off, rfl, hlt, q0⟩ := HL.out.get hkl
      have HX := Lib.hid (show (l.take (k + 1)).count s = c + (if l[k] == s then 1 else 0) by rw [List.take_add_one, List.getElem?_eq_getElem hkl, List.count_append, hc.out]; simp [List.count_singleton])
      generalize l[k] = x at *
      clear hkl
      cases hq : (x.toList == s.toList)
      · have HX1 := Lib.hid (show (l.take (k + 1)).count s = c by rw [HX.out, if_neg]; · rfl
                                                                  rw [eqT] at hq; simpa using hq)
        go_wp2
        go_roundg gk0
        case rel => exact ⟨k + 1, c, by go_num, rfl, by omega, by omega, rfl, HX1⟩
        case measure => omega
      · have HX1 := Lib.hid (show (l.take (k + 1)).count s = c + 1 by rw [HX.out, if_pos]; rw [eqT] at hq; simpa using hq)
        go_wp2
        go_roundg gk0
        case rel => exact ⟨k + 1, c + 1, by go_num, by go_num, by omega, by omega, rfl, HX1⟩
        case measure => omega
/-- the number of the first one that is s, or -1 -/
def idxT (l : List ByteArray) (s : ByteArray) : Int :=
  match l.findIdx? (fun x => decide (x = s)) with
  | some i => (i : Int)
  | none => -1
theorem idx_at {l : List ByteArray} {s : ByteArray} {i : Nat} (hi : i < l.length) (hn : ∀ j (h : j < l.length), j < i → l[j] ≠ s) (hx : l[i] = s) : l.findIdx? (fun x => decide (x = s)) = some i := by
  rw [List.findIdx?_eq_some_iff_getElem]
  exact ⟨hi, by simpa using hx, fun j hj => by simpa using hn j (by omega) hj⟩
theorem idx_no {l : List ByteArray} {s : ByteArray} (hn : ∀ j (h : j < l.length), l[j] ≠ s) : l.findIdx? (fun x => decide (x = s)) = none := by
  rw [List.findIdx?_eq_none_iff]
  intro x hx
  obtain ⟨j, hj, rfl⟩ := List.getElem_of_mem hx
  simpa using hn j hj
set_option maxRecDepth 100000 in
set_option maxHeartbeats 1000000 in
theorem index_any (ad : Option Addr) (n cap : Nat) (l : List ByteArray) (s : ByteArray) (w : World) (hl : Sx w ad l) (hn : n = l.length) (hs : n ≤ 100000) :
    Calls Try.prog 33 #[.slice ad n cap, .string s] w fun e w' => e = .returned (.int .i64 (idxT l s)) ∧ w' = w := by
  have HL := Lib.hid hl
  have HN := Lib.hid hn
  have HY := Lib.hid (fun i (hi : i < l.length) => idx_at (s := s) hi)
  have HZ := Lib.hid (@idx_no l s)
  clear hl hn
  go_enter Try.func33, Try.ntmps33
  go_wp2
  go_loopg [8] n (fun gk vk wx => ∃ k : Nat, vk = .int .i64 k ∧ k + gk = n ∧ wx = w ∧ Hid (∀ j (h : j < l.length), j < k → l[j] ≠ s))
  case atStart => exact ⟨0, rfl, by omega, rfl, Lib.hid fun j h hj => by omega⟩
  case round =>
    obtain ⟨k, rfl, hk, rfl, hc⟩ := hrel
    cases gk with
    | zero =>
      obtain rfl : k = n := by omega
      have HC := Lib.hid (HZ.out fun j h => hc.out j h (by have := HN.out; omega))
      go_wp2
      go_ret
      exact ⟨by unfold idxT; rw [HC.out]; rfl, rfl⟩
    | succ gk0 =>
      have hkn : k < n := by omega
      have hkl : k < l.length := by have := HN.out; omega
      obtain ⟨b, off, rfl, hlt, q0⟩ := HL.out.get hkl
      have HNX := Lib.hid (show l[k] ≠ s → ∀ j (h : j < l.length), j < k + 1 → l[j] ≠ s from fun he j h hj => by
        rcases Nat.lt_or_ge j k with h3 | h3
        · exact hc.out j h h3
        · obtain rfl : j = k := by omega
          exact he)
      have HNO := Lib.hid (fun he : l[k] = s => HY.out k hkl hc.out he)
      generalize l[k] = x at *
      clear hkl
      by_cases he : s = x
      · have hq : (s.toList == x.toList) = true := by rw [eqT]; simp [he]
        have HF := Lib.hid (HNO.out he.symm)
        clear he
        go_wp2
        go_ret
        exact ⟨by unfold idxT; rw [HF.out]; rfl, rfl⟩
      · have hq : (s.toList == x.toList) = false := by rw [eqT]; simp [he]
        have HF := Lib.hid (HNX.out fun h => he h.symm)
        clear he
        go_wp2
        go_roundg gk0
        case rel => exact ⟨k + 1, by go_num, by omega, rfl, HF⟩
        case measure => omega
end Go.Proofs.Ytmhaeipklifhcaa
