/-
  The program's within, validModel, end.
-/
import Derived.Test.YtmhaeipklifhcaaRbRef
import Derived.Deep.LoopGhost
namespace Go.Proofs.Ytmhaeipklifhcaa
open Go.RowKit
set_option linter.unusedVariables false
/-- ints that lie in block g -/
structure Ix (w : World) (g : Nat) (l : List Int) : Prop where
  lt : g < w.heap.size
  at_ : ∀ j (h : j < l.length), w.cell? ⟨g, j, none⟩ = some (.int .i64 l[j])
theorem Ix.below {W' w : World} {B g : Nat} {l : List Int} (h : Ix W' g l) (hb : Below B W' w) (hB : g < B) : Ix w g l := ⟨Nat.lt_of_lt_of_le h.lt hb.size, fun j hj => (hb.cell hB).trans (h.at_ j hj)⟩
theorem Ix.one (w : World) (a : Int) (t : TypeId) : Ix (w.alloc (.cells #[.int .i64 a] t)) w.heap.size [a] := by
  refine ⟨by simp, fun j hj => ?_⟩
  obtain rfl : j = 0 := by simpa using hj
  rw [World.cell?_alloc_mark]; rfl
theorem Ix.two (w : World) (a b : Int) (t : TypeId) : Ix (w.alloc (.cells #[.int .i64 a, .int .i64 b] t)) w.heap.size [a, b] := by
  refine ⟨by simp, fun j hj => ?_⟩
  have hj' : j = 0 ∨ j = 1 := by simp at hj; omega
  rw [World.cell?_alloc_mark]
  rcases hj' with rfl | rfl <;> rfl
theorem Ix.three (w : World) (a b c : Int) (t : TypeId) : Ix (w.alloc (.cells #[.int .i64 a, .int .i64 b, .int .i64 c] t)) w.heap.size [a, b, c] := by
  refine ⟨by simp, fun j hj => ?_⟩
  have hj' : j = 0 ∨ j = 1 ∨ j = 2 := by simp at hj; omega
  rw [World.cell?_alloc_mark]
  rcases hj' with rfl | rfl | rfl <;> rfl
def allI (lo hi : Int) (l : List Int) : Bool := l.all fun x => inn x lo hi
theorem all_no {lo hi : Int} {l : List Int} {k : Nat} (hk : k < l.length) (h : inn l[k] lo hi = false) : allI lo hi l = false := by
  unfold allI
  rw [List.all_eq_false]
  exact ⟨l[k], List.getElem_mem hk, by rw [h]; simp⟩
theorem all_yes {lo hi : Int} {l : List Int} (h : ∀ j (h : j < l.length), inn l[j] lo hi = true) : allI lo hi l = true := by
  unfold allI
  rw [List.all_eq_true]
  intro x hx
  obtain ⟨j, hj, rfl⟩ := List.getElem_of_mem hx
  exact h j hj
attribute [local irreducible] inn allI
set_option maxRecDepth 100000 in
set_option maxHeartbeats 1000000 in
theorem within_any (lo hi : Int) (g n : Nat) (l : List Int) (w : World) (hl : Ix w g l) (hn : n = l.length) (hs : n ≤ 1000) :
    Calls Try.prog 35 #[.int .i64 lo, .int .i64 hi, .slice (some ⟨g, 0, none⟩) n n] w fun e w' => e = .returned (.bool (allI lo hi l)) ∧ w' = w := by
  have HL := Lib.hid hl
  have HN := Lib.hid hn
  have HY := Lib.hid (@all_yes lo hi l)
  have HZ := Lib.hid (fun k (hk : k < l.length) => all_no (lo := lo) (hi := hi) hk)
  clear hl hn
  go_enter Try.func35, Try.ntmps35
  go_wp2
  go_loopg [11] n (fun gk vk wx => ∃ k : Nat, vk = .int .i64 k ∧ k + gk = n ∧ wx = w ∧ Hid (∀ j (h : j < l.length), j < k → inn l[j] lo hi = true))
  case atStart => exact ⟨0, rfl, by omega, rfl, Lib.hid fun j _ hj => by omega⟩
  case round =>
    obtain ⟨k, rfl, hk, rfl, hall⟩ := hrel
    cases gk with
    | zero =>
      obtain rfl : k = n := by omega
      have HF := Lib.hid (HY.out (fun j hj => hall.out j hj (by have := HN.out; omega)))
      go_wp2
      go_ret
      exact ⟨by rw [HF.out]; rfl, rfl⟩
    | succ gk0 =>
      have hkn : k < n := by omega
      have hkl : k < l.length := by have := HN.out; omega
      have q0 := HL.out.at_ k hkl
      have HNX : inn l[k] lo hi = true → Hid (∀ j (h : j < l.length), j < k + 1 → inn l[j] lo hi = true) := fun hc => Lib.hid fun j h hj => by
        rcases Nat.lt_or_ge j k with h3 | h3
        · exact hall.out j h h3
        · obtain rfl : j = k := by omega
          exact hc
      have HNO : inn l[k] lo hi = false → Hid (allI lo hi l = false) := fun hc => Lib.hid (HZ.out k hkl hc)
      generalize l[k] = x at *
      clear hkl
      by_cases h0 : x < lo
      · have HR := HNO (inn_no (fun h => by omega))
        clear HNX HNO
        go_wp2
        go_ret
        exact ⟨by rw [HR.out]; rfl, rfl⟩
      · by_cases h1 : hi < x
        · have HR := HNO (inn_no (fun h => by omega))
          clear HNX HNO
          go_wp2
          go_ret
          exact ⟨by rw [HR.out]; rfl, rfl⟩
        · have HR := HNX (inn_yes (by omega) (by omega))
          clear HNX HNO
          go_wp2
          go_roundg gk0
          case rel => exact ⟨k + 1, by go_num, by omega, rfl, HR⟩
          case measure => omega
theorem within_1 (lo hi a : Int) (w : World) (g : Nat) (hg : g = w.heap.size) : Calls Try.prog 35 #[.int .i64 lo, .int .i64 hi, .slice (some ⟨g, 0, none⟩) 1 1] (w.alloc (.cells #[.int .i64 a] 3)) fun e w' => e = .returned (.bool (inn a lo hi)) ∧ w' = w.alloc (.cells #[.int .i64 a] 3) := by
  subst hg
  have h := within_any lo hi w.heap.size 1 [a] _ (Ix.one w a 3) rfl (by omega)
  have e : allI lo hi [a] = inn a lo hi := by unfold allI; simp
  rwa [e] at h
theorem within_2 (lo hi a b : Int) (w : World) (g : Nat) (hg : g = w.heap.size) : Calls Try.prog 35 #[.int .i64 lo, .int .i64 hi, .slice (some ⟨g, 0, none⟩) 2 2] (w.alloc (.cells #[.int .i64 a, .int .i64 b] 3)) fun e w' => e = .returned (.bool (inn a lo hi && inn b lo hi)) ∧ w' = w.alloc (.cells #[.int .i64 a, .int .i64 b] 3) := by
  subst hg
  have h := within_any lo hi w.heap.size 2 [a, b] _ (Ix.two w a b 3) rfl (by omega)
  have e : allI lo hi [a, b] = (inn a lo hi && inn b lo hi) := by unfold allI; simp
  rwa [e] at h
theorem within_3 (lo hi a b c : Int) (w : World) (g : Nat) (hg : g = w.heap.size) : Calls Try.prog 35 #[.int .i64 lo, .int .i64 hi, .slice (some ⟨g, 0, none⟩) 3 3] (w.alloc (.cells #[.int .i64 a, .int .i64 b, .int .i64 c] 3)) fun e w' => e = .returned (.bool (inn a lo hi && (inn b lo hi && inn c lo hi))) ∧ w' = w.alloc (.cells #[.int .i64 a, .int .i64 b, .int .i64 c] 3) := by
  subst hg
  have h := within_any lo hi w.heap.size 3 [a, b, c] _ (Ix.three w a b c 3) rfl (by omega)
  have e : allI lo hi [a, b, c] = (inn a lo hi && (inn b lo hi && inn c lo hi)) := by unfold allI; simp
  rwa [e] at h
set_option maxRecDepth 100000 in
set_option maxHeartbeats 1000000 in
theorem model_any (m : Rmd) (w : World) : Calls Try.prog 34 #[rmV m] w fun e w' => e = .returned (.bool (mdlR m)) ∧ Below w.heap.size w w' := by
  have HB := Lib.hid (below_box1 w (boxM m))
  have HM := Lib.hid (RmAt.new w m 23)
  obtain ⟨s, d, da, pa, mv, pk, pt⟩ := m
  generalize hres : mdlR ⟨s, d, da, pa, mv, pk, pt⟩ = res
  have HR := Lib.hid (show (inn s 1 64 && (inn d 1 8 && ((inn da 0 1000 && inn pa 0 1000) && (inn mv 0 1000000 && (inn pk 0 1000000 && inn pt 0 1000000))))) = res from by rw [← hres]; unfold mdlR; simp only [Bool.and_assoc])
  clear hres
  show Calls Try.prog 34 #[.agg #[.int .i64 s, .int .i64 d, .int .i64 da, .int .i64 pa, .int .i64 mv, .int .i64 pk, .int .i64 pt]] w _
  go_enter Try.func34, Try.ntmps34
  go_wp2_with fail

  have HB0 := Lib.hid (HB.out.alloc HB.out.size (.cells #[.int .i64 s] 3))
  have HM0 := Lib.hid (HM.out.step (below_box1 _ (.cells #[.int .i64 s] 3)))
  refine (within_1 1 64 s _ _ (by first | rfl | simp)).mono ?_
  rintro e w1 ⟨rfl, rfl⟩
  generalize World.alloc _ _ = X0 at *
  replace HB := HB0
  replace HM := HM0
  cases h0 : inn s 1 64
  · rw [h0] at HR
    go_wp2
    go_ret
    exact ⟨by rw [← HR.out]; simp, HB.out⟩
  rw [h0] at HR
  obtain ⟨_, g0, g1, g2, g3, g4, g5, g6⟩ := HM.out
  go_wp2_with fail
  clear g0 g1 g2 g3 g4 g5 g6
  have HB1 := Lib.hid (HB.out.alloc HB.out.size (.cells #[.int .i64 d] 3))
  have HM1 := Lib.hid (HM.out.step (below_box1 _ (.cells #[.int .i64 d] 3)))
  refine (within_1 1 8 d _ _ (by first | rfl | simp)).mono ?_
  rintro e w1 ⟨rfl, rfl⟩
  generalize World.alloc _ _ = X1 at *
  replace HB := HB1
  replace HM := HM1
  cases h1 : inn d 1 8
  · rw [h1] at HR
    go_wp2
    go_ret
    exact ⟨by rw [← HR.out]; simp, HB.out⟩
  rw [h1] at HR
  obtain ⟨_, g0, g1, g2, g3, g4, g5, g6⟩ := HM.out
  go_wp2_with fail
  clear g0 g1 g2 g3 g4 g5 g6
  have HB2 := Lib.hid (HB.out.alloc HB.out.size (.cells #[.int .i64 da, .int .i64 pa] 3))
  have HM2 := Lib.hid (HM.out.step (below_box1 _ (.cells #[.int .i64 da, .int .i64 pa] 3)))
  refine (within_2 0 1000 da pa _ _ (by first | rfl | simp)).mono ?_
  rintro e w1 ⟨rfl, rfl⟩
  generalize World.alloc _ _ = X2 at *
  replace HB := HB2
  replace HM := HM2
  cases h2 : (inn da 0 1000 && inn pa 0 1000)
  · rw [h2] at HR
    go_wp2
    go_ret
    exact ⟨by rw [← HR.out]; simp, HB.out⟩
  rw [h2] at HR
  obtain ⟨_, g0, g1, g2, g3, g4, g5, g6⟩ := HM.out
  go_wp2_with fail
  clear g0 g1 g2 g3 g4 g5 g6
  have HB3 := Lib.hid (HB.out.alloc HB.out.size (.cells #[.int .i64 mv, .int .i64 pk, .int .i64 pt] 3))
  have HM3 := Lib.hid (HM.out.step (below_box1 _ (.cells #[.int .i64 mv, .int .i64 pk, .int .i64 pt] 3)))
  refine (within_3 0 1000000 mv pk pt _ _ (by first | rfl | simp)).mono ?_
  rintro e w1 ⟨rfl, rfl⟩
  generalize World.alloc _ _ = X3 at *
  replace HB := HB3
  replace HM := HM3
  cases h3 : (inn mv 0 1000000 && (inn pk 0 1000000 && inn pt 0 1000000))
  · rw [h3] at HR
    go_wp2
    go_ret
    exact ⟨by rw [← HR.out]; simp, HB.out⟩
  rw [h3] at HR
  go_wp2
  go_ret
  exact ⟨by rw [← HR.out]; simp, HB.out⟩
set_option maxRecDepth 100000 in
set_option maxHeartbeats 1000000 in
theorem end_any (m : Rmd) (w : World) (hm : MdlR m) : Calls Try.prog 36 #[rmV m] w fun e w' => e = .returned (.int .i64 (rail m)) ∧ Below w.heap.size w w' := by
  have HB := Lib.hid (below_box1 w (boxM m))
  obtain ⟨h1, h2, h3, h4, h5, h6, h7, h8, _, _, _, _, _, _⟩ := hm
  obtain ⟨s, d, da, pa, mv, pk, pt⟩ := m
  simp only at h1 h2 h3 h4 h5 h6 h7 h8
  have HR := Lib.hid (show rail ⟨s, d, da, pa, mv, pk, pt⟩ = max (max (s - 1) (da + d - 1)) pa by unfold rail; simp only; split <;> (try split) <;> omega)
  go_enter Try.func36, Try.ntmps36
  go_wp2
  all_goals go_ret
  all_goals exact ⟨by rw [HR.out]; exact ret_i64s (by omega), HB.out⟩
end Go.Proofs.Ytmhaeipklifhcaa
