/-
  What begins at an offset: the document's own function.
-/
import Derived.Test.YtbbdkghkdmaolaaDoorFRef
namespace Go.Proofs.YtbbdkghkdmaolaaDoor
open Go.RowKit
set_option linter.unusedVariables false

/-- What the document's Next answers. -/
def NrP (w : World) (l : List UInt8) (x e : Int) (en : Ending) (w' : World) : Prop :=
  ∃ v, en = .returned (.tuple #[v, .int .i64 x, .int .i64 e]) ∧ Own w' w.heap.size v l ∧ Below w.heap.size w w'

set_option maxRecDepth 100000 in
set_option maxHeartbeats 400000 in
theorem rn_range (ad : Option Addr) (n cap : Nat) (at_ : Int) (w : World) (h : at_ < 0 ∨ n < at_) (hn : n ≤ 10000000) :
    Calls Tryd.prog 16 #[.slice ad n cap, .int .i64 at_] w (NrP w [] 0 7) := by
  rcases (show at_ < 0 ∨ (0 ≤ at_ ∧ n < at_) by omega) with h1 | ⟨h1, h2⟩
  all_goals
    clear h
    go_enter Tryd.func16, Tryd.ntmps16
    go_wp2
    go_ret3
    exact ⟨_, rfl, .ofNil _ _, .refl _ _⟩
set_option maxRecDepth 100000 in
set_option maxHeartbeats 400000 in
theorem rn_short (ad : Option Addr) (n cap a : Nat) (w : World) (h1 : a ≤ n) (h2 : n < a + 10) (hn : n ≤ 10000000) (hc : n ≤ cap) (hcm : cap ≤ maxLen) (had : ad = none → cap = 0) :
    Calls Tryd.prog 16 #[.slice ad n cap, .int .i64 a] w (NrP w [] 0 2) := by
  have h3 : n - a < 10 := by omega
  unfold maxLen at hcm
  cases ad with
  | none =>
    obtain rfl := had rfl
    obtain rfl : n = 0 := by omega
    obtain rfl : a = 0 := by omega
    go_enter Tryd.func16, Tryd.ntmps16
    go_wp2
    go_ret3
    exact ⟨_, rfl, .ofNil _ _, .refl _ _⟩
  | some x =>
    clear had
    by_cases hca : cap = a
    · subst hca
      obtain rfl : n = cap := by omega
      clear h1 h2 hc
      go_enter Tryd.func16, Tryd.ntmps16
      go_wp2
      go_ret3
      exact ⟨_, rfl, .ofNil _ _, .refl _ _⟩
    · go_enter Tryd.func16, Tryd.ntmps16
      go_wp2
      go_ret3
      exact ⟨_, rfl, .ofNil _ _, .refl _ _⟩
set_option maxRecDepth 100000 in
set_option maxHeartbeats 1000000 in
theorem rn_magic (b off n cap a : Nat) (x0 x1 : Nat) (w : World) (h10 : a + 10 ≤ n) (hnc : n ≤ cap) (hcm : cap ≤ maxLen) (hn : n ≤ 10000000)
   (hc0 : w.cell? ⟨b, off + a, none⟩ = some (.int .u8 x0)) (hc1 : w.cell? ⟨b, off + a + 1, none⟩ = some (.int .u8 x1)) (hx : ¬ (x0 = 167 ∧ x1 = 60)) :
    Calls Tryd.prog 16 #[.slice (some ⟨b, off, none⟩) n cap, .int .i64 a] w (NrP w [] 0 1) := by
  unfold maxLen at hcm
  have h3 : 10 ≤ n - a := by omega
  have h4 : ¬ n < a := by omega
  by_cases hx0 : x0 = 167
  · subst hx0
    have hd1 : ((x1 : Int) != 60) = true := by rw [bne_iff_ne]; omega
    clear hx
    go_enter Tryd.func16, Tryd.ntmps16
    go_wp2
    go_ret3
    exact ⟨_, rfl, .ofNil _ _, .refl _ _⟩
  · have hd1 : ((x0 : Int) != 167) = true := by rw [bne_iff_ne]; omega
    clear hx hx0
    go_enter Tryd.func16, Tryd.ntmps16
    go_wp2
    go_ret3
    exact ⟨_, rfl, .ofNil _ _, .refl _ _⟩
set_option maxRecDepth 100000 in
set_option maxHeartbeats 1000000 in
theorem rn_long (b off n cap a N : Nat) (r : List UInt8) (w : World) (h10 : a + 10 ≤ n) (hnc : n ≤ cap) (hcm : cap ≤ maxLen) (hn : n ≤ 10000000)
   (hc0 : w.cell? ⟨b, off + a, none⟩ = some (.int .u8 167)) (hc1 : w.cell? ⟨b, off + a + 1, none⟩ = some (.int .u8 60)) (hl : Lie w (some ⟨b, off + a + 2, none⟩) r) (hr : r.length = n - a - 2) (hN : num4 r = N) (hbig : 65536 < N) :
    Calls Tryd.prog 16 #[.slice (some ⟨b, off, none⟩) n cap, .int .i64 a] w (NrP w [] 0 6) := by
  have hNl := num4_lt r
  rw [hN] at hNl
  have HN := Lib.hid hN
  have HR := Lib.hid hr
  clear hN hr
  unfold maxLen at hcm
  have h3 : 10 ≤ n - a := by omega
  have h4 : ¬ n < a := by omega
  go_enter Tryd.func16, Tryd.ntmps16
  go_wp2_with fail
  refine (rnum_any _ _ _ _ r _ hl HR.out.symm (by rw [HR.out]; omega) (by rw [HR.out]; omega)).mono ?_
  rintro e w' ⟨rfl, rfl⟩
  rw [HN.out]
  go_wp2
  go_ret3
  exact ⟨_, rfl, .ofNil _ _, .refl _ _⟩
set_option maxRecDepth 100000 in
set_option maxHeartbeats 1000000 in
theorem rn_cut (b off n cap a N : Nat) (r : List UInt8) (w : World) (h10 : a + 10 ≤ n) (hnc : n ≤ cap) (hcm : cap ≤ maxLen) (hn : n ≤ 10000000)
   (hc0 : w.cell? ⟨b, off + a, none⟩ = some (.int .u8 167)) (hc1 : w.cell? ⟨b, off + a + 1, none⟩ = some (.int .u8 60)) (hl : Lie w (some ⟨b, off + a + 2, none⟩) r) (hr : r.length = n - a - 2) (hN : num4 r = N) (hbig : N ≤ 65536) (hcut : n < a + N + 10) :
    Calls Tryd.prog 16 #[.slice (some ⟨b, off, none⟩) n cap, .int .i64 a] w (NrP w [] 0 2) := by
  have HN := Lib.hid hN
  have HR := Lib.hid hr
  clear hN hr
  unfold maxLen at hcm
  have h3 : 10 ≤ n - a := by omega
  have h4 : ¬ n < a := by omega
  go_enter Tryd.func16, Tryd.ntmps16
  go_wp2_with fail
  refine (rnum_any _ _ _ _ r _ hl HR.out.symm (by rw [HR.out]; omega) (by rw [HR.out]; omega)).mono ?_
  rintro e w' ⟨rfl, rfl⟩
  rw [HN.out]
  have h5 : n - a < N + 10 := by omega
  go_wp2
  go_ret3
  exact ⟨_, rfl, .ofNil _ _, .refl _ _⟩
end Go.Proofs.YtbbdkghkdmaolaaDoor
