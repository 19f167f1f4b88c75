/-
  The program's isBarcode, isBlock, and the functions that are handed to the searches.
-/
import Derived.Test.YtlbnjojafaieoaaCtVal
import Derived.Lib.ConvBytes
namespace Go.Proofs.Ytlbnjojafaieoaa
open Go.RowKit
set_option linter.unusedVariables false
theorem below_bytes (w : World) (e : TypeId) (s : ByteArray) : Below w.heap.size w (Lib.bytesWorld w e s) :=
  ⟨rfl, rfl, rfl, by rw [Lib.bytesWorld_size]; omega, fun k hk => Lib.bytesWorld_at_old w e s k hk⟩
set_option maxRecDepth 100000 in
set_option maxHeartbeats 400000 in
theorem blk_any (m bad : Bool) (ad : Option Addr) (n cap : Nat) (w : World) :
    Calls Try.prog 39 #[.agg #[.bool m, .bool bad, .slice ad n cap]] w fun e w' => e = .returned (.bool (okB m n)) ∧ Below w.heap.size w w' := by
  cases m
  · by_cases h1 : 1 ≤ n
    · have hd : decide ((1 : Int) ≤ (n : Int)) = true := decide_eq_true (by omega)
      go_enter Try.func39, Try.ntmps39
      go_wp2
      go_ret
      exact ⟨by unfold okB; rw [if_neg (by decide), hd]; rfl, below_boxC _ _⟩
    · obtain rfl : n = 0 := by omega
      go_enter Try.func39, Try.ntmps39
      go_wp2
      go_ret
      exact ⟨by simp [okB], below_boxC _ _⟩
  · go_enter Try.func39, Try.ntmps39
    go_wp2
    go_ret
    exact ⟨by unfold okB; rw [if_pos rfl]; rfl, below_boxC _ _⟩
attribute [local irreducible] okB
/-- not a block -/
def pNot (m bad : Bool) (n : Nat) : Bool := !okB m n
/-- not to be written -/
def pUnfit (m bad : Bool) (n : Nat) : Bool := bad || !okB m n
def pBad (m bad : Bool) (n : Nat) : Bool := bad
def pMark (m bad : Bool) (n : Nat) : Bool := m && !bad
set_option maxRecDepth 100000 in
set_option maxHeartbeats 400000 in
theorem notblk_any (m bad : Bool) (ad : Option Addr) (n cap : Nat) (w : World) :
    Calls Try.prog 38 #[.agg #[.bool m, .bool bad, .slice ad n cap]] w fun e w' => e = .returned (.bool (pNot m bad n)) ∧ Below w.heap.size w w' := by
  have HP := Lib.hid (show pNot m bad n = !okB m n from rfl)
  have HB := Lib.hid (below_boxC w (.cells #[.bool m, .bool bad, .slice ad n cap] 56))
  go_enter Try.func38, Try.ntmps38
  go_wp2_with fail
  refine (blk_any m bad ad n cap _).mono ?_
  generalize okB m n = ok at *
  rintro e w1 ⟨rfl, hb⟩
  have HB1 := Lib.hid (HB.out.trans (hb.mono HB.out.size))
  clear hb
  go_wp2
  go_ret
  exact ⟨by rw [HP.out]; rfl, HB1.out⟩
set_option maxRecDepth 100000 in
set_option maxHeartbeats 400000 in
theorem unfit_any (m bad : Bool) (ad : Option Addr) (n cap : Nat) (w : World) :
    Calls Try.prog 51 #[.agg #[.bool m, .bool bad, .slice ad n cap]] w fun e w' => e = .returned (.bool (pUnfit m bad n)) ∧ Below w.heap.size w w' := by
  have HP := Lib.hid (show pUnfit m bad n = (bad || !okB m n) from rfl)
  have HB := Lib.hid (below_boxC w (.cells #[.bool m, .bool bad, .slice ad n cap] 56))
  cases bad
  · go_enter Try.func51, Try.ntmps51
    go_wp2_with fail
    refine (blk_any m false ad n cap _).mono ?_
    generalize okB m n = ok at *
    rintro e w1 ⟨rfl, hb⟩
    have HB1 := Lib.hid (HB.out.trans (hb.mono HB.out.size))
    clear hb
    go_wp2
    go_ret
    exact ⟨by rw [HP.out]; rfl, HB1.out⟩
  · go_enter Try.func51, Try.ntmps51
    go_wp2
    go_ret
    exact ⟨by rw [HP.out]; rfl, HB.out⟩
set_option maxRecDepth 100000 in
set_option maxHeartbeats 400000 in
theorem bad_any (m bad : Bool) (ad : Option Addr) (n cap : Nat) (w : World) :
    Calls Try.prog 46 #[.agg #[.bool m, .bool bad, .slice ad n cap]] w fun e w' => e = .returned (.bool (pBad m bad n)) ∧ Below w.heap.size w w' := by
  go_enter Try.func46, Try.ntmps46
  go_wp2
  go_ret
  exact ⟨rfl, below_boxC _ _⟩
set_option maxRecDepth 100000 in
set_option maxHeartbeats 400000 in
theorem mark_any (m bad : Bool) (ad : Option Addr) (n cap : Nat) (w : World) :
    Calls Try.prog 48 #[.agg #[.bool m, .bool bad, .slice ad n cap]] w fun e w' => e = .returned (.bool (pMark m bad n)) ∧ Below w.heap.size w w' := by
  cases m <;> cases bad
  all_goals
    go_enter Try.func48, Try.ntmps48
    go_wp2
    go_ret
    exact ⟨rfl, below_boxC _ _⟩
set_option maxRecDepth 100000 in
set_option maxHeartbeats 1000000 in
theorem bar_any (s : ByteArray) (w : World) :
    Calls Try.prog 32 #[.string s] w fun e w' => e = .returned (.bool (bar s)) ∧ Below w.heap.size w w' := by
  obtain ⟨N, hN⟩ : ∃ N, N = s.size := ⟨_, rfl⟩
  have HN := Lib.hid hN
  have hcv : ∀ w : World, (convert 9 54 (.string s)).run Try.prog w = .ok (.slice (some ⟨w.heap.size, 0, none⟩) N (grownCap w N 0 5)) (Lib.bytesWorld w 5 s) := fun w => by
    have := Lib.run_convert_string_bytes (P := Try.prog) w 9 54 5 s Try.underlying9 Try.underlying54 Try.underlying5
    rw [← hN] at this
    exact this
  have HCE := Lib.hid (fun j (hj : j < N) => Lib.bytesWorld_cell w 5 s j (hN ▸ hj))
  have HB0 := Lib.hid (below_bytes w 5 s)
  have hnn : ((s.size : Nat) : Int) = (N : Int) := by omega
  by_cases h1 : N < 1
  · have HR := Lib.hid (show bar s = false by unfold bar; simp; omega)
    go_enter Try.func32, Try.ntmps32
    go_wp2
    go_ret
    exact ⟨by rw [HR.out]; rfl, Below.refl _ _⟩
  by_cases h2 : 24 < N
  · have HR := Lib.hid (show bar s = false by unfold bar; simp; omega)
    go_enter Try.func32, Try.ntmps32
    go_wp2
    go_ret
    exact ⟨by rw [HR.out]; rfl, Below.refl _ _⟩
  have HBR := Lib.hid (show bar s = s.data.toList.all chr by unfold bar; have e : (decide (1 ≤ s.size) && decide (s.size ≤ 24)) = true := (by simp; omega); rw [e, Bool.and_true])
  have hlen : s.data.toList.length = N := by rw [hN]; simp
  go_enter Try.func32, Try.ntmps32
  go_wp2
  generalize Lib.bytesWorld w 5 s = X1 at *
  generalize grownCap w N 0 5 = gc at *
  go_loopg [16] N (fun gk vk wx => ∃ k : Nat, vk = .int .i64 k ∧ k + gk = N ∧ wx = X1 ∧ Hid (∀ j (h : j < s.data.toList.length), j < k → chr s.data.toList[j] = true))
  case atStart => exact ⟨0, rfl, by omega, rfl, Lib.hid fun j _ hj => by omega⟩
  case round =>
    obtain ⟨k, rfl, hk, rfl, hall⟩ := hrel
    cases gk with
    | zero =>
      obtain rfl : k = N := by omega
      have HA := Lib.hid (show s.data.toList.all chr = true by
        rw [List.all_eq_true]
        intro x hx
        obtain ⟨j, hj, rfl⟩ := List.getElem_of_mem hx
        exact hall.out j hj (by omega))
      go_wp2
      go_ret
      exact ⟨by rw [HBR.out, HA.out]; rfl, HB0.out⟩
    | succ gk0 =>
      have hkN : k < N := by omega
      have hks : k < s.data.toList.length := by omega
      have q0 := HCE.out k hkN
      obtain ⟨x, hx⟩ : ∃ x, x = s.data.toList[k] := ⟨_, rfl⟩
      rw [show s.data.toList.getD k 0 = x by rw [hx, List.getD_eq_getElem?_getD, List.getElem?_eq_getElem hks]; rfl] at q0
      have HNX : chr x = true → Hid (∀ j (h : j < s.data.toList.length), j < k + 1 → chr s.data.toList[j] = true) := fun hc => Lib.hid fun j h hj => by
        rcases Nat.lt_or_ge j k with h3 | h3
        · exact hall.out j h h3
        · obtain rfl : j = k := by omega
          rw [← hx]
          exact hc
      have HBA : Hid (chr x = false → bar s = false) := Lib.hid fun hc => by
        rw [HBR.out, List.all_eq_false]
        exact ⟨x, by rw [hx]; exact List.getElem_mem hks, by rw [hc]; simp⟩
      have HC : chr x = (decide (65 ≤ x.toNat) && decide (x.toNat ≤ 90) || decide (48 ≤ x.toNat) && decide (x.toNat ≤ 57)) := rfl
      have HCH := Lib.hid HC
      clear HC hx hks
      generalize x.toNat = n at *
      have part : n < 48 ∨ (48 ≤ n ∧ n ≤ 57) ∨ (58 ≤ n ∧ n < 65) ∨ (65 ≤ n ∧ n ≤ 90) ∨ 91 ≤ n := by omega
      rcases part with h1 | ⟨h1, h2⟩ | ⟨h1, h2⟩ | ⟨h1, h2⟩ | h1
      · have HR := Lib.hid (HBA.out (by rw [HCH.out]; simp; omega))
        clear HNX
        go_wp2
        go_ret
        exact ⟨by rw [HR.out]; rfl, HB0.out⟩
      · have HNY := HNX (by rw [HCH.out]; simp; omega)
        clear HNX
        go_wp2
        go_roundg gk0
        case rel => exact ⟨k + 1, by go_num, by omega, rfl, HNY⟩
        case measure => omega
      · have HR := Lib.hid (HBA.out (by rw [HCH.out]; simp; omega))
        clear HNX
        go_wp2
        go_ret
        exact ⟨by rw [HR.out]; rfl, HB0.out⟩
      · have HNY := HNX (by rw [HCH.out]; simp; omega)
        clear HNX
        go_wp2
        go_roundg gk0
        case rel => exact ⟨k + 1, by go_num, by omega, rfl, HNY⟩
        case measure => omega
      · have HR := Lib.hid (HBA.out (by rw [HCH.out]; simp; omega))
        clear HNX
        go_wp2
        go_ret
        exact ⟨by rw [HR.out]; rfl, HB0.out⟩
end Go.Proofs.Ytlbnjojafaieoaa
