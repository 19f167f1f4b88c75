/-
  has: the geometry is valid, and all numbers are from 0 to its capacity.
-/
import Derived.Test.YtcoijhemnfnghaaSValid
namespace Go.Proofs.Ytcoijhemnfnghaa
open Go.RowKit
set_option linter.unusedVariables false
/-- ints that lie -/
structure Lii (w : World) (b o : Nat) (xs : List Int) : Prop where
  lt : b < w.heap.size
  at_ : ∀ j (h : j < xs.length), w.cell? ⟨b, o + j, none⟩ = some (.int .i64 (xs[j]'h))
theorem Lii.below {W w : World} {B b o : Nat} {xs : List Int} (h : Lii W b o xs) (hb : Below B W w) (hB : b < B) : Lii w b o xs :=
  ⟨Nat.lt_of_lt_of_le h.lt hb.size, fun j hj => (hb.cell hB).trans (h.at_ j hj)⟩
theorem Lii.one (w : World) (a : Int) (t : TypeId) : Lii (w.alloc (.cells #[.int .i64 a] t)) w.heap.size 0 [a] := by
  refine ⟨by simp, fun j hj => ?_⟩
  obtain rfl : j = 0 := by simpa using hj
  rw [World.cell?_alloc_mark]; rfl
theorem Lii.two (w : World) (a b : Int) (t : TypeId) : Lii (w.alloc (.cells #[.int .i64 a, .int .i64 b] t)) w.heap.size 0 [a, b] := by
  refine ⟨by simp, fun j hj => ?_⟩
  rw [World.cell?_alloc_mark]
  match j, hj with
  | 0, _ => rfl
  | 1, _ => rfl
def inr (W L n : Int) : Bool := decide (0 ≤ n) && decide (n ≤ W * L)
theorem inr_iff {W L n : Int} : inr W L n = true ↔ 0 ≤ n ∧ n ≤ W * L := by unfold inr; simp
noncomputable def hasU (W L S T J R : Int) (xs : List Int) : Bool := vld W L S T J R && xs.all (inr W L)
attribute [local irreducible] tim vld
set_option maxRecDepth 100000 in
set_option maxHeartbeats 1000000 in
theorem has_any (W L S T J R : Int) (b n cap : Nat) (xs : List Int) (w : World) (hl : Lii w b 0 xs) (hn : n = xs.length) (hs : n ≤ 2) :
    Calls Try.prog 27 #[geV W L S T J R, .slice (some ⟨b, 0, none⟩) n cap] w fun e w' => e = .returned (.bool (hasU W L S T J R xs)) ∧ Below w.heap.size w w' := by
  have HB0 := Lib.hid (below_box1 w (.cells #[.int .i64 W, .int .i64 L, .int .i64 S, .int .i64 T, .int .i64 J, .int .i64 R] 23))
  have HG := Lib.hid (GeoAt.new w W L S T J R 23)
  by_cases hv : Vld W L S T J R
  rotate_left
  · have HV := Lib.hid (vld_not.2 hv)
    have HR := Lib.hid (show hasU W L S T J R xs = false by unfold hasU; rw [vld_not.2 hv]; rfl)
    clear hv
    go_enter Try.func27, Try.ntmps27
    go_wp2_with fail
    refine (valid_any W L S T J R _).mono ?_
    rw [HV.out]
    rintro e w1 ⟨rfl, hb⟩
    have HB := Lib.hid (HB0.out.trans (hb.mono HB0.out.size))
    clear hb
    go_wp2
    go_ret
    exact ⟨by rw [HR.out]; rfl, HB.out⟩
  have h0 : 0 ≤ W * L := Int.mul_nonneg (by have := hv.w0; omega) (by have := hv.l0; omega)
  have h1 := hv.c1
  have HV := Lib.hid (vld_iff.2 hv)
  have HA := Lib.hid (show hasU W L S T J R xs = xs.all (inr W L) by unfold hasU; rw [vld_iff.2 hv]; rfl)
  have HN := Lib.hid hn
  clear hv hn
  go_enter Try.func27, Try.ntmps27
  go_wp2_with fail
  refine (valid_any W L S T J R _).mono ?_
  rw [HV.out]
  rintro e w1 ⟨rfl, hb⟩
  have HB := Lib.hid (HB0.out.trans (hb.mono HB0.out.size))
  have HL := Lib.hid ((hl.below HB0.out hl.lt).below hb (by have := hl.lt; simp; omega))
  obtain ⟨_, g0, g1, _, _, _, _⟩ := HG.out.below hb (by simp)
  clear hb hl
  go_wp2
  go_loop [12] (fun vk => ∃ k : Nat, vk = .int .i64 k ∧ k ≤ n ∧ Hid (∀ j (h : j < xs.length), j < k → inr W L xs[j] = true)) (fun vk => n - (intOf vk).toNat)
  case atStart => exact ⟨0, rfl, by omega, Lib.hid fun j _ hj => by omega⟩
  case round =>
    obtain ⟨k, rfl, hk, hall⟩ := hrel
    by_cases hlt : k < n
    · have hkx : k < xs.length := by have := HN.out; omega
      have hc := HL.out.at_ k hkx
      rw [Nat.zero_add] at hc
      obtain ⟨X, hX⟩ : ∃ X, X = xs[k] := ⟨_, rfl⟩
      rw [← hX] at hc
      by_cases hx : 0 ≤ X ∧ X ≤ W * L
      · have HNX : Hid (∀ j (h : j < xs.length), j < k + 1 → inr W L xs[j] = true) := Lib.hid fun j h hj => by
          rcases Nat.lt_or_ge j k with h3 | h3
          · exact hall.out j h h3
          · obtain rfl : j = k := by omega
            rw [← hX]
            exact inr_iff.2 hx
        clear hX
        obtain ⟨x0, x1⟩ := hx
        go_wp2
        go_round
        case rel => exact ⟨k + 1, by go_num, by omega, HNX⟩
        case measure => simp [intOf]; omega
      · have HF := Lib.hid (show xs.all (inr W L) = false by
          rw [List.all_eq_false]
          exact ⟨xs[k], List.getElem_mem hkx, by rw [← hX, inr_iff]; exact hx⟩)
        clear hX
        by_cases hx0 : X < 0
        · go_wp2
          go_ret
          exact ⟨by rw [HA.out, HF.out]; rfl, HB.out⟩
        · have hx1 : W * L < X := by omega
          clear hx
          go_wp2
          go_ret
          exact ⟨by rw [HA.out, HF.out]; rfl, HB.out⟩
    · have HT := Lib.hid (show xs.all (inr W L) = true by
        rw [List.all_eq_true]
        intro x hx
        obtain ⟨j, hj, rfl⟩ := List.getElem_of_mem hx
        exact hall.out j hj (by have := HN.out; omega))
      go_wp2
      go_ret
      exact ⟨by rw [HA.out, HT.out]; rfl, HB.out⟩
end Go.Proofs.Ytcoijhemnfnghaa
