/-
  The closure that emits literals.
-/
import Derived.Test.YtihiccccpjakgaaZEmit
import Derived.Test.YtihiccccpjakgaaNHeld
namespace Go.Proofs.Ytihiccccpjakgaa
open Go.RowKit
set_option linter.unusedVariables false
set_option linter.unusedSimpArgs false
/-- Pack's own variables: the bytes, the closure that emits, from and at -/
structure Boxes (X : World) (C : Nat) (ad : Option Addr) (N cap from_ at_ : Nat) : Prop where
  b1 : X.heap[C]? = some (.cells #[.slice ad N cap] 22 (0, 0))
  em : X.heap[C + 2]? = some (.cells #[.func (.func 33) #[] #[.pointer (some ⟨C + 1, 0, none⟩)]] 60 (0, 0))
  fb : X.heap[C + 3]? = some (.cells #[.int .i64 (from_ : Nat)] 3 (0, 0))
  ab : X.heap[C + 4]? = some (.cells #[.int .i64 (at_ : Nat)] 3 (0, 0))
theorem Boxes.v {X Y : World} {C : Nat} {ad : Option Addr} {N cap from_ at_ : Nat} (h : Boxes X C ad N cap from_ at_) (hk : KeepV C (C + 1) X Y) : Boxes Y C ad N cap from_ at_ :=
  ⟨hk.cell (by omega) h.b1 (by decide), hk.cell (by omega) h.em (by decide), hk.cell (by omega) h.fb (by decide), hk.cell (by omega) h.ab (by decide)⟩
theorem Boxes.drew {X : World} {C : Nat} {ad : Option Addr} {N cap from_ at_ : Nat} (h : Boxes X C ad N cap from_ at_) : Boxes X.drew C ad N cap from_ at_ := ⟨h.b1, h.em, h.fb, h.ab⟩
/-- the form of literals that were not emitted yet -/
def litF (xs : List UInt8) (from_ at_ : Nat) : List UInt8 := if from_ < at_ then enc (2 * (at_ - from_)) ++ (xs.drop from_).take (at_ - from_) else []
set_option maxRecDepth 100000 in
set_option maxHeartbeats 1000000 in
theorem elit_any (ad : Option Addr) (cap : Nat) (xs l : List UInt8) (w0 w : World) (from_ at_ : Nat) (hl : Lie w0 ad xs) (hn : xs.length ≤ cap) (hs : xs.length ≤ 400000) (h0 : Below w0.heap.size w0 w) (hbx : Boxes w w0.heap.size ad xs.length cap from_ at_) (hbu : BoxU w w0.heap.size (w0.heap.size + 1) l)
    (hft : from_ ≤ at_) (hat : at_ ≤ xs.length) (hll : l.length ≤ 1000000) :
    Calls Try.prog 35 #[.pointer (some ⟨w0.heap.size + 3, 0, none⟩), .pointer (some ⟨w0.heap.size + 4, 0, none⟩), .pointer (some ⟨w0.heap.size + 2, 0, none⟩), .pointer (some ⟨w0.heap.size, 0, none⟩)] w fun e w' =>
      e = .returned (.tuple #[]) ∧ BoxU w' w0.heap.size (w0.heap.size + 1) (l ++ litF xs from_ at_) ∧ KeepV w0.heap.size (w0.heap.size + 1) w w' := by
  unfold litF
  obtain ⟨C, hC⟩ : ∃ C, w0.heap.size = C := ⟨_, rfl⟩
  have hlC : ∀ W, Below C w0 W → Lie W ad xs := fun W h => hl.below (by rw [← hC] at h; exact h) rfl
  rw [hC] at h0 hbx hbu ⊢
  have hsz : C ≤ w.heap.size := by rw [← hC]; exact h0.size
  have hc3 := cell_of_one hbx.fb
  have hc4 := cell_of_one hbx.ab
  by_cases h : from_ < at_
  · rw [if_pos h]
    obtain ⟨D, hD⟩ : ∃ D : Nat, (at_ : Int) - (from_ : Int) = D := ⟨at_ - from_, by omega⟩
    have hD2 : at_ - from_ = D := by omega
    rcases hl.at_ with h1 | ⟨b, off, rfl, hlt, _⟩
    · subst h1; rw [List.length_nil] at hat; omega
    have hcap : from_ < cap := by omega
    have hac : at_ ≤ cap := by omega
    have hcne : ¬ cap = from_ := by omega
    have hw1 : IntKind.i64.wrap (D : Int) = (D : Int) := by rw [IntKind.wrap_i64]; omega
    have hw2 : IntKind.i64.wrap (2 * (D : Int)) = 2 * (D : Int) := by rw [IntKind.wrap_i64]; omega
    have hrl : ((xs.drop from_).take D).length = D := by rw [List.length_take, List.length_drop]; omega
    have hem : ∀ W, KeepV C (C + 1) w W → BoxU W C (C + 1) l → Calls Try.prog 33 #[.int .i64 (2 * (D : Int)), .slice (some ⟨b, off + from_, none⟩) D (cap - from_), .pointer (some ⟨C + 1, 0, none⟩)] W fun e w' => e = .returned (.tuple #[]) ∧ BoxU w' C (C + 1) (l ++ enc (2 * D) ++ (xs.drop from_).take D) ∧ KeepV C (C + 1) W w' := by
      intro W hW ⟨v, hv, ho⟩
      have hlW := hlC W (h0.trans hW.below)
      have := emit_any C C (C + 1) v l ((xs.drop from_).take D) (2 * D) (some ⟨b, off + from_, none⟩) (cap - from_) W hv ho
        ⟨hlW.part2 from_ D, .inr ⟨b, off + from_, rfl, by have := hW.below.size; omega, by omega, fun e => by have := (ho.lt b e).1; omega⟩⟩ (fun h => by cases h) (Nat.le_refl _) (by omega) (Nat.le_trans hsz hW.below.size) (by omega) hll (by omega)
      rw [hrl] at this
      push_cast at this
      exact this
    have HEM := Lib.hid hem
    have HBX := Lib.hid hbx.drew
    have hkd : KeepV C (C + 1) w w.drew := KeepV.new ((Below.refl _ _).drew) hsz
    have HKD := Lib.hid hkd
    have HBU := Lib.hid (hbu.below (Below.drew (Below.refl w.heap.size w)))
    rw [hD2]
    clear hem hbx hkd hbu hl hlC hrl
    go_enter Try.func35, Try.ntmps35
    go_wp2_with fail
    refine wp_region_noPanic ?_
    refine wp_region_held_drew (S := fun X => Boxes X C (some ⟨b, off, none⟩) xs.length cap from_ at_) (by kernel_rfl) (HBX.out) (fun hS0 => ?_)
    refine held_take (i := 0) (v := ?_) rfl (by kernel_rfl) (by kernel_rfl) (by kernel_rfl) (fun _ _ _ h => h) (by rfl) ?_ (by assumption) ?_
    rotate_left
    · intro X hSX
      try dsimp only at hSX
      have hcell := cell_of_one hSX.em
      go_simp <;> with_reducible rfl
    simp only [Act.put, List.setIfInBounds_toArray, List.set_cons_zero, List.set_cons_succ]
    refine held_take (i := 1) (v := ?_) rfl (by kernel_rfl) (by kernel_rfl) (by kernel_rfl) (fun _ _ _ h => h) (by rfl) ?_ (by assumption) ?_
    rotate_left
    · intro X hSX
      try dsimp only at hSX
      have hcell := cell_of_one hSX.ab
      go_simp <;> with_reducible rfl
    simp only [Act.put, List.setIfInBounds_toArray, List.set_cons_zero, List.set_cons_succ]
    refine held_take (i := 2) (v := ?_) rfl (by kernel_rfl) (by kernel_rfl) (by kernel_rfl) (fun _ _ _ h => h) (by rfl) ?_ (by assumption) ?_
    rotate_left
    · intro X hSX
      try dsimp only at hSX
      have hcell := cell_of_one hSX.fb
      go_simp <;> with_reducible rfl
    simp only [Act.put, List.setIfInBounds_toArray, List.set_cons_zero, List.set_cons_succ]
    refine held_take (i := 3) (v := ?_) rfl (by kernel_rfl) (by kernel_rfl) (by kernel_rfl) (fun _ _ _ h => h) (by rfl) ?_ (by assumption) ?_
    rotate_left
    · intro X hSX
      try dsimp only at hSX
      go_simp <;> with_reducible rfl
    simp only [Act.put, List.setIfInBounds_toArray, List.set_cons_zero, List.set_cons_succ]
    refine held_take (i := 4) (v := ?_) rfl (by kernel_rfl) (by kernel_rfl) (by kernel_rfl) (fun _ _ _ h => h) (by rfl) ?_ (by assumption) ?_
    rotate_left
    · intro X hSX
      try dsimp only at hSX
      go_simp <;> with_reducible rfl
    simp only [Act.put, List.setIfInBounds_toArray, List.set_cons_zero, List.set_cons_succ]
    refine held_take (i := 5) (v := ?_) rfl (by kernel_rfl) (by kernel_rfl) (by kernel_rfl) (fun _ _ _ h => h) (by rfl) ?_ (by assumption) ?_
    rotate_left
    · intro X hSX
      try dsimp only at hSX
      have hcell := cell_of_one hSX.b1
      go_simp <;> with_reducible rfl
    simp only [Act.put, List.setIfInBounds_toArray, List.set_cons_zero, List.set_cons_succ]
    refine held_take (i := 6) (v := ?_) rfl (by kernel_rfl) (by kernel_rfl) (by kernel_rfl) (fun _ _ _ h => h) (by rfl) ?_ (by assumption) ?_
    rotate_left
    · intro X hSX
      try dsimp only at hSX
      have hcell := cell_of_one hSX.fb
      go_simp <;> with_reducible rfl
    simp only [Act.put, List.setIfInBounds_toArray, List.set_cons_zero, List.set_cons_succ]
    refine held_take (i := 7) (v := ?_) rfl (by kernel_rfl) (by kernel_rfl) (by kernel_rfl) (fun _ _ _ h => h) (by rfl) ?_ (by assumption) ?_
    rotate_left
    · intro X hSX
      try dsimp only at hSX
      have hcell := cell_of_one hSX.ab
      go_simp <;> with_reducible rfl
    simp only [Act.put, List.setIfInBounds_toArray, List.set_cons_zero, List.set_cons_succ]
    refine held_take (i := 8) (v := ?_) rfl (by kernel_rfl) (by kernel_rfl) (by kernel_rfl) (fun _ _ _ h => h) (by rfl) ?_ (by assumption) ?_
    rotate_left
    · intro X hSX
      try dsimp only at hSX
      go_simp <;> with_reducible rfl
    simp only [Act.put, List.setIfInBounds_toArray, List.set_cons_zero, List.set_cons_succ]
    refine held_call (i := 9) rfl (by kernel_rfl) (by rfl) (fun K' hK' => ?_)
    go_simp
    refine (HEM.out _ HKD.out HBU.out).mono ?_
    rintro e w2 ⟨rfl, hbu2, hk2⟩
    have HX2 := Lib.hid (HBX.out.v hk2)
    have HBU2 := Lib.hid hbu2
    have HK2 := Lib.hid (HKD.out.trans hk2)
    clear hbu2 hk2
    refine held_go hK' (HX2.out) ?_
    try simp only [Act.put, List.setIfInBounds_toArray, List.set_cons_zero, List.set_cons_succ]
    refine wpAnyH_done (by kernel_rfl) ?_ _
    refine NoPanic.normal ?_
    go_wp2
    go_end0
    exact ⟨rfl, by rw [← List.append_assoc]; exact HBU2.out, HK2.out⟩
  · rw [if_neg h, List.append_nil]
    have HBU := Lib.hid hbu
    clear hbu hbx hl hlC
    go_enter Try.func35, Try.ntmps35
    go_wp2
    go_end0
    exact ⟨rfl, HBU.out, .refl _ _ _⟩
end Go.Proofs.Ytihiccccpjakgaa
