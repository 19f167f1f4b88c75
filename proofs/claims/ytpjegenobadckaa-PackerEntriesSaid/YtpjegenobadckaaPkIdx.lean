/-
  slices.IndexFunc and ContainsFunc over numbers and over pieces, whatever function is handed in.
-/
import Derived.Test.YtpjegenobadckaaPkMem
import Derived.Test.YtpjegenobadckaaPkMath
import Derived.Deep.LoopGhost
import Derived.IntWalk
namespace Go.Proofs.Ytpjegenobadckaa
open Go.RowKit
set_option linter.unusedVariables false
/-- the number of the first that answers, or -1 -/
def fixA {α : Type} (p : α → Bool) (l : List α) : Int :=
  match l.findIdx? p with
  | some k => (k : Int)
  | none => -1
section
variable {α : Type} {p : α → Bool} {l : List α}
theorem fixA_no (h : ∀ j (h : j < l.length), p l[j] = false) : fixA p l = -1 := by
  have : l.findIdx? p = none := by
    rw [List.findIdx?_eq_none_iff]
    intro x hx
    obtain ⟨j, hj, rfl⟩ := List.getElem_of_mem hx
    exact h j hj
  unfold fixA
  rw [this]
theorem fixA_at {k : Nat} (hk : k < l.length) (h : p l[k] = true) (hall : ∀ j (h : j < l.length), j < k → p l[j] = false) : fixA p l = (k : Int) := by
  have : l.findIdx? p = some k := by
    rw [List.findIdx?_eq_some_iff_getElem]
    exact ⟨hk, h, fun j hj => by rw [hall j (by omega) hj]; simp⟩
  unfold fixA
  rw [this]
theorem any_fixA : decide (0 ≤ fixA p l) = l.any p := by
  unfold fixA
  cases h : l.findIdx? p with
  | none =>
    rw [List.findIdx?_eq_none_iff] at h
    symm
    rw [show decide ((0 : Int) ≤ -1) = false from rfl, List.any_eq_false]
    intro x hx
    simp [h x hx]
  | some k =>
    rw [List.findIdx?_eq_some_iff_getElem] at h
    obtain ⟨hk, h1, h2⟩ := h
    symm
    rw [show decide ((0 : Int) ≤ (k : Int)) = true from decide_eq_true (by omega), List.any_eq_true]
    exact ⟨l[k], List.getElem_mem hk, h1⟩
end
abbrev pcV (x : Pc) : Value := .agg #[.int .i64 x.f, .int .i64 x.o, .int .i64 x.n]
def pcC (x : Pc) : List Value := [.int .i64 x.f, .int .i64 x.o, .int .i64 x.n]
theorem celP : Cel pcC 3 := ⟨fun _ => rfl, fun x u hu => by simp [pcC] at hu; rcases hu with rfl | rfl | rfl <;> rfl, by decide⟩
theorem typP : Typ Try.prog 36 33 3 24 (.agg #[.int .i64 0, .int .i64 0, .int .i64 0]) := ⟨by kernel_rfl, Try.underlying33, rfl, by decide⟩
theorem typPP : Typ Try.prog 33 25 1 24 (.slice none 0 0) := ⟨by kernel_rfl, Try.underlying25, rfl, by decide⟩
theorem typQ : Typ Try.prog 46 34 3 24 (.agg #[.int .i64 0, .int .i64 0, .int .i64 0]) := ⟨by kernel_rfl, Try.underlying34, rfl, by decide⟩
theorem typQQ : Typ Try.prog 34 29 1 24 (.slice none 0 0) := ⟨by kernel_rfl, Try.underlying29, rfl, by decide⟩
/-- what a function that is handed to a search owes -/
structure SaysI (fn : Nat) (cb : Array Value) (p : Int → Bool) (I : World → Prop) : Prop where
  enter : ∀ args w, (callFunc fn args).run Try.prog w = .ok (.enter fn args) w
  step : ∀ w w', I w → Below w.heap.size w w' → I w'
  calls : ∀ (x : Int) (w : World), I w → Calls Try.prog fn (#[.int .i64 x] ++ cb) w fun e w' => e = .returned (.bool (p x)) ∧ Below w.heap.size w w'
structure SaysP (fn : Nat) (cb : Array Value) (p : Pc → Bool) (I : World → Prop) : Prop where
  enter : ∀ args w, (callFunc fn args).run Try.prog w = .ok (.enter fn args) w
  step : ∀ w w', I w → Below w.heap.size w w' → I w'
  calls : ∀ (x : Pc) (w : World), I w → Calls Try.prog fn (#[pcV x] ++ cb) w fun e w' => e = .returned (.bool (p x)) ∧ Below w.heap.size w w'
attribute [local irreducible] fixA
set_option maxRecDepth 100000 in
set_option maxHeartbeats 1000000 in
theorem index_i (fn : Nat) (cb : Array Value) (p : Int → Bool) (I : World → Prop) (hp : SaysI fn cb p I) (ad : Option Addr) (n cap : Nat) (l : List Int) (w : World) (hi : I w) (hl : Lf inC w ad l) (hn : n = l.length) (hs : n ≤ 9223372036854775807) :
    Calls Try.prog 46 #[.slice ad n cap, .func (.func fn) #[] cb] w fun e w' => e = .returned (.int .i64 (fixA p l)) ∧ Below w.heap.size w w' := by
  have HL := Lib.hid hl
  have HN := Lib.hid hn
  have HI := Lib.hid hi
  have HY := Lib.hid (fun k (hk : k < l.length) => fixA_at (p := p) hk)
  have HZ := Lib.hid (@fixA_no _ p l)
  have HP := Lib.hid hp
  clear hl hn hp hi
  go_enter Try.func46, Try.ntmps46
  go_wp2
  go_loopg [8] n (fun gk vk wx => ∃ k : Nat, vk = .int .i64 k ∧ k + gk = n ∧ Hid (Below w.heap.size w wx) ∧ Hid (∀ j (h : j < l.length), j < k → p l[j] = false))
  case atStart => exact ⟨0, rfl, by omega, Lib.hid (Below.refl _ _), Lib.hid fun j _ hj => by omega⟩
  case round =>
    obtain ⟨k, rfl, hk, hB, hall⟩ := hrel
    cases gk with
    | zero =>
      obtain rfl : k = n := by omega
      have HF := Lib.hid (HZ.out (fun j hj => hall.out j hj (by have := HN.out; omega)))
      go_wp2
      go_ret
      exact ⟨by rw [HF.out]; rfl, hB.out⟩
    | succ gk0 =>
      have hkn : k < n := by omega
      have hkl : k < l.length := by have := HN.out; omega
      obtain ⟨b, off, rfl, hlt, q⟩ := (HL.out.below hB.out).get celI hkl
      have q0 : wr.cell? ⟨b, off + k, none⟩ = some (.int .i64 l[k]) := by simpa using q 0 _ (by decide) rfl
      clear q
      have HNX : p l[k] = false → Hid (∀ j (h : j < l.length), j < k + 1 → p l[j] = false) := fun hc => Lib.hid fun j h hj => by
        rcases Nat.lt_or_ge j k with h3 | h3
        · exact hall.out j h h3
        · obtain rfl : j = k := by omega
          exact hc
      have HNO : p l[k] = true → Hid (fixA p l = (k : Int)) := fun hc => Lib.hid (HY.out k hkl hc hall.out)
      generalize l[k] = x at *
      clear hkl
      go_wp2_with fail
      rw [HP.out.enter]
      refine (HP.out.calls x _ (HP.out.step _ _ HI.out hB.out)).mono ?_
      rintro e w5 ⟨rfl, hb⟩
      have HB5 := Lib.hid (hB.out.trans (hb.mono hB.out.size))
      clear hb q0
      cases hok : p x
      · have HR := HNX hok
        clear HNX HNO hok
        go_wp2
        go_roundg gk0
        case rel => exact ⟨k + 1, by go_num, by omega, HB5, HR⟩
        case measure => omega
      · have HR := HNO hok
        clear HNX HNO hok
        go_wp2
        go_ret
        exact ⟨by rw [HR.out]; rfl, HB5.out⟩
set_option maxRecDepth 100000 in
set_option maxHeartbeats 1000000 in
theorem contains_i (fn : Nat) (cb : Array Value) (p : Int → Bool) (I : World → Prop) (hp : SaysI fn cb p I) (ad : Option Addr) (n cap : Nat) (l : List Int) (w : World) (hi : I w) (hl : Lf inC w ad l) (hn : n = l.length) (hs : n ≤ 9223372036854775807) :
    Calls Try.prog 36 #[.slice ad n cap, .func (.func fn) #[] cb] w fun e w' => e = .returned (.bool (l.any p)) ∧ Below w.heap.size w w' := by
  have HX := Lib.hid (index_i fn cb p I hp ad n cap l w hi hl hn hs)
  have HF := Lib.hid (any_fixA (p := p) (l := l))
  clear hp hl hn hi
  go_enter Try.func36, Try.ntmps36
  go_wp2_with fail
  refine HX.out.mono ?_
  clear HX
  generalize fixA p l = r at *
  rintro e w1 ⟨rfl, hb⟩
  go_wp2
  go_ret
  exact ⟨by rw [← HF.out]; rfl, hb⟩
set_option maxRecDepth 100000 in
set_option maxHeartbeats 1000000 in
theorem index_p (fn : Nat) (cb : Array Value) (p : Pc → Bool) (I : World → Prop) (hp : SaysP fn cb p I) (ad : Option Addr) (n cap : Nat) (l : List Pc) (w : World) (hi : I w) (hl : Lf pcC w ad l) (hn : n = l.length) (hs : n ≤ 9223372036854775807) :
    Calls Try.prog 47 #[.slice ad n cap, .func (.func fn) #[] cb] w fun e w' => e = .returned (.int .i64 (fixA p l)) ∧ Below w.heap.size w w' := by
  have HL := Lib.hid hl
  have HN := Lib.hid hn
  have HI := Lib.hid hi
  have HY := Lib.hid (fun k (hk : k < l.length) => fixA_at (p := p) hk)
  have HZ := Lib.hid (@fixA_no _ p l)
  have HP := Lib.hid hp
  clear hl hn hp hi
  go_enter Try.func47, Try.ntmps47
  go_wp2
  go_loopg [8] n (fun gk vk wx => ∃ k : Nat, vk = .int .i64 k ∧ k + gk = n ∧ Hid (Below w.heap.size w wx) ∧ Hid (∀ j (h : j < l.length), j < k → p l[j] = false))
  case atStart => exact ⟨0, rfl, by omega, Lib.hid (Below.refl _ _), Lib.hid fun j _ hj => by omega⟩
  case round =>
    obtain ⟨k, rfl, hk, hB, hall⟩ := hrel
    cases gk with
    | zero =>
      obtain rfl : k = n := by omega
      have HF := Lib.hid (HZ.out (fun j hj => hall.out j hj (by have := HN.out; omega)))
      go_wp2
      go_ret
      exact ⟨by rw [HF.out]; rfl, hB.out⟩
    | succ gk0 =>
      have hkn : k < n := by omega
      have hkl : k < l.length := by have := HN.out; omega
      obtain ⟨b, off, rfl, hlt, q⟩ := (HL.out.below hB.out).get celP hkl
      have q0 : wr.cell? ⟨b, off + k * 3, none⟩ = some (.int .i64 l[k].f) := q 0 _ (by decide) rfl
      have q1 : wr.cell? ⟨b, off + k * 3 + 1, none⟩ = some (.int .i64 l[k].o) := q 1 _ (by decide) rfl
      have q2 : wr.cell? ⟨b, off + k * 3 + 2, none⟩ = some (.int .i64 l[k].n) := q 2 _ (by decide) rfl
      clear q
      have HNX : p l[k] = false → Hid (∀ j (h : j < l.length), j < k + 1 → p l[j] = false) := fun hc => Lib.hid fun j h hj => by
        rcases Nat.lt_or_ge j k with h3 | h3
        · exact hall.out j h h3
        · obtain rfl : j = k := by omega
          exact hc
      have HNO : p l[k] = true → Hid (fixA p l = (k : Int)) := fun hc => Lib.hid (HY.out k hkl hc hall.out)
      generalize l[k] = x at *
      clear hkl
      go_wp2_with fail
      rw [HP.out.enter]
      refine (HP.out.calls x _ (HP.out.step _ _ HI.out hB.out)).mono ?_
      rintro e w5 ⟨rfl, hb⟩
      have HB5 := Lib.hid (hB.out.trans (hb.mono hB.out.size))
      clear hb q0 q1 q2
      cases hok : p x
      · have HR := HNX hok
        clear HNX HNO hok
        go_wp2
        go_roundg gk0
        case rel => exact ⟨k + 1, by go_num, by omega, HB5, HR⟩
        case measure => omega
      · have HR := HNO hok
        clear HNX HNO hok
        go_wp2
        go_ret
        exact ⟨by rw [HR.out]; rfl, HB5.out⟩
set_option maxRecDepth 100000 in
set_option maxHeartbeats 1000000 in
theorem contains_p (fn : Nat) (cb : Array Value) (p : Pc → Bool) (I : World → Prop) (hp : SaysP fn cb p I) (ad : Option Addr) (n cap : Nat) (l : List Pc) (w : World) (hi : I w) (hl : Lf pcC w ad l) (hn : n = l.length) (hs : n ≤ 9223372036854775807) :
    Calls Try.prog 37 #[.slice ad n cap, .func (.func fn) #[] cb] w fun e w' => e = .returned (.bool (l.any p)) ∧ Below w.heap.size w w' := by
  have HX := Lib.hid (index_p fn cb p I hp ad n cap l w hi hl hn hs)
  have HF := Lib.hid (any_fixA (p := p) (l := l))
  clear hp hl hn hi
  go_enter Try.func37, Try.ntmps37
  go_wp2_with fail
  refine HX.out.mono ?_
  clear HX
  generalize fixA p l = r at *
  rintro e w1 ⟨rfl, hb⟩
  go_wp2
  go_ret
  exact ⟨by rw [← HF.out]; rfl, hb⟩
end Go.Proofs.Ytpjegenobadckaa
