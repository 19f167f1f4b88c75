/-
  slices.IndexFunc and ContainsFunc over blocks.
-/
import Derived.Test.YtlbnjojafaieoaaCtBar
namespace Go.Proofs.Ytlbnjojafaieoaa
open Go.RowKit
set_option linter.unusedVariables false
/-- the number of the first block that answers, or -1 -/
def fixI (p : Bool → Bool → Nat → Bool) (l : List Blk) : Int :=
  match l.findIdx? (fun b => p b.m b.bad b.d.length) with
  | some k => (k : Int)
  | none => -1
theorem fix_no {p : Bool → Bool → Nat → Bool} {l : List Blk} (h : ∀ j (h : j < l.length), p l[j].m l[j].bad l[j].d.length = false) : fixI p l = -1 := by
  have : l.findIdx? (fun b => p b.m b.bad b.d.length) = none := by
    rw [List.findIdx?_eq_none_iff]
    intro x hx
    obtain ⟨j, hj, rfl⟩ := List.getElem_of_mem hx
    exact h j hj
  unfold fixI
  rw [this]
theorem fix_at {p : Bool → Bool → Nat → Bool} {l : List Blk} {k : Nat} (hk : k < l.length) (h : p l[k].m l[k].bad l[k].d.length = true) (hall : ∀ j (h : j < l.length), j < k → p l[j].m l[j].bad l[j].d.length = false) : fixI p l = (k : Int) := by
  have : l.findIdx? (fun b => p b.m b.bad b.d.length) = some k := by
    rw [List.findIdx?_eq_some_iff_getElem]
    exact ⟨hk, h, fun j hj => by rw [hall j (by omega) hj]; simp⟩
  unfold fixI
  rw [this]
theorem fix_cases (p : Bool → Bool → Nat → Bool) (l : List Blk) : (fixI p l = -1 ∧ ∀ j (h : j < l.length), p l[j].m l[j].bad l[j].d.length = false) ∨
    ∃ k : Nat, fixI p l = (k : Int) ∧ ∃ hk : k < l.length, p l[k].m l[k].bad l[k].d.length = true ∧ ∀ j (h : j < l.length), j < k → p l[j].m l[j].bad l[j].d.length = false := by
  unfold fixI
  cases h : l.findIdx? (fun b => p b.m b.bad b.d.length) with
  | none =>
    rw [List.findIdx?_eq_none_iff] at h
    exact .inl ⟨rfl, fun j hj => h _ (List.getElem_mem hj)⟩
  | some k =>
    rw [List.findIdx?_eq_some_iff_getElem] at h
    obtain ⟨hk, h1, h2⟩ := h
    exact .inr ⟨k, rfl, hk, h1, fun j hj hjk => by simpa using h2 j hjk⟩
/-- does a block answer? -/
def anyI (p : Bool → Bool → Nat → Bool) (l : List Blk) : Bool := decide (0 ≤ fixI p l)
theorem anyI_eq (p : Bool → Bool → Nat → Bool) (l : List Blk) : anyI p l = l.any fun b => p b.m b.bad b.d.length := by
  unfold anyI
  rcases fix_cases p l with ⟨h1, h2⟩ | ⟨k, h1, hk, h2, _⟩
  · rw [h1]
    symm
    rw [show decide ((0 : Int) ≤ -1) = false from rfl, List.any_eq_false]
    intro x hx
    obtain ⟨j, hj, rfl⟩ := List.getElem_of_mem hx
    rw [h2 j hj]; simp
  · rw [h1]
    symm
    rw [show decide ((0 : Int) ≤ (k : Int)) = true from decide_eq_true (by omega), List.any_eq_true]
    exact ⟨l[k], List.getElem_mem hk, h2⟩
/-- what a function that is handed to a search owes -/
structure Says (fn : Nat) (p : Bool → Bool → Nat → Bool) : Prop where
  enter : ∀ args w, (callFunc fn args).run Try.prog w = .ok (.enter fn args) w
  calls : ∀ (m bad : Bool) (ad : Option Addr) (n cap : Nat) (w : World), Calls Try.prog fn #[.agg #[.bool m, .bool bad, .slice ad n cap]] w fun e w' => e = .returned (.bool (p m bad n)) ∧ Below w.heap.size w w'
theorem says_not : Says 38 pNot := ⟨fun args w => by go_simp, notblk_any⟩
theorem says_unfit : Says 51 pUnfit := ⟨fun args w => by go_simp, unfit_any⟩
theorem says_bad : Says 46 pBad := ⟨fun args w => by go_simp, bad_any⟩
theorem says_mark : Says 48 pMark := ⟨fun args w => by go_simp, mark_any⟩
attribute [local irreducible] fixI
set_option maxRecDepth 100000 in
set_option maxHeartbeats 1000000 in
theorem index_any (fn : Nat) (p : Bool → Bool → Nat → Bool) (hp : Says fn p) (ad : Option Addr) (n cap : Nat) (l : List Blk) (w : World) (hl : Ki w ad l) (hn : n = l.length) (hs : n ≤ 9223372036854775807) :
    Calls Try.prog 45 #[.slice ad n cap, .func (.func fn) #[] #[]] w fun e w' => e = .returned (.int .i64 (fixI p l)) ∧ Below w.heap.size w w' := by
  have HL := Lib.hid hl
  have HN := Lib.hid hn
  have HY := Lib.hid (fun k (hk : k < l.length) => fix_at (p := p) hk)
  have HZ := Lib.hid (@fix_no p l)
  have HP := Lib.hid hp
  clear hl hn hp
  go_enter Try.func45, Try.ntmps45
  go_wp2
  go_loopg [8] n (fun gk vk wx => ∃ k : Nat, vk = .int .i64 k ∧ k + gk = n ∧ Hid (Below w.heap.size w wx) ∧ Hid (∀ j (h : j < l.length), j < k → p l[j].m l[j].bad l[j].d.length = false))
  case atStart => exact ⟨0, rfl, by omega, Lib.hid (Below.refl _ _), Lib.hid fun j _ hj => by omega⟩
  case round =>
    obtain ⟨k, rfl, hk, hB, hall⟩ := hrel
    cases gk with
    | zero =>
      obtain rfl : k = n := by omega
      have HF := Lib.hid (HZ.out (fun j hj => hall.out j hj (by have := HN.out; omega)))
      go_wp2
      go_ret
      exact ⟨by rw [HF.out]; rfl, hB.out⟩
    | succ gk0 =>
      have hkn : k < n := by omega
      have hkl : k < l.length := by have := HN.out; omega
      obtain ⟨b, off, ad', cap', rfl, hlt, q0, q1, q2, qr⟩ := (HL.out.below hB.out).get hkl
      clear qr
      have HNX : p l[k].m l[k].bad l[k].d.length = false → Hid (∀ j (h : j < l.length), j < k + 1 → p l[j].m l[j].bad l[j].d.length = false) := fun hc => Lib.hid fun j h hj => by
        rcases Nat.lt_or_ge j k with h3 | h3
        · exact hall.out j h h3
        · obtain rfl : j = k := by omega
          exact hc
      have HNO : p l[k].m l[k].bad l[k].d.length = true → Hid (fixI p l = (k : Int)) := fun hc => Lib.hid (HY.out k hkl hc hall.out)
      generalize l[k].m = xm at *
      generalize l[k].bad = xb at *
      generalize l[k].d.length = xn at *
      clear hkl
      go_wp2_with fail
      rw [HP.out.enter]
      refine (HP.out.calls xm xb ad' xn cap' _).mono ?_
      rintro e w5 ⟨rfl, hb⟩
      have HB5 := Lib.hid (hB.out.trans (hb.mono hB.out.size))
      clear hb q0 q1 q2
      cases hok : p xm xb xn
      · have HR := HNX hok
        clear HNX HNO hok
        go_wp2
        go_roundg gk0
        case rel => exact ⟨k + 1, by go_num, by omega, HB5, HR⟩
        case measure => omega
      · have HR := HNO hok
        clear HNX HNO hok
        go_wp2
        go_ret
        exact ⟨by rw [HR.out]; rfl, HB5.out⟩
end Go.Proofs.Ytlbnjojafaieoaa
