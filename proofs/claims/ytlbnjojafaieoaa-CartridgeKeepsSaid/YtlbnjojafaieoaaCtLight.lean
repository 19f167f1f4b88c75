/-
  The law package's light and lightBlocks.
-/
import Derived.Test.YtlbnjojafaieoaaCtVal
namespace Go.Proofs.Ytlbnjojafaieoaa
open Go.RowKit
set_option linter.unusedVariables false
def liB (l : List Blk) : Bool := decide (l.length ≤ 300) && l.all fun b => decide (b.d.length ≤ 200)
def liC (c : Crt) : Bool := liB c.l && decide (c.bc.size ≤ 100)
theorem liB_iff {l : List Blk} : liB l = true ↔ l.length ≤ 300 ∧ ∀ b ∈ l, b.d.length ≤ 200 := by
  unfold liB
  rw [Bool.and_eq_true, decide_eq_true_iff, List.all_eq_true]
  simp only [decide_eq_true_eq]
theorem liB_no {l : List Blk} {i : Nat} (h : i < l.length) (h2 : 200 < l[i].d.length) : liB l = false := by
  cases hl : liB l with
  | false => rfl
  | true => have := (liB_iff.1 hl).2 _ (List.getElem_mem h); omega
theorem liB_long {l : List Blk} (h : 300 < l.length) : liB l = false := by
  cases hl : liB l with
  | false => rfl
  | true => have := (liB_iff.1 hl).1; omega
attribute [local irreducible] liB
set_option maxRecDepth 100000 in
set_option maxHeartbeats 1000000 in
theorem lib_any (ad : Option Addr) (n cap : Nat) (l : List Blk) (w : World) (hl : Ki w ad l) (hn : n = l.length) :
    Calls Try.prog 19 #[.slice ad n cap] w fun e w' => e = .returned (.bool (liB l)) ∧ Below w.heap.size w w' := by
  have HL := Lib.hid hl
  have HN := Lib.hid hn
  have HNO := Lib.hid (fun i (h : i < l.length) => @liB_no l i h)
  have HLG := Lib.hid (@liB_long l)
  have HY := Lib.hid (@liB_iff l)
  clear hl hn
  by_cases h3 : 300 < n
  · have HF := Lib.hid (HLG.out (by rw [← HN.out]; exact h3))
    go_enter Try.func19, Try.ntmps19
    go_wp2
    go_ret
    exact ⟨by rw [HF.out]; rfl, Below.refl _ _⟩
  go_enter Try.func19, Try.ntmps19
  go_wp2
  go_loopg [3] n (fun gk vk wx => ∃ k : Nat, vk = .int .i64 k ∧ k + gk = n ∧ wx = w ∧ Hid (∀ j (h : j < l.length), j < k → l[j].d.length ≤ 200))
  case atStart => exact ⟨0, rfl, by omega, rfl, Lib.hid fun j _ hj => by omega⟩
  case round =>
    obtain ⟨k, rfl, hk, rfl, hall⟩ := hrel
    cases gk with
    | zero =>
      obtain rfl : k = n := by omega
      have HF := Lib.hid (HY.out.2 ⟨by rw [← HN.out]; omega, fun b hb => by
        obtain ⟨j, hj, rfl⟩ := List.getElem_of_mem hb
        exact hall.out j hj (by rw [HN.out]; exact hj)⟩)
      go_wp2
      go_ret
      exact ⟨by rw [HF.out]; rfl, Below.refl _ _⟩
    | succ gk0 =>
      have hkn : k < n := by omega
      have hkl : k < l.length := by rw [← HN.out]; exact hkn
      obtain ⟨b, off, ad', cap', rfl, hlt, q0, q1, q2, qr⟩ := HL.out.get hkl
      clear qr q0 q1
      have HNX : l[k].d.length ≤ 200 → Hid (∀ j (h : j < l.length), j < k + 1 → l[j].d.length ≤ 200) := fun hc => Lib.hid fun j h hj => by
        rcases Nat.lt_or_ge j k with h3 | h3
        · exact hall.out j h h3
        · obtain rfl : j = k := by omega
          exact hc
      have HN2 : 200 < l[k].d.length → Hid (liB l = false) := fun hc => Lib.hid (HNO.out k hkl hc)
      generalize l[k].d.length = xn at *
      clear hkl
      by_cases hx : 200 < xn
      · have HR := HN2 hx
        clear HNX HN2
        go_wp2
        go_ret
        exact ⟨by rw [HR.out]; rfl, Below.refl _ _⟩
      · have HR := HNX (by omega)
        clear HNX HN2
        go_wp2
        go_roundg gk0
        case rel => exact ⟨k + 1, by go_num, by omega, rfl, HR⟩
        case measure => omega
set_option maxRecDepth 100000 in
set_option maxHeartbeats 1000000 in
theorem light_any (c : Crt) (ad : Option Addr) (cap : Nat) (w : World) (hin : CrIn w c ad cap) :
    Calls Try.prog 10 #[crV c ad cap] w fun e w' => e = .returned (.bool (liC c)) ∧ Below w.heap.size w w' := by
  have HX := Lib.hid (fun n (hn : n = c.l.length) X (h : Below w.heap.size w X) => lib_any ad n cap c.l X (hin.ki.below h) hn)
  have hbs := hin.bs
  have HF := Lib.hid (show liC c = (liB c.l && decide (c.bc.size ≤ 100)) from rfl)
  clear hin
  obtain ⟨bc, W, L, S, T, J, R, wo, lk, l, ep, lo, pa⟩ := c
  obtain ⟨M, hM⟩ : ∃ M, M = l.length := ⟨_, rfl⟩
  show Calls Try.prog 10 #[crW bc W L S T J R wo lk ad l.length cap ep lo pa] w _
  simp only at HX HF hbs
  have HX2 := Lib.hid (HX.out M hM)
  rw [← hM]
  clear hM HX
  generalize liB l = lb at *
  have HB0 := Lib.hid (below_box1 w (boxK bc W L S T J R wo lk ad M cap ep lo pa))
  have HC := Lib.hid (CrAt.new w bc W L S T J R wo lk ad M cap ep lo pa 26)
  go_enter Try.func10, Try.ntmps10
  go_wp2_with fail
  generalize World.alloc _ _ = X0 at *
  obtain ⟨_, k0, k1, k2, k3, k4, k5, k6, k7, k8, k9, k10, k11, k12⟩ := HC.out
  go_wp2_with fail
  clear k0 k1 k2 k3 k4 k5 k6 k7 k8 k9 k10 k11 k12
  refine (HX2.out X0 HB0.out).mono ?_
  rintro e w1 ⟨rfl, hb⟩
  have HB1 := Lib.hid (HB0.out.trans (hb.mono HB0.out.size))
  obtain ⟨_, k0, k1, k2, k3, k4, k5, k6, k7, k8, k9, k10, k11, k12⟩ := HC.out.below hb HC.out.lt
  clear hb
  cases lb
  · go_wp2
    go_ret
    exact ⟨by rw [HF.out]; rfl, HB1.out⟩
  by_cases h1 : bc.size ≤ 100
  · have hd : decide ((bc.size : Int) ≤ 100) = true := decide_eq_true (by omega)
    rw [decide_eq_true h1] at HF
    go_wp2
    go_ret
    exact ⟨by rw [HF.out]; rfl, HB1.out⟩
  · have hd : decide ((bc.size : Int) ≤ 100) = false := decide_eq_false (by omega)
    rw [decide_eq_false h1] at HF
    go_wp2
    go_ret
    exact ⟨by rw [HF.out]; rfl, HB1.out⟩
end Go.Proofs.Ytlbnjojafaieoaa
