/-
  SameBlocks of the specification of containers.
-/
import Derived.Test.YtjiijjdmkeeilaaDoorCtSame
namespace Go.Proofs.YtjiijjdmkeeilaaDoor
open Go.RowKit
set_option linter.unusedVariables false
attribute [local irreducible] eqK
set_option maxRecDepth 100000 in
set_option maxHeartbeats 4000000 in
theorem rsameb_any (ad bd : Option Addr) (n m cap mcap : Nat) (l k : List Blk) (w : World) (h1 : Ki w ad l) (h2 : Ki w bd k) (hn : n = l.length) (hm : m = k.length) (hs : n ≤ 100000) :
    Calls Tryd.prog 13 #[.slice ad n cap, .slice bd m mcap] w fun e w' => e = .returned (.bool (eqK l k)) ∧ Below w.heap.size w w' := by
  have H1 := Lib.hid h1
  have H2 := Lib.hid h2
  have HN := Lib.hid hn
  have HM := Lib.hid hm
  by_cases hnm : n = m
  rotate_left
  · have HF := Lib.hid (eqK_no (l := l) (m := k) (fun e => by subst e; omega))
    have hnm2 : ((n : Int) == (m : Int)) = false := by rw [beq_eq_false_iff_ne]; omega
    clear h1 h2 hn hm
    go_enter Tryd.func13, Tryd.ntmps13
    go_wp2
    go_ret
    exact ⟨by rw [HF.out]; rfl, Below.refl _ _⟩
  subst hnm
  clear h1 h2 hn hm
  go_enter Tryd.func13, Tryd.ntmps13
  go_wp2
  go_loopg [5] n (fun gk vk wx => ∃ i : Nat, i + gk = n ∧ vk = .int .i64 i ∧ Hid (∀ j (h : j < l.length) (h' : j < k.length), j < i → l[j] = k[j]) ∧ Hid (Below w.heap.size w wx))
  case atStart => exact ⟨0, by omega, rfl, Lib.hid fun j _ _ hj => by omega, Lib.hid (Below.refl _ _)⟩
  case round =>
    obtain ⟨i, hi, rfl, hall, hB⟩ := hrel
    cases gk with
    | zero =>
      obtain rfl : i = n := by omega
      have HR := Lib.hid (eqK_all (l := l) (m := k) (by have := HN.out; have := HM.out; omega) fun j h h' => hall.out j h h' (by have := HN.out; omega))
      go_wp2
      go_ret
      exact ⟨by rw [HR.out]; rfl, hB.out⟩
    | succ gk0 =>
      have hin : (i : Int) < (n : Int) := by omega
      have hil : i < l.length := by have := HN.out; omega
      have hik : i < k.length := by have := HM.out; omega
      obtain ⟨b, off, ad', cap', rfl, hlt, p0, p1, p2, hp, _⟩ := (H1.out.below hB.out).get hil
      obtain ⟨b2, off2, bd', cap2, rfl, hlt2, q0, q1, q2, hq, _⟩ := (H2.out.below hB.out).get hik
      have HNX : l[i] = k[i] → Hid (∀ j (h : j < l.length) (h' : j < k.length), j < i + 1 → l[j] = k[j]) := fun he => Lib.hid fun j h h' hj => by
        rcases Nat.lt_or_ge j i with h3 | h3
        · exact hall.out j h h' h3
        · obtain rfl : j = i := by omega
          exact he
      have HNO := Lib.hid (fun h => eqK_at (l := l) (m := k) hil hik h)
      have HEQ := Lib.hid (fun a b c => HNX (blk_eq a b c))
      have cv1 : ∀ z, (convert 26 9 (.slice ad' l[i].d.length cap')).run Tryd.prog (wr.drewN z) = .ok (.string ⟨l[i].d.toArray⟩) (wr.drewN z) := fun z => conv_lie cap' (hp.drewN z)
      have cv2 : ∀ z, (convert 26 9 (.slice bd' k[i].d.length cap2)).run Tryd.prog (wr.drewN z) = .ok (.string ⟨k[i].d.toArray⟩) (wr.drewN z) := fun z => conv_lie cap2 (hq.drewN z)
      clear HNX hp hq
      generalize l[i].m = xm at *
      generalize l[i].bad = xb at *
      generalize k[i].m = ym at *
      generalize k[i].bad = yb at *
      by_cases e1 : xm = ym
      rotate_left
      · have HR := Lib.hid (HNO.out (.inl e1))
        have hm1 : (xm == ym) = false := by rw [beq_eq_false_iff_ne]; exact e1
        clear HNO HEQ e1
        go_wp2_with fail
        go_quiet (fail)
        go_wp2
        go_ret
        exact ⟨by rw [HR.out]; rfl, below_drewN hB.out _⟩
      subst e1
      have hm1 : (xm == xm) = true := by simp
      by_cases e2 : xb = yb
      rotate_left
      · have HR := Lib.hid (HNO.out (.inr (.inl e2)))
        have hm2 : (xb == yb) = false := by rw [beq_eq_false_iff_ne]; exact e2
        clear HNO HEQ e2
        go_wp2_with fail
        go_quiet (fail)
        go_wp2
        go_ret
        exact ⟨by rw [HR.out]; rfl, below_drewN hB.out _⟩
      subst e2
      have hm2 : (xb == xb) = true := by simp
      by_cases e3 : l[i].d = k[i].d
      rotate_left
      · have HR := Lib.hid (HNO.out (.inr (.inr e3)))
        have hst := textC_beq (textC_inj e3)
        clear HNO HEQ e3
        generalize (⟨l[i].d.toArray⟩ : ByteArray) = TS at *
        generalize (⟨k[i].d.toArray⟩ : ByteArray) = TT at *
        go_wp2_with fail
        go_quiet (fail)
        go_wp2
        go_ret
        exact ⟨by rw [HR.out]; rfl, below_drewN hB.out _⟩
      · have HR := HEQ.out rfl rfl e3
        rw [← e3] at cv2 q2
        clear e3
        clear HNO HEQ
        generalize (⟨l[i].d.toArray⟩ : ByteArray) = TS at *
        have hst : (TS.toList == TS.toList) = true := by simp
        go_wp2_with fail
        go_quiet (fail)
        go_wp2
        go_roundg gk0
        case rel => exact ⟨i + 1, by omega, by go_num, HR, Lib.hid (below_drewN hB.out _)⟩
        case measure => omega
end Go.Proofs.YtjiijjdmkeeilaaDoor
