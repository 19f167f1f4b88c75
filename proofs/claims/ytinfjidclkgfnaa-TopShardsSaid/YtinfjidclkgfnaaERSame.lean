/-
  Are two lists of shards equal? By the specification.
-/
import Derived.Test.YtinfjidclkgfnaaQList
import Derived.Test.YtinfjidclkgfnaaHRValid
import Derived.Test.YtinfjidclkgfnaaConv
import Derived.BigQuiet
namespace Go.Proofs.Ytinfjidclkgfnaa
open Go.RowKit
theorem text_inj {xs ys : List UInt8} (h : xs ≠ ys) : ¬ (⟨xs.toArray⟩ : ByteArray) = ⟨ys.toArray⟩ := fun e => h (by
  have := congrArg ByteArray.data e
  simpa using this)
theorem text_beq {S T : ByteArray} (h : ¬ S = T) : (S.toList == T.toList) = false := by
  rw [beq_eq_false_iff_ne]
  intro h'
  rw [ByteArray.toList_eq, ByteArray.toList_eq] at h'
  exact h (Go.WideShapes.bytes_inj h')
/-- are they equal? -/
def eqL (ls ms : List (List UInt8)) : Bool := decide (ls = ms)
theorem eqL_yes {ls ms : List (List UInt8)} (hl : ls.length = ms.length) (h : ∀ j (h : j < ls.length) (h' : j < ms.length), ls[j] = ms[j]) : eqL ls ms = true := decide_eq_true (List.ext_getElem hl h)
theorem eqL_len {ls ms : List (List UInt8)} (hl : ls.length ≠ ms.length) : eqL ls ms = false := decide_eq_false fun e => hl (by rw [e])
theorem eqL_at {ls ms : List (List UInt8)} (j : Nat) (h : j < ls.length) (h' : j < ms.length) (hne : ls[j] ≠ ms[j]) : eqL ls ms = false := decide_eq_false fun e => hne (by subst e; rfl)
theorem eqL_self (ls : List (List UInt8)) : eqL ls ls = true := decide_eq_true rfl
set_option maxRecDepth 100000 in
set_option maxHeartbeats 1000000 in
theorem rsame_any (ad bd : Option Addr) (n m cap mcap : Nat) (ls ms : List (List UInt8)) (w : World) (h1 : Lr w ad ls) (h2 : Lr w bd ms) (hn : n = ls.length) (hm : m = ms.length) (hs : n ≤ 1000000) :
    Calls Try.prog 13 #[.slice ad n cap, .slice bd m mcap] w fun e w' => e = .returned (.bool (eqL ls ms)) ∧ Below w.heap.size w w' := by
  have H1 := Lib.hid h1
  have H2 := Lib.hid h2
  have HN := Lib.hid hn
  have HM := Lib.hid hm
  have HY := Lib.hid (@eqL_yes ls ms)
  have HA := Lib.hid (@eqL_at ls ms)
  by_cases hnm : n = m
  rotate_left
  · have HF := Lib.hid (eqL_len (ls := ls) (ms := ms) (by omega))
    have hnm2 : ¬ (n : Int) = (m : Int) := by omega
    clear h1 h2 hn hm
    go_enter Try.func13, Try.ntmps13
    go_wp2
    go_ret
    exact ⟨by rw [HF.out]; rfl, Below.refl _ _⟩
  subst hnm
  clear h1 h2 hn hm
  go_enter Try.func13, Try.ntmps13
  go_wp2
  go_loopw [5] (fun vk wr => ∃ k : Nat, vk = .int .i64 k ∧ k ≤ n ∧ Hid (∀ j (h : j < ls.length) (h' : j < ms.length), j < k → ls[j] = ms[j]) ∧ Hid (∃ q, wr = w.drewN q)) (fun vk _ => n - (intOf vk).toNat)
  case atStart => exact ⟨0, rfl, by omega, Lib.hid fun j _ _ hj => by omega, Lib.hid ⟨0, rfl⟩⟩
  case round =>
    obtain ⟨k, rfl, hk, hall, hq⟩ := hrel
    by_cases hlt : k < n
    · have hkl : k < ls.length := by have := HN.out; omega
      have hkm : k < ms.length := by have := HM.out; omega
      obtain ⟨b, off, rfl, -, a1, c1, e1, l1, -⟩ := H1.out.row k hkl
      obtain ⟨b2, off2, rfl, -, a2, c2, e2, l2, -⟩ := H2.out.row k hkm
      obtain ⟨q, hqq⟩ := hq.out
      have f1 : wr.cell? ⟨b, off + k, none⟩ = some (.slice a1 (ls[k]).length c1) := by rw [hqq]; exact e1
      have f2 : wr.cell? ⟨b2, off2 + k, none⟩ = some (.slice a2 (ms[k]).length c2) := by rw [hqq]; exact e2
      have g1 : ∀ q2, (convert 33 9 (.slice a1 (ls[k]).length c1)).run Try.prog (wr.drewN q2) = .ok (.string ⟨(ls[k]).toArray⟩) (wr.drewN q2) := fun q2 => by rw [hqq]; exact conv_lie c1 ((l1.drewN q).drewN q2)
      have g2 : ∀ q2, (convert 33 9 (.slice a2 (ms[k]).length c2)).run Try.prog (wr.drewN q2) = .ok (.string ⟨(ms[k]).toArray⟩) (wr.drewN q2) := fun q2 => by rw [hqq]; exact conv_lie c2 ((l2.drewN q).drewN q2)
      by_cases he : ls[k] = ms[k]
      · have HNX : Hid (∀ j (h : j < ls.length) (h' : j < ms.length), j < k + 1 → ls[j] = ms[j]) := Lib.hid fun j h h' hj => by
          rcases Nat.lt_or_ge j k with h3 | h3
          · exact hall.out j h h' h3
          · obtain rfl : j = k := by omega
            exact he
        rw [← he] at f2 g2
        generalize (⟨(ls[k]).toArray⟩ : ByteArray) = S at g1 g2
        generalize (ls[k]).length = N at *
        clear l1 l2 e1 e2 hkl hkm hqq he
        go_wp2_with fail
        go_quiet (fail)
        go_wp2
        go_roundw
        case rel => exact ⟨k + 1, by go_num, by omega, HNX, Lib.hid (by obtain ⟨q, h⟩ := hq.out; rw [h]; exact ⟨_, by first | rfl | rw [World.drewN_drewN]⟩)⟩
        case measure => simp [intOf]; omega
      · have HF := Lib.hid (HA.out k hkl hkm he)
        have hst := text_beq (text_inj he)
        generalize (⟨(ls[k]).toArray⟩ : ByteArray) = S at g1 hst
        generalize (⟨(ms[k]).toArray⟩ : ByteArray) = T at g2 hst
        generalize (ls[k]).length = N at *
        generalize (ms[k]).length = M at *
        clear l1 l2 e1 e2 hkl hkm hqq he
        go_wp2_with fail
        go_quiet (fail)
        go_wp2
        go_ret
        exact ⟨by rw [HF.out]; rfl, drewN_below w (by obtain ⟨q, h⟩ := hq.out; rw [h]; exact ⟨_, by first | rfl | rw [World.drewN_drewN]⟩)⟩
    · have HE := Lib.hid (HY.out (by rw [← HN.out, ← HM.out]) fun j h h' => hall.out j h h' (by have := HN.out; omega))
      go_wp2
      go_ret
      exact ⟨by rw [HE.out]; rfl, drewN_below w hq.out⟩
end Go.Proofs.Ytinfjidclkgfnaa
