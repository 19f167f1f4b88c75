/-
  The least offset where a frame begins: the program's function and the document's own; two lists compared.
-/
import Derived.Test.YtbbdkghkdmaolaaDoorFList
import Derived.Test.YtbbdkghkdmaolaaDoorFChain
import Derived.Deep.LoopGhost
namespace Go.Proofs.YtbbdkghkdmaolaaDoor
open Go.RowKit
set_option linter.unusedVariables false
set_option linter.unusedSimpArgs false

/-- What Resync answers. -/
def RsP (w : World) (r : Option Nat) (e : Ending) (w' : World) : Prop :=
  (match r with
   | some i => e = .returned (.tuple #[.int .i64 i, .bool true])
   | none => e = .returned (.tuple #[.int .i64 0, .bool false])) ∧ Below w.heap.size w w'
theorem rsP_some {w w' : World} {r : Option Nat} {i : Nat} (h : r = some i) (hb : Below w.heap.size w w') : RsP w r (.returned (.tuple #[.int .i64 i, .bool true])) w' := by subst h; exact ⟨rfl, hb⟩
theorem rsP_none {w w' : World} {r : Option Nat} (h : r = none) (hb : Below w.heap.size w w') : RsP w r (.returned (.tuple #[.int .i64 0, .bool false])) w' := by subst h; exact ⟨rfl, hb⟩

set_option maxRecDepth 100000 in
set_option maxHeartbeats 1000000 in
theorem resync_from (ad : Option Addr) (n cap a : Nat) (xs : List UInt8) (at_ : Int) (w : World) (hl : Lie w ad xs) (hn : n = xs.length) (hs : xs.length ≤ 1000000) (hc : n ≤ cap) (hcm : cap ≤ maxLen) (had : ad = none → cap = 0) (hm : Mag w) (ha : (a : Int) = max at_ 0) :
    Calls Tryd.prog 19 #[.slice ad n cap, .int .i64 at_] w (RsP w (rs xs a)) := by
  have hch := fun (k : Nat) W h1 h2 => chk_any ad n cap xs (k : Int) W h1 hn hs hc hcm had h2
  have HCH := Lib.hid hch
  have HL := Lib.hid hl
  have HM := Lib.hid hm
  have HN := Lib.hid hn
  have hnb : n ≤ 1000000 := by omega
  clear hch hl hm hn hs hcm had
  rcases (show at_ < 0 ∧ a = 0 ∨ 0 ≤ at_ ∧ at_ = a by omega) with ⟨h1, h2⟩ | ⟨h1, h2⟩
  · subst h2
    clear ha
    go_enter Tryd.func19, Tryd.ntmps19
    go_wp2
    go_loopw [6] (fun vk wr => ∃ k : Nat, vk = .int .i64 k ∧ 0 ≤ k ∧ k ≤ max 0 n ∧ Hid (NoFrame xs 0 k) ∧ Hid (Below w.heap.size w wr)) (fun vk _ => n - (intOf vk).toNat)
    case atStart => exact ⟨0, rfl, Nat.le_refl _, by omega, Lib.hid (fun i h1 h2 => by omega), Lib.hid (.refl _ _)⟩
    case round =>
      obtain ⟨k, rfl, hk0, hk1, hnf, hb⟩ := hrel
      by_cases hlt : k < n
      · have HL2 := Lib.hid (HL.out.below hb.out rfl)
        have HM2 := Lib.hid (HM.out.step hb.out)
        have hcall := HCH.out k wr HL2.out HM2.out
        have HCALL := Lib.hid hcall
        clear hcall
        by_cases he : (chk xs k).2 = 0
        · have HR := Lib.hid (rs_some hk0 (by have := HN.out; omega) he hnf.out)
          have HE := Lib.hid he
          clear he
          go_wp2_with fail
          refine HCALL.out.mono ?_
          rintro en w2 ⟨rfl, hb2⟩
          rw [HE.out]
          have HB : Hid (Below w.heap.size w w2) := Lib.hid (hb.out.trans (hb2.mono hb.out.size))
          clear hb2
          go_wp2
          go_ret2
          exact rsP_some HR.out HB.out
        · have HNF : Hid (NoFrame xs 0 (k + 1)) := Lib.hid (fun i h2 h3 => by
            by_cases h4 : i = k
            · subst h4; exact he
            · exact hnf.out i h2 (by omega))
          obtain ⟨E, hE⟩ : ∃ E, (chk xs k).2 = E := ⟨_, rfl⟩
          have he1 : (E == 0) = false := by rw [beq_eq_false_iff_ne, ← hE]; exact he
          have HE := Lib.hid hE
          clear he hE hnf
          go_wp2_with fail
          refine HCALL.out.mono ?_
          rintro en w2 ⟨rfl, hb2⟩
          rw [HE.out]
          have HB : Hid (Below w.heap.size w w2) := Lib.hid (hb.out.trans (hb2.mono hb.out.size))
          clear hb2
          go_wp2
          go_roundw
          case rel => exact ⟨k + 1, by go_num, by omega, by omega, HNF, HB⟩
          case measure => simp [intOf]; omega
      · have HR := Lib.hid (rs_none (xs := xs) (a := 0) (fun i h2 h3 => hnf.out i h2 (by have := HN.out; omega)))
        go_wp2
        go_ret2
        exact rsP_none HR.out hb.out
  · subst h2
    clear ha
    go_enter Tryd.func19, Tryd.ntmps19
    go_wp2
    go_loopw [6] (fun vk wr => ∃ k : Nat, vk = .int .i64 k ∧ a ≤ k ∧ k ≤ max a n ∧ Hid (NoFrame xs a k) ∧ Hid (Below w.heap.size w wr)) (fun vk _ => n - (intOf vk).toNat)
    case atStart => exact ⟨a, rfl, Nat.le_refl _, by omega, Lib.hid (fun i h1 h2 => by omega), Lib.hid (.refl _ _)⟩
    case round =>
      obtain ⟨k, rfl, hk0, hk1, hnf, hb⟩ := hrel
      by_cases hlt : k < n
      · have HL2 := Lib.hid (HL.out.below hb.out rfl)
        have HM2 := Lib.hid (HM.out.step hb.out)
        have hcall := HCH.out k wr HL2.out HM2.out
        have HCALL := Lib.hid hcall
        clear hcall
        by_cases he : (chk xs k).2 = 0
        · have HR := Lib.hid (rs_some hk0 (by have := HN.out; omega) he hnf.out)
          have HE := Lib.hid he
          clear he
          go_wp2_with fail
          refine HCALL.out.mono ?_
          rintro en w2 ⟨rfl, hb2⟩
          rw [HE.out]
          have HB : Hid (Below w.heap.size w w2) := Lib.hid (hb.out.trans (hb2.mono hb.out.size))
          clear hb2
          go_wp2
          go_ret2
          exact rsP_some HR.out HB.out
        · have HNF : Hid (NoFrame xs a (k + 1)) := Lib.hid (fun i h2 h3 => by
            by_cases h4 : i = k
            · subst h4; exact he
            · exact hnf.out i h2 (by omega))
          obtain ⟨E, hE⟩ : ∃ E, (chk xs k).2 = E := ⟨_, rfl⟩
          have he1 : (E == 0) = false := by rw [beq_eq_false_iff_ne, ← hE]; exact he
          have HE := Lib.hid hE
          clear he hE hnf
          go_wp2_with fail
          refine HCALL.out.mono ?_
          rintro en w2 ⟨rfl, hb2⟩
          rw [HE.out]
          have HB : Hid (Below w.heap.size w w2) := Lib.hid (hb.out.trans (hb2.mono hb.out.size))
          clear hb2
          go_wp2
          go_roundw
          case rel => exact ⟨k + 1, by go_num, by omega, by omega, HNF, HB⟩
          case measure => simp [intOf]; omega
      · have HR := Lib.hid (rs_none (xs := xs) (a := a) (fun i h2 h3 => hnf.out i h2 (by have := HN.out; omega)))
        go_wp2
        go_ret2
        exact rsP_none HR.out hb.out
set_option maxRecDepth 100000 in
set_option maxHeartbeats 1000000 in
theorem rresync_from (ad : Option Addr) (n cap a : Nat) (xs : List UInt8) (at_ : Int) (w : World) (hl : Lie w ad xs) (hn : n = xs.length) (hs : xs.length ≤ 1000000) (hc : n ≤ cap) (hcm : cap ≤ maxLen) (had : ad = none → cap = 0) (ha : (a : Int) = max at_ 0) :
    Calls Tryd.prog 20 #[.slice ad n cap, .int .i64 at_] w (RsP w (rs xs a)) := by
  have hch := fun (k : Nat) W h1 => rnext_any ad n cap xs (k : Int) W h1 hn hs hc hcm had
  have HCH := Lib.hid hch
  have HL := Lib.hid hl
  have HN := Lib.hid hn
  have hnb : n ≤ 1000000 := by omega
  clear hch hl hn hs hcm had
  rcases (show at_ < 0 ∧ a = 0 ∨ 0 ≤ at_ ∧ at_ = a by omega) with ⟨h1, h2⟩ | ⟨h1, h2⟩
  · subst h2
    clear ha
    go_enter Tryd.func20, Tryd.ntmps20
    go_wp2
    go_loopw [6] (fun vk wr => ∃ k : Nat, vk = .int .i64 k ∧ 0 ≤ k ∧ k ≤ max 0 n ∧ Hid (NoFrame xs 0 k) ∧ Hid (Below w.heap.size w wr)) (fun vk _ => n - (intOf vk).toNat)
    case atStart => exact ⟨0, rfl, Nat.le_refl _, by omega, Lib.hid (fun i h1 h2 => by omega), Lib.hid (.refl _ _)⟩
    case round =>
      obtain ⟨k, rfl, hk0, hk1, hnf, hb⟩ := hrel
      by_cases hlt : k < n
      · have HL2 := Lib.hid (HL.out.below hb.out rfl)
        have hcall := HCH.out k wr HL2.out
        have HCALL := Lib.hid hcall
        clear hcall
        by_cases he : (chk xs k).2 = 0
        · have HR := Lib.hid (rs_some hk0 (by have := HN.out; omega) he hnf.out)
          have HE := Lib.hid he
          clear he
          go_wp2_with fail
          refine HCALL.out.mono ?_
          rintro en w2 ⟨v2, rfl, _, hb2⟩
          rw [HE.out]
          have HB : Hid (Below w.heap.size w w2) := Lib.hid (hb.out.trans (hb2.mono hb.out.size))
          clear hb2
          go_wp2
          go_ret2
          exact rsP_some HR.out HB.out
        · have HNF : Hid (NoFrame xs 0 (k + 1)) := Lib.hid (fun i h2 h3 => by
            by_cases h4 : i = k
            · subst h4; exact he
            · exact hnf.out i h2 (by omega))
          obtain ⟨E, hE⟩ : ∃ E, (chk xs k).2 = E := ⟨_, rfl⟩
          have he1 : (E == 0) = false := by rw [beq_eq_false_iff_ne, ← hE]; exact he
          have HE := Lib.hid hE
          clear he hE hnf
          go_wp2_with fail
          refine HCALL.out.mono ?_
          rintro en w2 ⟨v2, rfl, _, hb2⟩
          rw [HE.out]
          have HB : Hid (Below w.heap.size w w2) := Lib.hid (hb.out.trans (hb2.mono hb.out.size))
          clear hb2
          go_wp2
          go_roundw
          case rel => exact ⟨k + 1, by go_num, by omega, by omega, HNF, HB⟩
          case measure => simp [intOf]; omega
      · have HR := Lib.hid (rs_none (xs := xs) (a := 0) (fun i h2 h3 => hnf.out i h2 (by have := HN.out; omega)))
        go_wp2
        go_ret2
        exact rsP_none HR.out hb.out
  · subst h2
    clear ha
    go_enter Tryd.func20, Tryd.ntmps20
    go_wp2
    go_loopw [6] (fun vk wr => ∃ k : Nat, vk = .int .i64 k ∧ a ≤ k ∧ k ≤ max a n ∧ Hid (NoFrame xs a k) ∧ Hid (Below w.heap.size w wr)) (fun vk _ => n - (intOf vk).toNat)
    case atStart => exact ⟨a, rfl, Nat.le_refl _, by omega, Lib.hid (fun i h1 h2 => by omega), Lib.hid (.refl _ _)⟩
    case round =>
      obtain ⟨k, rfl, hk0, hk1, hnf, hb⟩ := hrel
      by_cases hlt : k < n
      · have HL2 := Lib.hid (HL.out.below hb.out rfl)
        have hcall := HCH.out k wr HL2.out
        have HCALL := Lib.hid hcall
        clear hcall
        by_cases he : (chk xs k).2 = 0
        · have HR := Lib.hid (rs_some hk0 (by have := HN.out; omega) he hnf.out)
          have HE := Lib.hid he
          clear he
          go_wp2_with fail
          refine HCALL.out.mono ?_
          rintro en w2 ⟨v2, rfl, _, hb2⟩
          rw [HE.out]
          have HB : Hid (Below w.heap.size w w2) := Lib.hid (hb.out.trans (hb2.mono hb.out.size))
          clear hb2
          go_wp2
          go_ret2
          exact rsP_some HR.out HB.out
        · have HNF : Hid (NoFrame xs a (k + 1)) := Lib.hid (fun i h2 h3 => by
            by_cases h4 : i = k
            · subst h4; exact he
            · exact hnf.out i h2 (by omega))
          obtain ⟨E, hE⟩ : ∃ E, (chk xs k).2 = E := ⟨_, rfl⟩
          have he1 : (E == 0) = false := by rw [beq_eq_false_iff_ne, ← hE]; exact he
          have HE := Lib.hid hE
          clear he hE hnf
          go_wp2_with fail
          refine HCALL.out.mono ?_
          rintro en w2 ⟨v2, rfl, _, hb2⟩
          rw [HE.out]
          have HB : Hid (Below w.heap.size w w2) := Lib.hid (hb.out.trans (hb2.mono hb.out.size))
          clear hb2
          go_wp2
          go_roundw
          case rel => exact ⟨k + 1, by go_num, by omega, by omega, HNF, HB⟩
          case measure => simp [intOf]; omega
      · have HR := Lib.hid (rs_none (xs := xs) (a := a) (fun i h2 h3 => hnf.out i h2 (by have := HN.out; omega)))
        go_wp2
        go_ret2
        exact rsP_none HR.out hb.out

set_option maxRecDepth 100000 in
set_option maxHeartbeats 1000000 in
theorem same_yes (ad bd : Option Addr) (n cap mcap : Nat) (ls : List (List UInt8)) (w : World) (h1 : Lr w ad ls) (h2 : Lr w bd ls) (hn : n = ls.length) (hs : ls.length ≤ 1000000) :
    Calls Tryd.prog 21 #[.slice ad n cap, .slice bd n mcap] w fun e w' => e = .returned (.bool true) ∧ ∃ k, w' = w.drewN k := by
  have H1 := Lib.hid h1
  have H2 := Lib.hid h2
  have HN := Lib.hid hn
  have hnb : n ≤ 1000000 := by omega
  clear h1 h2 hn hs
  go_enter Tryd.func21, Tryd.ntmps21
  go_wp2
  go_loopw [5] (fun vk wr => ∃ k : Nat, vk = .int .i64 k ∧ k ≤ n ∧ Hid (∃ q, wr = w.drewN q)) (fun vk _ => n - (intOf vk).toNat)
  case atStart => exact ⟨0, rfl, by omega, Lib.hid ⟨0, rfl⟩⟩
  case round =>
    obtain ⟨k, rfl, hk, hq⟩ := hrel
    by_cases hlt : k < n
    · have hkl : k < ls.length := by have := HN.out; omega
      rcases H1.out.at_ with h0 | ⟨b, off, rfl, hb, hc⟩
      · rw [h0] at hkl; simp at hkl
      rcases H2.out.at_ with h0 | ⟨b2, off2, rfl, hb2, hc2⟩
      · rw [h0] at hkl; simp at hkl
      obtain ⟨a1, c1, e1, l1, _⟩ := hc k hkl
      obtain ⟨a2, c2, e2, l2, _⟩ := hc2 k hkl
      obtain ⟨q, hqq⟩ := hq.out
      have f1 : wr.cell? ⟨b, off + k, none⟩ = some (.slice a1 (ls[k]).length c1) := by rw [hqq]; exact e1
      have f2 : wr.cell? ⟨b2, off2 + k, none⟩ = some (.slice a2 (ls[k]).length c2) := by rw [hqq]; exact e2
      have g1 : ∀ q2, (convert 22 9 (.slice a1 (ls[k]).length c1)).run Tryd.prog (wr.drewN q2) = .ok (.string ⟨(ls[k]).toArray⟩) (wr.drewN q2) := fun q2 => by rw [hqq]; exact conv_lie c1 ((l1.drewN q).drewN q2)
      have g2 : ∀ q2, (convert 22 9 (.slice a2 (ls[k]).length c2)).run Tryd.prog (wr.drewN q2) = .ok (.string ⟨(ls[k]).toArray⟩) (wr.drewN q2) := fun q2 => by rw [hqq]; exact conv_lie c2 ((l2.drewN q).drewN q2)
      generalize (⟨(ls[k]).toArray⟩ : ByteArray) = S at g1 g2
      generalize (ls[k]).length = N at *
      clear hc hc2 l1 l2 e1 e2 hkl hqq
      go_wp2_with fail
      go_quiet (fail)
      go_wp2
      go_roundw
      case rel => exact ⟨k + 1, by go_num, by omega, Lib.hid (by obtain ⟨q, h⟩ := hq.out; rw [h]; exact ⟨_, by first | rfl | rw [World.drewN_drewN]⟩)⟩
      case measure => simp [intOf]; omega
    · go_wp2
      go_ret
      exact ⟨rfl, hq.out⟩
end Go.Proofs.YtbbdkghkdmaolaaDoor
