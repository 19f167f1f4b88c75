/-
  bytes.Equal.
  The program's same; slices.EqualFunc over blocks.
  slices.IndexFunc over blocks.
  The program's intact and Bytes.
-/
import Derived.Test.YtjmlidejbddoeaaDoorLJ
import Derived.Deep.LoopGhost
import Derived.Test.YtjmlidejbddoeaaDoorLG
import Derived.Test.YtjmlidejbddoeaaDoorLK
namespace Go.Proofs.YtjmlidejbddoeaaDoor
open Go.RowKit
set_option maxRecDepth 100000 in
set_option maxHeartbeats 1000000 in
theorem bequal_any (ad bd : Option Addr) (n m cap mcap : Nat) (xs ys : List UInt8) (w : World) (h1 : Lie w ad xs) (h2 : Lie w bd ys) (hn : n = xs.length) (hm : m = ys.length) :
    Calls Tryd.prog 61 #[.slice ad n cap, .slice bd m mcap] w fun e w' => e = .returned (.bool (decide (xs = ys))) ∧ w = w' := by
  subst hn hm
  have g1 := conv_lie cap h1
  have g2 := conv_lie mcap h2
  by_cases he : xs = ys
  · subst he
    generalize (⟨xs.toArray⟩ : ByteArray) = S at g1 g2
    go_enter Tryd.func61, Tryd.ntmps61
    go_wp2
    go_ret
    exact ⟨by simp, rfl⟩
  · have hd := decide_eq_false he
    have hst := textC_beq (textC_inj he)
    generalize (⟨xs.toArray⟩ : ByteArray) = S at g1 hst
    generalize (⟨ys.toArray⟩ : ByteArray) = T at g2 hst
    go_enter Tryd.func61, Tryd.ntmps61
    go_wp2
    go_ret
    exact ⟨by rw [hd]; rfl, rfl⟩
end Go.Proofs.YtjmlidejbddoeaaDoor
namespace Go.Proofs.YtjmlidejbddoeaaDoor
open Go.RowKit
set_option linter.unusedVariables false
theorem bk_box2 (w : World) (o p : Obj) : Below w.heap.size w ((w.alloc o).alloc p) := ((Below.refl _ _).alloc (Nat.le_refl _) _).alloc (by simp) _
set_option maxRecDepth 100000 in
set_option maxHeartbeats 1000000 in
theorem same_any (x y : Blk) (ad bd : Option Addr) (cap dap : Nat) (w : World) (h1 : Lie w ad x.d) (h2 : Lie w bd y.d) :
    Calls Tryd.prog 38 #[.agg #[.bool x.m, .bool x.bad, .slice ad x.d.length cap], .agg #[.bool y.m, .bool y.bad, .slice bd y.d.length dap]] w fun e w' => e = .returned (.bool (decide (x = y))) ∧ Below w.heap.size w w' := by
  obtain ⟨R, hR⟩ : ∃ R, R = decide (x = y) := ⟨_, rfl⟩
  rw [← hR]
  obtain ⟨xm, xb, xd⟩ := x
  obtain ⟨ym, yb, yd⟩ := y
  have HD := Lib.hid (show R = ((xm == ym) && (xb == yb) && decide (xd = yd)) by rw [hR, Bool.eq_iff_iff]; simp [and_assoc])
  clear hR
  dsimp only at h1 h2
  show Calls Tryd.prog 38 #[.agg #[.bool xm, .bool xb, .slice ad xd.length cap], .agg #[.bool ym, .bool yb, .slice bd yd.length dap]] w _
  have HB := Lib.hid (bk_box2 w (.cells #[.bool xm, .bool xb, .slice ad xd.length cap] 39) (.cells #[.bool ym, .bool yb, .slice bd yd.length dap] 39))
  have HQ := Lib.hid (bequal_any ad bd xd.length yd.length cap dap xd yd _ (h1.below HB.out rfl) (h2.below HB.out rfl) rfl rfl)
  clear h1 h2
  generalize xd.length = N at *
  generalize yd.length = M at *
  generalize decide (xd = yd) = D at *
  cases xm <;> cases ym <;> cases xb <;> cases yb
  all_goals
    go_enter Tryd.func38, Tryd.ntmps38
    go_wp2_with (go_at_call 61; refine HQ.out.mono ?_; rintro e w' ⟨rfl, rfl⟩)
    go_ret
    exact ⟨by rw [HD.out]; rfl, HB.out⟩
theorem blk_ne {x y : Blk} (h : x ≠ y) : x.m ≠ y.m ∨ x.bad ≠ y.bad ∨ x.d ≠ y.d := by
  by_cases h1 : x.m = y.m
  · by_cases h2 : x.bad = y.bad
    · exact .inr (.inr fun h3 => h (blk_eq h1 h2 h3))
    · exact .inr (.inl h2)
  · exact .inl h1
attribute [local irreducible] eqK
set_option maxRecDepth 100000 in
set_option maxHeartbeats 4000000 in
theorem eqfuncB_any (ad bd : Option Addr) (n m cap mcap : Nat) (l k : List Blk) (w : World) (h1 : Ki w ad l) (h2 : Ki w bd k) (hn : n = l.length) (hm : m = k.length) (hs : n ≤ 100000) :
    Calls Tryd.prog 37 #[.slice ad n cap, .slice bd m mcap, .func (.func 38) #[] #[]] w fun e w' => e = .returned (.bool (eqK l k)) ∧ Below w.heap.size w w' := by
  have H1 := Lib.hid h1
  have H2 := Lib.hid h2
  have HN := Lib.hid hn
  have HM := Lib.hid hm
  by_cases hnm : n = m
  rotate_left
  · have HF := Lib.hid (eqK_no (l := l) (m := k) (fun e => by subst e; omega))
    have hnm2 : ((n : Int) == (m : Int)) = false := by rw [beq_eq_false_iff_ne]; omega
    have hnm3 : ((n : Int) != (m : Int)) = true := by rw [bne, hnm2]; rfl
    clear h1 h2 hn hm
    go_enter Tryd.func37, Tryd.ntmps37
    go_wp2
    go_ret
    exact ⟨by rw [HF.out]; rfl, Below.refl _ _⟩
  subst hnm
  clear h1 h2 hn hm
  go_enter Tryd.func37, Tryd.ntmps37
  go_wp2
  go_loopg [17] n (fun gk vk wx => ∃ i : Nat, i + gk = n ∧ vk = .int .i64 i ∧ Hid (∀ j (h : j < l.length) (h' : j < k.length), j < i → l[j] = k[j]) ∧ Hid (Below w.heap.size w wx))
  case atStart => exact ⟨0, by omega, rfl, Lib.hid fun j _ _ hj => by omega, Lib.hid (Below.refl _ _)⟩
  case round =>
    obtain ⟨i, hi, rfl, hall, hB⟩ := hrel
    cases gk with
    | zero =>
      obtain rfl : i = n := by omega
      have HR := Lib.hid (eqK_all (l := l) (m := k) (by have := HN.out; have := HM.out; omega) fun j h h' => hall.out j h h' (by have := HN.out; omega))
      go_wp2
      go_ret
      exact ⟨by rw [HR.out]; rfl, hB.out⟩
    | succ gk0 =>
      have hin : (i : Int) < (n : Int) := by omega
      have hil : i < l.length := by have := HN.out; omega
      have hik : i < k.length := by have := HM.out; omega
      obtain ⟨b, off, ad', cap', rfl, hlt, p0, p1, p2, hp, _⟩ := (H1.out.below hB.out).get hil
      have HNX : l[i] = k[i] → Hid (∀ j (h : j < l.length) (h' : j < k.length), j < i + 1 → l[j] = k[j]) := fun he => Lib.hid fun j h h' hj => by
        rcases Nat.lt_or_ge j i with h3 | h3
        · exact hall.out j h h' h3
        · obtain rfl : j = i := by omega
          exact he
      have HNO : l[i] ≠ k[i] → Hid (eqK l k = false) := fun h => Lib.hid (eqK_at (l := l) (m := k) hil hik (blk_ne h))
      have HB1 := Lib.hid ((Below.refl wr.heap.size wr).alloc (Nat.le_refl _) (.cells #[.bool l[i].m, .bool l[i].bad, .slice ad' l[i].d.length cap'] 39))
      obtain ⟨b2, off2, bd', cap2, rfl, hlt2, q0, q1, q2, hq, _⟩ := ((H2.out.below hB.out).below HB1.out).get hik
      have HB2 := Lib.hid (bk_box2 wr (.cells #[.bool l[i].m, .bool l[i].bad, .slice ad' l[i].d.length cap'] 39) (.cells #[.bool k[i].m, .bool k[i].bad, .slice bd' k[i].d.length cap2] 39))
      have HS := Lib.hid (same_any l[i] k[i] ad' bd' cap' cap2 ((wr.alloc (.cells #[.bool l[i].m, .bool l[i].bad, .slice ad' l[i].d.length cap'] 39)).alloc (.cells #[.bool k[i].m, .bool k[i].bad, .slice bd' k[i].d.length cap2] 39)) (hp.below HB2.out rfl) (hq.below ((Below.refl _ _).alloc (Nat.le_refl _) _) rfl))
      have HBB := Lib.hid (hB.out.trans (HB2.out.mono hB.out.size))
      clear hp hq HB1 HB2
      by_cases heq : l[i] = k[i]
      · rw [decide_eq_true heq] at HS
        have HR := HNX heq
        clear HNX HNO
        generalize l[i].m = xm at *
        generalize l[i].bad = xb at *
        generalize l[i].d.length = xn at *
        generalize k[i].m = ym at *
        generalize k[i].bad = yb at *
        generalize k[i].d.length = yn at *
        clear heq
        go_wp2_with fail
        refine HS.out.mono ?_
        rintro e w5 ⟨rfl, hb⟩
        have HB5 := Lib.hid (HBB.out.trans (hb.mono HBB.out.size))
        clear hb HS HBB
        go_wp2
        go_roundg gk0
        case rel => exact ⟨i + 1, by omega, by go_num, HR, HB5⟩
        case measure => omega
      · rw [decide_eq_false heq] at HS
        have HR := HNO heq
        clear HNX HNO
        generalize l[i].m = xm at *
        generalize l[i].bad = xb at *
        generalize l[i].d.length = xn at *
        generalize k[i].m = ym at *
        generalize k[i].bad = yb at *
        generalize k[i].d.length = yn at *
        clear heq
        go_wp2_with fail
        refine HS.out.mono ?_
        rintro e w5 ⟨rfl, hb⟩
        have HB5 := Lib.hid (HBB.out.trans (hb.mono HBB.out.size))
        clear hb HS HBB
        go_wp2
        go_ret
        exact ⟨by rw [HR.out]; rfl, HB5.out⟩
end Go.Proofs.YtjmlidejbddoeaaDoor
namespace Go.Proofs.YtjmlidejbddoeaaDoor
open Go.RowKit
set_option linter.unusedVariables false
/-- the number of the first block that answers, or -1 -/
def fixI (p : Bool → Bool → Nat → Bool) (l : List Blk) : Int :=
  match l.findIdx? (fun b => p b.m b.bad b.d.length) with
  | some k => (k : Int)
  | none => -1
theorem fix_no {p : Bool → Bool → Nat → Bool} {l : List Blk} (h : ∀ j (h : j < l.length), p l[j].m l[j].bad l[j].d.length = false) : fixI p l = -1 := by
  have : l.findIdx? (fun b => p b.m b.bad b.d.length) = none := by
    rw [List.findIdx?_eq_none_iff]
    intro x hx
    obtain ⟨j, hj, rfl⟩ := List.getElem_of_mem hx
    exact h j hj
  unfold fixI
  rw [this]
theorem fix_at {p : Bool → Bool → Nat → Bool} {l : List Blk} {k : Nat} (hk : k < l.length) (h : p l[k].m l[k].bad l[k].d.length = true) (hall : ∀ j (h : j < l.length), j < k → p l[j].m l[j].bad l[j].d.length = false) : fixI p l = (k : Int) := by
  have : l.findIdx? (fun b => p b.m b.bad b.d.length) = some k := by
    rw [List.findIdx?_eq_some_iff_getElem]
    exact ⟨hk, h, fun j hj => by rw [hall j (by omega) hj]; simp⟩
  unfold fixI
  rw [this]
theorem fix_cases (p : Bool → Bool → Nat → Bool) (l : List Blk) : (fixI p l = -1 ∧ ∀ j (h : j < l.length), p l[j].m l[j].bad l[j].d.length = false) ∨
    ∃ k : Nat, fixI p l = (k : Int) ∧ ∃ hk : k < l.length, p l[k].m l[k].bad l[k].d.length = true ∧ ∀ j (h : j < l.length), j < k → p l[j].m l[j].bad l[j].d.length = false := by
  unfold fixI
  cases h : l.findIdx? (fun b => p b.m b.bad b.d.length) with
  | none =>
    rw [List.findIdx?_eq_none_iff] at h
    exact .inl ⟨rfl, fun j hj => h _ (List.getElem_mem hj)⟩
  | some k =>
    rw [List.findIdx?_eq_some_iff_getElem] at h
    obtain ⟨hk, h1, h2⟩ := h
    exact .inr ⟨k, rfl, hk, h1, fun j hj hjk => by simpa using h2 j hjk⟩
/-- does a block answer? -/
def anyI (p : Bool → Bool → Nat → Bool) (l : List Blk) : Bool := decide (0 ≤ fixI p l)
theorem anyI_eq (p : Bool → Bool → Nat → Bool) (l : List Blk) : anyI p l = l.any fun b => p b.m b.bad b.d.length := by
  unfold anyI
  rcases fix_cases p l with ⟨h1, h2⟩ | ⟨k, h1, hk, h2, _⟩
  · rw [h1]
    symm
    rw [show decide ((0 : Int) ≤ -1) = false from rfl, List.any_eq_false]
    intro x hx
    obtain ⟨j, hj, rfl⟩ := List.getElem_of_mem hx
    rw [h2 j hj]; simp
  · rw [h1]
    symm
    rw [show decide ((0 : Int) ≤ (k : Int)) = true from decide_eq_true (by omega), List.any_eq_true]
    exact ⟨l[k], List.getElem_mem hk, h2⟩
/-- what a function that is handed to a search owes -/
structure Says (fn : Nat) (p : Bool → Bool → Nat → Bool) : Prop where
  enter : ∀ args w, (callFunc fn args).run Tryd.prog w = .ok (.enter fn args) w
  calls : ∀ (m bad : Bool) (ad : Option Addr) (n cap : Nat) (w : World), Calls Tryd.prog fn #[.agg #[.bool m, .bool bad, .slice ad n cap]] w fun e w' => e = .returned (.bool (p m bad n)) ∧ Below w.heap.size w w'
attribute [local irreducible] fixI
set_option maxRecDepth 100000 in
set_option maxHeartbeats 1000000 in
theorem index_any (fn : Nat) (p : Bool → Bool → Nat → Bool) (hp : Says fn p) (ad : Option Addr) (n cap : Nat) (l : List Blk) (w : World) (hl : Ki w ad l) (hn : n = l.length) (hs : n ≤ 9223372036854775807) :
    Calls Tryd.prog 55 #[.slice ad n cap, .func (.func fn) #[] #[]] w fun e w' => e = .returned (.int .i64 (fixI p l)) ∧ Below w.heap.size w w' := by
  have HL := Lib.hid hl
  have HN := Lib.hid hn
  have HY := Lib.hid (fun k (hk : k < l.length) => fix_at (p := p) hk)
  have HZ := Lib.hid (@fix_no p l)
  have HP := Lib.hid hp
  clear hl hn hp
  go_enter Tryd.func55, Tryd.ntmps55
  go_wp2
  go_loopg [8] n (fun gk vk wx => ∃ k : Nat, vk = .int .i64 k ∧ k + gk = n ∧ Hid (Below w.heap.size w wx) ∧ Hid (∀ j (h : j < l.length), j < k → p l[j].m l[j].bad l[j].d.length = false))
  case atStart => exact ⟨0, rfl, by omega, Lib.hid (Below.refl _ _), Lib.hid fun j _ hj => by omega⟩
  case round =>
    obtain ⟨k, rfl, hk, hB, hall⟩ := hrel
    cases gk with
    | zero =>
      obtain rfl : k = n := by omega
      have HF := Lib.hid (HZ.out (fun j hj => hall.out j hj (by have := HN.out; omega)))
      go_wp2
      go_ret
      exact ⟨by rw [HF.out]; rfl, hB.out⟩
    | succ gk0 =>
      have hkn : k < n := by omega
      have hkl : k < l.length := by have := HN.out; omega
      obtain ⟨b, off, ad', cap', rfl, hlt, q0, q1, q2, qr⟩ := (HL.out.below hB.out).get hkl
      clear qr
      have HNX : p l[k].m l[k].bad l[k].d.length = false → Hid (∀ j (h : j < l.length), j < k + 1 → p l[j].m l[j].bad l[j].d.length = false) := fun hc => Lib.hid fun j h hj => by
        rcases Nat.lt_or_ge j k with h3 | h3
        · exact hall.out j h h3
        · obtain rfl : j = k := by omega
          exact hc
      have HNO : p l[k].m l[k].bad l[k].d.length = true → Hid (fixI p l = (k : Int)) := fun hc => Lib.hid (HY.out k hkl hc hall.out)
      generalize l[k].m = xm at *
      generalize l[k].bad = xb at *
      generalize l[k].d.length = xn at *
      clear hkl
      go_wp2_with fail
      rw [HP.out.enter]
      refine (HP.out.calls xm xb ad' xn cap' _).mono ?_
      rintro e w5 ⟨rfl, hb⟩
      have HB5 := Lib.hid (hB.out.trans (hb.mono hB.out.size))
      clear hb q0 q1 q2
      cases hok : p xm xb xn
      · have HR := HNX hok
        clear HNX HNO hok
        go_wp2
        go_roundg gk0
        case rel => exact ⟨k + 1, by go_num, by omega, HB5, HR⟩
        case measure => omega
      · have HR := HNO hok
        clear HNX HNO hok
        go_wp2
        go_ret
        exact ⟨by rw [HR.out]; rfl, HB5.out⟩
end Go.Proofs.YtjmlidejbddoeaaDoor
namespace Go.Proofs.YtjmlidejbddoeaaDoor
open Go.RowKit
set_option linter.unusedVariables false
def pEnd (m bad : Bool) (n : Nat) : Bool := m || bad
/-- the number of blocks before the first one that is a mark or bad -/
def endK (l : List Blk) : Nat := match l.findIdx? (fun b => pEnd b.m b.bad b.d.length) with | some k => k | none => l.length
theorem endK_cases (l : List Blk) : endK l ≤ l.length ∧ (endK l = l.length ∨ ∃ h : endK l < l.length, (l[endK l].m || l[endK l].bad) = true) ∧ (∀ j (h : j < l.length), j < endK l → (l[j].m || l[j].bad) = false) := by
  unfold endK
  cases h : l.findIdx? (fun b => pEnd b.m b.bad b.d.length) with
  | none =>
    rw [List.findIdx?_eq_none_iff] at h
    exact ⟨Nat.le_refl _, .inl rfl, fun j hj _ => h _ (List.getElem_mem hj)⟩
  | some k =>
    rw [List.findIdx?_eq_some_iff_getElem] at h
    obtain ⟨hk, h1, h2⟩ := h
    exact ⟨Nat.le_of_lt hk, .inr ⟨hk, h1⟩, fun j hj hjk => by simpa [pEnd] using h2 j hjk⟩
theorem endK_fix (l : List Blk) : (fixI pEnd l = -1 ∧ endK l = l.length) ∨ (fixI pEnd l = (endK l : Int)) := by
  unfold fixI endK
  cases l.findIdx? (fun b => pEnd b.m b.bad b.d.length) with
  | none => exact .inl ⟨rfl, rfl⟩
  | some k => exact .inr rfl
set_option maxRecDepth 100000 in
set_option maxHeartbeats 400000 in
theorem end_any (m bad : Bool) (ad : Option Addr) (n cap : Nat) (w : World) :
    Calls Tryd.prog 56 #[.agg #[.bool m, .bool bad, .slice ad n cap]] w fun e w' => e = .returned (.bool (pEnd m bad n)) ∧ Below w.heap.size w w' := by
  have HB := Lib.hid ((Below.refl w.heap.size w).alloc (Nat.le_refl _) (.cells #[.bool m, .bool bad, .slice ad n cap] 39))
  cases m <;> cases bad
  all_goals
    go_enter Tryd.func56, Tryd.ntmps56
    go_wp2
    go_ret
    exact ⟨rfl, HB.out⟩
theorem says_end : Says 56 pEnd := ⟨fun args w => by go_simp, end_any⟩
attribute [local irreducible] fixI endK pEnd
set_option maxRecDepth 100000 in
set_option maxHeartbeats 1000000 in
theorem intact_any (ad : Option Addr) (n cap : Nat) (l : List Blk) (w : World) (hl : Ki w ad l) (hn : n = l.length) (hs : n ≤ 9223372036854775807) :
    Calls Tryd.prog 34 #[.slice ad n cap] w fun e w' => e = .returned (.int .i64 (endK l : Int)) ∧ Below w.heap.size w w' := by
  have HX := Lib.hid (index_any 56 pEnd says_end ad n cap l w hl hn hs)
  have HC := Lib.hid (endK_fix l)
  have HN := Lib.hid hn
  clear hl hn
  generalize endK l = k at *
  go_enter Tryd.func34, Tryd.ntmps34
  go_wp2_with fail
  refine HX.out.mono ?_
  clear HX
  generalize fixI pEnd l = r at *
  rintro e w1 ⟨rfl, hb⟩
  rcases HC.out with ⟨h1, h2⟩ | h1
  · subst h1
    have HK := Lib.hid (h2.trans HN.out.symm)
    clear h2
    go_wp2
    go_ret
    exact ⟨by rw [HK.out]; rfl, hb⟩
  · subst h1
    have h0 : ¬ ((k : Int) < 0) := by omega
    go_wp2
    go_ret
    exact ⟨rfl, hb⟩
set_option maxRecDepth 100000 in
set_option maxHeartbeats 2000000 in
theorem bytes_any (ad : Option Addr) (n cap : Nat) (l : List Blk) (w : World) (hl : Ki w ad l) (hn : n = l.length) (hc : n ≤ cap) (hcm : cap ≤ maxLen) (hs : n ≤ 5000) (hd : ∀ b ∈ l, b.d.length ≤ 1000) :
    Calls Tryd.prog 19 #[.slice ad n cap] w (Gives w (bytB l)) := by
  obtain ⟨e1, e2, e3⟩ := endK_cases l
  have HT := Lib.hid (bytB_stop l (endK l) e1 e2 e3)
  have HALL := Lib.hid e3
  have HI := Lib.hid (intact_any ad n cap l w hl hn (by omega))
  have HL := Lib.hid hl
  have HN := Lib.hid hn
  have HD := Lib.hid hd
  have HCM := Lib.hid hcm
  have hkn : endK l ≤ n := by omega
  unfold maxLen at hcm
  clear hl hn hd e1 e2 e3
  generalize endK l = E at *
  go_enter Tryd.func19, Tryd.ntmps19
  go_wp2_with fail
  refine HI.out.mono ?_
  clear HI
  rintro e w1 ⟨rfl, hb1⟩
  have HB1 := Lib.hid hb1
  clear hb1
  go_wp2
  have HBY := Lib.hid (bytB_take l)
  go_loopg [3, 11] E (fun gk v3 vk wx => ∃ k : Nat, vk = .int .i64 k ∧ k + gk = E ∧ Hid (Own wx w.heap.size v3 (bytB (l.take k))) ∧ Hid (Below w.heap.size w wx))
  case atStart => exact ⟨0, rfl, by omega, Lib.hid (by rw [List.take_zero]; exact Own.ofNil _ _), HB1⟩
  case round =>
    obtain ⟨k, rfl, hk, hO, hB⟩ := hrel
    cases gk with
    | zero =>
      obtain rfl : k = E := by omega
      go_wp2
      go_ret
      exact ⟨_, rfl, by rw [HT.out]; exact hO.out, hB.out⟩
    | succ gk0 =>
      have hkE : k < E := by omega
      have hkl : k < l.length := by have := HN.out; omega
      obtain ⟨b, off, ad', cap', rfl, hlt, q0, q1, q2, hq, hq2, hq3, hq4⟩ := (HL.out.below hB.out).get hkl
      have HNX := Lib.hid (HBY.out k hkl (fun j hj hjk => HALL.out j hj (by omega)))
      have hlen : (bytB (l.take k)).length ≤ k * 1000 := bytB_le _ _ _ (by rw [List.length_take]; omega) (fun b hb => HD.out b (List.mem_of_mem_take hb))
      have hdl : l[k].d.length ≤ 1000 := HD.out _ (List.getElem_mem hkl)
      have hsum : (bytB (l.take k)).length + l[k].d.length ≤ 10000000 := by omega
      have HLI := Lib.hid hq
      have HQ := Lib.hid hq4
      clear hq hq2 hq3 hq4 hlen hdl
      generalize l[k].m = xm at *
      generalize l[k].bad = xb at *
      generalize l[k].d = xd at *
      have HBX := Lib.hid ((Below.refl wr.heap.size wr).alloc (Nat.le_refl _) (.cells #[.bool xm, .bool xb, .slice ad' xd.length cap'] 39))
      have HOX := Lib.hid (hO.out.below HBX.out)
      have HLX := Lib.hid (HLI.out.below HBX.out rfl)
      have HBB := Lib.hid (hB.out.trans (HBX.out.mono hB.out.size))
      go_wp2_with (at_builtin; refine wpList_append_u rfl (.tmp 15) (.tmp 17) rfl w.heap.size _ _ rfl HOX.out _ _ _ xd HQ.out HLX.out rfl rfl hsum HBB.out.size ?_; intro v1 w1 ho1 hg1; have HO1 := Lib.hid ho1; have HB2 := Lib.hid (HBB.out.grown hg1 HBB.out.size (fun k hk => (HOX.out.lt k hk).1)); clear ho1 hg1)
      go_roundg gk0
      case rel => exact ⟨k + 1, by go_num, by omega, Lib.hid (by rw [HNX.out]; exact HO1.out), HB2⟩
      case measure => omega
end Go.Proofs.YtjmlidejbddoeaaDoor
