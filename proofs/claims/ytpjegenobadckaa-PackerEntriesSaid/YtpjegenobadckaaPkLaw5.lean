/-
  PackerEntries.
-/
import Derived.Test.YtpjegenobadckaaPkAwake
import Derived.Test.YtpjegenobadckaaPkREnt
import Derived.Test.YtpjegenobadckaaPkLawS
import Derived.Deep.DeepCutAuto
namespace Go.Proofs.Ytpjegenobadckaa
open Go.RowKit
set_option linter.unusedVariables false
set_option linter.unusedSimpArgs false
set_option maxRecDepth 100000 in
set_option maxHeartbeats 8000000 in
theorem law_entries (ap : Option Addr) (cp : Nat) (ps : List Pc) (ai : Option Addr) (ci : Nat) (is : List Int) (av : Option Addr) (cv : Nat) (vs : List Int) (ad : Option Addr) (cd : Nat) (ds : List (List UInt8)) (np ni nv nd : Nat) (w : World)
    (hp : Lf pcC w ap ps) (hi : Lf inC w ai is) (hv : Lf inC w av vs) (hd : Lr w ad ds) (h1 : np = ps.length) (h2 : ni = is.length) (h3 : nv = vs.length) (h4 : nd = ds.length) :
    Calls Try.prog 8 #[.agg #[.slice ap np cp, .slice ai ni ci, .slice av nv cv, .slice ad nd cd]] w fun e w' => e = .returned (.bool true) ∧ Below w.heap.size w w' := by
  have hA := heap_alloc_new w (.cells #[.slice ap np cp, .slice ai ni ci, .slice av nv cv, .slice ad nd cd] 45)
  have hb1 := co_box1 w (.cells #[.slice ap np cp, .slice ai ni ci, .slice av nv cv, .slice ad nd cd] 45)
  have hlt1 : w.heap.size < (w.alloc (.cells #[.slice ap np cp, .slice ai ni ci, .slice av nv cv, .slice ad nd cd] 45)).heap.size := by simp
  have HLT := Lib.hid hlt1
  have HA := Lib.hid hA
  have HB1 := Lib.hid hb1
  have HP := Lib.hid (hp.below hb1)
  have HI := Lib.hid (hi.below hb1)
  have HV := Lib.hid (hv.below hb1)
  have HD := Lib.hid (hd.below hb1)
  have H1 := Lib.hid h1
  have H2 := Lib.hid h2
  have H3 := Lib.hid h3
  have H4 := Lib.hid h4
  clear hp hi hv hd h1 h2 h3 h4 hb1 hA hlt1
  go_enter Try.func8, Try.ntmps8
  by_cases hg : 100 < np ∨ 100 < nd ∨ 200 < ni ∨ 200 < nv
  · have hgt : (decide (100 < np) || decide (100 < nd) || decide (200 < ni) || decide (200 < nv)) = true := by simp only [Bool.or_eq_true, decide_eq_true_eq]; omega
    have hgi : (decide ((100 : Int) < np) || decide ((100 : Int) < nd) || decide ((200 : Int) < ni) || decide ((200 : Int) < nv)) = true := by simp only [Bool.or_eq_true, decide_eq_true_eq]; omega
    clear hg
    go_wp2_with fail
    all_goals
      generalize World.alloc w _ = X1 at *
      refine (awake16_any X1).mono ?_
      rintro e w' ⟨rfl, hb⟩
      have HB := Lib.hid (HB1.out.trans (hb.mono HB1.out.size))
      clear hb
      go_wp2_with fail
      go_ret
      exact ⟨rfl, HB.out⟩
  have g1 : ¬ 100 < np := fun h => hg (by omega)
  have g2 : ¬ 100 < nd := fun h => hg (by omega)
  have g3 : ¬ 200 < ni := fun h => hg (by omega)
  have g4 : ¬ 200 < nv := fun h => hg (by omega)
  have hgt : (decide (100 < np) || decide (100 < nd) || decide (200 < ni) || decide (200 < nv)) = false := by simp only [Bool.or_eq_false_iff, decide_eq_false_iff_not]; omega
  have hgi : (decide ((100 : Int) < np) || decide ((100 : Int) < nd) || decide ((200 : Int) < ni) || decide ((200 : Int) < nv)) = false := by simp only [Bool.or_eq_false_iff, decide_eq_false_iff_not]; omega
  clear hg
  go_wp2_with fail
  generalize World.alloc w _ = X1 at *
  have q0 : X1.cell? ⟨w.heap.size, 0, none⟩ = some (.slice ap np cp) := by rw [cell_of_row X1 _ 0 _ _ _ HA.out]; rfl
  have q1 : X1.cell? ⟨w.heap.size, 1, none⟩ = some (.slice ai ni ci) := by rw [cell_of_row X1 _ 1 _ _ _ HA.out]; rfl
  have q2 : X1.cell? ⟨w.heap.size, 2, none⟩ = some (.slice av nv cv) := by rw [cell_of_row X1 _ 2 _ _ _ HA.out]; rfl
  have q3 : X1.cell? ⟨w.heap.size, 3, none⟩ = some (.slice ad nd cd) := by rw [cell_of_row X1 _ 3 _ _ _ HA.out]; rfl
  have hbX : w.heap.size < X1.heap.size := HLT.out
  have HQ := Lib.hid (show X1.cell? ⟨w.heap.size, 0, none⟩ = some (.slice ap np cp) ∧ X1.cell? ⟨w.heap.size, 1, none⟩ = some (.slice ai ni ci) ∧ X1.cell? ⟨w.heap.size, 2, none⟩ = some (.slice av nv cv) ∧ X1.cell? ⟨w.heap.size, 3, none⟩ = some (.slice ad nd cd) from ⟨q0, q1, q2, q3⟩)
  clear q0 q1 q2 q3 hbX
  go_loopg [3, 4] np (fun gk v3 v4 wx => ∃ (i : Nat) (v : Value), v4 = .int .i64 i ∧ v = v3 ∧ i + gk = np ∧ Hid (Of 36 3 pcC wx X1.heap.size v (ps.take i)) ∧ Hid (Below X1.heap.size X1 wx))
  case atStart => exact ⟨0, _, rfl, rfl, by omega, Lib.hid (Of.nil _ _ _ _ _), Lib.hid (Below.refl _ _)⟩
  case round =>
    obtain ⟨i, v, rfl, rfl, hi, HV2, HB⟩ := hrel
    cases gk with
    | succ gk0 =>
      have hin : i < np := by omega
      have hil : i < ps.length := by have := H1.out; omega
      have hc0 := (HB.out.cell (p := ⟨w.heap.size, 0, none⟩) HLT.out).trans HQ.out.1
      obtain ⟨b, off, rfl, hlt, q⟩ := HP.out.get celP hil
      have p0 := (HB.out.cell (p := ⟨b, off + i * 3, none⟩) hlt).trans (q 0 _ (by decide) rfl)
      have p1 := (HB.out.cell (p := ⟨b, off + i * 3 + 1, none⟩) hlt).trans (q 1 _ (by decide) rfl)
      have p2 := (HB.out.cell (p := ⟨b, off + i * 3 + 2, none⟩) hlt).trans (q 2 _ (by decide) rfl)
      have HTK := Lib.hid (show ps.take (i + 1) = ps.take i ++ [ps[i]] from List.take_succ_eq_append_getElem hil)
      have htl : (ps.take i).length + 1 ≤ 10000000 := by rw [List.length_take]; omega
      clear q
      obtain ⟨E, hE⟩ : ∃ E, E = ps.take i := ⟨_, rfl⟩
      rw [← hE] at HV2 HTK htl
      clear hE
      generalize ps[i] = p at *
      obtain ⟨f, o, m⟩ := p
      dsimp only [pcC] at p0 p1 p2
      have HS := Lib.hid (show wr.cell? ⟨w.heap.size, 0, none⟩ = some (.slice (some ⟨b, off, none⟩) np cp) ∧ wr.cell? ⟨b, off + i * 3, none⟩ = some (.int .i64 f) ∧ wr.cell? ⟨b, off + i * 3 + 1, none⟩ = some (.int .i64 o) ∧ wr.cell? ⟨b, off + i * 3 + 2, none⟩ = some (.int .i64 m) from ⟨hc0, p0, p1, p2⟩)
      have HBL := Lib.hid (show b < wr.heap.size from Nat.lt_of_lt_of_le hlt HB.out.size)
      have HBW := Lib.hid (show w.heap.size < wr.heap.size from Nat.lt_of_lt_of_le HLT.out HB.out.size)
      clear p0 p1 p2
      go_wp2_with fail
      clear hc0
      have HS4 : Hid (wr.drew.cell? ⟨w.heap.size, 0, none⟩ = some (.slice (some ⟨b, off, none⟩) np cp) ∧ wr.drew.cell? ⟨b, off + i * 3, none⟩ = some (.int .i64 f) ∧ wr.drew.cell? ⟨b, off + i * 3 + 1, none⟩ = some (.int .i64 o) ∧ wr.drew.cell? ⟨b, off + i * 3 + 2, none⟩ = some (.int .i64 m)) := HS
      refine wp_region_noPanic ?_
      refine wp_region_held_drew (S := (fun X => X.cell? ⟨w.heap.size, 0, none⟩ = some (.slice (some ⟨b, off, none⟩) np cp) ∧ X.cell? ⟨b, off + i * 3, none⟩ = some (.int .i64 f) ∧ X.cell? ⟨b, off + i * 3 + 1, none⟩ = some (.int .i64 o) ∧ X.cell? ⟨b, off + i * 3 + 2, none⟩ = some (.int .i64 m))) (by kernel_rfl) (HS4.out) (fun hS0 => ?_)
      have HV3 : Hid (Of 36 3 pcC wr.drew X1.heap.size v E) := Lib.hid (HV2.out.keep fun _ _ _ => rfl)
      have HB3 : Hid (Below X1.heap.size X1 wr.drew) := Lib.hid HB.out.drew
      have HBL3 : Hid (b < wr.drew.heap.size ∧ w.heap.size < wr.drew.heap.size) := Lib.hid ⟨HBL.out, HBW.out⟩
      clear HS HS4 HV2 HB HBL HBW
      generalize World.drew wr = X4 at *
      refine held_take (i := 0) (v := ?_) rfl (by kernel_rfl) (by kernel_rfl) (by kernel_rfl) (fun _ _ _ h => h) (by rfl) ?_ (by assumption) ?_
      rotate_left
      · intro X hSX
        try dsimp only at hSX
        go_simp <;> with_reducible rfl
      simp only [Act.put, List.setIfInBounds_toArray, List.set_cons_zero, List.set_cons_succ]
      refine held_take (i := 1) (v := ?_) rfl (by kernel_rfl) (by kernel_rfl) (by kernel_rfl) (fun _ _ _ h => h) (by rfl) ?_ (by assumption) ?_
      rotate_left
      · intro X hSX
        try dsimp only at hSX
        go_simp <;> with_reducible rfl
      simp only [Act.put, List.setIfInBounds_toArray, List.set_cons_zero, List.set_cons_succ]
      refine held_take (i := 3) (v := ?_) rfl (by kernel_rfl) (by kernel_rfl) (by kernel_rfl) (fun _ _ _ h => h) (by rfl) ?_ (by assumption) ?_
      rotate_left
      · intro X hSX
        try dsimp only at hSX
        go_simp <;> with_reducible rfl
      simp only [Act.put, List.setIfInBounds_toArray, List.set_cons_zero, List.set_cons_succ]
      refine held_take (i := 7) (v := ?_) rfl (by kernel_rfl) (by kernel_rfl) (by kernel_rfl) (fun _ _ _ h => h) (by rfl) ?_ (by assumption) ?_
      rotate_left
      · intro X hSX
        try dsimp only at hSX
        go_simp <;> with_reducible rfl
      simp only [Act.put, List.setIfInBounds_toArray, List.set_cons_zero, List.set_cons_succ]
      refine held_take (i := 9) (v := ?_) rfl (by kernel_rfl) (by kernel_rfl) (by kernel_rfl) (fun _ _ _ h => h) (by rfl) ?_ (by assumption) ?_
      rotate_left
      · intro X hSX
        try dsimp only at hSX
        go_simp <;> with_reducible rfl
      simp only [Act.put, List.setIfInBounds_toArray, List.set_cons_zero, List.set_cons_succ]
      refine held_take (i := 13) (v := ?_) rfl (by kernel_rfl) (by kernel_rfl) (by kernel_rfl) (fun _ _ _ h => h) (by rfl) ?_ (by assumption) ?_
      rotate_left
      · intro X hSX
        try dsimp only at hSX
        go_simp <;> with_reducible rfl
      simp only [Act.put, List.setIfInBounds_toArray, List.set_cons_zero, List.set_cons_succ]
      refine held_take (i := 15) (v := ?_) rfl (by kernel_rfl) (by kernel_rfl) (by kernel_rfl) (fun _ _ _ h => h) (by rfl) ?_ (by assumption) ?_
      rotate_left
      · intro X hSX
        try dsimp only at hSX
        go_simp <;> with_reducible rfl
      simp only [Act.put, List.setIfInBounds_toArray, List.set_cons_zero, List.set_cons_succ]
      refine held_take (i := 2) (v := ?_) rfl (by kernel_rfl) (by kernel_rfl) (by kernel_rfl) (fun _ _ _ h => h) (by rfl) ?_ (by assumption) ?_
      rotate_left
      · intro X hSX
        try dsimp only at hSX
        obtain ⟨p0, p1, p2, p3⟩ := hSX
        go_simp <;> with_reducible rfl
      simp only [Act.put, List.setIfInBounds_toArray, List.set_cons_zero, List.set_cons_succ]
      refine held_take (i := 8) (v := ?_) rfl (by kernel_rfl) (by kernel_rfl) (by kernel_rfl) (fun _ _ _ h => h) (by rfl) ?_ (by assumption) ?_
      rotate_left
      · intro X hSX
        try dsimp only at hSX
        obtain ⟨p0, p1, p2, p3⟩ := hSX
        go_simp <;> with_reducible rfl
      simp only [Act.put, List.setIfInBounds_toArray, List.set_cons_zero, List.set_cons_succ]
      refine held_take (i := 14) (v := ?_) rfl (by kernel_rfl) (by kernel_rfl) (by kernel_rfl) (fun _ _ _ h => h) (by rfl) ?_ (by assumption) ?_
      rotate_left
      · intro X hSX
        try dsimp only at hSX
        obtain ⟨p0, p1, p2, p3⟩ := hSX
        go_simp <;> with_reducible rfl
      simp only [Act.put, List.setIfInBounds_toArray, List.set_cons_zero, List.set_cons_succ]
      refine held_take (i := 4) (v := ?_) rfl (by kernel_rfl) (by kernel_rfl) (by kernel_rfl) (fun _ _ _ h => h) (by rfl) ?_ (by assumption) ?_
      rotate_left
      · intro X hSX
        try dsimp only at hSX
        go_simp <;> with_reducible rfl
      simp only [Act.put, List.setIfInBounds_toArray, List.set_cons_zero, List.set_cons_succ]
      refine held_take (i := 10) (v := ?_) rfl (by kernel_rfl) (by kernel_rfl) (by kernel_rfl) (fun _ _ _ h => h) (by rfl) ?_ (by assumption) ?_
      rotate_left
      · intro X hSX
        try dsimp only at hSX
        go_simp <;> with_reducible rfl
      simp only [Act.put, List.setIfInBounds_toArray, List.set_cons_zero, List.set_cons_succ]
      refine held_take (i := 16) (v := ?_) rfl (by kernel_rfl) (by kernel_rfl) (by kernel_rfl) (fun _ _ _ h => h) (by rfl) ?_ (by assumption) ?_
      rotate_left
      · intro X hSX
        try dsimp only at hSX
        go_simp <;> with_reducible rfl
      simp only [Act.put, List.setIfInBounds_toArray, List.set_cons_zero, List.set_cons_succ]
      refine held_take (i := 5) (v := ?_) rfl (by kernel_rfl) (by kernel_rfl) (by kernel_rfl) (fun _ _ _ h => h) (by rfl) ?_ (by assumption) ?_
      rotate_left
      · intro X hSX
        try dsimp only at hSX
        go_simp <;> with_reducible rfl
      simp only [Act.put, List.setIfInBounds_toArray, List.set_cons_zero, List.set_cons_succ]
      refine held_take (i := 11) (v := ?_) rfl (by kernel_rfl) (by kernel_rfl) (by kernel_rfl) (fun _ _ _ h => h) (by rfl) ?_ (by assumption) ?_
      rotate_left
      · intro X hSX
        try dsimp only at hSX
        go_simp <;> with_reducible rfl
      simp only [Act.put, List.setIfInBounds_toArray, List.set_cons_zero, List.set_cons_succ]
      refine held_take (i := 17) (v := ?_) rfl (by kernel_rfl) (by kernel_rfl) (by kernel_rfl) (fun _ _ _ h => h) (by rfl) ?_ (by assumption) ?_
      rotate_left
      · intro X hSX
        try dsimp only at hSX
        go_simp <;> with_reducible rfl
      simp only [Act.put, List.setIfInBounds_toArray, List.set_cons_zero, List.set_cons_succ]
      refine held_take (i := 6) (v := ?_) rfl (by kernel_rfl) (by kernel_rfl) (by kernel_rfl) (fun _ _ _ h => h) (by rfl) ?_ (by assumption) ?_
      rotate_left
      · intro X hSX
        try dsimp only at hSX
        obtain ⟨p0, p1, p2, p3⟩ := hSX
        go_simp <;> with_reducible rfl
      simp only [Act.put, List.setIfInBounds_toArray, List.set_cons_zero, List.set_cons_succ]
      refine held_take (i := 12) (v := ?_) rfl (by kernel_rfl) (by kernel_rfl) (by kernel_rfl) (fun _ _ _ h => h) (by rfl) ?_ (by assumption) ?_
      rotate_left
      · intro X hSX
        try dsimp only at hSX
        obtain ⟨p0, p1, p2, p3⟩ := hSX
        go_simp <;> with_reducible rfl
      simp only [Act.put, List.setIfInBounds_toArray, List.set_cons_zero, List.set_cons_succ]
      refine held_take (i := 18) (v := ?_) rfl (by kernel_rfl) (by kernel_rfl) (by kernel_rfl) (fun _ _ _ h => h) (by rfl) ?_ (by assumption) ?_
      rotate_left
      · intro X hSX
        try dsimp only at hSX
        obtain ⟨p0, p1, p2, p3⟩ := hSX
        go_simp <;> with_reducible rfl
      simp only [Act.put, List.setIfInBounds_toArray, List.set_cons_zero, List.set_cons_succ]
      refine held_take (i := 19) (v := ?_) rfl (by kernel_rfl) (by kernel_rfl) (by kernel_rfl) (fun _ _ _ h => h) (by rfl) ?_ (by assumption) ?_
      rotate_left
      · intro X hSX
        try dsimp only at hSX
        go_simp <;> with_reducible rfl
      simp only [Act.put, List.setIfInBounds_toArray, List.set_cons_zero, List.set_cons_succ]
      have hs5 := hS0
      have hb5 := co_box1 X4 (.cells #[.int .i64 f, .int .i64 o, .int .i64 m] 36)
      have HLI5 : Hid (Lf pcC (X4.alloc (.cells #[.int .i64 f, .int .i64 o, .int .i64 m] 36)) (some ⟨X4.heap.size, 0, none⟩) [⟨f, o, m⟩]) := Lib.hid (Lf.lits X4 _ _ rfl _ rfl)
      have HV5 := Lib.hid (HV3.out.below hb5)
      have HB5 := Lib.hid (HB3.out.trans (hb5.mono HB3.out.size))
      have hs6 := And.intro ((hb5.cell (p := ⟨w.heap.size, 0, none⟩) HBL3.out.2).trans hs5.1) (And.intro ((hb5.cell (p := ⟨b, off + i * 3, none⟩) HBL3.out.1).trans hs5.2.1) (And.intro ((hb5.cell (p := ⟨b, off + i * 3 + 1, none⟩) HBL3.out.1).trans hs5.2.2.1) ((hb5.cell (p := ⟨b, off + i * 3 + 2, none⟩) HBL3.out.1).trans hs5.2.2.2)))
      clear hS0 HV3 HB3 hb5
      refine held_call (i := 20) rfl (by kernel_rfl) (by rfl) (fun K' hK' => ?_)
      go_simp
      refine held_go hK' (hs6) ?_
      try simp only [Act.put, List.setIfInBounds_toArray, List.set_cons_zero, List.set_cons_succ]
      have HZ := HB5.out.size
      refine held_call (i := 21) rfl (by kernel_rfl) (by rfl) (fun K' hK' => ?_)
      refine oper_of_list (ops := #[]) (by unfold Region.wanted; rfl) (wpList_append_f typP celP rfl (.tmp 44) (.tmp 64) rfl X1.heap.size _ E rfl HV5.out _ 1 1 [⟨f, o, m⟩] (fun h => by cases h) HLI5.out rfl rfl htl HZ (fun v9 w9 ho9 hg9 => onlyN_end ?_))
      have HV9 : Hid (Of 36 3 pcC w9 X1.heap.size v9 (ps.take (i + 1))) := Lib.hid (by rw [HTK.out]; exact ho9)
      have hb9 := (Below.refl X1.heap.size _).grown hg9 HZ (fun k hk => (HV5.out.lt k hk).1)
      have HB9 := Lib.hid (HB5.out.trans hb9)
      have hs9 : w9.cell? ⟨w.heap.size, 0, none⟩ = some (.slice (some ⟨b, off, none⟩) np cp) ∧ w9.cell? ⟨b, off + i * 3, none⟩ = some (.int .i64 f) ∧ w9.cell? ⟨b, off + i * 3 + 1, none⟩ = some (.int .i64 o) ∧ w9.cell? ⟨b, off + i * 3 + 2, none⟩ = some (.int .i64 m) :=
        And.intro ((hb9.cell (p := ⟨w.heap.size, 0, none⟩) HLT.out).trans hs6.1) (And.intro ((hb9.cell (p := ⟨b, off + i * 3, none⟩) hlt).trans hs6.2.1) (And.intro ((hb9.cell (p := ⟨b, off + i * 3 + 1, none⟩) hlt).trans hs6.2.2.1) ((hb9.cell (p := ⟨b, off + i * 3 + 2, none⟩) hlt).trans hs6.2.2.2)))
      clear ho9 hg9 hb9
      refine held_go hK' (hs9) ?_
      try simp only [Act.put, List.setIfInBounds_toArray, List.set_cons_zero, List.set_cons_succ]
      refine held_take (i := 22) (v := ?_) rfl (by kernel_rfl) (by kernel_rfl) (by kernel_rfl) (fun _ _ _ h => h) (by rfl) ?_ (by assumption) ?_
      rotate_left
      · intro X hSX
        try dsimp only at hSX
        go_simp <;> with_reducible rfl
      simp only [Act.put, List.setIfInBounds_toArray, List.set_cons_zero, List.set_cons_succ]
      refine wpAnyH_done (by kernel_rfl) ?_ _
      refine NoPanic.normal ?_
      clear hs5 hs6 hs9
      go_wp2_with fail
      go_roundg gk0
      case rel => exact ⟨i + 1, _, by go_num, rfl, by omega, HV9, HB9⟩
      case measure => omega
    | zero =>
      obtain rfl : i = np := by omega
      have HV3 : Hid (Of 36 3 pcC wr X1.heap.size v ps) := Lib.hid (by have := HV2.out; rwa [List.take_of_length_le (by have := H1.out; omega)] at this)
      clear HV2
      clear hi
      have HQ2 := Lib.hid (show wr.cell? ⟨w.heap.size, 0, none⟩ = some (.slice ap i cp) ∧ wr.cell? ⟨w.heap.size, 1, none⟩ = some (.slice ai ni ci) ∧ wr.cell? ⟨w.heap.size, 2, none⟩ = some (.slice av nv cv) ∧ wr.cell? ⟨w.heap.size, 3, none⟩ = some (.slice ad nd cd) from ⟨(HB.out.cell (p := ⟨w.heap.size, 0, none⟩) HLT.out).trans HQ.out.1, (HB.out.cell (p := ⟨w.heap.size, 1, none⟩) HLT.out).trans HQ.out.2.1, (HB.out.cell (p := ⟨w.heap.size, 2, none⟩) HLT.out).trans HQ.out.2.2.1, (HB.out.cell (p := ⟨w.heap.size, 3, none⟩) HLT.out).trans HQ.out.2.2.2⟩)
      have HP2 := Lib.hid (HP.out.below HB.out)
      have HI2 := Lib.hid (HI.out.below HB.out)
      have HVS2 := Lib.hid (HV.out.below HB.out)
      have HD2 := Lib.hid (HD.out.below HB.out)
      have HBW := Lib.hid (HB1.out.trans (HB.out.mono HB1.out.size))
      clear HP HI HV HD HB HQ HB1
      generalize wr = W2 at *
      obtain ⟨qq0, qq1, qq2, qq3⟩ := HQ2.out
      go_wp2_with fail
      go_loopg [5] nd (fun gk v5 wx => ∃ j : Nat, v5 = .int .i64 j ∧ j + gk = nd ∧ W2 = wx ∧ Hid (∀ k (h : k < ds.length), k < j → (ds[k]).length ≤ 4096))
      case atStart => exact ⟨0, rfl, by omega, rfl, Lib.hid (fun k _ h => by omega)⟩
      case round =>
        obtain ⟨j, rfl, hj, rfl, HALL⟩ := hrel
        cases gk with
        | succ gk0 =>
          have hjn : j < nd := by omega
          have hjl : j < ds.length := by have := H4.out; omega
          obtain ⟨bd, od, adk, ncapk, rfl, hdlt0, hdc0, hdl, hle, hmx, hnn⟩ := HD2.out.at1 hjl
          have HNX := Lib.hid (show (ds[j]).length ≤ 4096 → ∀ k (h : k < ds.length), k < j + 1 → (ds[k]).length ≤ 4096 from fun h k hk hkj => by
            rcases Nat.lt_or_ge k j with h3 | h3
            · exact HALL.out k hk h3
            · obtain rfl : k = j := by omega
              exact h)
          clear hdl hle hmx hnn hdlt0 HALL
          generalize (ds[j]).length = L at *
          by_cases hL : 4096 < L
          · go_wp2_with fail
            refine (awake16_any W2).mono ?_
            rintro e w' ⟨rfl, hb⟩
            have HB := Lib.hid (HBW.out.trans (hb.mono HBW.out.size))
            clear hb
            go_wp2_with fail
            go_ret
            exact ⟨rfl, HB.out⟩
          · have HR := Lib.hid (HNX.out (by omega))
            clear HNX
            go_wp2_with fail
            go_roundg gk0
            case rel => exact ⟨j + 1, by go_num, by omega, rfl, HR⟩
            case measure => omega
        | zero =>
          obtain rfl : j = nd := by omega
          have HDS := Lib.hid (show ∀ d ∈ ds, d.length ≤ 100000 from fun d hd => by
            obtain ⟨k, hk, rfl⟩ := List.getElem_of_mem hd
            have := HALL.out k hk (by have := H4.out; omega)
            omega)
          clear HALL
          obtain ⟨a9, c9, rfl, l9, -⟩ := HV3.out.read
          have HL9 := Lib.hid l9
          clear l9
          rw [← H1.out] at HV3 ⊢
          go_wp2_with fail
          refine (entries_any a9 i c9 ps ai ni ci is av nv cv vs ad j cd ds W2 HL9.out H1.out HI2.out H2.out HVS2.out H3.out HD2.out H4.out (by omega) (by omega) (by omega) (by omega) HDS.out).mono ?_
          rintro e W5 ⟨v1, u1, rfl, ho1, hu1, hb5⟩
          have hs2 : w.heap.size < W2.heap.size := World.block_lt_of_cell? W2 _ qq0
          have t0 := (hb5.cell (p := ⟨w.heap.size, 0, none⟩) hs2).trans qq0
          have t1 := (hb5.cell (p := ⟨w.heap.size, 1, none⟩) hs2).trans qq1
          have t2 := (hb5.cell (p := ⟨w.heap.size, 2, none⟩) hs2).trans qq2
          have t3 := (hb5.cell (p := ⟨w.heap.size, 3, none⟩) hs2).trans qq3
          have HO1 := Lib.hid ho1
          have HU1 := Lib.hid hu1
          have HB5 := Lib.hid (HBW.out.trans (hb5.mono HBW.out.size))
          have HC5 := Lib.hid hb5
          clear ho1 hu1 hb5 qq0 qq1 qq2 qq3 HQ2 hs2
          go_wp2_with fail
          refine (rentries_any ap i cp ps ai ni ci is av nv cv vs ad j cd ds W5 (HP2.out.below HC5.out) H1.out (HI2.out.below HC5.out) H2.out (HVS2.out.below HC5.out) H3.out (HD2.out.below HC5.out) H4.out (by omega) (by omega) (by omega) (by omega) HDS.out).mono ?_
          rintro e W6 ⟨v2, u2, rfl, ho2, hu2, hb6⟩
          have HO2 := Lib.hid ho2
          have HU2 := Lib.hid hu2
          have HB6 := Lib.hid (HB5.out.trans (hb6.mono HB5.out.size))
          have HO3 := Lib.hid (HO1.out.below hb6)
          have HU3 := Lib.hid (HU1.out.below hb6)
          clear ho2 hu2 hb6 HO1 HU1 HB5 HC5 HP2 HI2 HVS2 HD2 HBW
          generalize entU ps is vs ds = R at *
          obtain ⟨EL, PL, E⟩ := R
          dsimp only at HO2 HU2 HO3 HU3
          dsimp only
          obtain ⟨ae, ce, rfl, le1, le2, le3, -⟩ := HO3.out.read
          obtain ⟨ap1, cp1, rfl, lp1, lp2, lp3, -⟩ := HU3.out.read
          obtain ⟨af, cf, rfl, lf1, -⟩ := HO2.out.read
          obtain ⟨aq, cq, rfl, lq1, -⟩ := HU2.out.read
          have HE1 := Lib.hid le1
          have HE2 := Lib.hid lf1
          have HY1 := Lib.hid lp1
          have HY2 := Lib.hid lq1
          have HM := Lib.hid (show EL.length ≤ maxLen ∧ PL.length ≤ maxLen from ⟨by omega, by omega⟩)
          clear le1 le2 le3 lp1 lp2 lp3 lf1 lq1 HO2 HU2 HO3 HU3
          obtain ⟨EN, hEN⟩ : ∃ EN, EN = EL.length := ⟨_, rfl⟩
          obtain ⟨PN, hPN⟩ : ∃ PN, PN = PL.length := ⟨_, rfl⟩
          rw [← hEN, ← hPN] at HM ⊢
          have HEN := Lib.hid hEN
          have HPN := Lib.hid hPN
          have he1 : (E != E) = false := bne_self_eq_false E
          have he2 : ((EN : Int) != (EN : Int)) = false := bne_self_eq_false _
          have he3 : ((PN : Int) != (PN : Int)) = false := bne_self_eq_false _
          have hm1 : EN ≤ 9223372036854775807 := by have := HM.out.1; unfold maxLen at this; omega
          have hm2 : PN ≤ 9223372036854775807 := by have := HM.out.2; unfold maxLen at this; omega
          clear hEN hPN t0 t1 t2 t3
          go_wp2_with fail
          go_loopg [12] EN (fun gk v12 wx => ∃ k : Nat, v12 = .int .i64 k ∧ k + gk = EN ∧ Hid (Below W6.heap.size W6 wx))
          case atStart => exact ⟨0, rfl, by omega, Lib.hid (Below.refl _ _)⟩
          case round =>
            obtain ⟨k, rfl, hk, HB7⟩ := hrel
            cases gk with
            | succ gk0 =>
              have hkn : k < EN := by omega
              have hkl : k < EL.length := by have := HEN.out; omega
              obtain ⟨b1, o1, rfl, hlt, q⟩ := HE1.out.get celE hkl
              have e0 := (HB7.out.cell (p := ⟨b1, o1 + k * 5, none⟩) hlt).trans (q 0 _ (by decide) rfl)
              have e1 := (HB7.out.cell (p := ⟨b1, o1 + k * 5 + 1, none⟩) hlt).trans (q 1 _ (by decide) rfl)
              have e2 := (HB7.out.cell (p := ⟨b1, o1 + k * 5 + 2, none⟩) hlt).trans (q 2 _ (by decide) rfl)
              have e3 := (HB7.out.cell (p := ⟨b1, o1 + k * 5 + 3, none⟩) hlt).trans (q 3 _ (by decide) rfl)
              have e4 := (HB7.out.cell (p := ⟨b1, o1 + k * 5 + 4, none⟩) hlt).trans (q 4 _ (by decide) rfl)
              clear q
              obtain ⟨b2, o2, rfl, hlt2, q⟩ := HE2.out.get celE hkl
              have g0 := (HB7.out.cell (p := ⟨b2, o2 + k * 5, none⟩) hlt2).trans (q 0 _ (by decide) rfl)
              have g1 := (HB7.out.cell (p := ⟨b2, o2 + k * 5 + 1, none⟩) hlt2).trans (q 1 _ (by decide) rfl)
              have g2 := (HB7.out.cell (p := ⟨b2, o2 + k * 5 + 2, none⟩) hlt2).trans (q 2 _ (by decide) rfl)
              have g3 := (HB7.out.cell (p := ⟨b2, o2 + k * 5 + 3, none⟩) hlt2).trans (q 3 _ (by decide) rfl)
              have g4 := (HB7.out.cell (p := ⟨b2, o2 + k * 5 + 4, none⟩) hlt2).trans (q 4 _ (by decide) rfl)
              clear q
              replace hlt := Nat.lt_of_lt_of_le hlt HB7.out.size
              replace hlt2 := Nat.lt_of_lt_of_le hlt2 HB7.out.size
              generalize EL[k] = x at *
              obtain ⟨xf, xv, xo, xn, xs⟩ := x
              dsimp only at e0 e1 e2 e3 e4 g0 g1 g2 g3 g4
              go_wp2_with fail
              refine wp_region_noPanic ?_
              refine wp_region_held_drew (S := fun X => Below wr.heap.size wr X) (by kernel_rfl) ((Below.refl wr.heap.size wr).drew) (fun hS0 => ?_)
              refine held_take (i := 0) (v := ?_) rfl (by kernel_rfl) (by kernel_rfl) (by kernel_rfl) (fun _ _ _ h => h) (by rfl) ?_ (by assumption) ?_
              rotate_left
              · intro X hSX
                try dsimp only at hSX
                go_simp <;> with_reducible rfl
              simp only [Act.put, List.setIfInBounds_toArray, List.set_cons_zero, List.set_cons_succ]
              refine held_take (i := 1) (v := ?_) rfl (by kernel_rfl) (by kernel_rfl) (by kernel_rfl) (fun _ _ _ h => h) (by rfl) ?_ (by assumption) ?_
              rotate_left
              · intro X hSX
                try dsimp only at hSX
                go_simp <;> with_reducible rfl
              simp only [Act.put, List.setIfInBounds_toArray, List.set_cons_zero, List.set_cons_succ]
              refine held_take (i := 4) (v := ?_) rfl (by kernel_rfl) (by kernel_rfl) (by kernel_rfl) (fun _ _ _ h => h) (by rfl) ?_ (by assumption) ?_
              rotate_left
              · intro X hSX
                try dsimp only at hSX
                go_simp <;> with_reducible rfl
              simp only [Act.put, List.setIfInBounds_toArray, List.set_cons_zero, List.set_cons_succ]
              refine held_take (i := 5) (v := ?_) rfl (by kernel_rfl) (by kernel_rfl) (by kernel_rfl) (fun _ _ _ h => h) (by rfl) ?_ (by assumption) ?_
              rotate_left
              · intro X hSX
                try dsimp only at hSX
                go_simp <;> with_reducible rfl
              simp only [Act.put, List.setIfInBounds_toArray, List.set_cons_zero, List.set_cons_succ]
              refine held_take (i := 2) (v := ?_) rfl (by kernel_rfl) (by kernel_rfl) (by kernel_rfl) (fun _ _ _ h => h) (by rfl) ?_ (by assumption) ?_
              rotate_left
              · intro X hSX
                try dsimp only at hSX
                go_simp <;> with_reducible rfl
              simp only [Act.put, List.setIfInBounds_toArray, List.set_cons_zero, List.set_cons_succ]
              refine held_take (i := 6) (v := ?_) rfl (by kernel_rfl) (by kernel_rfl) (by kernel_rfl) (fun _ _ _ h => h) (by rfl) ?_ (by assumption) ?_
              rotate_left
              · intro X hSX
                try dsimp only at hSX
                go_simp <;> with_reducible rfl
              simp only [Act.put, List.setIfInBounds_toArray, List.set_cons_zero, List.set_cons_succ]
              refine held_take (i := 3) (v := ?_) rfl (by kernel_rfl) (by kernel_rfl) (by kernel_rfl) (fun _ _ _ h => h) (by rfl) ?_ (by assumption) ?_
              rotate_left
              · intro X hSX
                try dsimp only at hSX
                have d0 := (World.cell?_of_block (a := ⟨b1, _, none⟩) (hSX.block b1 hlt)).trans e0
                have d1 := (World.cell?_of_block (a := ⟨b1, _, none⟩) (hSX.block b1 hlt)).trans e1
                have d2 := (World.cell?_of_block (a := ⟨b1, _, none⟩) (hSX.block b1 hlt)).trans e2
                have d3 := (World.cell?_of_block (a := ⟨b1, _, none⟩) (hSX.block b1 hlt)).trans e3
                have d4 := (World.cell?_of_block (a := ⟨b1, _, none⟩) (hSX.block b1 hlt)).trans e4
                go_simp <;> with_reducible rfl
              simp only [Act.put, List.setIfInBounds_toArray, List.set_cons_zero, List.set_cons_succ]
              refine held_take (i := 7) (v := ?_) rfl (by kernel_rfl) (by kernel_rfl) (by kernel_rfl) (fun _ _ _ h => h) (by rfl) ?_ (by assumption) ?_
              rotate_left
              · intro X hSX
                try dsimp only at hSX
                have d0 := (World.cell?_of_block (a := ⟨b2, _, none⟩) (hSX.block b2 hlt2)).trans g0
                have d1 := (World.cell?_of_block (a := ⟨b2, _, none⟩) (hSX.block b2 hlt2)).trans g1
                have d2 := (World.cell?_of_block (a := ⟨b2, _, none⟩) (hSX.block b2 hlt2)).trans g2
                have d3 := (World.cell?_of_block (a := ⟨b2, _, none⟩) (hSX.block b2 hlt2)).trans g3
                have d4 := (World.cell?_of_block (a := ⟨b2, _, none⟩) (hSX.block b2 hlt2)).trans g4
                go_simp <;> with_reducible rfl
              simp only [Act.put, List.setIfInBounds_toArray, List.set_cons_zero, List.set_cons_succ]
              refine held_take (i := 8) (v := ?_) rfl (by kernel_rfl) (by kernel_rfl) (by kernel_rfl) (fun _ _ _ h => h) (by rfl) ?_ (by assumption) ?_
              rotate_left
              · intro X hSX
                try dsimp only at hSX
                go_simp <;> with_reducible rfl
              simp only [Act.put, List.setIfInBounds_toArray, List.set_cons_zero, List.set_cons_succ]
              refine wpAnyH_done (by kernel_rfl) ?_ _
              refine NoPanic.normal ?_
              clear e0 e1 e2 e3 e4 g0 g1 g2 g3 g4
              go_wp2_with fail
              go_roundg gk0
              case rel => exact ⟨k + 1, by go_num, by omega, Lib.hid (HB7.out.trans ((Below.refl wr.heap.size wr).drew.mono HB7.out.size))⟩
              case measure => omega
            | zero =>
              obtain rfl : k = EN := by omega
              have HY3 := Lib.hid (HY1.out.below HB7.out)
              have HY4 := Lib.hid (HY2.out.below HB7.out)
              have HB8 := Lib.hid (HB6.out.trans (HB7.out.mono HB6.out.size))
              clear HY1 HY2 HE1 HE2 HB6 HB7 hk
              generalize wr = W7 at *
              go_wp2_with fail
              go_loopg [13] PN (fun gk v13 wx => ∃ m : Nat, v13 = .int .i64 m ∧ m + gk = PN ∧ Hid (Below W7.heap.size W7 wx))
              case atStart => exact ⟨0, rfl, by omega, Lib.hid (Below.refl _ _)⟩
              case round =>
                obtain ⟨m, rfl, hk, HB7⟩ := hrel
                cases gk with
                | succ gk0 =>
                  have hkn : m < PN := by omega
                  have hkl : m < PL.length := by have := HPN.out; omega
                  obtain ⟨b1, o1, rfl, hlt, q⟩ := HY3.out.get celU hkl
                  have e0 : wr.cell? ⟨b1, o1 + m, none⟩ = some (.int .u8 ((PL[m]).toNat : Int)) := (HB7.out.cell (p := ⟨b1, o1 + m, none⟩) hlt).trans (by simpa using q 0 _ (by decide) rfl)
                  clear q
                  obtain ⟨b2, o2, rfl, hlt2, q⟩ := HY4.out.get celU hkl
                  have g0 : wr.cell? ⟨b2, o2 + m, none⟩ = some (.int .u8 ((PL[m]).toNat : Int)) := (HB7.out.cell (p := ⟨b2, o2 + m, none⟩) hlt2).trans (by simpa using q 0 _ (by decide) rfl)
                  clear q
                  replace hlt := Nat.lt_of_lt_of_le hlt HB7.out.size
                  replace hlt2 := Nat.lt_of_lt_of_le hlt2 HB7.out.size
                  generalize ((PL[m]).toNat : Int) = x at *
                  have hx : (x != x) = false := bne_self_eq_false _
                  go_wp2_with fail
                  refine wp_region_noPanic ?_
                  refine wp_region_held_drew (S := fun X => Below wr.heap.size wr X) (by kernel_rfl) ((Below.refl wr.heap.size wr).drew) (fun hS0 => ?_)
                  refine held_take (i := 0) (v := ?_) rfl (by kernel_rfl) (by kernel_rfl) (by kernel_rfl) (fun _ _ _ h => h) (by rfl) ?_ (by assumption) ?_
                  rotate_left
                  · intro X hSX
                    try dsimp only at hSX
                    go_simp <;> with_reducible rfl
                  simp only [Act.put, List.setIfInBounds_toArray, List.set_cons_zero, List.set_cons_succ]
                  refine held_take (i := 1) (v := ?_) rfl (by kernel_rfl) (by kernel_rfl) (by kernel_rfl) (fun _ _ _ h => h) (by rfl) ?_ (by assumption) ?_
                  rotate_left
                  · intro X hSX
                    try dsimp only at hSX
                    go_simp <;> with_reducible rfl
                  simp only [Act.put, List.setIfInBounds_toArray, List.set_cons_zero, List.set_cons_succ]
                  refine held_take (i := 4) (v := ?_) rfl (by kernel_rfl) (by kernel_rfl) (by kernel_rfl) (fun _ _ _ h => h) (by rfl) ?_ (by assumption) ?_
                  rotate_left
                  · intro X hSX
                    try dsimp only at hSX
                    go_simp <;> with_reducible rfl
                  simp only [Act.put, List.setIfInBounds_toArray, List.set_cons_zero, List.set_cons_succ]
                  refine held_take (i := 5) (v := ?_) rfl (by kernel_rfl) (by kernel_rfl) (by kernel_rfl) (fun _ _ _ h => h) (by rfl) ?_ (by assumption) ?_
                  rotate_left
                  · intro X hSX
                    try dsimp only at hSX
                    go_simp <;> with_reducible rfl
                  simp only [Act.put, List.setIfInBounds_toArray, List.set_cons_zero, List.set_cons_succ]
                  refine held_take (i := 2) (v := ?_) rfl (by kernel_rfl) (by kernel_rfl) (by kernel_rfl) (fun _ _ _ h => h) (by rfl) ?_ (by assumption) ?_
                  rotate_left
                  · intro X hSX
                    try dsimp only at hSX
                    go_simp <;> with_reducible rfl
                  simp only [Act.put, List.setIfInBounds_toArray, List.set_cons_zero, List.set_cons_succ]
                  refine held_take (i := 6) (v := ?_) rfl (by kernel_rfl) (by kernel_rfl) (by kernel_rfl) (fun _ _ _ h => h) (by rfl) ?_ (by assumption) ?_
                  rotate_left
                  · intro X hSX
                    try dsimp only at hSX
                    go_simp <;> with_reducible rfl
                  simp only [Act.put, List.setIfInBounds_toArray, List.set_cons_zero, List.set_cons_succ]
                  refine held_take (i := 3) (v := ?_) rfl (by kernel_rfl) (by kernel_rfl) (by kernel_rfl) (fun _ _ _ h => h) (by rfl) ?_ (by assumption) ?_
                  rotate_left
                  · intro X hSX
                    try dsimp only at hSX
                    have d0 := (World.cell?_of_block (a := ⟨b1, _, none⟩) (hSX.block b1 hlt)).trans e0
                    go_simp <;> with_reducible rfl
                  simp only [Act.put, List.setIfInBounds_toArray, List.set_cons_zero, List.set_cons_succ]
                  refine held_take (i := 7) (v := ?_) rfl (by kernel_rfl) (by kernel_rfl) (by kernel_rfl) (fun _ _ _ h => h) (by rfl) ?_ (by assumption) ?_
                  rotate_left
                  · intro X hSX
                    try dsimp only at hSX
                    have d0 := (World.cell?_of_block (a := ⟨b2, _, none⟩) (hSX.block b2 hlt2)).trans g0
                    go_simp <;> with_reducible rfl
                  simp only [Act.put, List.setIfInBounds_toArray, List.set_cons_zero, List.set_cons_succ]
                  refine held_take (i := 8) (v := ?_) rfl (by kernel_rfl) (by kernel_rfl) (by kernel_rfl) (fun _ _ _ h => h) (by rfl) ?_ (by assumption) ?_
                  rotate_left
                  · intro X hSX
                    try dsimp only at hSX
                    go_simp <;> with_reducible rfl
                  simp only [Act.put, List.setIfInBounds_toArray, List.set_cons_zero, List.set_cons_succ]
                  refine wpAnyH_done (by kernel_rfl) ?_ _
                  refine NoPanic.normal ?_
                  clear e0 g0
                  go_wp2_with fail
                  go_roundg gk0
                  case rel => exact ⟨m + 1, by go_num, by omega, Lib.hid (HB7.out.trans ((Below.refl wr.heap.size wr).drew.mono HB7.out.size))⟩
                  case measure => omega
                | zero =>
                  have HB9 := Lib.hid (HB8.out.trans (HB7.out.mono HB8.out.size))
                  clear HB7 HB8
                  go_wp2_with fail
                  refine (awake16_any _).mono ?_
                  rintro e w' ⟨rfl, hb⟩
                  have HB := Lib.hid (HB9.out.trans (hb.mono HB9.out.size))
                  clear hb
                  go_wp2_with fail
                  go_ret
                  exact ⟨rfl, HB.out⟩
end Go.Proofs.Ytpjegenobadckaa
