/-
  The program's Fill.
-/
import Derived.Test.YtpjegenobadckaaPkPut
namespace Go.Proofs.Ytpjegenobadckaa
open Go.RowKit
set_option linter.unusedVariables false
set_option linter.unusedSimpArgs false
/-- what Fill answers -/
def RetLL {α : Type} (OT T : TypeId) (k : Nat) (cc : α → List Value) (w : World) (r : List (List α) × Int) (e : Ending) (w' : World) : Prop := ∃ v, e = .returned (.tuple #[v, .int .i64 r.2]) ∧ Nn OT T k cc w' w.heap.size v r.1 ∧ Below w.heap.size w w'
theorem fill_step {c : Int} {l : List Int} {i : Nat} (hi : i < l.length) (ll : List (List Pc)) : fillP c (l.drop i) i ll = fillP c (l.drop (i + 1)) ((i + 1 : Nat) : Int) (fileP c ll i l[i]) := by
  rw [List.drop_eq_getElem_cons hi, fillP]
  rfl
set_option maxRecDepth 100000 in
set_option maxHeartbeats 4000000 in
theorem fill_any (ad : Option Addr) (n cap : Nat) (l : List Int) (c : Int) (w : World) (hl : Lf inC w ad l) (hn : n = l.length) (hs : n ≤ 9223372036854775807) :
    Calls Try.prog 11 #[.slice ad n cap, .int .i64 c] w (RetLL 33 36 3 pcC w (fillU l c)) := by
  have HL0 := Lib.hid hl
  have HL := Lib.hid (hl.below (co_box1 w (.cells #[.int .i64 c] 3)))
  have HN := Lib.hid hn
  have HSS := Lib.hid hs
  have HU := Lib.hid (show fillU l c = _ by unfold fillU; rfl)
  have HV := Lib.hid (@valU_ok l c)
  have HB0 := Lib.hid (co_box1 w (.cells #[.int .i64 c] 3))
  have h3 : (w.alloc (.cells #[.int .i64 c] 3)).heap[w.heap.size]? = some (.cells #[.int .i64 c] 3 (0, 0)) := heap_alloc_new w _
  have e3 : (w.alloc (.cells #[.int .i64 c] 3)).cell? ⟨w.heap.size, 0, none⟩ = some (.int .i64 c) := by rw [cell_of_row _ _ 0 _ _ _ h3]; rfl
  have H3 := Lib.hid h3
  clear hl hn hs h3
  go_enter Try.func11, Try.ntmps11
  go_wp2_with fail
  clear e3
  generalize World.alloc w _ = X0 at *
  refine (check_any ad n cap l c X0 HL.out HN.out HSS.out).mono ?_
  rintro e X1 ⟨rfl, hb⟩
  have HL1 := Lib.hid (HL.out.below hb)
  have HB1 := Lib.hid (HB0.out.trans (hb.mono HB0.out.size))
  have HG3 : Hid (w.heap.size < X0.heap.size) := Lib.hid (Array.getElem?_eq_some_iff.1 H3.out).1
  have H31 := Lib.hid ((hb.block _ HG3.out).trans H3.out)
  have HG4 : Hid (w.heap.size < X1.heap.size) := Lib.hid (Nat.lt_of_lt_of_le HG3.out hb.size)
  clear hb HL HB0 H3
  obtain ⟨V, hV⟩ : ∃ V, V = valU l c := ⟨_, rfl⟩
  rw [← hV] at HU HV ⊢
  clear hV
  by_cases hv : V = 0
  rotate_left
  · have hv2 := ne_t hv
    have HF := Lib.hid (HU.out.trans (if_neg hv))
    go_wp2
    go_ret2
    refine ⟨.slice none 0 0, by rw [HF.out]; rfl, by rw [HF.out]; exact Nn.nil _ _ _ _ _ _, HB1.out⟩
  have hv2 := ne_f hv
  obtain ⟨hl512, hok⟩ := HV.out hv
  replace HU := Lib.hid (HU.out.trans (if_pos hv))
  clear hv HV
  have hn512 : n ≤ 512 := by rw [HN.out]; exact hl512
  have HOK := Lib.hid hok
  clear hok hl512
  have HB2 : Hid (Below w.heap.size w ((X1.alloc (.cells #[.slice none 0 0] 25)).alloc (.cells #[.int .i64 0] 3))) := Lib.hid ((HB1.out.alloc (Nat.le_of_lt HG4.out) _).alloc (by have := HG4.out; simp; omega) _)
  have HL2 := Lib.hid (HL1.out.below (co_box2 X1 (.cells #[.slice none 0 0] 25) (.cells #[.int .i64 0] 3)))
  have HP2 : Hid (PutSt ((X1.alloc (.cells #[.slice none 0 0] 25)).alloc (.cells #[.int .i64 0] 3)) X1.heap.size (X1.heap.size + 1) w.heap.size (X1.heap.size + 2) c (.slice none 0 0) 0 []) := Lib.hid (by
    refine ⟨?_, ?_, ?_, Nn.nil _ _ _ _ _ _, ?_, fun h => (h rfl).elim, by simp⟩
    · rw [Below.heap_alloc _ _ _ (by simp)]; exact heap_alloc_new X1 _
    · have := heap_alloc_new (X1.alloc (.cells #[.slice none 0 0] 25)) (.cells #[.int .i64 0] 3)
      rwa [World.size_alloc] at this
    · rw [Below.heap_alloc _ _ _ (by have := HG4.out; simp; omega), Below.heap_alloc _ _ _ HG4.out]; exact H31.out
    · have := HG4.out; omega)
  clear HB1 HL1 H31
  go_wp2_with fail
  generalize World.alloc (World.alloc X1 _) _ = X2 at *
  have HG5 := Lib.hid (show w.heap.size ≤ X1.heap.size by have := HG4.out; omega)
  obtain ⟨g1, hg1⟩ : ∃ g1, g1 = X1.heap.size := ⟨_, rfl⟩
  rw [← hg1] at HP2 HG4 HG5 ⊢
  clear hg1
  go_loopg [22] n (fun gk v22 wx => ∃ (i : Nat) (v : Value) (sp : Int) (ll : List (List Pc)), v22 = .int .i64 i ∧ i + gk = n ∧ Hid (fillP c l 0 [] = fillP c (l.drop i) i ll) ∧ Hid (GoodP c ll) ∧ Hid (ll.length ≤ 4097 * i) ∧ Hid (PutSt wx g1 (g1 + 1) w.heap.size (g1 + 2) c v sp ll) ∧ Hid (Below w.heap.size w wx))
  case atStart => exact ⟨0, _, 0, [], rfl, by omega, Lib.hid (by simp), Lib.hid (GoodP.nil c), Lib.hid (by simp), HP2, HB2⟩
  case round =>
    obtain ⟨i, v, sp, ll, rfl, hi, HE, HG, HLN, HP, HB⟩ := hrel
    clear HP2 HB2
    cases gk with
    | zero =>
      obtain rfl : i = n := by omega
      have HF := Lib.hid (show fillU l c = (ll, 0) by rw [HU.out, HE.out, List.drop_eq_nil_of_le (by rw [HN.out]; exact Nat.le_refl _), fillP])
      have c1 := HP.out.c1
      go_wp2_with fail
      go_ret2
      refine ⟨v, by rw [HF.out]; rfl, ?_, HB.out⟩
      rw [HF.out]
      exact HP.out.n.mono (by have := HG5.out; omega)
    | succ gk0 =>
      have hin : i < n := by omega
      have hil : i < l.length := by have := HN.out; omega
      obtain ⟨b, off, rfl, hlt, q⟩ := (HL0.out.below HB.out).get celI hil
      have q0 : wr.cell? ⟨b, off + i, none⟩ = some (.int .i64 l[i]) := by simpa using q 0 _ (by decide) rfl
      clear q hlt
      have HE2 := Lib.hid (HE.out.trans (fill_step hil ll))
      obtain ⟨hs0, hs1⟩ := HOK.out.2 _ (List.getElem_mem hil)
      have HC1 := Lib.hid HOK.out.1
      generalize l[i] = S at *
      clear hil
      have HF := Lib.hid (show fileP c ll i S = _ by unfold fileP; rfl)
      obtain ⟨z, l', -, -, -, hg2, hL0, hL1, hLp, hlen, -⟩ := add_form (f := (i : Int)) (o := 0) (left := S) HG.out HC1.out.1 hs0
      have hll : ll.length ≤ 9000000 := by have := HLN.out; omega
      have HPUT := Lib.hid (put_any i 0 S c sp g1 (g1 + 1) w.heap.size (g1 + 2) w.heap.size v ll wr HP.out HG.out HC1.out ⟨hs0, hs1⟩ hll (by have := HG5.out; omega))
      have HG2 := Lib.hid hg2
      have HLN2 := Lib.hid hlen
      have HLP := Lib.hid hLp
      generalize addP c ll i 0 S = ll2 at *
      generalize lenP c ll S = A at *
      clear hg2 hlen hLp hll
      go_wp2_with fail
      refine HPUT.out.mono ?_
      rintro e X3 ⟨rfl, ⟨v3, sp3, hp3⟩, hb3⟩
      have HP3 := Lib.hid hp3
      have HB3 := Lib.hid (HB.out.trans hb3)
      have HLN3 : Hid (ll2.length ≤ 4097 * i + A.toNat + (if S = 0 then 1 else 0)) := Lib.hid (by
        have h1 := HLN2.out; have h2 := HLN.out
        by_cases h : S = 0
        · rw [if_pos h]; omega
        · rw [if_neg h]; have := HLP.out (by omega); omega)
      clear hp3 hb3 HP HB HPUT HG q0 HLN HLN2 HLP
      go_wp2_with fail
      replace HE2 := Lib.hid (HF.out ▸ HE2.out)
      go_loopg [12] (S - A).toNat (fun g2 v12 wx => ∃ (t : Int) (v : Value) (sp : Int) (lz : List (List Pc)), v12 = .int .i64 t ∧ 0 ≤ t ∧ t ≤ S ∧ Hid (S - t ≤ g2) ∧ Hid (fillP c l 0 [] = fillP c (l.drop (i + 1)) ((i + 1 : Nat) : Int) (restP c S i lz t)) ∧ Hid (GoodP c lz) ∧ Hid (lz.length ≤ 4097 * i + t.toNat + (if S = 0 then 1 else 0)) ∧ Hid (PutSt wx g1 (g1 + 1) w.heap.size (g1 + 2) c v sp lz) ∧ Hid (Below w.heap.size w wx))
      case atStart => exact ⟨A, v3, sp3, ll2, rfl, hL0, hL1, Lib.hid (by omega), HE2, HG2, HLN3, HP3, HB3⟩
      case round =>
        obtain ⟨t, v4, sp4, lz, rfl, ht0, ht1, HM, HE4, HG4', HLN4, HP4, HB4⟩ := hrel
        clear HP3 HB3 HG2 HLN3 HE2 HF HE
        by_cases hts : t < S
        rotate_left
        · have HE5 := Lib.hid (show fillP c l 0 [] = fillP c (l.drop (i + 1)) ((i + 1 : Nat) : Int) lz by rw [HE4.out, restP_end hts])
          have HLN5 : Hid (lz.length ≤ 4097 * (i + 1)) := Lib.hid (by have := HLN4.out; split at this <;> omega)
          go_wp2_with fail
          go_roundg gk0
          case rel => exact ⟨i + 1, v4, sp4, lz, by go_num, by omega, HE5, HG4', HLN5, HP4, HB4⟩
          case measure => omega
        cases gk with
        | zero => have := HM.out; omega
        | succ gk1 =>
          obtain ⟨z, l', -, -, -, hg5, hL50, hL51, hLp5, hlen5, -⟩ := add_form (f := (i : Int)) (o := t) (left := S - t) HG4'.out HC1.out.1 (by omega)
          have HPUT := Lib.hid (put_any i t (S - t) c sp4 g1 (g1 + 1) w.heap.size (g1 + 2) w.heap.size v4 lz wr HP4.out HG4'.out HC1.out ⟨by omega, by omega⟩ (by have := HLN4.out; split at this <;> omega) (by have := HG5.out; omega))
          have HE5 := Lib.hid (HE4.out.trans (by rw [restP_step hts HG4'.out HC1.out.1]))
          have HG5' := Lib.hid hg5
          have HLP := Lib.hid (hLp5 (by omega))
          have HLN5 : Hid ((addP c lz i t (S - t)).length ≤ 4097 * i + (t + lenP c lz (S - t)).toNat + (if S = 0 then 1 else 0)) := Lib.hid (by have h1 := HLP.out; have := HLN4.out; split at this <;> (rw [show (t + lenP c lz (S - t)).toNat = t.toNat + (lenP c lz (S - t)).toNat by omega]; split <;> omega))
          generalize addP c lz i t (S - t) = lz2 at *
          generalize lenP c lz (S - t) = A2 at *
          clear hg5 hlen5 hLp5
          go_wp2_with fail
          refine HPUT.out.mono ?_
          rintro e X5 ⟨rfl, ⟨v5, sp5, hp5⟩, hb5⟩
          have HP5 := Lib.hid hp5
          have HB5 := Lib.hid (HB4.out.trans hb5)
          clear hp5 hb5 HP4 HB4 HPUT
          go_wp2_with fail
          go_roundg gk1
          case rel => exact ⟨t + A2, v5, sp5, lz2, by go_num, by omega, by omega, Lib.hid (by have := HM.out; have := HLP.out; omega), HE5, HG5', HLN5, HP5, HB5⟩
          case measure => omega
end Go.Proofs.Ytpjegenobadckaa
