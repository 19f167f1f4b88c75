/-
  The program's Fill$1: a piece is put into the last container, or into a new one.
-/
import Derived.Test.YtpjegenobadckaaPkVal
import Derived.Test.YtpjegenobadckaaLbOper
import Derived.Test.YtpjegenobadckaaCoVal
import Derived.Test.YtpjegenobadckaaUntil
import Derived.Deep.DeepCutAuto
namespace Go.Proofs.Ytpjegenobadckaa
open Go.RowKit
set_option linter.unusedVariables false
set_option linter.unusedSimpArgs false
/-- the boxes of containers, space and capacity, and the containers -/
structure PutSt (w : World) (g1 g2 g3 B : Nat) (c : Int) (v : Value) (sp : Int) (ll : List (List Pc)) : Prop where
  b1 : w.heap[g1]? = some (.cells #[v] 25 (0, 0))
  b2 : w.heap[g2]? = some (.cells #[.int .i64 sp] 3 (0, 0))
  b3 : w.heap[g3]? = some (.cells #[.int .i64 c] 3 (0, 0))
  n : Nn 33 36 3 pcC w B v ll
  d : g1 < B ∧ g2 < B ∧ g3 < B ∧ g1 ≠ g2 ∧ g1 ≠ g3 ∧ g2 ≠ g3
  s : ll ≠ [] → sp = c - usedP (lastP ll)
  z : B ≤ w.heap.size
section
variable {w w' : World} {g1 g2 g3 B : Nat} {c sp : Int} {v : Value} {ll : List (List Pc)}
theorem PutSt.c1 (h : PutSt w g1 g2 g3 B c v sp ll) : w.cell? ⟨g1, 0, none⟩ = some v := by rw [cell_of_row w g1 0 _ _ _ h.b1]; rfl
theorem PutSt.c2 (h : PutSt w g1 g2 g3 B c v sp ll) : w.cell? ⟨g2, 0, none⟩ = some (.int .i64 sp) := by rw [cell_of_row w g2 0 _ _ _ h.b2]; rfl
theorem PutSt.c3 (h : PutSt w g1 g2 g3 B c v sp ll) : w.cell? ⟨g3, 0, none⟩ = some (.int .i64 c) := by rw [cell_of_row w g3 0 _ _ _ h.b3]; rfl
theorem PutSt.f1 (h : PutSt w g1 g2 g3 B c v sp ll) : w.frozen? ⟨g1, 0, none⟩ = false := by simp [World.frozen?, h.b1]
theorem PutSt.f2 (h : PutSt w g1 g2 g3 B c v sp ll) : w.frozen? ⟨g2, 0, none⟩ = false := by simp [World.frozen?, h.b2]
theorem PutSt.below (h : PutSt w g1 g2 g3 B c v sp ll) (hb : Below w.heap.size w w') : PutSt w' g1 g2 g3 B c v sp ll := by
  obtain ⟨d1, d2, d3, d4⟩ := h.d
  have hz := h.z
  exact ⟨(hb.block _ (by omega)).trans h.b1, (hb.block _ (by omega)).trans h.b2, (hb.block _ (by omega)).trans h.b3, h.n.below hb, h.d, h.s, Nat.le_trans h.z hb.size⟩
/-- the containers have turned -/
theorem PutSt.turn (h : PutSt w g1 g2 g3 B c v sp ll) (hb : Below B w w') {v' : Value} {ll' : List (List Pc)} (hn : Nn 33 36 3 pcC w' B v' ll') : Nn 33 36 3 pcC (w'.setCell ⟨g1, 0, none⟩ v') B v' ll' ∧
    (w'.setCell ⟨g1, 0, none⟩ v').heap[g1]? = some (.cells #[v'] 25 (0, 0)) ∧ (w'.setCell ⟨g1, 0, none⟩ v').heap[g2]? = some (.cells #[.int .i64 sp] 3 (0, 0)) ∧ (w'.setCell ⟨g1, 0, none⟩ v').heap[g3]? = some (.cells #[.int .i64 c] 3 (0, 0)) ∧ B ≤ (w'.setCell ⟨g1, 0, none⟩ v').heap.size := by
  obtain ⟨d1, d2, d3, d4, d5, d6⟩ := h.d
  refine ⟨hn.other g1 0 _ d1, hd_set w' g1 0 v' _ _ _ ((hb.block _ d1).trans h.b1), ?_, ?_, by simpa using Nat.le_trans h.z hb.size⟩
  · rw [Below.heap_setCell _ _ _ _ (by show g2 ≠ g1; omega)]
    exact (hb.block _ d2).trans h.b2
  · rw [Below.heap_setCell _ _ _ _ (by show g3 ≠ g1; omega)]
    exact (hb.block _ d3).trans h.b3
theorem PutSt.space (b1 : w.heap[g1]? = some (.cells #[v] 25 (0, 0))) (b2 : w.heap[g2]? = some (.cells #[.int .i64 sp] 3 (0, 0))) (b3 : w.heap[g3]? = some (.cells #[.int .i64 c] 3 (0, 0))) (n : Nn 33 36 3 pcC w B v ll)
    (d : g1 < B ∧ g2 < B ∧ g3 < B ∧ g1 ≠ g2 ∧ g1 ≠ g3 ∧ g2 ≠ g3) (z : B ≤ w.heap.size) (sp' : Int) (hs : ll ≠ [] → sp' = c - usedP (lastP ll)) : PutSt (w.setCell ⟨g2, 0, none⟩ (.int .i64 sp')) g1 g2 g3 B c v sp' ll := by
  obtain ⟨d1, d2, d3, d4, d5, d6⟩ := d
  refine ⟨?_, hd_set w g2 0 _ _ _ _ b2, ?_, n.other g2 0 _ d2, ⟨d1, d2, d3, d4, d5, d6⟩, hs, by simpa using z⟩
  · rw [Below.heap_setCell _ _ _ _ (by show g1 ≠ g2; omega)]; exact b1
  · rw [Below.heap_setCell _ _ _ _ (by show g3 ≠ g2; omega)]; exact b3
end
theorem pk_lits (w : World) (t : TypeId) : Lf slC (w.alloc (.cells #[.slice none 0 0] t)) (some ⟨w.heap.size, 0, none⟩) [⟨none, 0, 0⟩] := Lf.lits w _ t rfl _ rfl
theorem pc_lits (w : World) (x : Pc) (t : TypeId) : Lf pcC (w.alloc (.cells #[.int .i64 x.f, .int .i64 x.o, .int .i64 x.n] t)) (some ⟨w.heap.size, 0, none⟩) [x] := Lf.lits w _ t rfl _ rfl
theorem pc_ne : 36 ≠ 33 := by decide
set_option maxRecDepth 100000 in
set_option maxHeartbeats 4000000 in
theorem put_any (f o left c sp : Int) (g1 g2 g3 B B0 : Nat) (v : Value) (ll : List (List Pc)) (w : World) (hs : PutSt w g1 g2 g3 B c v sp ll) (hg : GoodP c ll) (hc : 1 ≤ c ∧ c ≤ 1125899906842624) (hl : 0 ≤ left ∧ left ≤ 4096) (hn : ll.length ≤ 9000000) (hB0 : B0 ≤ g1 ∧ B0 ≤ g2 ∧ B0 ≤ g3) :
    Calls Try.prog 25 #[.int .i64 f, .int .i64 o, .int .i64 left, .pointer (some ⟨g1, 0, none⟩), .pointer (some ⟨g2, 0, none⟩), .pointer (some ⟨g3, 0, none⟩)] w
      fun e w' => e = .returned (.int .i64 (lenP c ll left)) ∧ (∃ v' sp', PutSt w' g1 g2 g3 B c v' sp' (addP c ll f o left)) ∧ Below B0 w w' := by
  obtain ⟨z, l, eO, eL, eA, -, hL0, hL1, -, -, -, hl64, huc, -, -⟩ := add_form (f := f) (o := o) hg hc.1 hl.1
  have HU := Lib.hid (show usedP l ≤ c ∧ 0 ≤ usedP l from ⟨huc, by
    obtain ⟨z', l', e', -, -, -, -, -, -, -, hp⟩ := open_form (left := left) hg hc.1 hl.1
    rw [eO] at e'
    obtain ⟨-, e'⟩ := List.append_inj' e' rfl
    cases e'
    have := usedP_take_le hp l.length
    rw [List.take_length] at this
    exact this.1⟩)
  have HOP := Lib.hid (show openP c ll left = _ by unfold openP; rfl)
  have HL := Lib.hid eL
  have HA := Lib.hid eA
  have HO := Lib.hid eO
  have HS := Lib.hid hs
  have HC := Lib.hid hc
  have HN := Lib.hid hn
  have HD := Lib.hid hs.d
  have HB0 := Lib.hid hB0
  have H64 := Lib.hid hl64
  have HLL := Lib.hid (And.intro hL0 hL1)
  have HLU := Lib.hid (show ll ≠ [] → usedP (lastP ll) ≤ c from fun _ => (hg.last (by omega)).2)
  have HNEW := Lib.hid (show newP c ll left ↔ _ by unfold newP; rfl)
  clear eO eL eA hL0 hL1 hl64 huc hs hn hg hB0
  obtain ⟨hl0, hl1⟩ := hl
  obtain ⟨hc0, hc1⟩ := hc
  have c1 := HS.out.c1
  obtain ⟨ad, cap, rfl, hcap, hmax, hnone⟩ := HS.out.n.read
  obtain ⟨N, hN⟩ : ∃ N, N = ll.length := ⟨_, rfl⟩
  rw [← hN] at c1 HS hcap HN
  have HNL := Lib.hid hN
  clear hN
  have hw0 : wrap64 ((N : Int) - 1) = (N : Int) - 1 := by unfold wrap64; have := HN.out; omega
  go_enter Try.func25, Try.ntmps25
  go_upto_region 2 with fail
  rw [hw0]
  go_cut [10, 32] (fun s10 s32 wx => ∃ b : Bool, s10 = .int .i64 ((N : Int) - 1) ∧ s32 = .bool b ∧ w = wx ∧ Hid (b = true ↔ newP c ll left))
  case first =>
    rcases N with _ | m
    · go_wp2_with fail
      go_meet
      case rel => exact ⟨true, by go_num, rfl, rfl, Lib.hid ⟨fun _ => HNEW.out.2 (.inl (List.eq_nil_of_length_eq_zero HNL.out.symm)), fun _ => rfl⟩⟩
    · have hm : m < ll.length := by have := HNL.out; omega
      obtain ⟨g, cap', ad', ncap', e, hgB, hgl, hfz, hcell, -⟩ := HS.out.n.get m hm
      rw [← HNL.out] at e
      cases e
      have HLA := Lib.hid (show lastP ll = ll[m] from (lastP_get (by omega)).trans (by congr 1; have := HNL.out; omega))
      have HSP := Lib.hid (show sp = c - usedP (lastP ll) from HS.out.s (by rintro rfl; simp at hm))
      have HNE := Lib.hid (show ll ≠ [] by rintro rfl; simp at hm)
      obtain ⟨LM, hLM⟩ : ∃ LM, LM = ll[m] := ⟨_, rfl⟩
      rw [← hLM] at HLA hcell
      clear hLM hm hgB hgl hfz
      obtain ⟨L, hL⟩ : ∃ L, L = LM.length := ⟨_, rfl⟩
      rw [← hL] at hcell
      have HLN := Lib.hid hL.symm
      clear hL
      have hw1 : ((m + 1 : Nat) : Int) - 1 = (m : Int) := by omega
      rw [hw1]
      clear hw1
      have c2 := HS.out.c2
      by_cases h64 : L = 64
      · subst h64
        go_wp2_with fail
        go_meet
        case rel => exact ⟨true, by go_num, rfl, rfl, Lib.hid ⟨fun _ => HNEW.out.2 (.inr (.inl (by rw [HLA.out, HLN.out]))), fun _ => rfl⟩⟩
      have h64' : ((L : Int) == 64) = false := eq_f (by omega)
      have hm0 : ¬ ((m : Int) < 0) := by omega
      by_cases h0 : 0 < left
      · by_cases h1 : sp = 0
        · have h1' := eq_t h1
          have H1 := Lib.hid h1
          clear h1
          go_wp2_with fail
          go_meet
          case rel => exact ⟨true, by go_num, rfl, rfl, Lib.hid ⟨fun _ => HNEW.out.2 (.inr (.inr ⟨h0, by have := HSP.out; have := H1.out; omega⟩)), fun _ => rfl⟩⟩
        · have h1' := eq_f h1
          have H1 := Lib.hid h1
          clear h1
          have HF : Hid (¬ newP c ll left) := Lib.hid (by
            rw [HNEW.out]
            rintro (h | h | h)
            · exact absurd h HNE.out
            · rw [HLA.out, HLN.out] at h; exact absurd h h64
            · have h2 := HLU.out HNE.out; have := HSP.out; have := H1.out; have := h.2; omega)
          go_wp2_with fail
          go_meet
          case rel => exact ⟨false, by go_num, rfl, rfl, Lib.hid ⟨fun h => (by cases h), fun h => (HF.out h).elim⟩⟩
      · have HF : Hid (¬ newP c ll left) := Lib.hid (by
          rw [HNEW.out]
          rintro (h | h | h)
          · exact absurd h HNE.out
          · rw [HLA.out, HLN.out] at h; exact absurd h h64
          · exact absurd h.1 h0)
        go_wp2_with fail
        go_meet
        case rel => exact ⟨false, by go_num, rfl, rfl, Lib.hid ⟨fun h => (by cases h), fun h => (HF.out h).elim⟩⟩
  case rest =>
    obtain ⟨b, rfl, rfl, rfl, HB⟩ := hcut
    go_upto_if 32 with fail
    go_cut [10] (fun s10 wx => ∃ (v' : Value) (sp' : Int), s10 = .int .i64 (z.length : Int) ∧ Hid (PutSt wx g1 g2 g3 B c v' sp' (openP c ll left)) ∧ Hid (Below B0 w wx))
    case first =>
      cases b
      · have HOP2 := Lib.hid (HOP.out.trans (if_neg (fun h => by have := HB.out.2 h; cases this)))
        have HZL : Hid (z.length + 1 = N) := Lib.hid (by
          have h := HOP2.out
          rw [HO.out] at h
          rw [HNL.out, ← h]; simp)
        go_wp2_with fail
        go_meet
        case rel => exact ⟨_, sp, by rw [show ((N : Int) - 1) = (z.length : Int) from by have := HZL.out; omega], Lib.hid (by rw [HOP2.out]; exact HS.out), Lib.hid (Below.refl _ _)⟩
      · have HOP2 := Lib.hid (HOP.out.trans (if_pos (HB.out.1 rfl)))
        have HZL : Hid (z.length = N) := Lib.hid (by
          have h := HOP2.out
          rw [HO.out] at h
          have := (List.append_inj' h rfl).1
          rw [this, ← HNL.out])
        obtain ⟨LL, hLL⟩ : ∃ LL, LL = ll ++ [[]] := ⟨_, rfl⟩
        have HLE := Lib.hid hLL
        clear hLL
        have HNN := Lib.hid (HS.out.n.below (co_box1 w (.cells #[.slice none 0 0] 33)))
        have hsz : B ≤ (w.alloc (.cells #[.slice none 0 0] 33)).heap.size := by rw [World.size_alloc]; have := HS.out.z; omega
        have hlen : ll.length + 1 ≤ 10000000 := by have := HN.out; have := HNL.out; omega
        have HSZ := Lib.hid hsz
        clear hsz
        go_wp2_with (at_builtin; refine wpList_push_n typPP pc_ne rfl (.tmp 33) (.tmp 34) rfl B _ ll rfl HNN.out ⟨w.heap.size, 0, none⟩ (pk_lits w _) rfl hlen HSZ.out ?_; intro v1 w1 hn1 hg1; rw [← HLE.out] at hn1; obtain ⟨ad1, cap1, rfl, -⟩ := hn1.read; have hb1 : Below B w w1 := ((Below.refl B w).alloc HS.out.z _).grown hg1 HSZ.out (fun k hk => (HNN.out.lt k hk).1); have HB1 := Lib.hid hb1; have HN1 := Lib.hid hn1; have e1 : w1.cell? ⟨g1, 0, none⟩ = _ := (hb1.cell (p := ⟨g1, 0, none⟩) HD.out.1).trans HS.out.c1; have e2 : w1.frozen? ⟨g1, 0, none⟩ = false := (World.frozen?_of_block (hb1.block g1 HD.out.1)).trans HS.out.f1; clear hn1 hg1 hb1)
        have HT := Lib.hid (HS.out.turn HB1.out HN1.out)
        have HB2 : Hid (Below B0 w (w1.setCell ⟨g1, 0, none⟩ (.slice ad1 LL.length cap1))) := Lib.hid ((HB1.out.mono (by have := HB0.out; have := HD.out; omega)).setCell (p := ⟨g1, 0, none⟩) HB0.out.1 _)
        clear e1 e2 HNN HB1 HN1
        generalize World.setCell w1 _ _ = W2 at *
        obtain ⟨t1, t2, t3, t4, t5⟩ := HT.out
        have HT1 := Lib.hid t1
        have HT2 := Lib.hid t2
        have HT3 := Lib.hid t3
        have HT4 := Lib.hid t4
        have HT5 := Lib.hid t5
        have e3 : W2.cell? ⟨g3, 0, none⟩ = some (.int .i64 c) := by rw [cell_of_row W2 g3 0 _ _ _ t4]; rfl
        have e4 : W2.cell? ⟨g2, 0, none⟩ = some (.int .i64 sp) := by rw [cell_of_row W2 g2 0 _ _ _ t3]; rfl
        have e5 : W2.frozen? ⟨g2, 0, none⟩ = false := by simp [World.frozen?, t3]
        have HE3 := Lib.hid e3
        clear t1 t2 t3 t4 t5 HT
        have hw2 : IntKind.i64.wrap (N : Int) = (N : Int) := IntWalk.i64_in _ (by have := HN.out; omega)
        refine wp_region_noPanic ?_
        refine wp_region_held_drew (S := (fun X => X.cell? ⟨g3, 0, none⟩ = some (.int .i64 c))) (by kernel_rfl) (HE3.out) (fun hS0 => ?_)
        change W2.drew.cell? ⟨g3, 0, none⟩ = some (.int .i64 c) at hS0
        replace e4 : W2.drew.cell? ⟨g2, 0, none⟩ = some (.int .i64 sp) := e4
        replace e5 : W2.drew.frozen? ⟨g2, 0, none⟩ = false := e5
        clear e3
        refine held_take (i := 0) (v := ?_) rfl (by kernel_rfl) (by kernel_rfl) (by kernel_rfl) (fun _ _ _ h => h) (by rfl) ?_ (by assumption) ?_
        rotate_left
        · intro X hSX
          try dsimp only at hSX
          go_simp <;> with_reducible rfl
        simp only [Act.put, List.setIfInBounds_toArray, List.set_cons_zero, List.set_cons_succ]
        refine held_take (i := 1) (v := ?_) rfl (by kernel_rfl) (by kernel_rfl) (by kernel_rfl) (fun _ _ _ h => h) (by rfl) ?_ (by assumption) ?_
        rotate_left
        · intro X hSX
          try dsimp only at hSX
          go_simp <;> with_reducible rfl
        simp only [Act.put, List.setIfInBounds_toArray, List.set_cons_zero, List.set_cons_succ]
        refine held_take (i := 2) (v := ?_) rfl (by kernel_rfl) (by kernel_rfl) (by kernel_rfl) (fun _ _ _ h => h) (by rfl) ?_ (by assumption) ?_
        rotate_left
        · intro X hSX
          try dsimp only at hSX
          have hcc := hSX
          go_simp <;> with_reducible rfl
        simp only [Act.put, List.setIfInBounds_toArray, List.set_cons_zero, List.set_cons_succ]
        refine held_take (i := 3) (v := ?_) rfl (by kernel_rfl) (by kernel_rfl) (by kernel_rfl) (fun _ _ _ h => h) (by rfl) ?_ (by assumption) ?_
        rotate_left
        · intro X hSX
          try dsimp only at hSX
          go_simp <;> with_reducible rfl
        simp only [Act.put, List.setIfInBounds_toArray, List.set_cons_zero, List.set_cons_succ]
        refine held_call (i := 4) rfl (by kernel_rfl) (by rfl) (fun K' hK' => ?_)
        go_simp
        refine held_go hK' ((World.cell?_of_block (w := W2) (w' := W2.setCell ⟨g2, 0, none⟩ (.int .i64 c)) (a := ⟨g3, 0, none⟩) (Below.heap_setCell _ _ _ _ (by show g3 ≠ g2; have := HD.out; omega))).trans HE3.out) ?_
        try simp only [Act.put, List.setIfInBounds_toArray, List.set_cons_zero, List.set_cons_succ]
        refine wpAnyH_done (by kernel_rfl) ?_ _
        refine NoPanic.normal ?_
        go_wp2_with fail
        go_meet
        case rel =>
          refine ⟨.slice ad1 LL.length cap1, c, by rw [HZL.out], Lib.hid ?_, Lib.hid ?_⟩
          · rw [HOP2.out, ← HLE.out]
            exact PutSt.space (w := W2.drew) HT2.out HT3.out HT4.out (HT1.out.keep fun _ _ _ => rfl) HD.out HT5.out c (fun _ => by rw [HLE.out, lastP_snoc]; simp [usedP])
          · exact (HB2.out.setCell (p := ⟨g2, 0, none⟩) HB0.out.2.1 (.int .i64 c)).drew
    case rest =>
      obtain ⟨v2, sp2, rfl, HP, HBB⟩ := hcut
      rw [HO.out] at HP
      have HS2 := Lib.hid (show sp2 = c - usedP l by have := HP.out.s (by simp); rwa [lastP_snoc] at this)
      have HK := Lib.hid (show lenP c ll left = min left sp2 by rw [HL.out, HS2.out])
      clear HL HOP HS HN HNL HNEW HLU c1 hw0 hcap hmax hnone HB
      have hmn : (if sp2 < left then sp2 else left) = min left sp2 := by omega
      have hmn2 : min left sp2 ≤ left := by omega
      have hmn3 : 0 ≤ min left sp2 := by have := HS2.out; have := HU.out; omega
      have HSB := Lib.hid (show sp2 ≤ c by have := HS2.out; have := HU.out; omega)
      have HSK := Lib.hid (show min left sp2 ≤ sp2 by omega)
      have c2 := HP.out.c2
      obtain ⟨g, cap2, ad2, ncap2, rfl, hgB, hgl, hfz, hcell, hof⟩ := HP.out.n.get z.length (by simp)
      have hzl : (z ++ [l])[z.length]'(by simp) = l := by simp
      rw [hzl] at hcell hof
      have HOF := Lib.hid hof
      have HGB := Lib.hid hgB
      have HGL := Lib.hid hgl
      obtain ⟨M, hM⟩ : ∃ M, M = (z ++ [l]).length := ⟨_, rfl⟩
      rw [← hM] at HP
      have hzM : z.length < M := by rw [hM]; simp
      have HM := Lib.hid hM
      obtain ⟨zn, hzn⟩ : ∃ zn, zn = z.length := ⟨_, rfl⟩
      rw [← hzn] at hcell hfz hzM ⊢
      have HZN := Lib.hid hzn
      obtain ⟨L, hL⟩ : ∃ L, L = l.length := ⟨_, rfl⟩
      rw [← hL] at hcell HOF
      have HLN := Lib.hid hL
      clear hof hgB hgl hM hzn hL hzl
      have c1 := HP.out.c1
      generalize hKK : min left sp2 = K at *
      clear hKK
      have HCE := Lib.hid hcell
      have HFZ := Lib.hid hfz
      clear hfz
      go_upto_region 6 with fail
      have HS0 : Hid (wc.cell? ⟨g1, 0, none⟩ = some (.slice (some ⟨g, 0, none⟩) M cap2) ∧ wc.cell? ⟨g, zn, none⟩ = some (.slice ad2 L ncap2)) := Lib.hid ⟨c1, hcell⟩
      clear c1 c2 hcell
      refine wp_region_noPanic ?_
      refine region_untl (by kernel_rfl) 13 ((fun X => X.cell? ⟨g1, 0, none⟩ = some (.slice (some ⟨g, 0, none⟩) M cap2) ∧ X.cell? ⟨g, zn, none⟩ = some (.slice ad2 L ncap2))) (HS0.out) (fun hS0 => ?_)
      replace HP : Hid (PutSt wc.drew g1 g2 g3 B c (.slice (some ⟨g, 0, none⟩) M cap2) sp2 (z ++ [l])) := Lib.hid ⟨HP.out.b1, HP.out.b2, HP.out.b3, HP.out.n.keep fun _ _ _ => rfl, HP.out.d, HP.out.s, HP.out.z⟩
      replace HBB := Lib.hid HBB.out.drew
      replace HOF : Hid (Of _ _ pcC wc.drew B (.slice ad2 L ncap2) l) := Lib.hid (HOF.out.keep fun _ _ _ => rfl)
      replace HGL : Hid (g < wc.drew.heap.size) := HGL
      replace HFZ : Hid (wc.drew.frozen? ⟨g, zn, none⟩ = false) := HFZ
      replace HCE : Hid (wc.drew.cell? ⟨g, zn, none⟩ = some (.slice ad2 L ncap2)) := HCE
      generalize World.drew wc = X0 at *
      refine untl_take (i := 0) 0 (v := ?_) rfl (by kernel_rfl) (by kernel_rfl) (by kernel_rfl) (by kernel_rfl) (by kernel_rfl) (by rfl) (by rfl) (by rfl) (fun _ _ _ h => h) (by rfl) ?_ (by assumption) ?_
      rotate_left
      · intro X hSX
        try dsimp only at hSX
        obtain ⟨p0, p1⟩ := hSX
        go_simp <;> with_reducible rfl
      simp only [Act.put, List.setIfInBounds_toArray, List.set_cons_zero, List.set_cons_succ]
      refine untl_take (i := 2) 2 (v := ?_) rfl (by kernel_rfl) (by kernel_rfl) (by kernel_rfl) (by kernel_rfl) (by kernel_rfl) (by rfl) (by rfl) (by rfl) (fun _ _ _ h => h) (by rfl) ?_ (by assumption) ?_
      rotate_left
      · intro X hSX
        try dsimp only at hSX
        obtain ⟨p0, p1⟩ := hSX
        go_simp <;> with_reducible rfl
      simp only [Act.put, List.setIfInBounds_toArray, List.set_cons_zero, List.set_cons_succ]
      refine untl_take (i := 1) 1 (v := ?_) rfl (by kernel_rfl) (by kernel_rfl) (by kernel_rfl) (by kernel_rfl) (by kernel_rfl) (by rfl) (by rfl) (by rfl) (fun _ _ _ h => h) (by rfl) ?_ (by assumption) ?_
      rotate_left
      · intro X hSX
        try dsimp only at hSX
        go_simp <;> with_reducible rfl
      simp only [Act.put, List.setIfInBounds_toArray, List.set_cons_zero, List.set_cons_succ]
      refine untl_take (i := 3) 3 (v := ?_) rfl (by kernel_rfl) (by kernel_rfl) (by kernel_rfl) (by kernel_rfl) (by kernel_rfl) (by rfl) (by rfl) (by rfl) (fun _ _ _ h => h) (by rfl) ?_ (by assumption) ?_
      rotate_left
      · intro X hSX
        try dsimp only at hSX
        go_simp <;> with_reducible rfl
      simp only [Act.put, List.setIfInBounds_toArray, List.set_cons_zero, List.set_cons_succ]
      refine untl_take (i := 6) 6 (v := ?_) rfl (by kernel_rfl) (by kernel_rfl) (by kernel_rfl) (by kernel_rfl) (by kernel_rfl) (by rfl) (by rfl) (by rfl) (fun _ _ _ h => h) (by rfl) ?_ (by assumption) ?_
      rotate_left
      · intro X hSX
        try dsimp only at hSX
        go_simp <;> with_reducible rfl
      simp only [Act.put, List.setIfInBounds_toArray, List.set_cons_zero, List.set_cons_succ]
      refine untl_take (i := 7) 7 (v := ?_) rfl (by kernel_rfl) (by kernel_rfl) (by kernel_rfl) (by kernel_rfl) (by kernel_rfl) (by rfl) (by rfl) (by rfl) (fun _ _ _ h => h) (by rfl) ?_ (by assumption) ?_
      rotate_left
      · intro X hSX
        try dsimp only at hSX
        go_simp <;> with_reducible rfl
      simp only [Act.put, List.setIfInBounds_toArray, List.set_cons_zero, List.set_cons_succ]
      refine untl_take (i := 8) 8 (v := ?_) rfl (by kernel_rfl) (by kernel_rfl) (by kernel_rfl) (by kernel_rfl) (by kernel_rfl) (by rfl) (by rfl) (by rfl) (fun _ _ _ h => h) (by rfl) ?_ (by assumption) ?_
      rotate_left
      · intro X hSX
        try dsimp only at hSX
        go_simp <;> with_reducible rfl
      simp only [Act.put, List.setIfInBounds_toArray, List.set_cons_zero, List.set_cons_succ]
      refine untl_take (i := 4) 4 (v := ?_) rfl (by kernel_rfl) (by kernel_rfl) (by kernel_rfl) (by kernel_rfl) (by kernel_rfl) (by rfl) (by rfl) (by rfl) (fun _ _ _ h => h) (by rfl) ?_ (by assumption) ?_
      rotate_left
      · intro X hSX
        try dsimp only at hSX
        go_simp <;> with_reducible rfl
      simp only [Act.put, List.setIfInBounds_toArray, List.set_cons_zero, List.set_cons_succ]
      refine untl_take (i := 9) 9 (v := ?_) rfl (by kernel_rfl) (by kernel_rfl) (by kernel_rfl) (by kernel_rfl) (by kernel_rfl) (by rfl) (by rfl) (by rfl) (fun _ _ _ h => h) (by rfl) ?_ (by assumption) ?_
      rotate_left
      · intro X hSX
        try dsimp only at hSX
        go_simp <;> with_reducible rfl
      simp only [Act.put, List.setIfInBounds_toArray, List.set_cons_zero, List.set_cons_succ]
      refine untl_take (i := 5) 5 (v := ?_) rfl (by kernel_rfl) (by kernel_rfl) (by kernel_rfl) (by kernel_rfl) (by kernel_rfl) (by rfl) (by rfl) (by rfl) (fun _ _ _ h => h) (by rfl) ?_ (by assumption) ?_
      rotate_left
      · intro X hSX
        try dsimp only at hSX
        obtain ⟨p0, p1⟩ := hSX
        go_simp <;> with_reducible rfl
      simp only [Act.put, List.setIfInBounds_toArray, List.set_cons_zero, List.set_cons_succ]
      refine untl_call (i := 10) rfl (by kernel_rfl) (by rfl) (fun K' hK' => ?_)
      go_simp
      have HP1 := Lib.hid (HP.out.below (co_box1 X0 (.cells #[.int .i64 f, .int .i64 o, .int .i64 K] 36)))
      have HO1 := Lib.hid (HOF.out.below (co_box1 X0 (.cells #[.int .i64 f, .int .i64 o, .int .i64 K] 36)))
      have HB1 := Lib.hid (HBB.out.alloc (by have := HP.out.z; have := HB0.out; have := HD.out; omega) (.cells #[.int .i64 f, .int .i64 o, .int .i64 K] 36))
      have HLI := Lib.hid (pc_lits X0 ⟨f, o, K⟩ 36)
      have HGL1 := Lib.hid (show g < (X0.alloc (.cells #[.int .i64 f, .int .i64 o, .int .i64 K] 36)).heap.size by rw [World.size_alloc]; have := HGL.out; omega)
      have HCE1 := Lib.hid (show (X0.alloc (.cells #[.int .i64 f, .int .i64 o, .int .i64 K] 36)).cell? ⟨g, zn, none⟩ = some (.slice ad2 L ncap2) from ((co_box1 X0 _).cell (p := ⟨g, zn, none⟩) HGL.out).trans HCE.out)
      have HFZ1 := Lib.hid (show (X0.alloc (.cells #[.int .i64 f, .int .i64 o, .int .i64 K] 36)).frozen? ⟨g, zn, none⟩ = false from (World.frozen?_of_block (a := ⟨g, zn, none⟩) ((co_box1 X0 _).block g HGL.out)).trans HFZ.out)
      have hS1 := HP1.out.c1
      have hS2 := HCE1.out
      clear HP HOF HBB HGL HCE HFZ
      refine untl_go hK' (fun _ => ⟨hS1, hS2⟩) ?_
      try simp only [Act.put, List.setIfInBounds_toArray, List.set_cons_zero, List.set_cons_succ]
      obtain ⟨l2, hl2⟩ : ∃ l2, l2 = l ++ [(⟨f, o, K⟩ : Pc)] := ⟨_, rfl⟩
      have HL2 := Lib.hid hl2
      clear hl2 hS1 hS2
      have hlen : l.length + 1 ≤ 10000000 := by have := H64.out; omega
      have HZ1 := HP1.out.z
      refine untl_call (i := 11) rfl (by kernel_rfl) (by rfl) (fun K' hK' => ?_)
      refine oper_of_list (ops := #[]) (by unfold Region.wanted; rfl) (wpList_append_g typP celP rfl (.tmp 47) (.tmp 52) rfl B (.slice ad2 L ncap2) l rfl HO1.out ⟨X0.heap.size, 0, none⟩ 1 1 [⟨f, o, K⟩] HLI.out rfl rfl hlen HZ1 (fun v3 w3 ho3 hg3 hw3 => onlyN_end ?_))
      rw [← HL2.out] at ho3
      obtain ⟨ad3, cap3, rfl, -⟩ := ho3.read
      have hgr : Below B (X0.alloc (.cells #[.int .i64 f, .int .i64 o, .int .i64 K] 36)) w3 := (Below.refl B _).grown hg3 HZ1 (fun k hk => (HO1.out.lt k hk).1)
      have hne : some g ≠ (Value.slice ad2 L ncap2).ownBlock := by
        obtain ⟨ss, h1, -⟩ := HP1.out.n
        rcases HO1.out.apart h1 pc_ne with h | h
        · rw [h]; simp
        · exact fun e => h e.symm
      have hblk := hg3.block g HGL1.out hne
      have hd := HP1.out.d
      have t1 := (hgr.block _ hd.1).trans HP1.out.b1
      have t2 := (hgr.block _ hd.2.1).trans HP1.out.b2
      have t3 := (hgr.block _ hd.2.2.1).trans HP1.out.b3
      have hcc : w3.cell? ⟨g, zn, none⟩ = some (.slice ad2 L ncap2) := (World.cell?_of_block (a := ⟨g, zn, none⟩) hblk).trans HCE1.out
      have hff : w3.frozen? ⟨g, zn, none⟩ = false := (World.frozen?_of_block (a := ⟨g, zn, none⟩) hblk).trans HFZ1.out
      have hc1 : w3.cell? ⟨g1, 0, none⟩ = some (.slice (some ⟨g, 0, none⟩) M cap2) := (World.cell?_of_block (a := ⟨g1, 0, none⟩) (hgr.block _ hd.1)).trans HP1.out.c1
      have HN3 : Hid (Nn 33 36 3 pcC (w3.setCell ⟨g, zn, none⟩ (.slice ad3 l2.length cap3)) B (.slice (some ⟨g, 0, none⟩) M cap2) (z ++ [l2])) := Lib.hid (by
        have h := HP1.out.n.put pc_ne (g := g) (i := zn) (cap := cap2) (by rw [HM.out]) (by rw [← HM.out]; exact hzM) HCE1.out ho3 hg3 hw3
        rwa [show (z ++ [l]).set zn l2 = z ++ [l2] by rw [HZN.out, List.set_append_right _ _ (Nat.le_refl _)]; simp] at h)
      have HB3 : Hid (Below B0 w (w3.setCell ⟨g, zn, none⟩ (.slice ad3 l2.length cap3))) := Lib.hid ((HB1.out.trans (hgr.mono (by have := HB0.out; omega))).setCell (p := ⟨g, zn, none⟩) (by show B0 ≤ g; have := HB0.out; have := HGB.out; omega) _)
      have HT1 : Hid ((w3.setCell ⟨g, zn, none⟩ (.slice ad3 l2.length cap3)).heap[g1]? = _) := Lib.hid ((Below.heap_setCell _ _ _ _ (by show g1 ≠ g; have := HGB.out; omega)).trans t1)
      have HT2 : Hid ((w3.setCell ⟨g, zn, none⟩ (.slice ad3 l2.length cap3)).heap[g2]? = _) := Lib.hid ((Below.heap_setCell _ _ _ _ (by show g2 ≠ g; have := HGB.out; omega)).trans t2)
      have HT3 : Hid ((w3.setCell ⟨g, zn, none⟩ (.slice ad3 l2.length cap3)).heap[g3]? = _) := Lib.hid ((Below.heap_setCell _ _ _ _ (by show g3 ≠ g; have := HGB.out; omega)).trans t3)
      have HT4 : Hid (B ≤ (w3.setCell ⟨g, zn, none⟩ (.slice ad3 l2.length cap3)).heap.size) := Lib.hid (by have := hgr.size; simp only [World.size_setCell]; omega)
      clear hgr hne hblk t1 t2 t3 HP1 HO1 HB1 HLI HGL1 HCE1 HFZ1 ho3 hg3 hw3
      refine untl_go hK' (fun _ => ⟨hc1, hcc⟩) ?_
      try simp only [Act.put, List.setIfInBounds_toArray, List.set_cons_zero, List.set_cons_succ]
      have hS3 := And.intro hc1 hcc
      refine untl_take (i := 12) 12 (v := ?_) rfl (by kernel_rfl) (by kernel_rfl) (by kernel_rfl) (by kernel_rfl) (by kernel_rfl) (by rfl) (by rfl) (by rfl) (fun _ _ _ h => h) (by rfl) ?_ (by assumption) ?_
      rotate_left
      · intro X hSX
        try dsimp only at hSX
        go_simp <;> with_reducible rfl
      simp only [Act.put, List.setIfInBounds_toArray, List.set_cons_zero, List.set_cons_succ]
      refine untl_call (i := 13) rfl (by kernel_rfl) (by rfl) (fun K' hK' => ?_)
      go_simp
      clear hc1 hcc hff
      refine untl_go hK' (fun h => by cases h) ?_
      try simp only [Act.put, List.setIfInBounds_toArray, List.set_cons_zero, List.set_cons_succ]
      refine untl_past _ _ _ _ (by rfl) ?_
      have hS0 : True := trivial
      refine wpAnyH_done (by kernel_rfl) ?_ _
      refine NoPanic.normal ?_
      generalize World.setCell w3 _ _ = X2 at *
      have e4 : X2.cell? ⟨g2, 0, none⟩ = some (.int .i64 sp2) := by rw [cell_of_row X2 g2 0 _ _ _ HT2.out]; rfl
      have e5 : X2.frozen? ⟨g2, 0, none⟩ = false := by simp [World.frozen?, HT2.out]
      have hww : IntKind.i64.wrap (sp2 - K) = sp2 - K := IntWalk.i64_in _ (by have := HSB.out; have := HSK.out; have := HC.out; omega)
      go_wp2_with fail
      go_ret
      refine ⟨by rw [HK.out]; rfl, ⟨.slice (some ⟨g, 0, none⟩) M cap2, sp2 - K, ?_⟩, HB3.out.setCell (p := ⟨g2, 0, none⟩) HB0.out.2.1 _⟩
      rw [HA.out, HK.out, ← HL2.out]
      exact PutSt.space HT1.out HT2.out HT3.out HN3.out HD.out HT4.out _ (fun _ => by rw [lastP_snoc, HL2.out, usedP_snoc, HS2.out]; show _ = c - (usedP l + K); omega)
end Go.Proofs.Ytpjegenobadckaa
