/-
  The specification's Fill.
-/
import Derived.Test.YtpjegenobadckaaPkRUsed
import Derived.Test.YtpjegenobadckaaPkFill
import Derived.BigQuiet
namespace Go.Proofs.Ytpjegenobadckaa
open Go.RowKit
set_option linter.unusedVariables false
set_option linter.unusedSimpArgs false
/-- what is left to do of a file at t: its first piece, or the rest -/
noncomputable def restQ (c S i : Int) (ll : List (List Pc)) (t : Int) : List (List Pc) := if t = 0 then fileP c ll i S else restP c S i ll t
theorem restQ_step {c S i t : Int} {ll : List (List Pc)} (hg : GoodP c ll) (hc : 1 ≤ c) (hS : 0 < S) (ht : 0 ≤ t) (hts : t < S) : restQ c S i ll t = restQ c S i (addP c ll i t (S - t)) (t + lenP c ll (S - t)) := by
  obtain ⟨z, l, -, -, -, -, hl0, -, hp, -⟩ := add_form (f := i) (o := t) (left := S - t) hg hc (by omega)
  have hp := hp (by omega)
  unfold restQ
  rw [if_neg (by omega : ¬ t + lenP c ll (S - t) = 0)]
  by_cases h0 : t = 0
  · subst h0
    rw [if_pos rfl]
    unfold fileP
    rw [Int.sub_zero, Int.zero_add]
  · rw [if_neg h0, restP_step hts hg hc]
theorem restQ_zero {c i : Int} {ll : List (List Pc)} (hg : GoodP c ll) (hc : 1 ≤ c) : restQ c 0 i ll 0 = addP c ll i 0 (0 - 0) := by
  obtain ⟨z, l, -, -, -, -, hl0, hl1, -, -⟩ := add_form (f := i) (o := 0) (left := 0) hg hc (by omega)
  unfold restQ
  rw [if_pos rfl]
  unfold fileP
  rw [restP_end (by omega), Int.sub_zero]
theorem restQ_end {c S i t : Int} {ll : List (List Pc)} (h : ¬ t < S) (h0 : t ≠ 0) : restQ c S i ll t = ll := by
  unfold restQ
  rw [if_neg h0, restP_end h]
theorem restQ_start {c S i : Int} {ll : List (List Pc)} : restQ c S i ll 0 = fileP c ll i S := by unfold restQ; rw [if_pos rfl]
theorem pq_ne : 46 ≠ 34 := by decide
abbrev NQ (w : World) (B : Nat) (v : Value) (ll : List (List Pc)) : Prop := Nn 34 46 3 pcC w B v ll
theorem rf_ne {α : Type} {cc : α → List Value} {k : Nat} {w : World} {B cap n : Nat} {g : Nat} {ll : List (List α)} {u : Value} {l : List α} {T OT : TypeId} (h : Nn OT T k cc w B (.slice (some ⟨g, 0, none⟩) n cap) ll) (ho : Of T k cc w B u l) (ne : T ≠ OT) : some g ≠ u.ownBlock := by
  obtain ⟨ss, h1, -⟩ := h
  rcases ho.apart h1 ne with h | h
  · rw [h]; simp
  · exact fun e => h e.symm
set_option maxRecDepth 100000 in
set_option maxHeartbeats 4000000 in
theorem rfill_any (ad : Option Addr) (n cap : Nat) (l : List Int) (c : Int) (w : World) (hl : Lf inC w ad l) (hn : n = l.length) (hs : n ≤ 9223372036854775807) :
    Calls Try.prog 12 #[.slice ad n cap, .int .i64 c] w (RetLL 34 46 3 pcC w (fillU l c)) := by
  have HL := Lib.hid hl
  have HN := Lib.hid hn
  have HSS := Lib.hid hs
  have HU := Lib.hid (show fillU l c = _ by unfold fillU; rfl)
  have HV := Lib.hid (@valU_ok l c)
  clear hl hn hs
  go_enter Try.func12, Try.ntmps12
  go_wp2_with fail
  refine (rvalid_p ad n cap l c w HL.out HN.out HSS.out).mono ?_
  rintro e X1 ⟨rfl, rfl⟩
  obtain ⟨V, hV⟩ : ∃ V, V = valU l c := ⟨_, rfl⟩
  rw [← hV] at HU HV ⊢
  clear hV
  by_cases hv : V = 0
  rotate_left
  · have hv2 := ne_t hv
    have HF := Lib.hid (HU.out.trans (if_neg hv))
    go_wp2
    go_ret2
    refine ⟨.slice none 0 0, by rw [HF.out]; rfl, by rw [HF.out]; exact Nn.nil _ _ _ _ _ _, Below.refl _ _⟩
  have hv2 := ne_f hv
  obtain ⟨hl512, hok⟩ := HV.out hv
  replace HU := Lib.hid (HU.out.trans (if_pos hv))
  clear hv HV
  have hn512 : n ≤ 512 := by rw [HN.out]; exact hl512
  have HOK := Lib.hid hok
  clear hok hl512
  go_wp2_with fail
  go_loopg [7, 8] n (fun gk v7 v8 wx => ∃ (i : Nat) (v : Value) (ll : List (List Pc)), v8 = .int .i64 i ∧ v7 = v ∧ i + gk = n ∧ Hid (fillP c l 0 [] = fillP c (l.drop i) i ll) ∧ Hid (GoodP c ll) ∧ Hid (ll.length ≤ 4097 * i) ∧ Hid (NQ wx X1.heap.size v ll) ∧ Hid (Below X1.heap.size X1 wx))
  case atStart => exact ⟨0, _, [], rfl, rfl, by omega, Lib.hid (by simp), Lib.hid (GoodP.nil c), Lib.hid (by simp), Lib.hid (Nn.nil _ _ _ _ _ _), Lib.hid (Below.refl _ _)⟩
  case round =>
    obtain ⟨i, v, ll, rfl, rfl, hi, HE, HG, HLN, HP, HB⟩ := hrel
    cases gk with
    | zero =>
      obtain rfl : i = n := by omega
      have HF := Lib.hid (show fillU l c = (ll, 0) by rw [HU.out, HE.out, List.drop_eq_nil_of_le (by rw [HN.out]; exact Nat.le_refl _), fillP])
      go_wp2_with fail
      go_ret2
      refine ⟨_, by rw [HF.out]; rfl, ?_, HB.out⟩
      rw [HF.out]
      exact HP.out
    | succ gk0 =>
      have hin : i < n := by omega
      have hil : i < l.length := by have := HN.out; omega
      obtain ⟨b, off, rfl, hlt, q⟩ := HL.out.get celI hil
      have q0 : X1.cell? ⟨b, off + i, none⟩ = some (.int .i64 l[i]) := by simpa using q 0 _ (by decide) rfl
      have HE2 := Lib.hid (HE.out.trans ((fill_step hil ll).trans (by rw [← restQ_start])))
      obtain ⟨hs0, hs1⟩ := HOK.out.2 _ (List.getElem_mem hil)
      have HC1 := Lib.hid HOK.out.1
      generalize l[i] = S at *
      have HLT := Lib.hid hlt
      have HQ0 := Lib.hid q0
      clear hil q hlt q0 HE
      go_wp2_with fail
      go_loopg [7, 9] (S + 1).toNat (fun g2 v7 v9 wx => ∃ (t : Int) (v : Value) (lz : List (List Pc)), v9 = .int .i64 t ∧ v7 = v ∧ 0 ≤ t ∧ t ≤ S ∧ Hid (S + 1 - t ≤ g2) ∧ Hid (fillP c l 0 [] = fillP c (l.drop (i + 1)) ((i + 1 : Nat) : Int) (restQ c S i lz t)) ∧ Hid (t = 0 → lz.length ≤ 4097 * i) ∧ Hid (GoodP c lz) ∧ Hid (lz.length ≤ 4097 * i + t.toNat) ∧ Hid (NQ wx X1.heap.size v lz) ∧ Hid (Below X1.heap.size X1 wx))
      case atStart => exact ⟨0, _, ll, rfl, rfl, by omega, hs0, Lib.hid (by omega), HE2, Lib.hid (fun _ => HLN.out), HG, Lib.hid (by have := HLN.out; omega), HP, HB⟩
      case round =>
        obtain ⟨t, v, lz, rfl, rfl, ht0, ht1, HM, HE4, -, HG4, HLN4, HP4, HB4⟩ := hrel
        clear HP HB HE2 HLN HG
        have q0 := (HB4.out.cell (p := ⟨b, off + i, none⟩) HLT.out).trans HQ0.out
        by_cases hend : ¬ (t < S) ∧ t ≠ 0
        · obtain ⟨h1, h2⟩ := hend
          have h3 := eq_f h2
          have HE5 := Lib.hid (show fillP c l 0 [] = fillP c (l.drop (i + 1)) ((i + 1 : Nat) : Int) lz by rw [HE4.out, restQ_end h1 h2])
          clear h2
          go_wp2_with fail
          go_roundg gk0
          case rel => exact ⟨i + 1, _, lz, by go_num, rfl, by omega, HE5, HG4, Lib.hid (by have := HLN4.out; omega), HP4, HB4⟩
          case measure => omega
        cases gk with
        | zero => have := HM.out; omega
        | succ gk1 =>
          have hlow : t < S ∨ (t = 0 ∧ S = 0) := by omega
          clear hend
          obtain ⟨z, l', eO, eL, eA, hg5, hL50, hL51, hLp5, hlen5, -, hl64, huc, -, -⟩ := add_form (f := (i : Int)) (o := t) (left := S - t) HG4.out HC1.out.1 (by omega)
          have HO := Lib.hid eO
          have HLE := Lib.hid eL
          have HAE := Lib.hid eA
          have HG5 := Lib.hid hg5
          have HLEN := Lib.hid hlen5
          have HLB := Lib.hid (And.intro hL50 hL51)
          have HLP := Lib.hid hLp5
          have H64 := Lib.hid hl64
          have HPOS := Lib.hid (show (∀ p ∈ l', 0 ≤ p.n) ∧ 0 ≤ usedP l' ∧ usedP l' ≤ c from by
            obtain ⟨z', l2, e', -, -, -, -, -, -, -, hp⟩ := open_form (left := S - t) HG4.out HC1.out.1 (by omega)
            rw [eO] at e'
            obtain ⟨-, e'⟩ := List.append_inj' e' rfl
            cases e'
            have := usedP_take_le hp l'.length
            rw [List.take_length] at this
            exact ⟨hp, this.1, huc⟩)
          have HOP := Lib.hid (show openP c lz (S - t) = _ by unfold openP; rfl)
          have HNEW := Lib.hid (show newP c lz (S - t) ↔ _ by unfold newP; rfl)
          clear eO eL eA hg5 hL50 hL51 hLp5 hlen5 hl64 huc
          go_upto_region 9 with fail
          go_cut [33] (fun s33 wx => s33 = .bool true ∧ wr = wx)
          case first =>
            rcases hlow with h1 | ⟨rfl, rfl⟩
            · go_wp2_with fail
              go_meet
              case rel => exact ⟨rfl, rfl⟩
            · go_wp2_with fail
              go_meet
              case rel => exact ⟨rfl, rfl⟩
          case rest =>
          obtain ⟨rfl, rfl⟩ := hcut
          obtain ⟨ad7, cap7, rfl, hcap7, hmax7, hn7⟩ := HP4.out.read
          obtain ⟨N, hN⟩ : ∃ N, N = lz.length := ⟨_, rfl⟩
          rw [← hN] at HP4 HLN4 hcap7 ⊢
          have HNL := Lib.hid hN
          clear hN
          have hw0 : wrap64 ((N : Int) - 1) = (N : Int) - 1 := by unfold wrap64; have := HLN4.out; omega
          go_upto_region 11 with fail
          rw [hw0]
          go_cut [10, 62] (fun s10 s62 wx => ∃ b : Bool, s10 = .int .i64 ((N : Int) - 1) ∧ s62 = .bool b ∧ wr = wx ∧ Hid (b = true ↔ newP c lz (S - t)))
          case first =>
            rcases N with _ | m
            · go_wp2_with fail
              go_meet
              case rel => exact ⟨true, by go_num, rfl, rfl, Lib.hid ⟨fun _ => HNEW.out.2 (.inl (List.eq_nil_of_length_eq_zero HNL.out.symm)), fun _ => rfl⟩⟩
            · have hm : m < lz.length := by have := HNL.out; omega
              obtain ⟨g, cap', ad', ncap', e, hgB, hgl, hfz, hcell, hof⟩ := HP4.out.get m hm
              rw [← HNL.out] at e
              cases e
              have HLA := Lib.hid (show lastP lz = lz[m] from (lastP_get (by omega)).trans (by congr 1; have := HNL.out; omega))
              have HNE := Lib.hid (show lz ≠ [] by rintro rfl; simp at hm)
              obtain ⟨LM, hLM⟩ : ∃ LM, LM = lz[m] := ⟨_, rfl⟩
              have HMEM := Lib.hid (show LM ∈ lz by rw [hLM]; exact List.getElem_mem _)
              rw [← hLM] at HLA hcell hof
              obtain ⟨a3, c3, e3, hof, -⟩ := hof.read
              cases e3
              have hml := HG4.out.len LM HMEM.out
              have HCU := Lib.hid (fun X (hX : Below wr.heap.size wr X) => rused_any ad' LM.length ncap' LM X (hof.below hX) rfl (by omega) (HG4.out.pos LM HMEM.out) (by have := HG4.out.use LM HMEM.out; have := HC1.out.2; omega))
              clear hLM hm hgB hgl hfz hof
              obtain ⟨L, hL⟩ : ∃ L, L = LM.length := ⟨_, rfl⟩
              rw [← hL] at hcell HCU hml
              have HLN := Lib.hid hL.symm
              clear hL
              have hw1 : ((m + 1 : Nat) : Int) - 1 = (m : Int) := by omega
              rw [hw1]
              clear hw1
              have hm0 : ¬ ((m : Int) < 0) := by omega
              by_cases h64 : L = 64
              · subst h64
                go_wp2_with fail
                go_meet
                case rel => exact ⟨true, by go_num, rfl, rfl, Lib.hid ⟨fun _ => HNEW.out.2 (.inr (.inl (by rw [HLA.out, HLN.out]))), fun _ => rfl⟩⟩
              have hL63 : ¬ (64 : Int) ≤ (L : Int) := by omega
              by_cases h0 : 0 < S
              · have hSt : 0 < S - t := by omega
                have HSt := Lib.hid hSt
                clear hSt
                have HUU := Lib.hid (show usedP LM = usedP LM from rfl)
                obtain ⟨U, hU⟩ : ∃ U, U = usedP LM := ⟨_, rfl⟩
                rw [← hU] at HCU
                have HUE := Lib.hid hU
                clear hU HUU
                by_cases h1 : c ≤ U
                · go_wp2_with (go_at_call 27; refine (HCU.out _ (Below.refl _ _)).mono ?_; rintro e w' ⟨rfl, rfl⟩)
                  go_meet
                  case rel => exact ⟨true, by go_num, rfl, rfl, Lib.hid ⟨fun _ => HNEW.out.2 (.inr (.inr ⟨HSt.out, by rw [HLA.out, ← HUE.out]; exact h1⟩)), fun _ => rfl⟩⟩
                · have HF : Hid (¬ newP c lz (S - t)) := Lib.hid (by
                    rw [HNEW.out]
                    rintro (h | h | h)
                    · exact absurd h HNE.out
                    · rw [HLA.out, HLN.out] at h; exact absurd h h64
                    · rw [HLA.out, ← HUE.out] at h; exact absurd h.2 h1)
                  have hdc : decide (c ≤ U) = false := decide_eq_false h1
                  have HDC := Lib.hid hdc
                  go_wp2_with (go_at_call 27; refine (HCU.out _ (Below.refl _ _)).mono ?_; rintro e w' ⟨rfl, rfl⟩)
                  go_meet
                  case rel => exact ⟨false, by go_num, rfl, rfl, Lib.hid ⟨fun h => (by cases h), fun h => (HF.out h).elim⟩⟩
              · have HF : Hid (¬ newP c lz (S - t)) := Lib.hid (by
                  rw [HNEW.out]
                  rintro (h | h | h)
                  · exact absurd h HNE.out
                  · rw [HLA.out, HLN.out] at h; exact absurd h h64
                  · have := h.1; omega)
                go_wp2_with fail
                go_meet
                case rel => exact ⟨false, by go_num, rfl, rfl, Lib.hid ⟨fun h => (by cases h), fun h => (HF.out h).elim⟩⟩
          case rest =>
            obtain ⟨b2, rfl, rfl, rfl, HBB⟩ := hcut
            go_upto_if 62 with fail
            go_cut [7, 10] (fun s7 s10 wx => ∃ v, s7 = v ∧ s10 = .int .i64 (z.length : Int) ∧ Hid (NQ wx X1.heap.size v (openP c lz (S - t))) ∧ Hid (Below X1.heap.size X1 wx))
            case first =>
              cases b2
              · have HOP2 := Lib.hid (HOP.out.trans (if_neg (fun h => by have := HBB.out.2 h; cases this)))
                have HZL : Hid (z.length + 1 = N) := Lib.hid (by
                  have h := HOP2.out
                  rw [HO.out] at h
                  rw [HNL.out, ← h]; simp)
                go_wp2_with fail
                go_meet
                case rel => exact ⟨_, rfl, by rw [show ((N : Int) - 1) = (z.length : Int) from by have := HZL.out; omega], Lib.hid (by rw [HOP2.out]; exact HP4.out), HB4⟩
              · have HOP2 := Lib.hid (HOP.out.trans (if_pos (HBB.out.1 rfl)))
                have HZL : Hid (z.length = N) := Lib.hid (by
                  have h := HOP2.out
                  rw [HO.out] at h
                  have := (List.append_inj' h rfl).1
                  rw [this, ← HNL.out])
                obtain ⟨LL, hLL⟩ : ∃ LL, LL = lz ++ [[]] := ⟨_, rfl⟩
                have HLLE := Lib.hid hLL
                clear hLL
                have HNN := Lib.hid (HP4.out.below (co_box1 wr (.cells #[.slice none 0 0] 34)))
                have HSZ := Lib.hid (show X1.heap.size ≤ (wr.alloc (.cells #[.slice none 0 0] 34)).heap.size by rw [World.size_alloc]; have := HB4.out.size; omega)
                have hlen : lz.length + 1 ≤ 10000000 := by have := HLN4.out; have := HNL.out; omega
                have hw2 : IntKind.i64.wrap (N : Int) = (N : Int) := IntWalk.i64_in _ (by have := HLN4.out; omega)
                go_wp2_with (at_builtin; refine wpList_push_n typQQ pq_ne rfl (.tmp 63) (.tmp 64) rfl X1.heap.size _ lz rfl HNN.out ⟨wr.heap.size, 0, none⟩ (pk_lits wr _) rfl hlen HSZ.out ?_; intro v1 w1 hn1 hg1; rw [← HLLE.out] at hn1; obtain ⟨ad1, cap1, rfl, -⟩ := hn1.read; have HB1 := Lib.hid ((HB4.out.alloc HB4.out.size (.cells #[.slice none 0 0] 34)).grown hg1 HSZ.out (fun k hk => (HNN.out.lt k hk).1)); have HN1 := Lib.hid hn1; clear hn1 hg1)
                go_meet
                case rel => exact ⟨_, rfl, by rw [HZL.out], Lib.hid (by rw [HOP2.out, ← HLLE.out]; exact HN1.out), HB1⟩
            case rest =>
              obtain ⟨v2, rfl, rfl, HP, HBX⟩ := hcut
              rw [HO.out] at HP
              have HK := Lib.hid (show lenP c lz (S - t) = min (S - t) (c - usedP l') from HLE.out)
              obtain ⟨U, hU⟩ : ∃ U, U = usedP l' := ⟨_, rfl⟩
              rw [← hU] at HK HPOS
              have HUE := Lib.hid hU
              clear hU HLE HOP HNEW HP4 HB4 hw0 hcap7 hmax7 hn7 HBB q0
              have q0 := (HBX.out.cell (p := ⟨b, off + i, none⟩) HLT.out).trans HQ0.out
              obtain ⟨g, cap2, ad2, ncap2, rfl, hgB, hgl, hfz, hcell, hof⟩ := HP.out.get z.length (by simp)
              have hzl : (z ++ [l'])[z.length]'(by simp) = l' := by simp
              rw [hzl] at hcell hof
              have HOF := Lib.hid hof
              have HGB := Lib.hid hgB
              have HGL := Lib.hid hgl
              obtain ⟨a3, c3, e3, hof, -⟩ := hof.read
              cases e3
              have hl64 := H64.out
              have HCU := Lib.hid (fun X (hX : Below wc.heap.size wc X) => rused_any ad2 l'.length ncap2 l' X (hof.below hX) rfl (by omega) HPOS.out.1 (by have := HPOS.out.2.2; rw [HUE.out] at this; have := HC1.out.2; omega))
              rw [← HUE.out] at HCU
              obtain ⟨M, hM⟩ : ∃ M, M = (z ++ [l']).length := ⟨_, rfl⟩
              rw [← hM] at ⊢
              have hzM : z.length < M := by rw [hM]; simp
              have HM2 := Lib.hid hM
              obtain ⟨zn, hzn⟩ : ∃ zn, zn = z.length := ⟨_, rfl⟩
              rw [← hzn] at hcell hfz hzM ⊢
              have HZN := Lib.hid hzn
              obtain ⟨L, hL⟩ : ∃ L, L = l'.length := ⟨_, rfl⟩
              rw [← hL] at hcell HOF HCU
              have HLN := Lib.hid hL
              clear hof hgB hgl hM hzn hL hzl hl64
              obtain ⟨hc0, hc1⟩ := HC1.out
              obtain ⟨-, hu0, hu1⟩ := HPOS.out
              have HHC := Lib.hid (And.intro hu0 hu1)
              clear hu0 hu1
              have hwc : IntKind.i64.wrap (c - U) = c - U := IntWalk.i64_in _ (by have := HHC.out; omega)
              have hws : IntKind.i64.wrap (S - t) = S - t := IntWalk.i64_in _ (by omega)
              have hmn : (if c - U < S - t then c - U else S - t) = min (S - t) (c - U) := by omega
              have hKK := HK.out
              obtain ⟨K, hK⟩ : ∃ K, K = lenP c lz (S - t) := ⟨_, rfl⟩
              rw [← hK] at HK HLB HAE HLP hKK
              rw [← hKK] at hmn
              have HKE := Lib.hid hK
              clear hK hKK
              have HFZ := Lib.hid hfz
              have HCE := Lib.hid hcell
              clear hfz
              go_upto_region 14 with fail
              have HCQ := Lib.hid (fun k => (HCU.out (wc.drewN k) ⟨rfl, rfl, rfl, Nat.le_refl _, fun _ _ => rfl⟩).mono (fun _ _ h => And.intro h.1 h.2.symm))
              go_quiet ((go_at_call 27; exact Calls.quiet_of_same (HCQ.out _)))
              replace HP : Hid (NQ (wc.drewN nq) X1.heap.size (.slice (some ⟨g, 0, none⟩) M cap2) (z ++ [l'])) := Lib.hid (by rw [HM2.out]; exact HP.out.keep fun _ _ _ => rfl)
              replace HBX : Hid (Below X1.heap.size X1 (wc.drewN nq)) := Lib.hid ⟨HBX.out.os, HBX.out.tape, HBX.out.output, HBX.out.size, HBX.out.block⟩
              replace HOF : Hid (Of _ _ pcC (wc.drewN nq) X1.heap.size (.slice ad2 L ncap2) l') := Lib.hid (HOF.out.keep fun _ _ _ => rfl)
              replace HGL : Hid (g < (wc.drewN nq).heap.size) := HGL
              replace HFZ : Hid ((wc.drewN nq).frozen? ⟨g, zn, none⟩ = false) := HFZ
              replace HCE : Hid ((wc.drewN nq).cell? ⟨g, zn, none⟩ = some (.slice ad2 L ncap2)) := HCE
              replace hcell : (wc.drewN nq).cell? ⟨g, zn, none⟩ = some (.slice ad2 L ncap2) := HCE.out
              clear HCU HCQ q0
              generalize World.drewN wc nq = Y at *
              have HP1 := Lib.hid (HP.out.below (co_box1 Y (.cells #[.int .i64 i, .int .i64 t, .int .i64 K] 46)))
              have HO1 := Lib.hid (HOF.out.below (co_box1 Y (.cells #[.int .i64 i, .int .i64 t, .int .i64 K] 46)))
              have HB1 := Lib.hid (HBX.out.alloc HBX.out.size (.cells #[.int .i64 i, .int .i64 t, .int .i64 K] 46))
              have HLI := Lib.hid (pc_lits Y ⟨i, t, K⟩ 46)
              have HGL1 := Lib.hid (show g < (Y.alloc (.cells #[.int .i64 i, .int .i64 t, .int .i64 K] 46)).heap.size by rw [World.size_alloc]; have := HGL.out; omega)
              have HCE1 := Lib.hid (show (Y.alloc (.cells #[.int .i64 i, .int .i64 t, .int .i64 K] 46)).cell? ⟨g, zn, none⟩ = some (.slice ad2 L ncap2) from ((co_box1 Y _).cell (p := ⟨g, zn, none⟩) HGL.out).trans HCE.out)
              have HFZ1 := Lib.hid (show (Y.alloc (.cells #[.int .i64 i, .int .i64 t, .int .i64 K] 46)).frozen? ⟨g, zn, none⟩ = false from (World.frozen?_of_block (a := ⟨g, zn, none⟩) ((co_box1 Y _).block g HGL.out)).trans HFZ.out)
              obtain ⟨l2, hl2⟩ : ∃ l2, l2 = l' ++ [(⟨i, t, K⟩ : Pc)] := ⟨_, rfl⟩
              have HL2 := Lib.hid hl2
              clear hl2 HP HOF HBX HGL HCE HFZ
              have hlen : l'.length + 1 ≤ 10000000 := by have := H64.out; omega
              have HZ1 := HB1.out.size
              go_upto_region 16 with (at_builtin; refine wpList_append_g typQ celP rfl (.tmp 87) (.tmp 92) rfl X1.heap.size (.slice ad2 L ncap2) l' rfl HO1.out ⟨Y.heap.size, 0, none⟩ 1 1 [⟨i, t, K⟩] HLI.out rfl rfl hlen HZ1 ?_; intro v3 w3 ho3 hg3 hw3; rw [← HL2.out] at ho3; obtain ⟨ad3, cap3, rfl, -⟩ := ho3.read; have hne : some g ≠ (Value.slice ad2 L ncap2).ownBlock := rf_ne HP1.out HO1.out pq_ne; have hblk := hg3.block g HGL1.out hne; have hcc : w3.cell? ⟨g, zn, none⟩ = some (.slice ad2 L ncap2) := (World.cell?_of_block (a := ⟨g, zn, none⟩) hblk).trans HCE1.out; have hff : w3.frozen? ⟨g, zn, none⟩ = false := (World.frozen?_of_block (a := ⟨g, zn, none⟩) hblk).trans HFZ1.out; have HHO := Lib.hid ho3; have HHG := Lib.hid hg3; have HHW := Lib.hid hw3; clear ho3 hg3 hw3 hne hblk)
              have HN3 : Hid (NQ (w3.setCell ⟨g, zn, none⟩ (.slice ad3 l2.length cap3)) X1.heap.size (.slice (some ⟨g, 0, none⟩) M cap2) (z ++ [l2])) := Lib.hid (by
                have h := HP1.out.put pq_ne (g := g) (i := zn) (cap := cap2) (by rw [HM2.out]) (by rw [← HM2.out]; exact hzM) HCE1.out HHO.out HHG.out HHW.out
                rwa [show (z ++ [l']).set zn l2 = z ++ [l2] by rw [HZN.out, List.set_append_right _ _ (Nat.le_refl _)]; simp] at h)
              have HB3 : Hid (Below X1.heap.size X1 (w3.setCell ⟨g, zn, none⟩ (.slice ad3 l2.length cap3))) := Lib.hid ((HB1.out.trans ((Below.refl X1.heap.size _).grown HHG.out HZ1 (fun k hk => (HO1.out.lt k hk).1))).setCell (p := ⟨g, zn, none⟩) HGB.out _)
              clear hcc hff HHO HHG HHW HP1 HO1 HB1 HLI HGL1 HCE1 HFZ1 hcell
              generalize World.setCell w3 _ _ = X2 at *
              have q0 := (HB3.out.cell (p := ⟨b, off + i, none⟩) HLT.out).trans HQ0.out
              have HLZ : Hid (addP c lz i t (S - t) = z ++ [l2]) := Lib.hid (by rw [HAE.out, HL2.out])
              have HGZ : Hid (GoodP c (z ++ [l2])) := Lib.hid (HLZ.out ▸ HG5.out)
              have HLN5 : Hid ((z ++ [l2]).length ≤ lz.length + 1) := Lib.hid (HLZ.out ▸ HLEN.out)
              have HHS := Lib.hid hs1
              have hK0 : 0 ≤ K := HLB.out.1
              have hK1 : K ≤ S - t := HLB.out.2
              by_cases hS0 : S = 0
              · subst hS0
                obtain rfl : t = 0 := by omega
                have HE5 := Lib.hid (show fillP c l 0 [] = fillP c (l.drop (i + 1)) ((i + 1 : Nat) : Int) (z ++ [l2]) by rw [HE4.out, restQ_zero HG4.out hc0, HLZ.out])
                have HLZZ := Lib.hid (show (z ++ [l2]).length ≤ 4097 * (i + 1) by have := HLN5.out; have := HLN4.out; have := HNL.out; omega)
                go_wp2_with fail
                go_roundg gk0
                case rel => exact ⟨i + 1, _, z ++ [l2], by go_num, rfl, by omega, HE5, HGZ, HLZZ, HN3, HB3⟩
                case measure => omega
              · have hts : t < S := by omega
                have hS2 := eq_f hS0
                have HKP := Lib.hid (HLP.out (by omega))
                have HE5 := Lib.hid (show fillP c l 0 [] = fillP c (l.drop (i + 1)) ((i + 1 : Nat) : Int) (restQ c S i (z ++ [l2]) (t + K)) by rw [HE4.out, restQ_step HG4.out hc0 (by omega) ht0 hts, HLZ.out, ← HKE.out])
                have HLZZ := Lib.hid (show (z ++ [l2]).length ≤ 4097 * i + (t + K).toNat by have := HLN5.out; have := HLN4.out; have := HNL.out; have := HKP.out; omega)
                clear hS0
                go_wp2_with fail
                go_roundg gk1
                case rel => exact ⟨t + K, _, z ++ [l2], by go_num, rfl, by omega, by omega, Lib.hid (by have := HM.out; have := HKP.out; omega), HE5, Lib.hid (fun h => by have := HKP.out; omega), HGZ, HLZZ, HN3, HB3⟩
                case measure => omega
end Go.Proofs.Ytpjegenobadckaa
