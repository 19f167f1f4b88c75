/-
  The program's fit.
-/
import Derived.Test.YtpjegenobadckaaPkFitS
import Derived.Test.YtpjegenobadckaaPkRFill
import Derived.Deep.CutBlock
namespace Go.Proofs.Ytpjegenobadckaa
open Go.RowKit
set_option linter.unusedVariables false
set_option linter.unusedSimpArgs false
/-- a block of numbers is none of the containers' blocks -/
theorem five_ne {w : World} {B a : Nat} {v : Value} {ll : List (List Nat)} {ss : List Slv} {cs : Array Value} (h : NsI w B v ll ss) (h5 : w.heap[a]? = some (.cells cs 3 (0, 0))) : some a ≠ v.ownBlock := by
  intro e
  obtain ⟨cur, hc⟩ := h.1.typ e.symm
  rw [h5] at hc
  have := (Obj.cells.inj (Option.some.inj hc)).2.1
  exact absurd this (by decide)
/-- what is handed to the search for a size that is too great -/
theorem says_big (g4 : Nat) (c : Int) : SaysI 43 #[.pointer (some ⟨g4, 0, none⟩)] (fun x => decide (c < x)) (fun X => X.cell? ⟨g4, 0, none⟩ = some (.int .i64 c)) :=
  ⟨fun args w => by go_simp, fun w w' h hb => (hb.cell (p := ⟨g4, 0, none⟩) (World.block_lt_of_cell? w _ h)).trans h, fun x w h => by
    change Calls Try.prog 43 #[.int .i64 x, .pointer (some ⟨g4, 0, none⟩)] w _
    go_enter Try.func43, Try.ntmps43
    go_wp2
    go_ret
    exact ⟨rfl, Below.refl _ _⟩⟩
set_option maxRecDepth 100000 in
set_option maxHeartbeats 8000000 in
theorem fit_any (fv : Value) (ord : List Nat) (ad : Option Addr) (n cap : Nat) (l : List Int) (c : Int) (w : World) (hl : Lf inC w ad l) (hn : n = l.length) (hs : n ≤ 9223372036854775807)
    (hsort : OkV l c → l.length ≤ 512 → ∀ (X : World) (B : Nat) (v : Value), Below w.heap.size w X → w.heap.size ≤ B → OfN X B v (List.range l.length) → Calls Try.prog 44 #[v, fv] X fun e w' => e = .returned (.tuple #[]) ∧ OfN w' B v ord ∧ Below B X w')
    (hord : ∀ i ∈ ord, i < l.length) (hordl : ord.length = l.length) :
    Calls Try.prog 28 #[.slice ad n cap, .int .i64 c, fv] w (RetLL 22 3 1 naC w (ffU l c ord)) := by
  have HL0 := Lib.hid hl
  have HL := Lib.hid (hl.below (co_box1 w (.cells #[.int .i64 c] 3)))
  have HN := Lib.hid hn
  have HSS := Lib.hid hs
  have HU := Lib.hid (show ffU l c ord = _ by unfold ffU; rfl)
  have HV := Lib.hid (@valU_ok l c)
  have HSORT := Lib.hid hsort
  have HORD := Lib.hid hord
  have HORL := Lib.hid hordl
  have HB0 := Lib.hid (co_box1 w (.cells #[.int .i64 c] 3))
  have h3 : (w.alloc (.cells #[.int .i64 c] 3)).heap[w.heap.size]? = some (.cells #[.int .i64 c] 3 (0, 0)) := heap_alloc_new w _
  have e3 : (w.alloc (.cells #[.int .i64 c] 3)).cell? ⟨w.heap.size, 0, none⟩ = some (.int .i64 c) := by rw [cell_of_row _ _ 0 _ _ _ h3]; rfl
  have HE3 := Lib.hid e3
  clear hl hn hs h3 hsort hord hordl
  go_enter Try.func28, Try.ntmps28
  go_wp2_with fail
  clear e3
  have HGX : Hid (w.heap.size < (w.alloc (.cells #[.int .i64 c] 3)).heap.size) := Lib.hid (by simp)
  generalize World.alloc w _ = X0 at *
  refine (check_any ad n cap l c X0 HL.out HN.out HSS.out).mono ?_
  rintro e X1 ⟨rfl, hb⟩
  have HL1 := Lib.hid (HL.out.below hb)
  have HB1 := Lib.hid (HB0.out.trans (hb.mono HB0.out.size))
  have HE1 := Lib.hid ((hb.cell (p := ⟨w.heap.size, 0, none⟩) HGX.out).trans HE3.out)
  have HG1 : Hid (w.heap.size < X1.heap.size) := Lib.hid (Nat.lt_of_lt_of_le HGX.out hb.size)
  clear hb HL HB0 HE3 HGX
  obtain ⟨V, hV⟩ : ∃ V, V = valU l c := ⟨_, rfl⟩
  rw [← hV] at HU HV ⊢
  clear hV
  by_cases hv : V = 0
  rotate_left
  · have hv2 := ne_t hv
    have HF := Lib.hid (HU.out.trans (if_neg hv))
    go_wp2
    go_ret2
    refine ⟨.slice none 0 0, by rw [HF.out]; rfl, by rw [HF.out]; exact Nn.nil _ _ _ _ _ _, HB1.out⟩
  have hv2 := ne_f hv
  obtain ⟨hl512, hok⟩ := HV.out hv
  replace HU := Lib.hid (HU.out.trans ((if_pos hv).trans (show fitU l c ord = _ by unfold fitU; rfl)))
  clear hv HV
  have hn512 : n ≤ 512 := by rw [HN.out]; exact hl512
  have HOK := Lib.hid hok
  have HC := Lib.hid hok.1
  have HL512 := Lib.hid hl512
  clear hok hl512
  go_wp2_with fail
  refine (contains_i 43 #[.pointer (some ⟨w.heap.size, 0, none⟩)] _ _ (says_big w.heap.size c) ad n cap l X1 HE1.out HL1.out HN.out HSS.out).mono ?_
  rintro e X2 ⟨rfl, hb⟩
  have HB2 := Lib.hid (HB1.out.trans (hb.mono HB1.out.size))
  have HE2 := Lib.hid ((hb.cell (p := ⟨w.heap.size, 0, none⟩) HG1.out).trans HE1.out)
  have HG2 : Hid (w.heap.size < X2.heap.size) := Lib.hid (Nat.lt_of_lt_of_le HG1.out hb.size)
  have HBIG := Lib.hid (show l.any (fun s => decide (c < s)) = false → ∀ i, szL l i ≤ c from fun h i => by
    rw [List.any_eq_false] at h
    by_cases hi : i < l.length
    · have := h _ (List.getElem_mem hi)
      rw [szL_get hi]
      simpa using this
    · unfold szL
      have := HC.out.1
      simp [hi]
      omega)
  clear hb HB1 HE1 HG1 HL1
  cases hany : l.any fun s => decide (c < s)
  rotate_left
  · rw [hany] at HU
    have HF := Lib.hid (HU.out.trans (if_pos rfl))
    clear hany HBIG
    go_wp2
    go_ret2
    refine ⟨.slice none 0 0, by rw [HF.out]; rfl, by rw [HF.out]; exact Nn.nil _ _ _ _ _ _, HB2.out⟩
  replace HBIG := Lib.hid (HBIG.out hany)
  rw [hany] at HU
  replace HU := Lib.hid (HU.out.trans (if_neg (by simp)))
  clear hany
  go_wp2_with fail
  go_loopg [9, 27] n (fun gk v9 v27 wx => ∃ (i : Nat) (v : Value), v27 = .int .i64 i ∧ v9 = v ∧ i + gk = n ∧ Hid (OfN wx (w.heap.size + 1) v (List.range i)) ∧ Hid (Below (w.heap.size + 1) X2 wx))
  case atStart => exact ⟨0, _, rfl, rfl, by omega, Lib.hid (Of.nil _ _ _ _ _), Lib.hid (Below.refl _ _)⟩
  case round =>
    obtain ⟨i, v, rfl, rfl, hi, HO, HB⟩ := hrel
    cases gk with
    | succ gk0 =>
      have hin : i < n := by omega
      have hlen : (List.range i).length + 1 ≤ 10000000 := by rw [List.length_range]; omega
      have HLI := Lib.hid (Lf.cell (cc := naC) (x := i) (heap_alloc_new wr (.cells #[.int .i64 (i : Int)] 3)) rfl)
      have HO1 := Lib.hid (HO.out.below (co_box1 wr (.cells #[.int .i64 (i : Int)] 3)))
      have HZ1 := Lib.hid (show w.heap.size + 1 ≤ (wr.alloc (.cells #[.int .i64 (i : Int)] 3)).heap.size by rw [World.size_alloc]; have := HB.out.size; have := HG2.out; omega)
      have HB1 := Lib.hid (HB.out.alloc (by have := HB.out.size; have := HG2.out; omega) (.cells #[.int .i64 (i : Int)] 3))
      go_wp2_with (at_builtin; refine wpList_append_f typI celN rfl (.tmp 30) (.tmp 32) rfl (w.heap.size + 1) _ (List.range i) rfl HO1.out (some ⟨wr.heap.size, 0, none⟩) 1 1 [i] (fun h => by cases h) HLI.out rfl rfl hlen HZ1.out ?_; intro v1 w1 ho1 hg1; rw [← List.range_succ] at ho1; have HO2 := Lib.hid ho1; have HB3 := Lib.hid (HB1.out.grown hg1 HZ1.out (fun k hk => (HO1.out.lt k hk).1)); clear ho1 hg1)
      go_roundg gk0
      case rel => exact ⟨i + 1, _, by go_num, rfl, by omega, HO2, HB3⟩
      case measure => omega
    | zero =>
    obtain rfl : n = i := by omega
    clear hi
    have HB4 := Lib.hid (HB2.out.trans (HB.out.mono (Nat.le_succ _)))
    rw [HN.out] at HO
    go_wp2_with fail
    refine (HSORT.out HOK.out HL512.out wr (w.heap.size + 1) _ HB4.out (Nat.le_succ _) HO.out).mono ?_
    rintro e X6 ⟨rfl, ho, hb⟩
    obtain ⟨ad9, cap9, rfl, hl9, -⟩ := ho.read
    have HL9 := Lib.hid hl9
    have HB6 := Lib.hid (HB4.out.trans (hb.mono (Nat.le_succ _)))
    have HE6 := Lib.hid (((HB.out.trans hb).cell (p := ⟨w.heap.size, 0, none⟩) (Nat.lt_succ_self _)).trans HE2.out)
    have HG6 : Hid (w.heap.size < X6.heap.size) := Lib.hid (by have := HB6.out.size; have := HB.out.size; have := hb.size; have := HG2.out; omega)
    obtain ⟨R, hR⟩ : ∃ R, R = ord.length := ⟨_, rfl⟩
    rw [← hR]
    have HR := Lib.hid hR
    have hR512 : R ≤ 512 := by rw [hR, HORL.out]; have := HN.out; omega
    clear hR hl9 ho hb HO HB HB2 HE2 HG2 HB4 HSORT
    obtain ⟨g4, hg4⟩ : ∃ g4, g4 = w.heap.size := ⟨_, rfl⟩
    have HG4W := Lib.hid hg4
    rw [← hg4] at HE6 HG6 ⊢
    clear hg4
    have HC4 := HE6
    have HG4 := HG6
    clear HE6 HG6
    go_wp2_with fail
    go_loopg [11, 12, 40] R (fun gk v11 v12 v40 wx => ∃ (i : Nat) (v vs : Value) (ll : List (List Nat)), v40 = .int .i64 i ∧ v11 = v ∧ v12 = vs ∧ i + gk = R ∧ Hid (fitF l c ord [] = fitF l c (ord.drop i) ll) ∧ Hid (GoodF l c ll) ∧ Hid (ll.length ≤ i) ∧ Hid (FitSt wx X6.heap.size v vs l c ll) ∧ Hid (Below X6.heap.size X6 wx))
    case atStart => exact ⟨0, _, _, [], rfl, rfl, rfl, by omega, Lib.hid (by simp), Lib.hid (GoodF.nil l c), Lib.hid (by simp), Lib.hid (FitSt.nil _ _ _ _), Lib.hid (Below.refl _ _)⟩
    case round =>
      obtain ⟨i, v, vs, ll, rfl, rfl, rfl, hi, HE, HG, HLN, HF, HB⟩ := hrel
      cases gk with
      | zero =>
        obtain rfl : i = R := by omega
        have HFF := Lib.hid (show ffU l c ord = (ll, 0) by rw [HU.out, HE.out, List.drop_eq_nil_of_le (by rw [HR.out]; exact Nat.le_refl _), fitF])
        go_wp2_with fail
        go_ret2
        refine ⟨_, by rw [HFF.out]; rfl, ?_, HB6.out.trans (HB.out.mono HB6.out.size)⟩
        rw [HFF.out]
        exact HF.out.nn.mono HB6.out.size
      | succ gk0 =>
        have hiR : i < R := by omega
        have hil : i < ord.length := by have := HR.out; omega
        obtain ⟨W, rfl⟩ : ∃ W, W = wr := ⟨wr, rfl⟩
        obtain ⟨b9, o9, rfl, hlt9, q⟩ := HL9.out.get celN hil
        have Q9 : Hid (X6.cell? ⟨b9, o9 + i, none⟩ = some (.int .i64 ((ord[i] : Nat) : Int))) := Lib.hid (by simpa using q 0 _ (by decide) rfl)
        have hfl := HORD.out _ (List.getElem_mem hil)
        have HE2 := Lib.hid (HE.out.trans (show fitF l c (ord.drop i) ll = fitF l c (ord.drop (i + 1)) (placeF l c ll ord[i]) by rw [List.drop_eq_getElem_cons hil, fitF]))
        obtain ⟨F, hF⟩ : ∃ F, F = ord[i] := ⟨_, rfl⟩
        rw [← hF] at Q9 hfl HE2
        clear q hF HE
        obtain ⟨b, off, rfl, hlt, q⟩ := HL0.out.get celI hfl
        have QS : Hid (w.cell? ⟨b, off + F, none⟩ = some (.int .i64 (szL l F))) := Lib.hid (by rw [szL_get hfl]; simpa using q 0 _ (by decide) rfl)
        have hFn : F < n := by have := HN.out; omega
        have HB7 := Lib.hid (HB6.out.trans (HB.out.mono HB6.out.size))
        have HLT := Lib.hid hlt
        have HLT9 := Lib.hid hlt9
        obtain ⟨hS0, hS1⟩ := szL_nn HOK.out.2 F
        have hSc := HBIG.out F
        have HPL := Lib.hid (HG.out.place hfl hSc)
        have HSZ := Lib.hid (show szL l F = szL l F from rfl)
        obtain ⟨S, hS⟩ : ∃ S, S = szL l F := ⟨_, rfl⟩
        rw [← hS] at QS hS0 hS1 hSc
        have HSE := Lib.hid hS
        clear q hlt hlt9 hil hfl hS HSZ
        obtain ⟨A, hA⟩ : ∃ A, A = atF l c S ll := ⟨_, rfl⟩
        have hAN : A ≤ ll.length := by rw [hA]; exact atF_le _ _ _ _
        have HYES := Lib.hid (show ∀ h : A < ll.length, sumZ l ll[A] + S ≤ c ∧ (ll[A]).length < 64 by rw [hA]; exact fun h => atF_yes h)
        have HNO := Lib.hid (show ∀ j (h : j < ll.length), j < A → ¬ (sumZ l ll[j] + S ≤ c ∧ (ll[j]).length < 64) by rw [hA]; exact fun j h hj => atF_no hj)
        have HAE : Hid (A = atF l c (szL l F) ll) := Lib.hid (by rw [hA, HSE.out])
        clear hA
        obtain ⟨adv, capv, rfl, hcv, hmv, hnv⟩ := HF.out.nn.read
        obtain ⟨ads, caps, es, -, -⟩ := HF.out.s.read
        rw [spF_length] at es
        subst es
        obtain ⟨N, hN⟩ : ∃ N, N = ll.length := ⟨_, rfl⟩
        have HNL := Lib.hid hN
        rw [← hN] at hcv HF hAN ⊢
        clear hN
        have hN512 : N ≤ 512 := by have := HLN.out; have := HNL.out; omega
        have q9 := (HB.out.cell (p := ⟨b9, o9 + i, none⟩) HLT9.out).trans Q9.out
        go_upto_block 4 with fail
        clear q9
        go_cut [15] (fun s15 wx => ∃ q : Nat, s15 = .int .i64 (A : Int) ∧ wx = W.drewN q)
        case first =>
          go_wp2_with fail
          go_loopg [15] A (fun g2 v15 wx => ∃ (k q : Nat), v15 = .int .i64 k ∧ k + g2 = A ∧ wx = W.drewN q)
          case atStart => exact ⟨0, 0, rfl, by omega, rfl⟩
          case round =>
            obtain ⟨k, q, rfl, hk, rfl⟩ := hrel
            have qs : W.cell? ⟨b, off + F, none⟩ = some (.int .i64 S) := (HB7.out.cell (p := ⟨b, off + F, none⟩) HLT.out).trans QS.out
            by_cases hkN : k < N
            rotate_left
            · have hkA : k = A := by omega
              subst hkA
              have hd : decide ((k : Int) < (N : Int)) = false := decide_eq_false (by omega)
              go_wp2_with fail
              go_quiet (fail)
              go_wp2_with fail
              go_meet
              case rel => exact ⟨q + nq, rfl, by simp [World.drewN, Nat.add_assoc]⟩
            have hkl : k < ll.length := by have := HNL.out; omega
            have hd : decide ((k : Int) < (N : Int)) = true := decide_eq_true (by omega)
            obtain ⟨gs, caps', es, -, -, -, hsp⟩ := HF.out.space hkl
            rw [← HNL.out] at es
            cases es
            obtain ⟨gc, capv', adk, ncapk, ec, -, -, -, hck, -⟩ := HF.out.nn.get k hkl
            rw [← HNL.out] at ec
            cases ec
            have HKN := Lib.hid (show k < A → ¬ (sumZ l ll[k] + S ≤ c ∧ (ll[k]).length < 64) from HNO.out k hkl)
            have HKY := Lib.hid (show k = A → sumZ l ll[k] + S ≤ c ∧ (ll[k]).length < 64 from fun h => by subst h; exact HYES.out hkl)
            have hml := HG.out.len _ (List.getElem_mem hkl)
            generalize (ll[k]).length = L at *
            generalize sumZ l ll[k] = T at *
            clear hkl
            have hL64 : L ≤ 64 := hml.1
            clear hml
            by_cases h1 : c - T < S
            · have hd1 : decide (c - T < S) = true := decide_eq_true h1
              have hkA : k < A := by
                rcases Nat.lt_or_ge k A with h | h
                · exact h
                · have := (HKY.out (by omega)).1; omega
              cases gk with
              | zero => omega
              | succ gk1 =>
                go_wp2_with fail
                go_quiet (fail)
                go_wp2_with fail
                go_roundg gk1
                case rel => exact ⟨k + 1, q + nq, by go_num, by omega, by simp [World.drewN, Nat.add_assoc]⟩
                case measure => omega
            · have hd1 : decide (c - T < S) = false := decide_eq_false h1
              by_cases h2 : L = 64
              · subst h2
                have hkA : k < A := by
                  rcases Nat.lt_or_ge k A with h | h
                  · exact h
                  · have := (HKY.out (by omega)).2; omega
                cases gk with
                | zero => omega
                | succ gk1 =>
                  go_wp2_with fail
                  go_quiet (fail)
                  go_wp2_with fail
                  go_roundg gk1
                  case rel => exact ⟨k + 1, q + nq, by go_num, by omega, by simp [World.drewN, Nat.add_assoc]⟩
                  case measure => omega
              · have hd2 : ((L : Int) == 64) = false := eq_f (by omega)
                have hkA : k = A := by
                  rcases Nat.lt_or_ge k A with h | h
                  · have := HKN.out h; omega
                  · omega
                subst hkA
                go_wp2_with fail
                go_quiet (fail)
                go_wp2_with fail
                go_meet
                case rel => exact ⟨q + nq, rfl, by simp [World.drewN, Nat.add_assoc]⟩
        case rest =>
          obtain ⟨q, rfl, rfl⟩ := hcut
          have HFY := Lib.hid (HF.out.below (drew_below W q))
          have HBY := Lib.hid (HB.out.trans ((drew_below W q).mono HB.out.size))
          clear HF HB HB7
          generalize W.drewN q = Y at *
          have hle : A ≤ 512 := by omega
          go_upto_if 72 with fail
          go_cut [11, 12] (fun s11 s12 wx => ∃ v vs, s11 = v ∧ s12 = vs ∧ Hid (FitSt wx X6.heap.size v vs l c (openF l c ll F)) ∧ Hid (Below X6.heap.size X6 wx))
          case first =>
            by_cases hA : A = N
            rotate_left
            · have hA2 : ((A : Int) == (N : Int)) = false := eq_f (by omega)
              have HOPEN : Hid (openF l c ll F = ll) := Lib.hid (by unfold openF; rw [if_neg]; rw [← HAE.out, ← HNL.out]; exact hA)
              go_wp2_with fail
              go_meet
              case rel => exact ⟨_, _, rfl, rfl, Lib.hid (by rw [HOPEN.out]; exact HFY.out), HBY⟩
            · have hA2 : ((A : Int) == (N : Int)) = true := eq_t (by omega)
              have HOPEN : Hid (openF l c ll F = ll ++ [[]]) := Lib.hid (by unfold openF; rw [if_pos]; rw [← HAE.out, ← HNL.out]; exact hA)
              obtain ⟨LL, hLL⟩ : ∃ LL, LL = ll ++ [[]] := ⟨_, rfl⟩
              have HLL := Lib.hid hLL
              have hlen : ll.length + 1 ≤ 10000000 := by have := HNL.out; omega
              have hlen2 : (spF l c ll).length + 1 ≤ 10000000 := by rw [spF_length]; exact hlen
              clear hLL hA
              go_wp2_with fail
              obtain ⟨⟨ss, hn0, ha0⟩, hs0⟩ := HFY.out.below (drew_below Y 1)
              have HN0 := Lib.hid hn0
              have HA0 := Lib.hid ha0
              have HS0 := Lib.hid hs0
              have HB0 := Lib.hid (HBY.out.trans ((drew_below Y 1).mono HBY.out.size))
              have hc0 := (HB0.out.cell (p := ⟨g4, 0, none⟩) HG4.out).trans HC4.out
              clear hn0 ha0 hs0
              refine wp_region_noPanic ?_
              refine wp_region_held_drew (S := (fun X => X.cell? ⟨g4, 0, none⟩ = some (.int .i64 c))) (by kernel_rfl) (hc0) (fun hS0 => ?_)
              change Hid (NsI Y.drew _ _ _ _) at HN0
              change Hid (OfI Y.drew _ _ _) at HS0
              change Hid (Below _ _ Y.drew) at HB0
              generalize World.drew Y = Z0 at *
              refine held_take (i := 0) (v := ?_) rfl (by kernel_rfl) (by kernel_rfl) (by kernel_rfl) (fun _ _ _ h => h) (by rfl) ?_ (by assumption) ?_
              rotate_left
              · intro X hSX
                try dsimp only at hSX
                go_simp <;> with_reducible rfl
              simp only [Act.put, List.setIfInBounds_toArray, List.set_cons_zero, List.set_cons_succ]
              refine held_take (i := 3) (v := ?_) rfl (by kernel_rfl) (by kernel_rfl) (by kernel_rfl) (fun _ _ _ h => h) (by rfl) ?_ (by assumption) ?_
              rotate_left
              · intro X hSX
                try dsimp only at hSX
                go_simp <;> with_reducible rfl
              simp only [Act.put, List.setIfInBounds_toArray, List.set_cons_zero, List.set_cons_succ]
              refine held_take (i := 4) (v := ?_) rfl (by kernel_rfl) (by kernel_rfl) (by kernel_rfl) (fun _ _ _ h => h) (by rfl) ?_ (by assumption) ?_
              rotate_left
              · intro X hSX
                try dsimp only at hSX
                have hcc := hSX
                go_simp <;> with_reducible rfl
              simp only [Act.put, List.setIfInBounds_toArray, List.set_cons_zero, List.set_cons_succ]
              try dsimp only
              refine held_two (i := 1) (j := 5) rfl rfl (by kernel_rfl) (by rfl) (by rfl) (fun K' hK' => ?_) (fun K' hK' => ?_)
              · skip
                go_simp
                have hb1 := co_box1 Z0 (.cells #[.slice none 0 0] 22)
                have HN1 := Lib.hid (HN0.out.below hb1)
                have HS1 := Lib.hid (HS0.out.below hb1)
                have HB1 := Lib.hid (HB0.out.alloc HB0.out.size (.cells #[.slice none 0 0] 22))
                have HL1 := Lib.hid (pk_lits Z0 22)
                have hc1 := (HB1.out.cell (p := ⟨g4, 0, none⟩) HG4.out).trans HC4.out
                clear hb1
                refine held_go hK' (hc1) ?_
                try simp only [Act.put, List.setIfInBounds_toArray, List.set_cons_zero, List.set_cons_succ]
                try dsimp only
                obtain ⟨a1, ha1⟩ : ∃ a, a = Z0.heap.size := ⟨_, rfl⟩
                rw [← ha1] at HL1 ⊢
                clear ha1
                generalize World.alloc Z0 _ = Z1 at *
                refine held_two (i := 2) (j := 5) rfl rfl (by kernel_rfl) (by rfl) (by rfl) (fun K' hK' => ?_) (fun K' hK' => ?_)
                · skip
                  have hsz2 := HB1.out.size
                  refine oper_of_list (ops := #[]) (by unfold Region.wanted; rfl) (wpList_push_s typII in_ne rfl (.tmp 73) (.tmp 74) rfl X6.heap.size (.slice adv N capv) ll ss rfl HN1.out ⟨a1, 0, none⟩ HL1.out rfl hlen hsz2 (fun v2 Z2 hn2 hg2 => onlyN_end ?_))
                  obtain ⟨hs2, ha2⟩ := push_keeps HN1.out HS1.out HA0.out hg2
                  rw [← HLL.out] at hn2
                  have HN2 := Lib.hid hn2
                  have HS2 := Lib.hid hs2
                  have HA2 := Lib.hid ha2
                  have HB2 := Lib.hid (HB1.out.grown hg2 hsz2 (fun k hk => (HN1.out.1.lt k hk).1))
                  obtain ⟨ad2, cap2, rfl, -⟩ := hn2.nn.read
                  have hc2 := (HB2.out.cell (p := ⟨g4, 0, none⟩) HG4.out).trans HC4.out
                  clear hn2 hg2 hs2 ha2 hsz2
                  refine held_go hK' (hc2) ?_
                  try simp only [Act.put, List.setIfInBounds_toArray, List.set_cons_zero, List.set_cons_succ]
                  refine held_call (i := 5) rfl (by kernel_rfl) (by rfl) (fun K' hK' => ?_)
                  go_simp
                  have hb3 := co_box1 Z2 (.cells #[.int .i64 c] 3)
                  have HN3 := Lib.hid (HN2.out.below hb3)
                  have HS3 := Lib.hid (HS2.out.below hb3)
                  have HB3 := Lib.hid (HB2.out.alloc HB2.out.size (.cells #[.int .i64 c] 3))
                  have HV3 := Lib.hid (heap_alloc_new Z2 (.cells #[.int .i64 c] 3))
                  have hc3 := (HB3.out.cell (p := ⟨g4, 0, none⟩) HG4.out).trans HC4.out
                  clear hb3
                  refine held_go hK' (hc3) ?_
                  try simp only [Act.put, List.setIfInBounds_toArray, List.set_cons_zero, List.set_cons_succ]
                  try dsimp only
                  obtain ⟨a3, ha3⟩ : ∃ a, a = Z2.heap.size := ⟨_, rfl⟩
                  rw [← ha3] at HV3 ⊢
                  clear ha3
                  generalize World.alloc Z2 _ = Z3 at *
                  refine held_call (i := 6) rfl (by kernel_rfl) (by rfl) (fun K' hK' => ?_)
                  have hsz4 := HB3.out.size
                  refine oper_of_list (ops := #[]) (by unfold Region.wanted; rfl) (wpList_append_g typI celI rfl (.tmp 76) (.tmp 78) rfl X6.heap.size (.slice ads N caps) (spF l c ll) rfl HS3.out ⟨a3, 0, none⟩ 1 1 [c] (Lf.cell HV3.out rfl) rfl rfl hlen2 hsz4 (fun v4 Z4 hn4 hg4 hw4 => onlyN_end ?_))
                  obtain ⟨hs4, ha4⟩ := space_keeps HN3.out HA2.out HS3.out hg4 hw4
                  rw [← spF_snoc, ← HLL.out] at hn4
                  have HN4 := Lib.hid hs4
                  have HS4 := Lib.hid hn4
                  have HA4 := Lib.hid ha4
                  have HB4 := Lib.hid (HB3.out.grown hg4 hsz4 (fun k hk => (HS3.out.lt k hk).1))
                  obtain ⟨ad4, cap4, rfl, -⟩ := hn4.read
                  have hc4 := (HB4.out.cell (p := ⟨g4, 0, none⟩) HG4.out).trans HC4.out
                  clear hn4 hg4 hs4 ha4 hsz4 hw4
                  refine held_go hK' (hc4) ?_
                  try simp only [Act.put, List.setIfInBounds_toArray, List.set_cons_zero, List.set_cons_succ]
                  refine held_take (i := 7) (v := ?_) rfl (by kernel_rfl) (by kernel_rfl) (by kernel_rfl) (fun _ _ _ h => h) (by rfl) ?_ (by assumption) ?_
                  rotate_left
                  · intro X hSX
                    try dsimp only at hSX
                    go_simp <;> with_reducible rfl
                  simp only [Act.put, List.setIfInBounds_toArray, List.set_cons_zero, List.set_cons_succ]
                  refine held_take (i := 8) (v := ?_) rfl (by kernel_rfl) (by kernel_rfl) (by kernel_rfl) (fun _ _ _ h => h) (by rfl) ?_ (by assumption) ?_
                  rotate_left
                  · intro X hSX
                    try dsimp only at hSX
                    go_simp <;> with_reducible rfl
                  simp only [Act.put, List.setIfInBounds_toArray, List.set_cons_zero, List.set_cons_succ]
                  refine wpAnyH_done (by kernel_rfl) ?_ _
                  refine NoPanic.normal ?_
                  go_wp2_with fail
                  go_meet
                  case rel => exact ⟨_, _, rfl, rfl, Lib.hid (by rw [HOPEN.out, ← HLL.out]; exact ⟨⟨_, HN4.out, HA4.out⟩, HS4.out⟩), HB4⟩
                · skip
                  go_simp
                  have hb5 := co_box1 Z1 (.cells #[.int .i64 c] 3)
                  have HN5 := Lib.hid (HN1.out.below hb5)
                  have HS5 := Lib.hid (HS1.out.below hb5)
                  have HB5 := Lib.hid (HB1.out.alloc HB1.out.size (.cells #[.int .i64 c] 3))
                  have HV5 := Lib.hid (heap_alloc_new Z1 (.cells #[.int .i64 c] 3))
                  have HL5 := Lib.hid (HL1.out.below hb5)
                  have hc5 := (HB5.out.cell (p := ⟨g4, 0, none⟩) HG4.out).trans HC4.out
                  clear hb5
                  refine held_go hK' (hc5) ?_
                  try simp only [Act.put, List.setIfInBounds_toArray, List.set_cons_zero, List.set_cons_succ]
                  try dsimp only
                  obtain ⟨a5, ha5⟩ : ∃ a, a = Z1.heap.size := ⟨_, rfl⟩
                  rw [← ha5] at HV5 ⊢
                  clear ha5
                  generalize World.alloc Z1 _ = Z5 at *
                  refine held_call (i := 2) rfl (by kernel_rfl) (by rfl) (fun K' hK' => ?_)
                  have hsz6 := HB5.out.size
                  refine oper_of_list (ops := #[]) (by unfold Region.wanted; rfl) (wpList_push_s typII in_ne rfl (.tmp 73) (.tmp 74) rfl X6.heap.size (.slice adv N capv) ll ss rfl HN5.out ⟨a1, 0, none⟩ HL5.out rfl hlen hsz6 (fun v6 Z6 hn6 hg6 => onlyN_end ?_))
                  obtain ⟨hs6, ha6⟩ := push_keeps HN5.out HS5.out HA0.out hg6
                  rw [← HLL.out] at hn6
                  have HN6 := Lib.hid hn6
                  have HS6 := Lib.hid hs6
                  have HA6 := Lib.hid ha6
                  have HB6 := Lib.hid (HB5.out.grown hg6 hsz6 (fun k hk => (HN5.out.1.lt k hk).1))
                  obtain ⟨ad6, cap6, rfl, -⟩ := hn6.nn.read
                  have HV6 := Lib.hid ((hg6.block a5 (Array.getElem?_eq_some_iff.1 HV5.out).1 (five_ne HN5.out HV5.out)).trans HV5.out)
                  have hc6 := (HB6.out.cell (p := ⟨g4, 0, none⟩) HG4.out).trans HC4.out
                  clear hn6 hg6 hs6 ha6 hsz6
                  refine held_go hK' (hc6) ?_
                  try simp only [Act.put, List.setIfInBounds_toArray, List.set_cons_zero, List.set_cons_succ]
                  refine held_call (i := 6) rfl (by kernel_rfl) (by rfl) (fun K' hK' => ?_)
                  have hsz7 := HB6.out.size
                  refine oper_of_list (ops := #[]) (by unfold Region.wanted; rfl) (wpList_append_g typI celI rfl (.tmp 76) (.tmp 78) rfl X6.heap.size (.slice ads N caps) (spF l c ll) rfl HS6.out ⟨a5, 0, none⟩ 1 1 [c] (Lf.cell HV6.out rfl) rfl rfl hlen2 hsz7 (fun v7 Z7 hn7 hg7 hw7 => onlyN_end ?_))
                  obtain ⟨hs7, ha7⟩ := space_keeps HN6.out HA6.out HS6.out hg7 hw7
                  rw [← spF_snoc, ← HLL.out] at hn7
                  have HN7 := Lib.hid hs7
                  have HS7 := Lib.hid hn7
                  have HA7 := Lib.hid ha7
                  have HB7 := Lib.hid (HB6.out.grown hg7 hsz7 (fun k hk => (HS6.out.lt k hk).1))
                  obtain ⟨ad7, cap7, rfl, -⟩ := hn7.read
                  have hc7 := (HB7.out.cell (p := ⟨g4, 0, none⟩) HG4.out).trans HC4.out
                  clear hn7 hg7 hs7 ha7 hsz7 hw7
                  refine held_go hK' (hc7) ?_
                  try simp only [Act.put, List.setIfInBounds_toArray, List.set_cons_zero, List.set_cons_succ]
                  refine held_take (i := 7) (v := ?_) rfl (by kernel_rfl) (by kernel_rfl) (by kernel_rfl) (fun _ _ _ h => h) (by rfl) ?_ (by assumption) ?_
                  rotate_left
                  · intro X hSX
                    try dsimp only at hSX
                    go_simp <;> with_reducible rfl
                  simp only [Act.put, List.setIfInBounds_toArray, List.set_cons_zero, List.set_cons_succ]
                  refine held_take (i := 8) (v := ?_) rfl (by kernel_rfl) (by kernel_rfl) (by kernel_rfl) (fun _ _ _ h => h) (by rfl) ?_ (by assumption) ?_
                  rotate_left
                  · intro X hSX
                    try dsimp only at hSX
                    go_simp <;> with_reducible rfl
                  simp only [Act.put, List.setIfInBounds_toArray, List.set_cons_zero, List.set_cons_succ]
                  refine wpAnyH_done (by kernel_rfl) ?_ _
                  refine NoPanic.normal ?_
                  go_wp2_with fail
                  go_meet
                  case rel => exact ⟨_, _, rfl, rfl, Lib.hid (by rw [HOPEN.out, ← HLL.out]; exact ⟨⟨_, HN7.out, HA7.out⟩, HS7.out⟩), HB7⟩
              · skip
                go_simp
                have hb8 := co_box1 Z0 (.cells #[.int .i64 c] 3)
                have HN8 := Lib.hid (HN0.out.below hb8)
                have HS8 := Lib.hid (HS0.out.below hb8)
                have HB8 := Lib.hid (HB0.out.alloc HB0.out.size (.cells #[.int .i64 c] 3))
                have HV8 := Lib.hid (heap_alloc_new Z0 (.cells #[.int .i64 c] 3))
                have hc8 := (HB8.out.cell (p := ⟨g4, 0, none⟩) HG4.out).trans HC4.out
                clear hb8
                refine held_go hK' (hc8) ?_
                try simp only [Act.put, List.setIfInBounds_toArray, List.set_cons_zero, List.set_cons_succ]
                try dsimp only
                obtain ⟨a8, ha8⟩ : ∃ a, a = Z0.heap.size := ⟨_, rfl⟩
                rw [← ha8] at HV8 ⊢
                clear ha8
                generalize World.alloc Z0 _ = Z8 at *
                refine held_call (i := 1) rfl (by kernel_rfl) (by rfl) (fun K' hK' => ?_)
                go_simp
                have hb9 := co_box1 Z8 (.cells #[.slice none 0 0] 22)
                have HN9 := Lib.hid (HN8.out.below hb9)
                have HS9 := Lib.hid (HS8.out.below hb9)
                have HB9 := Lib.hid (HB8.out.alloc HB8.out.size (.cells #[.slice none 0 0] 22))
                have HL9 := Lib.hid (pk_lits Z8 22)
                have HV9 := Lib.hid ((hb9.block _ (Array.getElem?_eq_some_iff.1 HV8.out).1).trans HV8.out)
                have hc9 := (HB9.out.cell (p := ⟨g4, 0, none⟩) HG4.out).trans HC4.out
                clear hb9
                refine held_go hK' (hc9) ?_
                try simp only [Act.put, List.setIfInBounds_toArray, List.set_cons_zero, List.set_cons_succ]
                try dsimp only
                obtain ⟨a9, ha9⟩ : ∃ a, a = Z8.heap.size := ⟨_, rfl⟩
                rw [← ha9] at HL9 ⊢
                clear ha9
                generalize World.alloc Z8 _ = Z9 at *
                refine held_call (i := 2) rfl (by kernel_rfl) (by rfl) (fun K' hK' => ?_)
                have hsz10 := HB9.out.size
                refine oper_of_list (ops := #[]) (by unfold Region.wanted; rfl) (wpList_push_s typII in_ne rfl (.tmp 73) (.tmp 74) rfl X6.heap.size (.slice adv N capv) ll ss rfl HN9.out ⟨a9, 0, none⟩ HL9.out rfl hlen hsz10 (fun v10 Z10 hn10 hg10 => onlyN_end ?_))
                obtain ⟨hs10, ha10⟩ := push_keeps HN9.out HS9.out HA0.out hg10
                rw [← HLL.out] at hn10
                have HN10 := Lib.hid hn10
                have HS10 := Lib.hid hs10
                have HA10 := Lib.hid ha10
                have HB10 := Lib.hid (HB9.out.grown hg10 hsz10 (fun k hk => (HN9.out.1.lt k hk).1))
                obtain ⟨ad10, cap10, rfl, -⟩ := hn10.nn.read
                have HV10 := Lib.hid ((hg10.block a8 (Array.getElem?_eq_some_iff.1 HV9.out).1 (five_ne HN9.out HV9.out)).trans HV9.out)
                have hc10 := (HB10.out.cell (p := ⟨g4, 0, none⟩) HG4.out).trans HC4.out
                clear hn10 hg10 hs10 ha10 hsz10
                refine held_go hK' (hc10) ?_
                try simp only [Act.put, List.setIfInBounds_toArray, List.set_cons_zero, List.set_cons_succ]
                refine held_call (i := 6) rfl (by kernel_rfl) (by rfl) (fun K' hK' => ?_)
                have hsz11 := HB10.out.size
                refine oper_of_list (ops := #[]) (by unfold Region.wanted; rfl) (wpList_append_g typI celI rfl (.tmp 76) (.tmp 78) rfl X6.heap.size (.slice ads N caps) (spF l c ll) rfl HS10.out ⟨a8, 0, none⟩ 1 1 [c] (Lf.cell HV10.out rfl) rfl rfl hlen2 hsz11 (fun v11 Z11 hn11 hg11 hw11 => onlyN_end ?_))
                obtain ⟨hs11, ha11⟩ := space_keeps HN10.out HA10.out HS10.out hg11 hw11
                rw [← spF_snoc, ← HLL.out] at hn11
                have HN11 := Lib.hid hs11
                have HS11 := Lib.hid hn11
                have HA11 := Lib.hid ha11
                have HB11 := Lib.hid (HB10.out.grown hg11 hsz11 (fun k hk => (HS10.out.lt k hk).1))
                obtain ⟨ad11, cap11, rfl, -⟩ := hn11.read
                have hc11 := (HB11.out.cell (p := ⟨g4, 0, none⟩) HG4.out).trans HC4.out
                clear hn11 hg11 hs11 ha11 hsz11 hw11
                refine held_go hK' (hc11) ?_
                try simp only [Act.put, List.setIfInBounds_toArray, List.set_cons_zero, List.set_cons_succ]
                refine held_take (i := 7) (v := ?_) rfl (by kernel_rfl) (by kernel_rfl) (by kernel_rfl) (fun _ _ _ h => h) (by rfl) ?_ (by assumption) ?_
                rotate_left
                · intro X hSX
                  try dsimp only at hSX
                  go_simp <;> with_reducible rfl
                simp only [Act.put, List.setIfInBounds_toArray, List.set_cons_zero, List.set_cons_succ]
                refine held_take (i := 8) (v := ?_) rfl (by kernel_rfl) (by kernel_rfl) (by kernel_rfl) (fun _ _ _ h => h) (by rfl) ?_ (by assumption) ?_
                rotate_left
                · intro X hSX
                  try dsimp only at hSX
                  go_simp <;> with_reducible rfl
                simp only [Act.put, List.setIfInBounds_toArray, List.set_cons_zero, List.set_cons_succ]
                refine wpAnyH_done (by kernel_rfl) ?_ _
                refine NoPanic.normal ?_
                go_wp2_with fail
                go_meet
                case rel => exact ⟨_, _, rfl, rfl, Lib.hid (by rw [HOPEN.out, ← HLL.out]; exact ⟨⟨_, HN11.out, HA11.out⟩, HS11.out⟩), HB11⟩
          case rest =>
            obtain ⟨v, vs, rfl, rfl, HF, HB⟩ := hcut
            have HP := Lib.hid (show placeF l c ll F = (openF l c ll F).set A ((openF l c ll F).getD A [] ++ [F]) from by unfold placeF; rw [HAE.out])
            have hAo : A < (openF l c ll F).length := by
              unfold openF
              rw [← HAE.out]
              have := HNL.out
              split
              · rw [List.length_append, List.length_singleton]; omega
              · omega
            have HGP := Lib.hid HPL.out.1
            have HLP := Lib.hid HPL.out.2
            have HLO := Lib.hid (show (openF l c ll F).length = (placeF l c ll F).length by rw [HP.out, List.length_set])
            generalize openF l c ll F = l2 at *
            generalize placeF l c ll F = lp at *
            clear HFY HBY HYES HNO HAE HPL
            obtain ⟨gc, capv', adk, ncapk, rfl, hgB, hgl, hfz, hck, hof⟩ := HF.out.nn.get A hAo
            obtain ⟨gs, caps', rfl, hsB, hsl, hsf, hsp⟩ := HF.out.space hAo
            have HQ := Lib.hid (show l2.getD A [] = l2[A] by simp [hAo])
            have HSG := Lib.hid (show (spF l c l2)[A]? = some (c - sumZ l l2[A]) by rw [List.getElem?_eq_getElem (by rw [spF_length]; exact hAo), spF_get _ _ _ _ hAo])
            have HSC := Lib.hid (show spF l c lp = (spF l c l2).set A (c - sumZ l (l2[A] ++ [F])) by rw [HP.out, HQ.out, spF_set])
            rw [HQ.out] at HP
            rw [sumZ_snoc] at HSC
            have hmm : (l2[A]).length ≤ 64 := by
              have h := HGP.out.len (l2[A] ++ [F]) (by rw [HP.out]; exact List.mem_set hAo _)
              simp at h; omega
            have hmt : sumZ l l2[A] + szL l F ≤ c := by
              have h := HGP.out.use (l2[A] ++ [F]) (by rw [HP.out]; exact List.mem_set hAo _)
              rwa [sumZ_snoc] at h
            have hmt0 := (sumZ_nn HOK.out.2 l2[A]).1
            obtain ⟨QL, hQL⟩ : ∃ QL, QL = l2[A] := ⟨_, rfl⟩
            rw [← hQL] at hck hof hsp HSC HP hmm hmt hmt0 HSG
            have HOF := Lib.hid hof
            obtain ⟨T, hT⟩ : ∃ T, T = sumZ l QL := ⟨_, rfl⟩
            rw [← hT] at hsp HSC hmt hmt0 HSG
            rw [← HSE.out] at hmt HSC
            obtain ⟨M, hM⟩ : ∃ M, M = l2.length := ⟨_, rfl⟩
            rw [← hM] at HF hAo HLO ⊢
            have HM := Lib.hid hM
            obtain ⟨L, hL⟩ : ∃ L, L = QL.length := ⟨_, rfl⟩
            rw [← hL] at hck HOF hmm
            have HLN2 := Lib.hid hL
            clear hof HQ hQL hT hM hL
            have HGB := Lib.hid hgB
            have HSB := Lib.hid hsB
            have HCK := Lib.hid hck
            have HFZ := Lib.hid hfz
            have HSF := Lib.hid hsf
            have HSP := Lib.hid hsp
            have HF1 := Lib.hid (HF.out.below (co_box1 wc (.cells #[.int .i64 (F : Int)] 3)))
            have HO1 := Lib.hid (HOF.out.below (co_box1 wc (.cells #[.int .i64 (F : Int)] 3)))
            have HB1 := Lib.hid (HB.out.alloc HB.out.size (.cells #[.int .i64 (F : Int)] 3))
            have HLI := Lib.hid (Lf.cell (cc := naC) (x := F) (heap_alloc_new wc (.cells #[.int .i64 (F : Int)] 3)) rfl)
            have HGL1 := Lib.hid (show gc < (wc.alloc (.cells #[.int .i64 (F : Int)] 3)).heap.size by rw [World.size_alloc]; omega)
            have HCE1 := Lib.hid (show (wc.alloc (.cells #[.int .i64 (F : Int)] 3)).cell? ⟨gc, A, none⟩ = some (.slice adk L ncapk) from ((co_box1 wc _).cell (p := ⟨gc, A, none⟩) hgl).trans hck)
            have HFZ1 := Lib.hid (show (wc.alloc (.cells #[.int .i64 (F : Int)] 3)).frozen? ⟨gc, A, none⟩ = false from (World.frozen?_of_block (a := ⟨gc, A, none⟩) ((co_box1 wc _).block gc hgl)).trans hfz)
            obtain ⟨l3, hl3⟩ : ∃ l3, l3 = QL ++ [F] := ⟨_, rfl⟩
            have HL3 := Lib.hid hl3
            have hlen3 : QL.length + 1 ≤ 10000000 := by have := HLN2.out; omega
            have HZ1 := HB1.out.size
            clear hl3 hgB hsB hgl hsl hfz hsf hsp HF HOF HB
            go_upto_region 24 with (at_builtin; refine wpList_append_g typI celN rfl (.tmp 85) (.tmp 87) rfl X6.heap.size (.slice adk L ncapk) QL rfl HO1.out ⟨wc.heap.size, 0, none⟩ 1 1 [F] HLI.out rfl rfl hlen3 HZ1 ?_; intro v3 w3 ho3 hg3 hw3; rw [← HL3.out] at ho3; obtain ⟨ad3, cap3, rfl, -⟩ := ho3.read; have hne : some gc ≠ (Value.slice adk L ncapk).ownBlock := rf_ne HF1.out.nn HO1.out in_ne; have hblk := hg3.block gc HGL1.out hne; have hcc : w3.cell? ⟨gc, A, none⟩ = some (.slice adk L ncapk) := (World.cell?_of_block (a := ⟨gc, A, none⟩) hblk).trans HCE1.out; have hff : w3.frozen? ⟨gc, A, none⟩ = false := (World.frozen?_of_block (a := ⟨gc, A, none⟩) hblk).trans HFZ1.out; have HHO := Lib.hid ho3; have HHG := Lib.hid hg3; have HHW := Lib.hid hw3; clear ho3 hg3 hw3 hne hblk)
            obtain ⟨ss, hn4, ha4, hs4⟩ := HF1.out.put (g := gc) (i := A) (cap := capv') (by rw [HM.out]) (by rw [← HM.out]; exact hAo) HCE1.out HHO.out HHG.out HHW.out
            have HB4 : Hid (Below X6.heap.size X6 (w3.setCell ⟨gc, A, none⟩ (.slice ad3 l3.length cap3))) := Lib.hid ((HB1.out.trans ((Below.refl X6.heap.size _).grown HHG.out HZ1 (fun k hk => (HO1.out.lt k hk).1))).setCell (p := ⟨gc, A, none⟩) HGB.out _)
            have HN4 := Lib.hid hn4
            have HA4 := Lib.hid ha4
            have HS4 := Lib.hid hs4
            clear hn4 ha4 hs4 hcc hff HHO HHG HHW HF1 HO1 HB1 HLI HGL1 HCE1 HFZ1 hck
            generalize World.setCell w3 _ _ = X7 at *
            obtain ⟨e7, f7⟩ := Of.cellI HS4.out HSG.out
            have q7 := ((HB6.out.trans (HB4.out.mono HB6.out.size)).cell (p := ⟨b, off + F, none⟩) HLT.out).trans QS.out
            have hww : IntKind.i64.wrap (c - T - S) = c - T - S := IntWalk.i64_in _ (by have := HC.out; omega)
            have HS7 : Hid (X7.cell? ⟨gs, A, none⟩ = some (.int .i64 (c - T)) ∧ X7.cell? ⟨b, off + F, none⟩ = some (.int .i64 S)) := Lib.hid ⟨e7, q7⟩
            clear q7
            refine wp_region_noPanic ?_
            refine region_untl (by kernel_rfl) 10 ((fun X => X.cell? ⟨gs, A, none⟩ = some (.int .i64 (c - T)) ∧ X.cell? ⟨b, off + F, none⟩ = some (.int .i64 S))) (HS7.out) (fun hS0 => ?_)
            replace e7 : X7.drew.cell? ⟨gs, A, none⟩ = some (.int .i64 (c - T)) := e7
            replace f7 : X7.drew.frozen? ⟨gs, A, none⟩ = false := f7
            refine untl_take (i := 0) 0 (v := ?_) rfl (by kernel_rfl) (by kernel_rfl) (by kernel_rfl) (by kernel_rfl) (by kernel_rfl) (by rfl) (by rfl) (by rfl) (fun _ _ _ h => h) (by rfl) ?_ (by assumption) ?_
            rotate_left
            · intro X hSX
              try dsimp only at hSX
              go_simp <;> with_reducible rfl
            simp only [Act.put, List.setIfInBounds_toArray, List.set_cons_zero, List.set_cons_succ]
            refine untl_take (i := 1) 1 (v := ?_) rfl (by kernel_rfl) (by kernel_rfl) (by kernel_rfl) (by kernel_rfl) (by kernel_rfl) (by rfl) (by rfl) (by rfl) (fun _ _ _ h => h) (by rfl) ?_ (by assumption) ?_
            rotate_left
            · intro X hSX
              try dsimp only at hSX
              go_simp <;> with_reducible rfl
            simp only [Act.put, List.setIfInBounds_toArray, List.set_cons_zero, List.set_cons_succ]
            refine untl_take (i := 4) 4 (v := ?_) rfl (by kernel_rfl) (by kernel_rfl) (by kernel_rfl) (by kernel_rfl) (by kernel_rfl) (by rfl) (by rfl) (by rfl) (fun _ _ _ h => h) (by rfl) ?_ (by assumption) ?_
            rotate_left
            · intro X hSX
              try dsimp only at hSX
              go_simp <;> with_reducible rfl
            simp only [Act.put, List.setIfInBounds_toArray, List.set_cons_zero, List.set_cons_succ]
            refine untl_take (i := 5) 5 (v := ?_) rfl (by kernel_rfl) (by kernel_rfl) (by kernel_rfl) (by kernel_rfl) (by kernel_rfl) (by rfl) (by rfl) (by rfl) (fun _ _ _ h => h) (by rfl) ?_ (by assumption) ?_
            rotate_left
            · intro X hSX
              try dsimp only at hSX
              go_simp <;> with_reducible rfl
            simp only [Act.put, List.setIfInBounds_toArray, List.set_cons_zero, List.set_cons_succ]
            refine untl_take (i := 2) 2 (v := ?_) rfl (by kernel_rfl) (by kernel_rfl) (by kernel_rfl) (by kernel_rfl) (by kernel_rfl) (by rfl) (by rfl) (by rfl) (fun _ _ _ h => h) (by rfl) ?_ (by assumption) ?_
            rotate_left
            · intro X hSX
              try dsimp only at hSX
              go_simp <;> with_reducible rfl
            simp only [Act.put, List.setIfInBounds_toArray, List.set_cons_zero, List.set_cons_succ]
            refine untl_take (i := 6) 6 (v := ?_) rfl (by kernel_rfl) (by kernel_rfl) (by kernel_rfl) (by kernel_rfl) (by kernel_rfl) (by rfl) (by rfl) (by rfl) (fun _ _ _ h => h) (by rfl) ?_ (by assumption) ?_
            rotate_left
            · intro X hSX
              try dsimp only at hSX
              go_simp <;> with_reducible rfl
            simp only [Act.put, List.setIfInBounds_toArray, List.set_cons_zero, List.set_cons_succ]
            refine untl_take (i := 3) 3 (v := ?_) rfl (by kernel_rfl) (by kernel_rfl) (by kernel_rfl) (by kernel_rfl) (by kernel_rfl) (by rfl) (by rfl) (by rfl) (fun _ _ _ h => h) (by rfl) ?_ (by assumption) ?_
            rotate_left
            · intro X hSX
              try dsimp only at hSX
              obtain ⟨p0, p1⟩ := hSX
              go_simp <;> with_reducible rfl
            simp only [Act.put, List.setIfInBounds_toArray, List.set_cons_zero, List.set_cons_succ]
            refine untl_take (i := 7) 7 (v := ?_) rfl (by kernel_rfl) (by kernel_rfl) (by kernel_rfl) (by kernel_rfl) (by kernel_rfl) (by rfl) (by rfl) (by rfl) (fun _ _ _ h => h) (by rfl) ?_ (by assumption) ?_
            rotate_left
            · intro X hSX
              try dsimp only at hSX
              obtain ⟨p0, p1⟩ := hSX
              go_simp <;> with_reducible rfl
            simp only [Act.put, List.setIfInBounds_toArray, List.set_cons_zero, List.set_cons_succ]
            refine untl_take (i := 8) 8 (v := ?_) rfl (by kernel_rfl) (by kernel_rfl) (by kernel_rfl) (by kernel_rfl) (by kernel_rfl) (by rfl) (by rfl) (by rfl) (fun _ _ _ h => h) (by rfl) ?_ (by assumption) ?_
            rotate_left
            · intro X hSX
              try dsimp only at hSX
              go_simp <;> with_reducible rfl
            simp only [Act.put, List.setIfInBounds_toArray, List.set_cons_zero, List.set_cons_succ]
            refine untl_take (i := 9) 9 (v := ?_) rfl (by kernel_rfl) (by kernel_rfl) (by kernel_rfl) (by kernel_rfl) (by kernel_rfl) (by rfl) (by rfl) (by rfl) (fun _ _ _ h => h) (by rfl) ?_ (by assumption) ?_
            rotate_left
            · intro X hSX
              try dsimp only at hSX
              go_simp <;> with_reducible rfl
            simp only [Act.put, List.setIfInBounds_toArray, List.set_cons_zero, List.set_cons_succ]
            refine untl_call (i := 10) rfl (by kernel_rfl) (by rfl) (fun K' hK' => ?_)
            go_simp
            have HFN := Lib.hid (FitSt.shrink (l := l) (c := c) (ll := lp) (g := gs) (i := A) (x := c - T - S) (w := X7.drew) (ss := ss) (by rw [HP.out, ← HL3.out]; exact HN4.out.below (drew_below X7 1)) HA4.out (HS4.out.below (drew_below X7 1)) rfl (by rw [spF_length, ← HM.out]; exact hAo) (by rw [HSC.out]; congr 1; omega))
            have HBN := Lib.hid ((HB4.out.trans ((drew_below X7 1).mono HB4.out.size)).setCell (p := ⟨gs, A, none⟩) HSB.out (.int .i64 (c - T - S)))
            clear e7 f7
            refine untl_go hK' (fun h => by cases h) ?_
            try simp only [Act.put, List.setIfInBounds_toArray, List.set_cons_zero, List.set_cons_succ]
            refine untl_past _ _ _ _ (by rfl) ?_
            have hS0 : True := trivial
            refine wpAnyH_done (by kernel_rfl) ?_ _
            refine NoPanic.normal ?_
            go_wp2_with fail
            go_roundg gk0
            case rel => exact ⟨i + 1, _, _, lp, by go_num, rfl, rfl, by omega, HE2, HGP, Lib.hid (by have := HLP.out; have := HLN.out; have := HNL.out; omega), HFN, HBN⟩
            case measure => omega
end Go.Proofs.Ytpjegenobadckaa
