/-
  The specification's fit.
-/
import Derived.Test.YtpjegenobadckaaPkFit
namespace Go.Proofs.Ytpjegenobadckaa
open Go.RowKit
set_option linter.unusedVariables false
set_option linter.unusedSimpArgs false
abbrev NI (w : World) (B : Nat) (v : Value) (ll : List (List Nat)) : Prop := Nn 22 3 1 naC w B v ll
set_option maxRecDepth 100000 in
set_option maxHeartbeats 8000000 in
theorem rfit_any (ord : List Nat) (ad : Option Addr) (n cap : Nat) (ado : Option Addr) (no capo : Nat) (l : List Int) (c : Int) (w : World) (hl : Lf inC w ad l) (hn : n = l.length) (hlo : Lf naC w ado ord) (hno : no = ord.length)
    (hok : OkV l c) (h512 : l.length ≤ 512) (hord : ∀ i ∈ ord, i < l.length) (hordl : ord.length = l.length) :
    Calls Try.prog 30 #[.slice ad n cap, .int .i64 c, .slice ado no capo] w (RetLL 22 3 1 naC w (fitU l c ord)) := by
  have HL := Lib.hid hl
  have HLO := Lib.hid hlo
  have HN := Lib.hid hn
  have HNO' := Lib.hid hno
  have HU := Lib.hid (show fitU l c ord = _ by unfold fitU; rfl)
  have HORD := Lib.hid hord
  have HOK := Lib.hid hok
  have HC := Lib.hid hok.1
  have hn512 : n ≤ 512 := by omega
  have hno512 : no ≤ 512 := by omega
  have HORL := Lib.hid hordl
  clear hl hlo hn hno hord hordl h512
  obtain ⟨hc0, hc1⟩ := hok.1
  clear hok
  go_enter Try.func30, Try.ntmps30
  go_wp2_with fail
  go_loopg [8] n (fun gk v8 wx => ∃ i : Nat, v8 = .int .i64 i ∧ i + gk = n ∧ w = wx ∧ Hid (∀ j (h : j < l.length), j < i → l[j] ≤ c))
  case atStart => exact ⟨0, rfl, by omega, rfl, Lib.hid (fun j _ h => by omega)⟩
  case round =>
    obtain ⟨i, rfl, hi, rfl, hall⟩ := hrel
    cases gk with
    | succ gk0 =>
      have hin : i < n := by omega
      have hil : i < l.length := by have := HN.out; omega
      obtain ⟨b, off, rfl, hlt, q⟩ := HL.out.get celI hil
      have q0 : w.cell? ⟨b, off + i, none⟩ = some (.int .i64 l[i]) := by simpa using q 0 _ (by decide) rfl
      clear q hlt
      have HBIG := Lib.hid (show c < l[i] → fitU l c ord = ([], 12) from fun h => HU.out.trans (if_pos (List.any_eq_true.2 ⟨l[i], List.getElem_mem hil, by simpa using h⟩)))
      have HNX := Lib.hid (show l[i] ≤ c → ∀ j (h : j < l.length), j < i + 1 → l[j] ≤ c from fun h j hj hji => by
        rcases Nat.lt_or_ge j i with h3 | h3
        · exact hall.out j hj h3
        · obtain rfl : j = i := by omega
          exact h)
      generalize l[i] = x at *
      by_cases h : c < x
      · have HF := Lib.hid (HBIG.out h)
        clear HBIG HNX
        go_wp2
        go_ret2
        exact ⟨.slice none 0 0, by rw [HF.out]; rfl, by rw [HF.out]; exact Nn.nil _ _ _ _ _ _, Below.refl _ _⟩
      · have HNN := Lib.hid (HNX.out (by omega))
        clear HBIG HNX
        go_wp2
        go_roundg gk0
        case rel => exact ⟨i + 1, by go_num, by omega, rfl, HNN⟩
        case measure => omega
    | zero =>
    obtain rfl : n = i := by omega
    clear hi
    have HBIG := Lib.hid (show ∀ i, szL l i ≤ c from fun i => by
      by_cases hi : i < l.length
      · rw [szL_get hi]
        exact hall.out i hi (by have := HN.out; omega)
      · unfold szL
        have := HC.out.1
        simp [hi]
        omega)
    replace HU := Lib.hid (HU.out.trans (if_neg (by
      rw [Bool.not_eq_true, List.any_eq_false]
      intro x hx
      obtain ⟨j, hj, rfl⟩ := List.getElem_of_mem hx
      have := hall.out j hj (by have := HN.out; omega)
      simpa using this)))
    clear hall
    go_wp2_with fail
    go_loopg [9, 10] no (fun gk v9 v10 wx => ∃ (i : Nat) (v : Value) (ll : List (List Nat)), v10 = .int .i64 i ∧ v9 = v ∧ i + gk = no ∧ Hid (fitF l c ord [] = fitF l c (ord.drop i) ll) ∧ Hid (GoodF l c ll) ∧ Hid (ll.length ≤ i) ∧ Hid (NI wx w.heap.size v ll) ∧ Hid (Below w.heap.size w wx))
    case atStart => exact ⟨0, _, [], rfl, rfl, by omega, Lib.hid (by simp), Lib.hid (GoodF.nil l c), Lib.hid (by simp), Lib.hid (Nn.nil _ _ _ _ _ _), Lib.hid (Below.refl _ _)⟩
    case round =>
      obtain ⟨i, v, ll, rfl, rfl, hi, HE, HG, HLN, HF, HB⟩ := hrel
      cases gk with
      | zero =>
        obtain rfl : i = no := by omega
        have HFF := Lib.hid (show fitU l c ord = (ll, 0) by rw [HU.out, HE.out, List.drop_eq_nil_of_le (by rw [HNO'.out]; exact Nat.le_refl _), fitF])
        go_wp2_with fail
        go_ret2
        refine ⟨_, by rw [HFF.out]; rfl, ?_, HB.out⟩
        rw [HFF.out]
        exact HF.out
      | succ gk0 =>
        have hiR : i < no := by omega
        have hil : i < ord.length := by have := HNO'.out; omega
        obtain ⟨W, rfl⟩ : ∃ W, W = wr := ⟨wr, rfl⟩
        obtain ⟨b9, o9, rfl, hlt9, q⟩ := HLO.out.get celN hil
        have Q9 : Hid (w.cell? ⟨b9, o9 + i, none⟩ = some (.int .i64 ((ord[i] : Nat) : Int))) := Lib.hid (by simpa using q 0 _ (by decide) rfl)
        have hfl := HORD.out _ (List.getElem_mem hil)
        have HE2 := Lib.hid (HE.out.trans (show fitF l c (ord.drop i) ll = fitF l c (ord.drop (i + 1)) (placeF l c ll ord[i]) by rw [List.drop_eq_getElem_cons hil, fitF]))
        obtain ⟨F, hF⟩ : ∃ F, F = ord[i] := ⟨_, rfl⟩
        rw [← hF] at Q9 hfl HE2
        clear q hF HE
        obtain ⟨b, off, rfl, hlt, q⟩ := HL.out.get celI hfl
        have HSZC := Lib.hid (show ∀ j, j < l.length → w.cell? ⟨b, off + j, none⟩ = some (.int .i64 (szL l j)) from fun j hj => by
          obtain ⟨b', off', e, -, q⟩ := HL.out.get celI hj
          cases e
          rw [szL_get hj]; simpa using q 0 _ (by decide) rfl)
        have QS : Hid (w.cell? ⟨b, off + F, none⟩ = some (.int .i64 (szL l F))) := Lib.hid (HSZC.out F hfl)
        have hFn : F < n := by have := HN.out; omega
        have HLT := Lib.hid hlt
        have HLT9 := Lib.hid hlt9
        obtain ⟨hS0, hS1⟩ := szL_nn HOK.out.2 F
        have hSc := HBIG.out F
        have HPL := Lib.hid (HG.out.place hfl hSc)
        obtain ⟨S, hS⟩ : ∃ S, S = szL l F := ⟨_, rfl⟩
        rw [← hS] at QS hS0 hS1 hSc
        have HSE := Lib.hid hS
        clear q hlt hlt9 hil hfl hS
        obtain ⟨A, hA⟩ : ∃ A, A = atF l c S ll := ⟨_, rfl⟩
        have hAN : A ≤ ll.length := by rw [hA]; exact atF_le _ _ _ _
        have HYES := Lib.hid (show ∀ h : A < ll.length, sumZ l ll[A] + S ≤ c ∧ (ll[A]).length < 64 by rw [hA]; exact fun h => atF_yes h)
        have HNO := Lib.hid (show ∀ j (h : j < ll.length), j < A → ¬ (sumZ l ll[j] + S ≤ c ∧ (ll[j]).length < 64) by rw [hA]; exact fun j h hj => atF_no hj)
        have HAE : Hid (A = atF l c (szL l F) ll) := Lib.hid (by rw [hA, HSE.out])
        clear hA
        obtain ⟨adv, capv, rfl, hcv, hmv, hnv⟩ := HF.out.read
        obtain ⟨N, hN⟩ : ∃ N, N = ll.length := ⟨_, rfl⟩
        have HNL := Lib.hid hN
        rw [← hN] at hcv HF hAN ⊢
        clear hN
        have hN512 : N ≤ 512 := by have := HLN.out; have := HNL.out; omega
        have q9 := (HB.out.cell (p := ⟨b9, o9 + i, none⟩) HLT9.out).trans Q9.out
        have qs : W.cell? ⟨b, off + F, none⟩ = some (.int .i64 S) := (HB.out.cell (p := ⟨b, off + F, none⟩) HLT.out).trans QS.out
        go_upto_block 4 with fail
        go_cut [11] (fun s11 wx => s11 = .int .i64 (A : Int) ∧ W = wx)
        case first =>
          go_wp2_with fail
          go_loopg [11] A (fun g2 v11 wx => ∃ k : Nat, v11 = .int .i64 k ∧ k + g2 = A ∧ W = wx)
          case atStart => exact ⟨0, rfl, by omega, rfl⟩
          case round =>
            obtain ⟨k, rfl, hk, rfl⟩ := hrel
            by_cases hkN : k < N
            rotate_left
            · have hkA : k = A := by omega
              subst hkA
              have hd : decide ((k : Int) < (N : Int)) = false := decide_eq_false (by omega)
              go_wp2_with fail
              go_meet
              case rel => exact ⟨rfl, rfl⟩
            have hkl : k < ll.length := by have := HNL.out; omega
            have hd : decide ((k : Int) < (N : Int)) = true := decide_eq_true (by omega)
            obtain ⟨gc, capv', adk, ncapk, ec, -, -, -, hck, hof⟩ := HF.out.get k hkl
            rw [← HNL.out] at ec
            cases ec
            have HKN := Lib.hid (show k < A → ¬ (sumZ l ll[k] + S ≤ c ∧ (ll[k]).length < 64) from HNO.out k hkl)
            have HKY := Lib.hid (show k = A → sumZ l ll[k] + S ≤ c ∧ (ll[k]).length < 64 from fun h => by subst h; exact HYES.out hkl)
            have hml := HG.out.len _ (List.getElem_mem hkl)
            have HNUM := Lib.hid (HG.out.num _ (List.getElem_mem hkl))
            have HQT := Lib.hid (fun j => sumZ_take HOK.out.2 ll[k] j)
            have hTc := HG.out.use _ (List.getElem_mem hkl)
            obtain ⟨Q, hQ⟩ : ∃ Q, Q = ll[k] := ⟨_, rfl⟩
            rw [← hQ] at hck hof HKN HKY hml HNUM HQT hTc
            obtain ⟨a3, c3, e3, hlf, -⟩ := hof.read
            cases e3
            have HLF := Lib.hid hlf
            have HTC := Lib.hid hTc
            obtain ⟨L, hL⟩ : ∃ L, L = Q.length := ⟨_, rfl⟩
            rw [← hL] at hck HKN HKY hml
            have HLQ := Lib.hid hL
            clear hof hlf hQ hkl hL hTc
            have hL64 : L ≤ 64 := hml.1
            clear hml
            go_upto_block 6 with fail
            go_cut [12, 13] (fun s12 s13 wx => s12 = .int .i64 (sumZ l Q) ∧ W = wx)
            case first =>
              go_wp2_with fail
              go_loopg [12, 13] L (fun g3 v12 v13 wx => ∃ (j : Nat) (T : Int), v12 = .int .i64 T ∧ v13 = .int .i64 j ∧ j + g3 = L ∧ W = wx ∧ Hid (T = sumZ l (Q.take j)))
              case atStart => exact ⟨0, 0, rfl, rfl, by omega, rfl, Lib.hid (by simp [sumZ])⟩
              case round =>
                obtain ⟨j, T, rfl, rfl, hj, rfl, hT⟩ := hrel
                have h1 := HQT.out j
                rw [← hT.out] at h1
                have h2 := HTC.out
                cases gk with
                | zero =>
                  obtain rfl : j = L := by omega
                  have HR := Lib.hid (show sumZ l Q = T by rw [hT.out, List.take_of_length_le (by rw [HLQ.out]; exact Nat.le_refl _)])
                  have hjj : ¬ ((j : Int) < (j : Int)) := by omega
                  go_wp2_with fail
                  go_meet
                  case rel => exact ⟨by rw [HR.out], rfl⟩
                | succ gk0 =>
                  have hjL : j < L := by omega
                  have hjl : j < Q.length := by have := HLQ.out; omega
                  obtain ⟨bq, oq, rfl, -, q⟩ := HLF.out.get celN hjl
                  have q2 : W.cell? ⟨bq, oq + j, none⟩ = some (.int .i64 ((Q[j] : Nat) : Int)) := by simpa using q 0 _ (by decide) rfl
                  have HX := HNUM.out _ (List.getElem_mem hjl)
                  have HSS := Lib.hid (show sumZ l (Q.take (j + 1)) = T + szL l Q[j] by rw [List.take_succ_eq_append_getElem hjl, sumZ_snoc, ← hT.out])
                  have h3 := HQT.out (j + 1)
                  rw [HSS.out] at h3
                  generalize Q[j] = x at *
                  have qx : W.cell? ⟨b, off + x, none⟩ = some (.int .i64 (szL l x)) := (HB.out.cell (p := ⟨b, off + x, none⟩) HLT.out).trans (HSZC.out x HX)
                  have hxn : x < n := by have := HN.out; omega
                  have hsz := szL_nn HOK.out.2 x
                  generalize szL l x = sx at *
                  have hw : IntKind.i64.wrap (T + sx) = T + sx := IntWalk.i64_in _ (by omega)
                  clear q HX
                  go_wp2_with fail
                  go_roundg gk0
                  case rel => exact ⟨j + 1, T + sx, rfl, by go_num, by omega, rfl, Lib.hid HSS.out.symm⟩
                  case measure => omega
            case rest =>
              obtain ⟨rfl, rfl⟩ := hcut
              have hT0 := (sumZ_nn HOK.out.2 Q).1
              have hTc := HTC.out
              obtain ⟨T, hT⟩ : ∃ T, T = sumZ l Q := ⟨_, rfl⟩
              rw [← hT] at HKN HKY hT0 hTc ⊢
              clear hT
              have hw : IntKind.i64.wrap (T + S) = T + S := IntWalk.i64_in _ (by omega)
              by_cases hroom : T + S ≤ c ∧ L < 64
              · have hkA : k = A := by
                  rcases Nat.lt_or_ge k A with h | h
                  · exact absurd hroom (HKN.out h)
                  · omega
                subst hkA
                obtain ⟨hr1, hr2⟩ := hroom
                go_wp2_with fail
                go_meet
                case rel => exact ⟨rfl, rfl⟩
              · have hkA : k < A := by
                  rcases Nat.lt_or_ge k A with h | h
                  · exact h
                  · exact absurd (HKY.out (by omega)) hroom
                cases gk with
                | zero => omega
                | succ gk1 =>
                  by_cases hr1 : T + S ≤ c
                  · have hr2 : ¬ L < 64 := fun h => hroom ⟨hr1, h⟩
                    clear hroom
                    have hr3 : ¬ ((L : Int) < 64) := by omega
                    go_wp2_with fail
                    go_roundg gk1
                    case rel => exact ⟨k + 1, by go_num, by omega, rfl⟩
                    case measure => omega
                  · clear hroom
                    go_wp2_with fail
                    go_roundg gk1
                    case rel => exact ⟨k + 1, by go_num, by omega, rfl⟩
                    case measure => omega
        case rest =>
          obtain ⟨rfl, rfl⟩ := hcut
          have hle : A ≤ 512 := by omega
          go_upto_if 81 with fail
          go_cut [9] (fun s9 wx => ∃ v, s9 = v ∧ Hid (NI wx w.heap.size v (openF l c ll F)) ∧ Hid (Below w.heap.size w wx))
          case first =>
            by_cases hA : A = N
            rotate_left
            · have hA2 : ((A : Int) == (N : Int)) = false := eq_f (by omega)
              have HOPEN : Hid (openF l c ll F = ll) := Lib.hid (by unfold openF; rw [if_neg]; rw [← HAE.out, ← HNL.out]; exact hA)
              go_wp2_with fail
              go_meet
              case rel => exact ⟨_, rfl, Lib.hid (by rw [HOPEN.out]; exact HF.out), HB⟩
            · have hA2 : ((A : Int) == (N : Int)) = true := eq_t (by omega)
              have HOPEN : Hid (openF l c ll F = ll ++ [[]]) := Lib.hid (by unfold openF; rw [if_pos]; rw [← HAE.out, ← HNL.out]; exact hA)
              obtain ⟨LL, hLL⟩ : ∃ LL, LL = ll ++ [[]] := ⟨_, rfl⟩
              have HLLE := Lib.hid hLL
              have hlen : ll.length + 1 ≤ 10000000 := by have := HNL.out; omega
              have HNN := Lib.hid (HF.out.below (co_box1 W (.cells #[.slice none 0 0] 22)))
              have HSZ := Lib.hid (show w.heap.size ≤ (W.alloc (.cells #[.slice none 0 0] 22)).heap.size by rw [World.size_alloc]; have := HB.out.size; omega)
              clear hLL hA
              go_wp2_with (at_builtin; refine wpList_push_n typII in_ne rfl (.tmp 82) (.tmp 83) rfl w.heap.size _ ll rfl HNN.out ⟨W.heap.size, 0, none⟩ (pk_lits W _) rfl hlen HSZ.out ?_; intro v1 w1 hn1 hg1; rw [← HLLE.out] at hn1; obtain ⟨ad1, cap1, rfl, -⟩ := hn1.read; have HB1 := Lib.hid ((HB.out.alloc HB.out.size (.cells #[.slice none 0 0] 22)).grown hg1 HSZ.out (fun k hk => (HNN.out.lt k hk).1)); have HN1 := Lib.hid hn1; clear hn1 hg1)
              go_meet
              case rel => exact ⟨_, rfl, Lib.hid (by rw [HOPEN.out, ← HLLE.out]; exact HN1.out), HB1⟩
          case rest =>
            clear q9 qs
            obtain ⟨v, rfl, HF2, HB2⟩ := hcut
            have HP := Lib.hid (show placeF l c ll F = (openF l c ll F).set A ((openF l c ll F).getD A [] ++ [F]) from by unfold placeF; rw [HAE.out])
            have hAo : A < (openF l c ll F).length := by
              unfold openF
              rw [← HAE.out]
              have := HNL.out
              split
              · rw [List.length_append, List.length_singleton]; omega
              · omega
            have HGP := Lib.hid HPL.out.1
            have HLP := Lib.hid HPL.out.2
            generalize openF l c ll F = l2 at *
            generalize placeF l c ll F = lp at *
            clear HF HB HYES HNO HAE HPL
            obtain ⟨gc, capv', adk, ncapk, rfl, hgB, hgl, hfz, hck, hof⟩ := HF2.out.get A hAo
            have HQ := Lib.hid (show l2.getD A [] = l2[A] by simp [hAo])
            rw [HQ.out] at HP
            have hmm : (l2[A]).length ≤ 64 := by
              have h := HGP.out.len (l2[A] ++ [F]) (by rw [HP.out]; exact List.mem_set hAo _)
              simp at h; omega
            obtain ⟨QL, hQL⟩ : ∃ QL, QL = l2[A] := ⟨_, rfl⟩
            rw [← hQL] at hck hof HP hmm
            have HOF := Lib.hid hof
            obtain ⟨M, hM⟩ : ∃ M, M = l2.length := ⟨_, rfl⟩
            rw [← hM] at HF2 hAo ⊢
            have HM := Lib.hid hM
            obtain ⟨L, hL⟩ : ∃ L, L = QL.length := ⟨_, rfl⟩
            rw [← hL] at hck HOF hmm
            have HLN2 := Lib.hid hL
            clear hof HQ hQL hM hL
            have HGB := Lib.hid hgB
            have HGL := Lib.hid hgl
            have HCK := Lib.hid hck
            have HFZ := Lib.hid hfz
            have q9 := (HB2.out.cell (p := ⟨b9, o9 + i, none⟩) HLT9.out).trans Q9.out
            clear hgB hgl hfz
            obtain ⟨l3, hl3⟩ : ∃ l3, l3 = QL ++ [F] := ⟨_, rfl⟩
            have HL3 := Lib.hid hl3
            have hlen3 : QL.length + 1 ≤ 10000000 := by have := HLN2.out; omega
            clear hl3
            go_wp2_with fail
            have HS0 : Hid (wc.cell? ⟨gc, A, none⟩ = some (.slice adk L ncapk) ∧ wc.cell? ⟨b9, o9 + i, none⟩ = some (.int .i64 (F : Int))) := Lib.hid ⟨hck, q9⟩
            clear hck q9
            refine wp_region_noPanic ?_
            refine region_untl (by kernel_rfl) 13 ((fun X => X.cell? ⟨gc, A, none⟩ = some (.slice adk L ncapk) ∧ X.cell? ⟨b9, o9 + i, none⟩ = some (.int .i64 (F : Int)))) (HS0.out) (fun hS0 => ?_)
            replace HF2 : Hid (NI wc.drew w.heap.size (.slice (some ⟨gc, 0, none⟩) M capv') l2) := Lib.hid (HF2.out.keep fun _ _ _ => rfl)
            replace HB2 := Lib.hid HB2.out.drew
            replace HOF : Hid (Of _ _ naC wc.drew w.heap.size (.slice adk L ncapk) QL) := Lib.hid (HOF.out.keep fun _ _ _ => rfl)
            replace HGL : Hid (gc < wc.drew.heap.size) := HGL
            replace HFZ : Hid (wc.drew.frozen? ⟨gc, A, none⟩ = false) := HFZ
            replace HCK : Hid (wc.drew.cell? ⟨gc, A, none⟩ = some (.slice adk L ncapk)) := HCK
            generalize World.drew wc = X0 at *
            refine untl_take (i := 0) 0 (v := ?_) rfl (by kernel_rfl) (by kernel_rfl) (by kernel_rfl) (by kernel_rfl) (by kernel_rfl) (by rfl) (by rfl) (by rfl) (fun _ _ _ h => h) (by rfl) ?_ (by assumption) ?_
            rotate_left
            · intro X hSX
              try dsimp only at hSX
              go_simp <;> with_reducible rfl
            simp only [Act.put, List.setIfInBounds_toArray, List.set_cons_zero, List.set_cons_succ]
            refine untl_take (i := 1) 1 (v := ?_) rfl (by kernel_rfl) (by kernel_rfl) (by kernel_rfl) (by kernel_rfl) (by kernel_rfl) (by rfl) (by rfl) (by rfl) (fun _ _ _ h => h) (by rfl) ?_ (by assumption) ?_
            rotate_left
            · intro X hSX
              try dsimp only at hSX
              go_simp <;> with_reducible rfl
            simp only [Act.put, List.setIfInBounds_toArray, List.set_cons_zero, List.set_cons_succ]
            refine untl_take (i := 2) 2 (v := ?_) rfl (by kernel_rfl) (by kernel_rfl) (by kernel_rfl) (by kernel_rfl) (by kernel_rfl) (by rfl) (by rfl) (by rfl) (fun _ _ _ h => h) (by rfl) ?_ (by assumption) ?_
            rotate_left
            · intro X hSX
              try dsimp only at hSX
              go_simp <;> with_reducible rfl
            simp only [Act.put, List.setIfInBounds_toArray, List.set_cons_zero, List.set_cons_succ]
            refine untl_take (i := 3) 3 (v := ?_) rfl (by kernel_rfl) (by kernel_rfl) (by kernel_rfl) (by kernel_rfl) (by kernel_rfl) (by rfl) (by rfl) (by rfl) (fun _ _ _ h => h) (by rfl) ?_ (by assumption) ?_
            rotate_left
            · intro X hSX
              try dsimp only at hSX
              go_simp <;> with_reducible rfl
            simp only [Act.put, List.setIfInBounds_toArray, List.set_cons_zero, List.set_cons_succ]
            refine untl_take (i := 6) 6 (v := ?_) rfl (by kernel_rfl) (by kernel_rfl) (by kernel_rfl) (by kernel_rfl) (by kernel_rfl) (by rfl) (by rfl) (by rfl) (fun _ _ _ h => h) (by rfl) ?_ (by assumption) ?_
            rotate_left
            · intro X hSX
              try dsimp only at hSX
              go_simp <;> with_reducible rfl
            simp only [Act.put, List.setIfInBounds_toArray, List.set_cons_zero, List.set_cons_succ]
            refine untl_take (i := 7) 7 (v := ?_) rfl (by kernel_rfl) (by kernel_rfl) (by kernel_rfl) (by kernel_rfl) (by kernel_rfl) (by rfl) (by rfl) (by rfl) (fun _ _ _ h => h) (by rfl) ?_ (by assumption) ?_
            rotate_left
            · intro X hSX
              try dsimp only at hSX
              go_simp <;> with_reducible rfl
            simp only [Act.put, List.setIfInBounds_toArray, List.set_cons_zero, List.set_cons_succ]
            refine untl_take (i := 4) 4 (v := ?_) rfl (by kernel_rfl) (by kernel_rfl) (by kernel_rfl) (by kernel_rfl) (by kernel_rfl) (by rfl) (by rfl) (by rfl) (fun _ _ _ h => h) (by rfl) ?_ (by assumption) ?_
            rotate_left
            · intro X hSX
              try dsimp only at hSX
              go_simp <;> with_reducible rfl
            simp only [Act.put, List.setIfInBounds_toArray, List.set_cons_zero, List.set_cons_succ]
            refine untl_take (i := 8) 8 (v := ?_) rfl (by kernel_rfl) (by kernel_rfl) (by kernel_rfl) (by kernel_rfl) (by kernel_rfl) (by rfl) (by rfl) (by rfl) (fun _ _ _ h => h) (by rfl) ?_ (by assumption) ?_
            rotate_left
            · intro X hSX
              try dsimp only at hSX
              go_simp <;> with_reducible rfl
            simp only [Act.put, List.setIfInBounds_toArray, List.set_cons_zero, List.set_cons_succ]
            refine untl_take (i := 5) 5 (v := ?_) rfl (by kernel_rfl) (by kernel_rfl) (by kernel_rfl) (by kernel_rfl) (by kernel_rfl) (by rfl) (by rfl) (by rfl) (fun _ _ _ h => h) (by rfl) ?_ (by assumption) ?_
            rotate_left
            · intro X hSX
              try dsimp only at hSX
              obtain ⟨p0, p1⟩ := hSX
              go_simp <;> with_reducible rfl
            simp only [Act.put, List.setIfInBounds_toArray, List.set_cons_zero, List.set_cons_succ]
            refine untl_take (i := 9) 9 (v := ?_) rfl (by kernel_rfl) (by kernel_rfl) (by kernel_rfl) (by kernel_rfl) (by kernel_rfl) (by rfl) (by rfl) (by rfl) (fun _ _ _ h => h) (by rfl) ?_ (by assumption) ?_
            rotate_left
            · intro X hSX
              try dsimp only at hSX
              obtain ⟨p0, p1⟩ := hSX
              go_simp <;> with_reducible rfl
            simp only [Act.put, List.setIfInBounds_toArray, List.set_cons_zero, List.set_cons_succ]
            refine untl_call (i := 10) rfl (by kernel_rfl) (by rfl) (fun K' hK' => ?_)
            go_simp
            have HF1 := Lib.hid (HF2.out.below (co_box1 X0 (.cells #[.int .i64 (F : Int)] 3)))
            have HO1 := Lib.hid (HOF.out.below (co_box1 X0 (.cells #[.int .i64 (F : Int)] 3)))
            have HB1 := Lib.hid (HB2.out.alloc HB2.out.size (.cells #[.int .i64 (F : Int)] 3))
            have HLI := Lib.hid (Lf.cell (cc := naC) (x := F) (heap_alloc_new X0 (.cells #[.int .i64 (F : Int)] 3)) rfl)
            have HGL1 := Lib.hid (show gc < (X0.alloc (.cells #[.int .i64 (F : Int)] 3)).heap.size by rw [World.size_alloc]; have := HGL.out; omega)
            have HCE1 := Lib.hid (show (X0.alloc (.cells #[.int .i64 (F : Int)] 3)).cell? ⟨gc, A, none⟩ = some (.slice adk L ncapk) from ((co_box1 X0 _).cell (p := ⟨gc, A, none⟩) HGL.out).trans HCK.out)
            have HFZ1 := Lib.hid (show (X0.alloc (.cells #[.int .i64 (F : Int)] 3)).frozen? ⟨gc, A, none⟩ = false from (World.frozen?_of_block (a := ⟨gc, A, none⟩) ((co_box1 X0 _).block gc HGL.out)).trans HFZ.out)
            have hS1 : (X0.alloc (.cells #[.int .i64 (F : Int)] 3)).cell? ⟨gc, A, none⟩ = some (.slice adk L ncapk) ∧ (X0.alloc (.cells #[.int .i64 (F : Int)] 3)).cell? ⟨b9, o9 + i, none⟩ = some (.int .i64 (F : Int)) := ⟨HCE1.out, (HB1.out.cell (p := ⟨b9, o9 + i, none⟩) HLT9.out).trans Q9.out⟩
            have HZ1 := HB1.out.size
            clear HF2 HOF HB2 HGL HCK HFZ
            refine untl_go hK' (fun _ => hS1) ?_
            try simp only [Act.put, List.setIfInBounds_toArray, List.set_cons_zero, List.set_cons_succ]
            clear hS1
            refine untl_call (i := 11) rfl (by kernel_rfl) (by rfl) (fun K' hK' => ?_)
            refine oper_of_list (ops := #[]) (by unfold Region.wanted; rfl) (wpList_append_g typI celN rfl (.tmp 90) (.tmp 95) rfl w.heap.size (.slice adk L ncapk) QL rfl HO1.out ⟨X0.heap.size, 0, none⟩ 1 1 [F] HLI.out rfl rfl hlen3 HZ1 (fun v3 w3 ho3 hg3 hw3 => onlyN_end ?_))
            rw [← HL3.out] at ho3
            obtain ⟨ad3, cap3, rfl, -⟩ := ho3.read
            have hne : some gc ≠ (Value.slice adk L ncapk).ownBlock := rf_ne HF1.out HO1.out in_ne
            have hblk := hg3.block gc HGL1.out hne
            have hgr := (HB1.out.trans ((Below.refl w.heap.size _).grown hg3 HZ1 (fun k hk => (HO1.out.lt k hk).1)))
            have hcc : w3.cell? ⟨gc, A, none⟩ = some (.slice adk L ncapk) := (World.cell?_of_block (a := ⟨gc, A, none⟩) hblk).trans HCE1.out
            have hff : w3.frozen? ⟨gc, A, none⟩ = false := (World.frozen?_of_block (a := ⟨gc, A, none⟩) hblk).trans HFZ1.out
            have hS3 : w3.cell? ⟨gc, A, none⟩ = some (.slice adk L ncapk) ∧ w3.cell? ⟨b9, o9 + i, none⟩ = some (.int .i64 (F : Int)) := ⟨hcc, (hgr.cell (p := ⟨b9, o9 + i, none⟩) HLT9.out).trans Q9.out⟩
            have HN4 : Hid (NI (w3.setCell ⟨gc, A, none⟩ (.slice ad3 l3.length cap3)) w.heap.size (.slice (some ⟨gc, 0, none⟩) M capv') lp) := Lib.hid (by
              have h := HF1.out.put in_ne (g := gc) (i := A) (cap := capv') (by rw [HM.out]) (by rw [← HM.out]; exact hAo) HCE1.out ho3 hg3 hw3
              rwa [HL3.out, ← HP.out, ← HL3.out] at h)
            have HB4 : Hid (Below w.heap.size w (w3.setCell ⟨gc, A, none⟩ (.slice ad3 l3.length cap3))) := Lib.hid (hgr.setCell (p := ⟨gc, A, none⟩) HGB.out _)
            clear hne hblk hgr HF1 HO1 HB1 HLI HGL1 HCE1 HFZ1 ho3 hg3 hw3
            refine untl_go hK' (fun _ => hS3) ?_
            try simp only [Act.put, List.setIfInBounds_toArray, List.set_cons_zero, List.set_cons_succ]
            refine untl_take (i := 12) 12 (v := ?_) rfl (by kernel_rfl) (by kernel_rfl) (by kernel_rfl) (by kernel_rfl) (by kernel_rfl) (by rfl) (by rfl) (by rfl) (fun _ _ _ h => h) (by rfl) ?_ (by assumption) ?_
            rotate_left
            · intro X hSX
              try dsimp only at hSX
              go_simp <;> with_reducible rfl
            simp only [Act.put, List.setIfInBounds_toArray, List.set_cons_zero, List.set_cons_succ]
            refine untl_call (i := 13) rfl (by kernel_rfl) (by rfl) (fun K' hK' => ?_)
            go_simp
            clear hcc hff hS3
            refine untl_go hK' (fun h => by cases h) ?_
            try simp only [Act.put, List.setIfInBounds_toArray, List.set_cons_zero, List.set_cons_succ]
            refine untl_past _ _ _ _ (by rfl) ?_
            have hS0 : True := trivial
            refine wpAnyH_done (by kernel_rfl) ?_ _
            refine NoPanic.normal ?_
            generalize World.setCell w3 _ _ = X7 at *
            go_wp2_with fail
            go_roundg gk0
            case rel => exact ⟨i + 1, _, lp, by go_num, rfl, by omega, HE2, HGP, Lib.hid (by have := HLP.out; have := HLN.out; have := HNL.out; omega), HN4, HB4⟩
            case measure => omega
end Go.Proofs.Ytpjegenobadckaa
