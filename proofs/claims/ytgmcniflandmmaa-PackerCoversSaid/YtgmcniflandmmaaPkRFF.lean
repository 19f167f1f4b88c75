/-
  The specification's FirstFit and Decreasing.
-/
import Derived.Test.YtgmcniflandmmaaPkRFit
import Derived.Test.YtgmcniflandmmaaPkFF
namespace Go.Proofs.Ytgmcniflandmmaa
open Go.RowKit
set_option linter.unusedVariables false
set_option linter.unusedSimpArgs false
set_option maxRecDepth 100000 in
set_option maxHeartbeats 4000000 in
theorem rfirstfit_any (ad : Option Addr) (n cap : Nat) (l : List Int) (c : Int) (w : World) (hl : Lf inC w ad l) (hn : n = l.length) (hs : n ≤ 9223372036854775807) :
    Calls Try.prog 15 #[.slice ad n cap, .int .i64 c] w (RetLL 22 3 1 naC w (ffU l c (List.range l.length))) := by
  have HL := Lib.hid hl
  have HN := Lib.hid hn
  have HSS := Lib.hid hs
  have HU := Lib.hid (show ffU l c (List.range l.length) = _ by unfold ffU; rfl)
  have HV := Lib.hid (@valU_ok l c)
  clear hl hn hs
  go_enter Try.func15, Try.ntmps15
  go_wp2_with fail
  refine (rvalid_p ad n cap l c w HL.out HN.out HSS.out).mono ?_
  rintro e X1 ⟨rfl, rfl⟩
  obtain ⟨V, hV⟩ : ∃ V, V = valU l c := ⟨_, rfl⟩
  rw [← hV] at HU HV ⊢
  clear hV
  by_cases hv : V = 0
  rotate_left
  · have hv2 := ne_t hv
    have HF := Lib.hid (HU.out.trans (if_neg hv))
    go_wp2
    go_ret2
    refine ⟨.slice none 0 0, by rw [HF.out]; rfl, by rw [HF.out]; exact Nn.nil _ _ _ _ _ _, Below.refl _ _⟩
  have hv2 := ne_f hv
  obtain ⟨hl512, hok⟩ := HV.out hv
  replace HU := Lib.hid (HU.out.trans (if_pos hv))
  clear hv HV
  have hn512 : n ≤ 512 := by rw [HN.out]; exact hl512
  have HOK := Lib.hid hok
  have HL512 := Lib.hid hl512
  clear hok hl512
  go_wp2_with fail
  go_loopg [7, 8] n (fun gk v7 v8 wx => ∃ (i : Nat) (v : Value), v8 = .int .i64 i ∧ v7 = v ∧ i + gk = n ∧ Hid (OfN wx X1.heap.size v (List.range i)) ∧ Hid (Below X1.heap.size X1 wx))
  case atStart => exact ⟨0, _, rfl, rfl, by omega, Lib.hid (Of.nil _ _ _ _ _), Lib.hid (Below.refl _ _)⟩
  case round =>
    obtain ⟨i, v, rfl, rfl, hi, HO, HB⟩ := hrel
    cases gk with
    | succ gk0 =>
      have hin : i < n := by omega
      have hlen : (List.range i).length + 1 ≤ 10000000 := by rw [List.length_range]; omega
      have HLI := Lib.hid (Lf.cell (cc := naC) (x := i) (heap_alloc_new wr (.cells #[.int .i64 (i : Int)] 3)) rfl)
      have HO1 := Lib.hid (HO.out.below (co_box1 wr (.cells #[.int .i64 (i : Int)] 3)))
      have HZ1 := Lib.hid (show X1.heap.size ≤ (wr.alloc (.cells #[.int .i64 (i : Int)] 3)).heap.size by rw [World.size_alloc]; have := HB.out.size; omega)
      have HB1 := Lib.hid (HB.out.alloc HB.out.size (.cells #[.int .i64 (i : Int)] 3))
      go_wp2_with (at_builtin; refine wpList_append_f typI celN rfl (.tmp 21) (.tmp 23) rfl X1.heap.size _ (List.range i) rfl HO1.out (some ⟨wr.heap.size, 0, none⟩) 1 1 [i] (fun h => by cases h) HLI.out rfl rfl hlen HZ1.out ?_; intro v1 w1 ho1 hg1; rw [← List.range_succ] at ho1; have HO2 := Lib.hid ho1; have HB3 := Lib.hid (HB1.out.grown hg1 HZ1.out (fun k hk => (HO1.out.lt k hk).1)); clear ho1 hg1)
      go_roundg gk0
      case rel => exact ⟨i + 1, _, by go_num, rfl, by omega, HO2, HB3⟩
      case measure => omega
    | zero =>
    obtain rfl : n = i := by omega
    clear hi
    rw [HN.out] at HO
    obtain ⟨ado, capo, ev, hlo, -⟩ := HO.out.read
    rw [List.length_range, ← HN.out] at ev
    subst ev
    have HLO := Lib.hid hlo
    clear hlo
    have HR := Lib.hid (rfit_any (List.range l.length) ad n cap ado n capo l c wr (HL.out.below HB.out) HN.out HLO.out (by rw [List.length_range]; exact HN.out) HOK.out HL512.out (fun i hi => List.mem_range.1 hi) List.length_range)
    go_wp2_with fail
    refine HR.out.mono ?_
    rintro e w' ⟨v, rfl, hv, hb⟩
    have HB2 := Lib.hid (HB.out.trans (hb.mono HB.out.size))
    have HV := Lib.hid (hv.mono HB.out.size)
    clear HR hb hv
    go_wp2_with fail
    go_ret2
    exact ⟨v, by rw [HU.out]; rfl, by rw [HU.out]; exact HV.out, HB2.out⟩
theorem ofSz_snoc (L : List Int) (s : Nat) (k : Nat) : ((List.range (k + 1)).filter fun i => szL L i == (s : Int)) = ((List.range k).filter fun i => szL L i == (s : Int)) ++ (if szL L k = (s : Int) then [k] else []) := by
  rw [List.range_succ, List.filter_append]
  congr 1
  by_cases h : szL L k = (s : Int)
  · simp [h]
  · simp [h]
/-- what stands in the order above s: from the greatest size down -/
theorem ordF_top (L : List Int) (P : List Nat) (s : Nat) (h : P ++ ordF L (s + 1) = ordD L) : (P ++ ofSz L s) ++ ordF L s = ordD L := by
  rw [← h, ordF, List.append_assoc]
set_option maxRecDepth 100000 in
set_option maxHeartbeats 4000000 in
theorem rdecreasing_any (ad : Option Addr) (n cap : Nat) (l : List Int) (c : Int) (w : World) (hl : Lf inC w ad l) (hn : n = l.length) (hs : n ≤ 9223372036854775807) :
    Calls Try.prog 17 #[.slice ad n cap, .int .i64 c] w (RetLL 22 3 1 naC w (ffU l c (ordX l c))) := by
  have HL := Lib.hid hl
  have HN := Lib.hid hn
  have HSS := Lib.hid hs
  have HU := Lib.hid (show ffU l c (ordX l c) = _ by unfold ffU; rfl)
  have HV := Lib.hid (@valU_ok l c)
  have HXO := Lib.hid (@ordX_ok l c)
  clear hl hn hs
  go_enter Try.func17, Try.ntmps17
  go_wp2_with fail
  refine (rvalid_p ad n cap l c w HL.out HN.out HSS.out).mono ?_
  rintro e X1 ⟨rfl, rfl⟩
  obtain ⟨V, hV⟩ : ∃ V, V = valU l c := ⟨_, rfl⟩
  rw [← hV] at HU HV HXO ⊢
  clear hV
  by_cases hv : V = 0
  rotate_left
  · have hv2 := ne_t hv
    have HF := Lib.hid (HU.out.trans (if_neg hv))
    go_wp2
    go_ret2
    refine ⟨.slice none 0 0, by rw [HF.out]; rfl, by rw [HF.out]; exact Nn.nil _ _ _ _ _ _, Below.refl _ _⟩
  have hv2 := ne_f hv
  obtain ⟨hl512, hok⟩ := HV.out hv
  have HX := Lib.hid (HXO.out hv)
  replace HU := Lib.hid (HU.out.trans ((if_pos hv).trans (by rw [HX.out])))
  clear hv HV HXO HX
  have hn512 : n ≤ 512 := by rw [HN.out]; exact hl512
  have HOK := Lib.hid hok
  have HL512 := Lib.hid hl512
  have HDL := Lib.hid (show (ordD l).length = l.length by rw [(ordD_perm hok.2).length_eq, List.length_range])
  clear hok hl512
  go_wp2_with fail
  go_loopg [7, 8] 4097 (fun gk v7 v8 wx => ∃ (v : Value) (P : List Nat), v8 = .int .i64 ((gk : Int) - 1) ∧ v7 = v ∧ gk ≤ 4097 ∧ Hid (P ++ ordF l gk = ordD l) ∧ Hid (OfN wx X1.heap.size v P) ∧ Hid (Below X1.heap.size X1 wx))
  case atStart => exact ⟨_, [], by go_num, rfl, by omega, Lib.hid (by rw [List.nil_append]; rfl), Lib.hid (Of.nil _ _ _ _ _), Lib.hid (Below.refl _ _)⟩
  case round =>
    obtain ⟨v, P, rfl, rfl, hgk, HP, HO, HB⟩ := hrel
    cases gk with
    | zero =>
      have HPE := Lib.hid (show P = ordD l by rw [← HP.out, ordF, List.append_nil])
      rw [HPE.out] at HO
      obtain ⟨ado, capo, rfl, hlo, -⟩ := HO.out.read
      have HLO := Lib.hid hlo
      clear hlo
      have HR := Lib.hid (rfit_any (ordD l) ad n cap ado (ordD l).length capo l c wr (HL.out.below HB.out) HN.out HLO.out rfl HOK.out HL512.out (fun i hi => (ordF_mem.1 hi).1) HDL.out)
      go_wp2_with fail
      refine HR.out.mono ?_
      rintro e w' ⟨v, rfl, hv, hb⟩
      have HB2 := Lib.hid (HB.out.trans (hb.mono HB.out.size))
      have HV := Lib.hid (hv.mono HB.out.size)
      clear HR hb hv
      go_wp2_with fail
      go_ret2
      exact ⟨v, by rw [HU.out]; rfl, by rw [HU.out]; exact HV.out, HB2.out⟩
    | succ s =>
      have hs1 : ((s + 1 : Nat) : Int) - 1 = (s : Int) := by omega
      rw [hs1]
      clear hs1
      have HPT := Lib.hid (ordF_top l P s HP.out)
      have HPLN := Lib.hid (show P.length + (ordF l (s + 1)).length ≤ 512 by have h := congrArg List.length HP.out; rw [List.length_append, HDL.out] at h; have := HL512.out; omega)
      clear HP
      have hs4 : s ≤ 4096 := by omega
      go_wp2_with fail
      go_loopg [7, 9] n (fun g2 v7 v9 wx => ∃ (k : Nat) (v : Value), v9 = .int .i64 k ∧ v7 = v ∧ k + g2 = n ∧ Hid (OfN wx X1.heap.size v (P ++ (List.range k).filter fun i => szL l i == (s : Int))) ∧ Hid (Below X1.heap.size X1 wx))
      case atStart => exact ⟨0, _, rfl, rfl, by omega, by simpa using HO, HB⟩
      case round =>
        obtain ⟨k, v, rfl, rfl, hk, HO2, HB2⟩ := hrel
        clear HO HB
        cases gk with
        | zero =>
          obtain rfl : n = k := by omega
          have HO3 : Hid (OfN wr X1.heap.size u7 (P ++ ofSz l s)) := Lib.hid (by unfold ofSz; rw [← HN.out]; exact HO2.out)
          go_wp2_with fail
          go_roundg s
          case rel => exact ⟨_, P ++ ofSz l s, by go_num, rfl, by omega, HPT, HO3, HB2⟩
          case measure => omega
        | succ gk0 =>
          have hkn : k < n := by omega
          have hkl : k < l.length := by have := HN.out; omega
          obtain ⟨b, off, rfl, hlt, q⟩ := (HL.out.below HB2.out).get celI hkl
          have q0 : wr.cell? ⟨b, off + k, none⟩ = some (.int .i64 (szL l k)) := by rw [szL_get hkl]; simpa using q 0 _ (by decide) rfl
          clear q hlt
          have HSN := Lib.hid (ofSz_snoc l s k)
          obtain ⟨E, hE⟩ : ∃ E, E = P ++ (List.range k).filter fun i => szL l i == (s : Int) := ⟨_, rfl⟩
          have HEL := Lib.hid (show E.length ≤ 1024 by
            rw [hE, List.length_append]
            have h1 := HPLN.out
            have h2 := List.length_filter_le (fun i => szL l i == (s : Int)) (List.range k)
            rw [List.length_range] at h2
            omega)
          have HEE := Lib.hid hE
          rw [← hE] at HO2
          clear hE
          generalize szL l k = x at *
          by_cases hx : x = (s : Int)
          · have hx2 := eq_t hx
            have HE1 : Hid (P ++ ((List.range (k + 1)).filter fun i => szL l i == (s : Int)) = E ++ [k]) := Lib.hid (by rw [HSN.out, if_pos hx, ← List.append_assoc, ← HEE.out])
            clear hx HSN
            have hlen : E.length + 1 ≤ 10000000 := by have := HEL.out; omega
            have HLI := Lib.hid (Lf.cell (cc := naC) (x := k) (heap_alloc_new wr (.cells #[.int .i64 (k : Int)] 3)) rfl)
            have HO1 := Lib.hid (HO2.out.below (co_box1 wr (.cells #[.int .i64 (k : Int)] 3)))
            have HZ1 := Lib.hid (show X1.heap.size ≤ (wr.alloc (.cells #[.int .i64 (k : Int)] 3)).heap.size by rw [World.size_alloc]; have := HB2.out.size; omega)
            have HB1 := Lib.hid (HB2.out.alloc HB2.out.size (.cells #[.int .i64 (k : Int)] 3))
            go_wp2_with (at_builtin; refine wpList_append_f typI celN rfl (.tmp 32) (.tmp 34) rfl X1.heap.size _ E rfl HO1.out (some ⟨wr.heap.size, 0, none⟩) 1 1 [k] (fun h => by cases h) HLI.out rfl rfl hlen HZ1.out ?_; intro v1 w1 ho1 hg1; rw [← HE1.out] at ho1; have HO3 := Lib.hid ho1; have HB3 := Lib.hid (HB1.out.grown hg1 HZ1.out (fun k hk => (HO1.out.lt k hk).1)); clear ho1 hg1)
            go_roundg gk0
            case rel => exact ⟨k + 1, _, by go_num, rfl, by omega, HO3, HB3⟩
            case measure => omega
          · have hx2 := eq_f hx
            have HE1 : Hid (P ++ ((List.range (k + 1)).filter fun i => szL l i == (s : Int)) = E) := Lib.hid (by rw [HSN.out, if_neg hx, List.append_nil, ← HEE.out])
            clear hx HSN
            rw [← HE1.out] at HO2
            go_wp2_with fail
            go_roundg gk0
            case rel => exact ⟨k + 1, _, by go_num, rfl, by omega, HO2, HB2⟩
            case measure => omega
end Go.Proofs.Ytgmcniflandmmaa
