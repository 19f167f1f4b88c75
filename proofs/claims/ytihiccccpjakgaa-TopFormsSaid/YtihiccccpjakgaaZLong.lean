/-
  The program's longest: the longest copy among the positions that are tried.
-/
import Derived.Test.YtihiccccpjakgaaZAdd
import Derived.Test.YtihiccccpjakgaaZPackM
namespace Go.Proofs.Ytihiccccpjakgaa
open Go.RowKit
set_option linter.unusedVariables false
set_option linter.unusedSimpArgs false
attribute [local irreducible] kyA
theorem ints_slice {w : World} {base : Nat} {v : Value} (L : List Nat) (n : Nat) (hn : L.length = n) (h : w.ownsInts base 3 .i64 v (L.map fun p : Nat => (p : Int))) :
    (v = .slice none 0 0 ∧ n = 0) ∨ ∃ g cap, v = .slice (some ⟨g, 0, none⟩) n cap ∧ n ≤ cap ∧ cap ≤ maxLen ∧ g < w.heap.size ∧ ∀ j (hj : j < L.length), w.cell? ⟨g, j, none⟩ = some (.int .i64 (L[j] : Nat)) := by
  have hz : (L.map fun p : Nat => (p : Int)).length = n := by rw [List.length_map, hn]
  obtain ⟨⟨_, h2⟩, _⟩ := h
  rw [hz] at h2
  rcases h2 with ⟨rfl, h0⟩ | ⟨g, cap, cur, rfl, hB, hg, hle, hm, hsz, htake⟩
  · exact .inl ⟨rfl, h0⟩
  · refine .inr ⟨g, cap, rfl, hle, hm, (Array.getElem?_eq_some_iff.1 hg).1, fun j hj => ?_⟩
    rw [cell_of_row w g j cur 3 (0, 0) hg]
    have h1 : (cur.toList.take (n * 1))[j]? = some (.int .i64 (L[j] : Nat)) := by rw [htake]; simp [hj]
    rw [List.getElem?_take_of_lt (by omega)] at h1
    simpa using h1
set_option maxRecDepth 100000 in
set_option maxHeartbeats 1000000 in
theorem longest_any (ad : Option Addr) (cap : Nat) (xs : List UInt8) (bm at_ : Nat) (w : World) (hl : Lie w ad xs) (hn : xs.length ≤ cap) (hs : xs.length ≤ 1000000) (hp : at_ < xs.length) (hg : Grp w bm xs at_) :
    Calls Try.prog 36 #[.agg #[.slice ad xs.length cap, .map (some bm)], .int .i64 at_] w fun e w' => e = .returned (.tuple #[.int .i64 ((lng xs at_).1 : Nat), .int .i64 ((lng xs at_).2 : Nat)]) ∧ Below w.heap.size w w' := by
  have h0 : Below w.heap.size w (w.alloc (.cells #[.slice ad xs.length cap, .map (some bm)] 63)) := (Below.refl _ _).alloc (Nat.le_refl _) _
  have hbx : Bx (w.alloc (.cells #[.slice ad xs.length cap, .map (some bm)] 63)) w.heap.size (.slice ad xs.length cap) (.map (some bm)) := heap_new _ _
  have HLW := Lib.hid hl
  have HKY := Lib.hid (fun W (h : Below w.heap.size w W) => key_any ad cap xs (some bm) at_ W (hl.below h rfl) hn hs hp)
  have HCM := Lib.hid (fun W (p : Nat) (h : Below w.heap.size w W) (hpq : p < at_) => common_any ad cap xs (some bm) p at_ W (hl.below h rfl) hn hs hpq (by omega))
  have hky := kyF_lt ((xs.drop at_).take 4)
  have e : kyF ((xs.drop at_).take 4) = kyA xs at_ := by unfold kyA; rfl
  rw [e] at hky
  obtain ⟨K, hK⟩ : ∃ K, K = kyA xs at_ := ⟨_, rfl⟩
  rw [← hK] at hky HKY
  have HKE := Lib.hid hK
  have hat : at_ ≤ 1000000 := by omega
  obtain ⟨w1, hw1⟩ : ∃ w1, w.alloc (.cells #[.slice ad xs.length cap, .map (some bm)] 63) = w1 := ⟨_, rfl⟩
  have hgd := hg.below h0
  have HD := Lib.hid (Below.drew (Below.refl w1.heap.size w1))
  rw [hw1] at h0 hbx hgd
  have HZ := Lib.hid (show w1.heap.size = w.heap.size + 1 by rw [← hw1]; simp)
  obtain ⟨g, hgg⟩ : ∃ g, w.heap.size = g := ⟨_, rfl⟩
  have HB0 := Lib.hid h0
  have HXD : Hid (Bx w1.drew g (.slice ad xs.length cap) (.map (some bm))) := Lib.hid (hgg ▸ hbx)
  have HGD := Lib.hid (hgd.below HD.out)
  have HG0 := Lib.hid hgg
  have HBD := Lib.hid (h0.trans (HD.out.mono h0.size))
  have hmt := fun p (h : p ∈ tried xs at_) => mem_tried h
  have HMT := Lib.hid hmt
  go_enter Try.func36, Try.ntmps36
  go_wp2_with fail
  clear hl hg hbx h0 e hw1 hgd hK hgg hmt
  refine wp_region_noPanic ?_
  refine wp_region_held_drew (S := fun X => Bx X g (.slice ad xs.length cap) (.map (some bm))) (by kernel_rfl) (HXD.out) (fun hS0 => ?_)
  refine held_take (i := 0) (v := ?_) rfl (by kernel_rfl) (by kernel_rfl) (by kernel_rfl) (fun _ _ _ h => h) (by rfl) ?_ (by assumption) ?_
  rotate_left
  · intro X hSX
    try dsimp only at hSX
    go_simp <;> with_reducible rfl
  simp only [Act.put, List.setIfInBounds_toArray, List.set_cons_zero, List.set_cons_succ]
  refine held_take (i := 1) (v := ?_) rfl (by kernel_rfl) (by kernel_rfl) (by kernel_rfl) (fun _ _ _ h => h) (by rfl) ?_ (by assumption) ?_
  rotate_left
  · intro X hSX
    try dsimp only at hSX
    have hcell := hSX.c1
    go_simp <;> with_reducible rfl
  simp only [Act.put, List.setIfInBounds_toArray, List.set_cons_zero, List.set_cons_succ]
  refine held_take (i := 2) (v := ?_) rfl (by kernel_rfl) (by kernel_rfl) (by kernel_rfl) (fun _ _ _ h => h) (by rfl) ?_ (by assumption) ?_
  rotate_left
  · intro X hSX
    try dsimp only at hSX
    have hcell := hSX.c1
    have hcell0 := hSX.c0
    go_simp <;> with_reducible rfl
  simp only [Act.put, List.setIfInBounds_toArray, List.set_cons_zero, List.set_cons_succ]
  refine held_take (i := 3) (v := ?_) rfl (by kernel_rfl) (by kernel_rfl) (by kernel_rfl) (fun _ _ _ h => h) (by rfl) ?_ (by assumption) ?_
  rotate_left
  · intro X hSX
    try dsimp only at hSX
    go_simp <;> with_reducible rfl
  simp only [Act.put, List.setIfInBounds_toArray, List.set_cons_zero, List.set_cons_succ]
  refine held_call (i := 4) rfl (by kernel_rfl) (by rfl) (fun K' hK' => ?_)
  go_simp
  refine (HKY.out _ HBD.out).mono ?_
  rintro e w2 ⟨rfl, hb⟩
  have HX2 := Lib.hid (HXD.out.below hb)
  have HG2 := Lib.hid (HGD.out.below hb)
  have HB2 := Lib.hid (HBD.out.trans (hb.mono HBD.out.size))
  clear hb
  refine held_go hK' (HX2.out) ?_
  try simp only [Act.put, List.setIfInBounds_toArray, List.set_cons_zero, List.set_cons_succ]
  refine held_call (i := 5) rfl (by kernel_rfl) (by rfl) (fun K' hK' => ?_)
  refine wp_lookup_g (.tmp 11) (.tmp 14) rfl bm at_ K xs rfl HG2.out (by omega) rfl hky ?_
  intro v hoi hback
  rw [HKE.out] at hoi
  obtain ⟨hL, hh⟩ : ∃ hL, hL = hist xs at_ (kyA xs at_) := ⟨_, rfl⟩
  have htr : tried xs at_ = hL.drop (hL.length - 32) := by unfold tried; rw [← hh]
  have hll : hL.length ≤ at_ := by rw [hh]; exact hist_len ..
  rw [← hh] at hoi
  obtain ⟨n, hLn⟩ : ∃ n, hL.length = n := ⟨_, rfl⟩
  have hv := ints_slice hL n hLn hoi
  rw [hLn] at htr hll
  have HTR := Lib.hid htr
  have HLN := Lib.hid hLn
  have HLNG := Lib.hid (show lng xs at_ = (tried xs at_).foldl (lngS xs at_) (0, 0) from rfl)
  clear hoi hback htr hh hLn
  refine held_go hK' (HX2.out) ?_
  try simp only [Act.put, List.setIfInBounds_toArray, List.set_cons_zero, List.set_cons_succ]
  refine held_take (i := 6) (v := ?_) rfl (by kernel_rfl) (by kernel_rfl) (by kernel_rfl) (fun _ _ _ h => h) (by rfl) ?_ (by assumption) ?_
  rotate_left
  · intro X hSX
    try dsimp only at hSX
    go_simp <;> with_reducible rfl
  simp only [Act.put, List.setIfInBounds_toArray, List.set_cons_zero, List.set_cons_succ]
  refine wpAnyH_done (by kernel_rfl) ?_ _
  refine NoPanic.normal ?_
  rcases hv with ⟨rfl, rfl⟩ | ⟨gr, cr, rfl, hle, hcm, hgr, hcell⟩
  · have hL0 : hL = [] := List.eq_nil_of_length_eq_zero HLN.out
    have hend : lng xs at_ = (0, 0) := by rw [HLNG.out, HTR.out, hL0]; rfl
    have HE := Lib.hid hend
    clear hend hL0
    go_wp2
    refine wp_loop_rounds 1 ?_
    rw [rounds_succ]
    go_wp2
    go_ret2
    exact ⟨by rw [HE.out]; rfl, HB2.out⟩
  · by_cases h32 : n ≤ 32
    · have htl : (tried xs at_).length = n := by rw [HTR.out, List.length_drop, HLN.out]; omega
      have htg : ∀ i (h : i < n) (h2 : i < (tried xs at_).length) (h3 : 0 + i < hL.length), (tried xs at_)[i] = hL[0 + i] := by
        intro i h h2 h3
        have := List.getElem_drop (xs := hL) (i := n - 32) (j := i) (h := by rw [← HTR.out]; exact h2)
        simp only [show n - 32 = 0 by omega] at this
        simp only [HTR.out, show n - 32 = 0 by omega]
        exact this
      have HTL := Lib.hid htl
      have HTG := Lib.hid htg
      have HCELL := Lib.hid hcell
      have HGR := Lib.hid hgr
      clear htl htg hcell hgr
      go_wp2
      go_loopw [4, 5, 23] (fun u4 u5 u23 wr => ∃ i s d : Nat, u4 = .int .i64 s ∧ u5 = .int .i64 d ∧ u23 = .int .i64 i ∧ i ≤ n ∧ Hid (((tried xs at_).take i).foldl (lngS xs at_) (0, 0) = (s, d)) ∧ Hid (Below w2.heap.size w2 wr)) (fun _ _ u23 _ => n - (intOf u23).toNat)
      case atStart => exact ⟨0, 0, 0, rfl, rfl, rfl, by omega, Lib.hid rfl, Lib.hid (.refl _ _)⟩
      case round =>
        obtain ⟨i, s, d, rfl, rfl, rfl, hi, hf, hb⟩ := hrel
        by_cases hlt : i < n
        · have h3 : 0 + i < hL.length := by rw [HLN.out]; omega
          have h2 : i < (tried xs at_).length := by rw [HTL.out]; exact hlt
          obtain ⟨p, hp0⟩ : ∃ p, hL[0 + i] = p := ⟨_, rfl⟩
          have htp := (HTG.out i hlt h2 h3).trans hp0
          have hpa : p < at_ := HMT.out p (by rw [← htp]; exact List.getElem_mem h2)
          have hcl := HCELL.out (0 + i) h3
          rw [hp0] at hcl
          have hc : wr.cell? ⟨gr, i, none⟩ = some (.int .i64 (p : Nat)) := (hb.out.cell (p := ⟨gr, i, none⟩) HGR.out).trans (by first | exact hcl | simpa using hcl)
          have hxr := HX2.out.below hb.out
          have hc0 := hxr.c0
          have hc1 := hxr.c1
          obtain ⟨m, hm⟩ : ∃ m, lcp (xs.drop p) (xs.drop at_) = m := ⟨_, rfl⟩
          have hcom := HCM.out wr p (HB2.out.trans (hb.out.mono HB2.out.size)) hpa
          rw [hm] at hcom
          have HCOM := Lib.hid hcom
          obtain ⟨q, hq⟩ : ∃ q : Nat, (at_ : Int) - (p : Int) = q := ⟨at_ - p, by omega⟩
          have hq2 : at_ - p = q := by omega
          have hsn : ((tried xs at_).take (i + 1)).foldl (lngS xs at_) (0, 0) = if s ≤ m then (m, q) else (s, d) := by
            rw [List.take_succ_eq_append_getElem h2, lngS_snoc, hf.out, htp]
            unfold lngS
            rw [hm, hq2]
          have HSN := Lib.hid hsn
          clear h3 h2 hp0 htp hcl hxr hm hcom hq2 hsn
          by_cases hsm : s ≤ m
          · rw [if_pos hsm] at HSN
            go_wp2_with fail
            refine HCOM.out.mono ?_
            rintro e w3 ⟨rfl, hb3⟩
            have HB3 := Lib.hid (hb.out.trans (hb3.mono hb.out.size))
            clear hb3 hc hc0 hc1
            go_wp2
            go_roundw
            case rel => exact ⟨i + 1, m, q, rfl, rfl, by rw [Int.natCast_add]; rfl, by omega, HSN, HB3⟩
            case measure => simp [intOf]; omega
          · rw [if_neg hsm] at HSN
            go_wp2_with fail
            refine HCOM.out.mono ?_
            rintro e w3 ⟨rfl, hb3⟩
            have HB3 := Lib.hid (hb.out.trans (hb3.mono hb.out.size))
            clear hb3 hc hc0 hc1
            go_wp2
            go_roundw
            case rel => exact ⟨i + 1, s, d, rfl, rfl, by rw [Int.natCast_add]; rfl, by omega, HSN, HB3⟩
            case measure => simp [intOf]; omega
        · have hend : lng xs at_ = (s, d) := by
            rw [HLNG.out, ← hf.out, List.take_of_length_le (by rw [HTL.out]; omega)]
          have HE := Lib.hid hend
          clear hend
          go_wp2
          go_ret2
          exact ⟨by rw [HE.out]; rfl, HB2.out.trans (hb.out.mono HB2.out.size)⟩
    · have htl : (tried xs at_).length = (n - (n - 32)) := by rw [HTR.out, List.length_drop, HLN.out]
      have htg : ∀ i (h : i < (n - (n - 32))) (h2 : i < (tried xs at_).length) (h3 : (n - 32) + i < hL.length), (tried xs at_)[i] = hL[(n - 32) + i] := by
        intro i h h2 h3
        have := List.getElem_drop (xs := hL) (i := n - 32) (j := i) (h := by rw [← HTR.out]; exact h2)
        simp only [HTR.out]
        exact this
      have HTL := Lib.hid htl
      have HTG := Lib.hid htg
      have HCELL := Lib.hid hcell
      have HGR := Lib.hid hgr
      clear htl htg hcell hgr
      go_wp2
      go_loopw [4, 5, 23] (fun u4 u5 u23 wr => ∃ i s d : Nat, u4 = .int .i64 s ∧ u5 = .int .i64 d ∧ u23 = .int .i64 i ∧ i ≤ (n - (n - 32)) ∧ Hid (((tried xs at_).take i).foldl (lngS xs at_) (0, 0) = (s, d)) ∧ Hid (Below w2.heap.size w2 wr)) (fun _ _ u23 _ => (n - (n - 32)) - (intOf u23).toNat)
      case atStart => exact ⟨0, 0, 0, rfl, rfl, rfl, by omega, Lib.hid rfl, Lib.hid (.refl _ _)⟩
      case round =>
        obtain ⟨i, s, d, rfl, rfl, rfl, hi, hf, hb⟩ := hrel
        by_cases hlt : i < (n - (n - 32))
        · have h3 : (n - 32) + i < hL.length := by rw [HLN.out]; omega
          have h2 : i < (tried xs at_).length := by rw [HTL.out]; exact hlt
          obtain ⟨p, hp0⟩ : ∃ p, hL[(n - 32) + i] = p := ⟨_, rfl⟩
          have htp := (HTG.out i hlt h2 h3).trans hp0
          have hpa : p < at_ := HMT.out p (by rw [← htp]; exact List.getElem_mem h2)
          have hcl := HCELL.out ((n - 32) + i) h3
          rw [hp0] at hcl
          have hc : wr.cell? ⟨gr, n - 32 + i, none⟩ = some (.int .i64 (p : Nat)) := (hb.out.cell (p := ⟨gr, n - 32 + i, none⟩) HGR.out).trans (by first | exact hcl | simpa using hcl)
          have hxr := HX2.out.below hb.out
          have hc0 := hxr.c0
          have hc1 := hxr.c1
          obtain ⟨m, hm⟩ : ∃ m, lcp (xs.drop p) (xs.drop at_) = m := ⟨_, rfl⟩
          have hcom := HCM.out wr p (HB2.out.trans (hb.out.mono HB2.out.size)) hpa
          rw [hm] at hcom
          have HCOM := Lib.hid hcom
          obtain ⟨q, hq⟩ : ∃ q : Nat, (at_ : Int) - (p : Int) = q := ⟨at_ - p, by omega⟩
          have hq2 : at_ - p = q := by omega
          have hsn : ((tried xs at_).take (i + 1)).foldl (lngS xs at_) (0, 0) = if s ≤ m then (m, q) else (s, d) := by
            rw [List.take_succ_eq_append_getElem h2, lngS_snoc, hf.out, htp]
            unfold lngS
            rw [hm, hq2]
          have HSN := Lib.hid hsn
          clear h3 h2 hp0 htp hcl hxr hm hcom hq2 hsn
          by_cases hsm : s ≤ m
          · rw [if_pos hsm] at HSN
            go_wp2_with fail
            refine HCOM.out.mono ?_
            rintro e w3 ⟨rfl, hb3⟩
            have HB3 := Lib.hid (hb.out.trans (hb3.mono hb.out.size))
            clear hb3 hc hc0 hc1
            go_wp2
            go_roundw
            case rel => exact ⟨i + 1, m, q, rfl, rfl, by rw [Int.natCast_add]; rfl, by omega, HSN, HB3⟩
            case measure => simp [intOf]; omega
          · rw [if_neg hsm] at HSN
            go_wp2_with fail
            refine HCOM.out.mono ?_
            rintro e w3 ⟨rfl, hb3⟩
            have HB3 := Lib.hid (hb.out.trans (hb3.mono hb.out.size))
            clear hb3 hc hc0 hc1
            go_wp2
            go_roundw
            case rel => exact ⟨i + 1, s, d, rfl, rfl, by rw [Int.natCast_add]; rfl, by omega, HSN, HB3⟩
            case measure => simp [intOf]; omega
        · have hend : lng xs at_ = (s, d) := by
            rw [HLNG.out, ← hf.out, List.take_of_length_le (by rw [HTL.out]; omega)]
          have HE := Lib.hid hend
          clear hend
          go_wp2
          go_ret2
          exact ⟨by rw [HE.out]; rfl, HB2.out.trans (hb.out.mono HB2.out.size)⟩
end Go.Proofs.Ytihiccccpjakgaa
