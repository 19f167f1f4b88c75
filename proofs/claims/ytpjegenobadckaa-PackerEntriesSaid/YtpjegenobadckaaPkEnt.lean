/-
  The program's Entries.
-/
import Derived.Test.YtpjegenobadckaaPkPart
import Derived.Test.YtpjegenobadckaaPart
import Derived.Test.YtpjegenobadckaaLbOper
namespace Go.Proofs.Ytpjegenobadckaa
open Go.RowKit
set_option linter.unusedVariables false
set_option linter.unusedSimpArgs false
def u8C (x : UInt8) : List Value := [.int .u8 (x.toNat : Int)]
theorem celU : Cel u8C 1 := ⟨fun _ => rfl, fun x u hu => by simp [u8C] at hu; subst hu; rfl, by decide⟩
theorem typU : Typ Try.prog 5 47 1 1 (.int .u8 0) := ⟨by kernel_rfl, Try.underlying47, rfl, by decide⟩
theorem u8_flat (l : List UInt8) : l.flatMap u8C = cellsU l := by
  induction l with
  | nil => rfl
  | cons x l ih => rw [List.flatMap_cons, ih]; rfl
theorem of_own_u {w : World} {B : Nat} {v : Value} {l : List UInt8} (h : Of 5 1 u8C w B v l) : Own w B v l := by
  unfold Of at h
  rw [u8_flat] at h
  exact h
theorem lf_lie {w : World} {ad : Option Addr} {l : List UInt8} (h : Lie w ad l) : Lf u8C w ad l := by
  rcases h.at_ with h0 | ⟨b, off, e, hlt, hc⟩
  · exact .inl (by rw [h0]; rfl)
  · refine .inr ⟨b, off, e, hlt, fun j u hu => ?_⟩
    rw [u8_flat] at hu
    have hj : j < l.length := by
      have := (List.getElem?_eq_some_iff.1 hu).1
      rwa [cellsU_length] at this
    rw [hc j hj]
    rw [cellsU_get l j hj] at hu
    exact hu
/-- the bytes of a piece -/
def partP (data : List (List UInt8)) (p : Pc) : List UInt8 := ((datP data p).drop p.o.toNat).take p.n.toNat
def entP (ids vs : List Int) (data : List (List UInt8)) (p : Pc) : Ent := ⟨ids.getD p.f.toNat 0, vs.getD p.f.toNat 0, p.o, p.n, crc (partP data p)⟩
/-- a number that is one -/
def numI (x : Int) : Prop := 1 ≤ x ∧ x ≤ 1125899906842624
open Classical in
/-- what Entries answers -/
noncomputable def entU (l : List Pc) (ids vs : List Int) (data : List (List UInt8)) : List Ent × List UInt8 × Int :=
  if ids.length ≠ data.length ∨ vs.length ≠ data.length then ([], [], 8) else if ¬ ((∀ x ∈ ids, numI x) ∧ ∀ x ∈ vs, numI x) then ([], [], 8) else if 64 < l.length then ([], [], 6) else
    if ¬ ∀ p ∈ l, inP data p then ([], [], 7) else (l.map (entP ids vs data), l.flatMap (partP data), 0)
def RetEB (w : World) (r : List Ent × List UInt8 × Int) (e : Ending) (w' : World) : Prop := ∃ v u, e = .returned (.tuple #[v, u, .int .i64 r.2.2]) ∧ Of 54 5 enC w' w.heap.size v r.1 ∧ Of 5 1 u8C w' w.heap.size u r.2.1 ∧ Below w.heap.size w w'
theorem ub_ne : 5 ≠ 54 := by decide
theorem num_any {l : List Int} : (l.any fun x => !inB x 1 1125899906842624) = false ↔ ∀ x ∈ l, numI x := by
  rw [List.any_eq_false]
  constructor
  · intro h s hs
    have := h s hs
    simp only [Bool.not_eq_true', Bool.not_eq_false] at this
    exact inB_iff.1 this
  · intro h s hs
    simp only [Bool.not_eq_true', Bool.not_eq_false]
    exact inB_iff.2 (h s hs)
theorem in_any {l : List Pc} {data : List (List UInt8)} : (l.any fun p => !inPB data p) = false ↔ ∀ p ∈ l, inP data p := by
  rw [List.any_eq_false]
  constructor
  · intro h s hs
    have := h s hs
    simp only [Bool.not_eq_true', Bool.not_eq_false] at this
    exact inPB_iff.1 this
  · intro h s hs
    simp only [Bool.not_eq_true', Bool.not_eq_false]
    exact inPB_iff.2 (h s hs)
theorem parts_len {l : List Pc} {data : List (List UInt8)} (hd : ∀ d ∈ data, d.length ≤ 100000) : (l.flatMap (partP data)).length ≤ 100000 * l.length := by
  induction l with
  | nil => simp
  | cons x l ih =>
    rw [List.flatMap_cons, List.length_append, List.length_cons]
    have h1 : (partP data x).length ≤ 100000 := by
      unfold partP
      rw [List.length_take, List.length_drop]
      have h2 : (datP data x).length ≤ 100000 := by
        unfold datP
        by_cases h : x.f.toNat < data.length
        · simp [h]; exact hd _ (List.getElem_mem h)
        · simp [h]
      omega
    omega
attribute [local irreducible] inB inPB
set_option maxRecDepth 100000 in
set_option maxHeartbeats 8000000 in
theorem entries_any (adl : Option Addr) (nl capl : Nat) (l : List Pc) (adi : Option Addr) (ni capi : Nat) (ids : List Int) (adv : Option Addr) (nv capv : Nat) (vs : List Int) (ad : Option Addr) (n cap : Nat) (data : List (List UInt8)) (w : World)
    (hl : Lf pcC w adl l) (hnl : nl = l.length) (hli : Lf inC w adi ids) (hni : ni = ids.length) (hlv : Lf inC w adv vs) (hnv : nv = vs.length) (hld : Lr w ad data) (hn : n = data.length) (h1 : nl ≤ 1000000) (h2 : ni ≤ 1000000) (h3 : nv ≤ 1000000) (h4 : n ≤ 1000000) (hd : ∀ d ∈ data, d.length ≤ 100000) :
    Calls Try.prog 22 #[.slice adl nl capl, .slice adi ni capi, .slice adv nv capv, .slice ad n cap] w (RetEB w (entU l ids vs data)) := by
  have HL := Lib.hid hl
  have HNL := Lib.hid hnl
  have HI := Lib.hid hli
  have HNI := Lib.hid hni
  have HVS := Lib.hid hlv
  have HNV := Lib.hid hnv
  have HD := Lib.hid hld
  have HN := Lib.hid hn
  have HDL := Lib.hid hd
  have HU := Lib.hid (show entU l ids vs data = _ by unfold entU; rfl)
  have HB0 := Lib.hid (co_box1 w (.cells #[.slice ad n cap] 43))
  have h5 : (w.alloc (.cells #[.slice ad n cap] 43)).heap[w.heap.size]? = some (.cells #[.slice ad n cap] 43 (0, 0)) := heap_alloc_new w _
  have eg : (w.alloc (.cells #[.slice ad n cap] 43)).cell? ⟨w.heap.size, 0, none⟩ = some (.slice ad n cap) := by rw [cell_of_row _ _ 0 _ _ _ h5]; rfl
  have HEG := Lib.hid eg
  have HGX : Hid (w.heap.size < (w.alloc (.cells #[.slice ad n cap] 43)).heap.size) := Lib.hid (by simp)
  clear hl hnl hli hni hlv hnv hld hn hd h5
  go_enter Try.func22, Try.ntmps22
  by_cases hlen : ids.length = data.length ∧ vs.length = data.length
  rotate_left
  · have HF := Lib.hid (HU.out.trans (if_pos (by omega)))
    clear HU
    by_cases hq : ni = n
    · subst hq
      have hq2 : ((nv : Int) == (ni : Int)) = false := eq_f (by have := HNI.out; have := HNV.out; have := HN.out; omega)
      go_wp2
      go_ret3
      exact ⟨.slice none 0 0, .slice none 0 0, by rw [HF.out]; rfl, by rw [HF.out]; exact Of.nil _ _ _ _ _, by rw [HF.out]; exact Of.nil _ _ _ _ _, HB0.out⟩
    · have hq2 : ((ni : Int) == (n : Int)) = false := eq_f (by omega)
      go_wp2
      go_ret3
      exact ⟨.slice none 0 0, .slice none 0 0, by rw [HF.out]; rfl, by rw [HF.out]; exact Of.nil _ _ _ _ _, by rw [HF.out]; exact Of.nil _ _ _ _ _, HB0.out⟩
  replace HU := Lib.hid (HU.out.trans (if_neg (by omega)))
  obtain rfl : ni = n := by have := HNI.out; have := HN.out; omega
  obtain rfl : nv = ni := by have := HNV.out; have := HN.out; omega
  clear hlen
  go_wp2_with fail
  clear eg
  generalize World.alloc w _ = X0 at *
  refine (contains_i 34 #[] _ (fun _ => True) says_num adi nv capi ids X0 trivial (HI.out.below HB0.out) HNI.out (by omega)).mono ?_
  rintro e X1 ⟨rfl, hb⟩
  have HB1 := Lib.hid (HB0.out.trans (hb.mono HB0.out.size))
  have HEG1 := Lib.hid ((hb.cell (p := ⟨w.heap.size, 0, none⟩) HGX.out).trans HEG.out)
  clear hb HB0 HEG
  cases hA : ids.any fun x => !inB x 1 1125899906842624
  rotate_left
  · have HF := Lib.hid (HU.out.trans (if_pos (fun h => by have := num_any.2 h.1; rw [hA] at this; cases this)))
    clear HU hA
    go_wp2
    go_ret3
    exact ⟨.slice none 0 0, .slice none 0 0, by rw [HF.out]; rfl, by rw [HF.out]; exact Of.nil _ _ _ _ _, by rw [HF.out]; exact Of.nil _ _ _ _ _, HB1.out⟩
  have HIA := Lib.hid (num_any.1 hA)
  clear hA
  go_wp2_with fail
  refine (contains_i 34 #[] _ (fun _ => True) says_num adv nv capv vs X1 trivial (HVS.out.below HB1.out) HNV.out (by omega)).mono ?_
  rintro e X2 ⟨rfl, hb⟩
  have HB2 := Lib.hid (HB1.out.trans (hb.mono HB1.out.size))
  have HGX1 : Hid (w.heap.size < X1.heap.size) := Lib.hid (World.block_lt_of_cell? X1 _ HEG1.out)
  have HEG2 := Lib.hid ((hb.cell (p := ⟨w.heap.size, 0, none⟩) HGX1.out).trans HEG1.out)
  clear hb HB1 HEG1 HGX1 HGX
  cases hA : vs.any fun x => !inB x 1 1125899906842624
  rotate_left
  · have HF := Lib.hid (HU.out.trans (if_pos (fun h => by have := num_any.2 h.2; rw [hA] at this; cases this)))
    clear HU hA
    go_wp2
    go_ret3
    exact ⟨.slice none 0 0, .slice none 0 0, by rw [HF.out]; rfl, by rw [HF.out]; exact Of.nil _ _ _ _ _, by rw [HF.out]; exact Of.nil _ _ _ _ _, HB2.out⟩
  have HVA := Lib.hid (num_any.1 hA)
  clear hA
  replace HU := Lib.hid (HU.out.trans (if_neg (fun h => h ⟨HIA.out, HVA.out⟩)))
  by_cases h64 : 64 < nl
  · have HF := Lib.hid (HU.out.trans (if_pos (by rw [← HNL.out]; exact h64)))
    clear HU
    go_wp2
    go_ret3
    exact ⟨.slice none 0 0, .slice none 0 0, by rw [HF.out]; rfl, by rw [HF.out]; exact Of.nil _ _ _ _ _, by rw [HF.out]; exact Of.nil _ _ _ _ _, HB2.out⟩
  replace HU := Lib.hid (HU.out.trans (if_neg (by rw [← HNL.out]; exact h64)))
  go_wp2_with fail
  refine (contains_p 38 #[.pointer (some ⟨w.heap.size, 0, none⟩)] _ _ (says_part w.heap.size ad nv cap data HN.out h4) adl nl capl l X2 ⟨HEG2.out, HD.out.below HB2.out⟩ (HL.out.below HB2.out) HNL.out (by omega)).mono ?_
  rintro e X3 ⟨rfl, hb⟩
  have HB3 := Lib.hid (HB2.out.trans (hb.mono HB2.out.size))
  have HGX2 : Hid (w.heap.size < X2.heap.size) := Lib.hid (World.block_lt_of_cell? X2 _ HEG2.out)
  have HEG3 := Lib.hid ((hb.cell (p := ⟨w.heap.size, 0, none⟩) HGX2.out).trans HEG2.out)
  clear hb HB2 HEG2 HGX2
  cases hA : l.any fun p => !inPB data p
  rotate_left
  · have HF := Lib.hid (HU.out.trans (if_pos (fun h => by have := in_any.2 h; rw [hA] at this; cases this)))
    clear HU hA
    go_wp2
    go_ret3
    exact ⟨.slice none 0 0, .slice none 0 0, by rw [HF.out]; rfl, by rw [HF.out]; exact Of.nil _ _ _ _ _, by rw [HF.out]; exact Of.nil _ _ _ _ _, HB3.out⟩
  have HIN := Lib.hid (in_any.1 hA)
  clear hA
  replace HU := Lib.hid (HU.out.trans (if_neg (fun h => h HIN.out)))
  have HGX3 : Hid (w.heap.size < X3.heap.size) := Lib.hid (World.block_lt_of_cell? X3 _ HEG3.out)
  go_wp2_with fail
  go_loopg [12, 13, 45] nl (fun gk v12 v13 v45 wx => ∃ (i : Nat) (v u : Value), v45 = .int .i64 i ∧ v12 = v ∧ v13 = u ∧ i + gk = nl ∧ Hid (Of 54 5 enC wx X3.heap.size v ((l.take i).map (entP ids vs data))) ∧ Hid (Of 5 1 u8C wx X3.heap.size u ((l.take i).flatMap (partP data))) ∧ Hid (Below X3.heap.size X3 wx))
  case atStart => exact ⟨0, _, _, rfl, rfl, rfl, by omega, Lib.hid (Of.nil _ _ _ _ _), Lib.hid (Of.nil _ _ _ _ _), Lib.hid (Below.refl _ _)⟩
  case round =>
    obtain ⟨i, v, u, rfl, rfl, rfl, hi, HV, HP, HB⟩ := hrel
    cases gk with
    | zero =>
      obtain rfl : i = nl := by omega
      have HF := Lib.hid HU.out
      rw [List.take_of_length_le (by rw [HNL.out]; exact Nat.le_refl _)] at HV HP
      go_wp2
      go_ret3
      refine ⟨_, _, by rw [HF.out]; rfl, ?_, ?_, HB3.out.trans (HB.out.mono HB3.out.size)⟩
      · rw [HF.out]; exact HV.out.mono HB3.out.size
      · rw [HF.out]; exact HP.out.mono HB3.out.size
    | succ gk0 =>
      have hin : i < nl := by omega
      have hil : i < l.length := by have := HNL.out; omega
      have HBW := Lib.hid (HB3.out.trans (HB.out.mono HB3.out.size))
      obtain ⟨b, off, rfl, hlt, q⟩ := (HL.out.below HBW.out).get celP hil
      have q0 : wr.cell? ⟨b, off + i * 3, none⟩ = some (.int .i64 l[i].f) := q 0 _ (by decide) rfl
      have q1 : wr.cell? ⟨b, off + i * 3 + 1, none⟩ = some (.int .i64 l[i].o) := q 1 _ (by decide) rfl
      have q2 : wr.cell? ⟨b, off + i * 3 + 2, none⟩ = some (.int .i64 l[i].n) := q 2 _ (by decide) rfl
      clear q hlt
      have HMAP := Lib.hid (show (l.take (i + 1)).map (entP ids vs data) = (l.take i).map (entP ids vs data) ++ [entP ids vs data l[i]] by rw [List.take_succ_eq_append_getElem hil, List.map_append]; rfl)
      have HFLT := Lib.hid (show (l.take (i + 1)).flatMap (partP data) = (l.take i).flatMap (partP data) ++ partP data l[i] by rw [List.take_succ_eq_append_getElem hil, List.flatMap_append]; simp)
      have hin2 := HIN.out _ (List.getElem_mem hil)
      have hpl := parts_len (l := l.take i) HDL.out
      have htl : (l.take i).length ≤ 64 := by rw [List.length_take]; omega
      obtain ⟨E, hE⟩ : ∃ E, E = (l.take i).map (entP ids vs data) := ⟨_, rfl⟩
      have hEl : E.length ≤ 64 := by rw [hE, List.length_map]; exact htl
      obtain ⟨Y, hY⟩ : ∃ Y, Y = (l.take i).flatMap (partP data) := ⟨_, rfl⟩
      rw [← hE] at HV HMAP
      rw [← hY] at HP HFLT hpl
      have HYL := Lib.hid (show Y.length ≤ 6400000 by omega)
      clear hE hY htl hpl
      generalize l[i] = p at *
      clear hil
      obtain ⟨f, o, m⟩ := p
      obtain ⟨⟨i0, i1⟩, ⟨i2, i3⟩, i4, i5⟩ := hin2
      dsimp only at i0 i1 i2 i3 i4 i5 q0 q1 q2
      obtain ⟨F, rfl⟩ := Int.eq_ofNat_of_zero_le i0
      obtain ⟨O, rfl⟩ := Int.eq_ofNat_of_zero_le i2
      obtain ⟨M, rfl⟩ := Int.eq_ofNat_of_zero_le i4
      have hF : F < data.length := by omega
      have hFn : F < nv := by have := HN.out; omega
      have hDG := datP_get (p := ⟨(F : Int), (O : Int), (M : Int)⟩) hF rfl
      rw [hDG] at i3 i5
      have HPP := Lib.hid (show partP data ⟨(F : Int), (O : Int), (M : Int)⟩ = (data[F].drop O).take M by unfold partP; rw [hDG]; simp only [Int.toNat_natCast])
      have HDF := Lib.hid (HDL.out _ (List.getElem_mem hF))
      obtain ⟨bd, od, adk, ncapk, rfl, hdlt0, hdc0, hdl, hle, hmx, hnn⟩ := HD.out.at1 hF
      have hdc := (HBW.out.cell (p := ⟨bd, od + F, none⟩) hdlt0).trans hdc0
      have hdlt : bd < wr.heap.size := Nat.lt_of_lt_of_le hdlt0 HBW.out.size
      have HDLI := Lib.hid hdl
      clear hdc0 hdlt0
      obtain ⟨D, hD⟩ : ∃ D, D = data[F] := ⟨_, rfl⟩
      rw [← hD] at HPP HDF hdc HDLI hle i3 i5
      obtain ⟨LD, hLD⟩ : ∃ LD, LD = D.length := ⟨_, rfl⟩
      rw [← hLD] at HDF hdc hle i3 i5
      have HLD := Lib.hid hLD
      have HDL2 := Lib.hid hdlt
      have hiF : F < ids.length := by have := HNI.out; omega
      have hvF : F < vs.length := by have := HNV.out; omega
      obtain ⟨bi, oi, rfl, hilt0, qi⟩ := HI.out.get celI hiF
      have qi0 : wr.cell? ⟨bi, oi + F, none⟩ = some (.int .i64 ids[F]) := (HBW.out.cell (p := ⟨bi, oi + F, none⟩) hilt0).trans (by simpa using qi 0 _ (by decide) rfl)
      obtain ⟨bv, ov, rfl, hvlt0, qv⟩ := HVS.out.get celI hvF
      have qv0 : wr.cell? ⟨bv, ov + F, none⟩ = some (.int .i64 vs[F]) := (HBW.out.cell (p := ⟨bv, ov + F, none⟩) hvlt0).trans (by simpa using qv 0 _ (by decide) rfl)
      have hilt : bi < wr.heap.size := Nat.lt_of_lt_of_le hilt0 HBW.out.size
      have hvlt : bv < wr.heap.size := Nat.lt_of_lt_of_le hvlt0 HBW.out.size
      have HLT0 := Lib.hid (show bi < X3.heap.size ∧ bv < X3.heap.size from ⟨Nat.lt_of_lt_of_le hilt0 HB3.out.size, Nat.lt_of_lt_of_le hvlt0 HB3.out.size⟩)
      clear hilt0 hvlt0
      have HEP := Lib.hid (show entP ids vs data ⟨(F : Int), (O : Int), (M : Int)⟩ = ⟨ids[F], vs[F], (O : Int), (M : Int), crc (partP data ⟨(F : Int), (O : Int), (M : Int)⟩)⟩ by
        unfold entP
        simp only [Int.toNat_natCast]
        simp [hiF, hvF])
      generalize ids[F] = NI at *
      generalize vs[F] = NV at *
      have HLTS := Lib.hid (show bi < wr.heap.size ∧ bv < wr.heap.size from ⟨hilt, hvlt⟩)
      have HCI := Lib.hid qi0
      have HCV := Lib.hid qv0
      have HCD := Lib.hid hdc
      have hEG := (HB.out.cell (p := ⟨w.heap.size, 0, none⟩) HGX3.out).trans HEG3.out
      have HEGW := Lib.hid hEG
      have HWS := Lib.hid (show w.heap.size < wr.heap.size from World.block_lt_of_cell? wr _ hEG)
      clear hdl hdlt hdc hD hLD hDG hF i0 i1 i2 i4 hiF hvF hilt hvlt qi qv qi0 qv0 hEG
      obtain ⟨P, hP⟩ : ∃ P, P = partP data ⟨(F : Int), (O : Int), (M : Int)⟩ := ⟨_, rfl⟩
      rw [← hP] at HFLT HPP HEP
      rw [HEP.out] at HMAP
      clear hP HEP
      have hML : M ≤ LD - O := by omega
      have hOL : O ≤ LD := by omega
      have HPL := Lib.hid (show M = P.length by rw [HPP.out, List.length_take, List.length_drop, ← HLD.out]; omega)
      have hnewp := heap_alloc_new wr (.cells #[.int .i64 (F : Int), .int .i64 (O : Int), .int .i64 (M : Int)] 36)
      have HBP := Lib.hid (co_box1 wr (.cells #[.int .i64 (F : Int), .int .i64 (O : Int), .int .i64 (M : Int)] 36))
      have HNW := Lib.hid hnewp
      go_wp2_with fail
      obtain ⟨bp, hbp⟩ : ∃ bp, bp = wr.heap.size := ⟨_, rfl⟩
      rw [← hbp] at HNW HBP HWS HLTS HDL2 ⊢
      generalize hX4 : World.alloc wr _ = X4 at *
      have HP4 : Hid (X4.cell? ⟨bp, 0, none⟩ = some (.int .i64 (F : Int)) ∧ X4.cell? ⟨bp, 1, none⟩ = some (.int .i64 (O : Int)) ∧ X4.cell? ⟨bp, 2, none⟩ = some (.int .i64 (M : Int))) := Lib.hid ⟨by rw [cell_of_row _ _ 0 _ _ _ HNW.out]; rfl, by rw [cell_of_row _ _ 1 _ _ _ HNW.out]; rfl, by rw [cell_of_row _ _ 2 _ _ _ HNW.out]; rfl⟩
      have HQ4 : Hid (X4.cell? ⟨w.heap.size, 0, none⟩ = some (.slice (some ⟨bd, od, none⟩) nv cap) ∧ X4.cell? ⟨bd, od + F, none⟩ = some (.slice adk LD ncapk) ∧ X4.cell? ⟨bi, oi + F, none⟩ = some (.int .i64 NI) ∧ X4.cell? ⟨bv, ov + F, none⟩ = some (.int .i64 NV)) := Lib.hid ⟨(HBP.out.cell (p := ⟨w.heap.size, 0, none⟩) HWS.out).trans HEGW.out, (HBP.out.cell (p := ⟨bd, od + F, none⟩) HDL2.out).trans HCD.out, (HBP.out.cell (p := ⟨bi, oi + F, none⟩) HLTS.out.1).trans HCI.out, (HBP.out.cell (p := ⟨bv, ov + F, none⟩) HLTS.out.2).trans HCV.out⟩
      have HBX : Hid (Below X3.heap.size X3 X4) := Lib.hid (HB.out.trans (HBP.out.mono (by rw [hbp]; exact HB.out.size)))
      have HBPW : Hid (Below wr.heap.size wr X4) := Lib.hid (by rw [← hbp]; exact HBP.out)
      have HV4 := Lib.hid (HV.out.below HBPW.out)
      have HP5 := Lib.hid (HP.out.below HBPW.out)
      clear hX4 hbp hnewp HV HP HB HBP HBW HCD HCI HCV HEGW
      obtain ⟨pa, hpa⟩ : ∃ pa, pa = ptA (ptA adk ncapk O) (ncapk - O) 0 := ⟨_, rfl⟩
      have HPA := Lib.hid hpa
      have HLP : Hid (Lie w pa P) := Lib.hid (by
        have h1 := HDLI.out.pt (cap := ncapk) (by rw [← HLD.out]; exact hle) O (LD - O)
        have e1 : (D.drop O).take (LD - O) = D.drop O := List.take_of_length_le (by rw [List.length_drop, ← HLD.out]; exact Nat.le_refl _)
        rw [e1] at h1
        have h2 := h1.pt (cap := ncapk - O) (by rw [List.length_drop, ← HLD.out]; omega) 0 M
        rw [List.drop_zero, ← HPP.out, ← hpa] at h2
        exact h2)
      have HNP := Lib.hid (show pa = none → ncapk - O = 0 from by
        rw [hpa]
        intro h
        have h3 := ptA_nil (ad := ptA adk ncapk O) (cap := ncapk - O) (ptA_nil hnn O) 0 h
        omega)
      clear hpa hnn
      have HS4 : Hid (X4.drew.cell? ⟨bp, 0, none⟩ = some (.int .i64 (F : Int)) ∧ X4.drew.cell? ⟨bp, 1, none⟩ = some (.int .i64 (O : Int)) ∧ X4.drew.cell? ⟨bp, 2, none⟩ = some (.int .i64 (M : Int)) ∧ X4.drew.cell? ⟨w.heap.size, 0, none⟩ = some (.slice (some ⟨bd, od, none⟩) nv cap) ∧ X4.drew.cell? ⟨bd, od + F, none⟩ = some (.slice adk LD ncapk)) := Lib.hid ⟨HP4.out.1, HP4.out.2.1, HP4.out.2.2, HQ4.out.1, HQ4.out.2.1⟩
      refine wp_region_noPanic ?_
      refine wp_region_held_drew (S := (fun X => X.cell? ⟨bp, 0, none⟩ = some (.int .i64 (F : Int)) ∧ X.cell? ⟨bp, 1, none⟩ = some (.int .i64 (O : Int)) ∧ X.cell? ⟨bp, 2, none⟩ = some (.int .i64 (M : Int)) ∧ X.cell? ⟨w.heap.size, 0, none⟩ = some (.slice (some ⟨bd, od, none⟩) nv cap) ∧ X.cell? ⟨bd, od + F, none⟩ = some (.slice adk LD ncapk))) (by kernel_rfl) (HS4.out) (fun hS0 => ?_)
      refine held_take (i := 0) (v := ?_) rfl (by kernel_rfl) (by kernel_rfl) (by kernel_rfl) (fun _ _ _ h => h) (by rfl) ?_ (by assumption) ?_
      rotate_left
      · intro X hSX
        try dsimp only at hSX
        obtain ⟨p0, p1, p2, p3, p4⟩ := hSX
        go_simp <;> with_reducible rfl
      simp only [Act.put, List.setIfInBounds_toArray, List.set_cons_zero, List.set_cons_succ]
      refine held_take (i := 1) (v := ?_) rfl (by kernel_rfl) (by kernel_rfl) (by kernel_rfl) (fun _ _ _ h => h) (by rfl) ?_ (by assumption) ?_
      rotate_left
      · intro X hSX
        try dsimp only at hSX
        go_simp <;> with_reducible rfl
      simp only [Act.put, List.setIfInBounds_toArray, List.set_cons_zero, List.set_cons_succ]
      refine held_take (i := 5) (v := ?_) rfl (by kernel_rfl) (by kernel_rfl) (by kernel_rfl) (fun _ _ _ h => h) (by rfl) ?_ (by assumption) ?_
      rotate_left
      · intro X hSX
        try dsimp only at hSX
        go_simp <;> with_reducible rfl
      simp only [Act.put, List.setIfInBounds_toArray, List.set_cons_zero, List.set_cons_succ]
      refine held_take (i := 8) (v := ?_) rfl (by kernel_rfl) (by kernel_rfl) (by kernel_rfl) (fun _ _ _ h => h) (by rfl) ?_ (by assumption) ?_
      rotate_left
      · intro X hSX
        try dsimp only at hSX
        go_simp <;> with_reducible rfl
      simp only [Act.put, List.setIfInBounds_toArray, List.set_cons_zero, List.set_cons_succ]
      refine held_take (i := 2) (v := ?_) rfl (by kernel_rfl) (by kernel_rfl) (by kernel_rfl) (fun _ _ _ h => h) (by rfl) ?_ (by assumption) ?_
      rotate_left
      · intro X hSX
        try dsimp only at hSX
        obtain ⟨p0, p1, p2, p3, p4⟩ := hSX
        go_simp <;> with_reducible rfl
      simp only [Act.put, List.setIfInBounds_toArray, List.set_cons_zero, List.set_cons_succ]
      refine held_take (i := 6) (v := ?_) rfl (by kernel_rfl) (by kernel_rfl) (by kernel_rfl) (fun _ _ _ h => h) (by rfl) ?_ (by assumption) ?_
      rotate_left
      · intro X hSX
        try dsimp only at hSX
        obtain ⟨p0, p1, p2, p3, p4⟩ := hSX
        go_simp <;> with_reducible rfl
      simp only [Act.put, List.setIfInBounds_toArray, List.set_cons_zero, List.set_cons_succ]
      refine held_take (i := 9) (v := ?_) rfl (by kernel_rfl) (by kernel_rfl) (by kernel_rfl) (fun _ _ _ h => h) (by rfl) ?_ (by assumption) ?_
      rotate_left
      · intro X hSX
        try dsimp only at hSX
        obtain ⟨p0, p1, p2, p3, p4⟩ := hSX
        go_simp <;> with_reducible rfl
      simp only [Act.put, List.setIfInBounds_toArray, List.set_cons_zero, List.set_cons_succ]
      refine held_take (i := 3) (v := ?_) rfl (by kernel_rfl) (by kernel_rfl) (by kernel_rfl) (fun _ _ _ h => h) (by rfl) ?_ (by assumption) ?_
      rotate_left
      · intro X hSX
        try dsimp only at hSX
        go_simp <;> with_reducible rfl
      simp only [Act.put, List.setIfInBounds_toArray, List.set_cons_zero, List.set_cons_succ]
      refine held_take (i := 4) (v := ?_) rfl (by kernel_rfl) (by kernel_rfl) (by kernel_rfl) (fun _ _ _ h => h) (by rfl) ?_ (by assumption) ?_
      rotate_left
      · intro X hSX
        try dsimp only at hSX
        obtain ⟨p0, p1, p2, p3, p4⟩ := hSX
        go_simp <;> with_reducible rfl
      simp only [Act.put, List.setIfInBounds_toArray, List.set_cons_zero, List.set_cons_succ]
      refine held_take (i := 7) (v := ?_) rfl (by kernel_rfl) (by kernel_rfl) (by kernel_rfl) (fun _ _ _ h => h) (by rfl) ?_ (by assumption) ?_
      rotate_left
      · intro X hSX
        try dsimp only at hSX
        have hrun := run_rest adk LD ncapk O X (by omega)
        go_simp <;> with_reducible rfl
      simp only [Act.put, List.setIfInBounds_toArray, List.set_cons_zero, List.set_cons_succ]
      refine held_take (i := 10) (v := ?_) rfl (by kernel_rfl) (by kernel_rfl) (by kernel_rfl) (fun _ _ _ h => h) (by rfl) ?_ (by assumption) ?_
      rotate_left
      · intro X hSX
        try dsimp only at hSX
        have hrun := run_front (ptA adk ncapk O) (LD - O) (ncapk - O) M X (by omega)
        go_simp <;> with_reducible rfl
      simp only [Act.put, List.setIfInBounds_toArray, List.set_cons_zero, List.set_cons_succ]
      refine held_take (i := 11) (v := ?_) rfl (by kernel_rfl) (by kernel_rfl) (by kernel_rfl) (fun _ _ _ h => h) (by rfl) ?_ (by assumption) ?_
      rotate_left
      · intro X hSX
        try dsimp only at hSX
        go_simp <;> with_reducible rfl
      simp only [Act.put, List.setIfInBounds_toArray, List.set_cons_zero, List.set_cons_succ]
      refine wpAnyH_done (by kernel_rfl) ?_ _
      refine NoPanic.normal ?_
      rw [← HPA.out]
      clear HS4 hS0
      go_wp2_with fail
      have HS5 : Hid (X4.drew.drew.cell? ⟨bp, 0, none⟩ = some (.int .i64 (F : Int)) ∧ X4.drew.drew.cell? ⟨bp, 1, none⟩ = some (.int .i64 (O : Int)) ∧ X4.drew.drew.cell? ⟨bp, 2, none⟩ = some (.int .i64 (M : Int)) ∧ X4.drew.drew.cell? ⟨bi, oi + F, none⟩ = some (.int .i64 NI) ∧ X4.drew.drew.cell? ⟨bv, ov + F, none⟩ = some (.int .i64 NV)) := Lib.hid ⟨HP4.out.1, HP4.out.2.1, HP4.out.2.2, HQ4.out.2.2.1, HQ4.out.2.2.2⟩
      refine wp_region_noPanic ?_
      refine wp_region_held_drew (S := (fun X => X.cell? ⟨bp, 0, none⟩ = some (.int .i64 (F : Int)) ∧ X.cell? ⟨bp, 1, none⟩ = some (.int .i64 (O : Int)) ∧ X.cell? ⟨bp, 2, none⟩ = some (.int .i64 (M : Int)) ∧ X.cell? ⟨bi, oi + F, none⟩ = some (.int .i64 NI) ∧ X.cell? ⟨bv, ov + F, none⟩ = some (.int .i64 NV))) (by kernel_rfl) (HS5.out) (fun hS0 => ?_)
      have HV6 : Hid (Of 54 5 enC X4.drew.drew X3.heap.size u12 E) := Lib.hid (HV4.out.keep fun _ _ _ => rfl)
      have HP6 : Hid (Of 5 1 u8C X4.drew.drew X3.heap.size u13 Y) := Lib.hid (HP5.out.keep fun _ _ _ => rfl)
      have HB6 : Hid (Below X3.heap.size X3 X4.drew.drew) := Lib.hid HBX.out.drew.drew
      have HL6 : Hid (Lie X4.drew.drew pa P) := Lib.hid (HLP.out.below (HB3.out.trans (HB6.out.mono HB3.out.size)) rfl)
      have HNW6 : Hid (X4.drew.drew.heap[bp]? = some (.cells #[.int .i64 (F : Int), .int .i64 (O : Int), .int .i64 (M : Int)] 36 (0, 0))) := HNW
      clear HNW HV4 HP5 HBX HP4 HQ4 HBPW HDLI
      generalize World.drew (World.drew X4) = X6 at *
      refine held_take (i := 0) (v := ?_) rfl (by kernel_rfl) (by kernel_rfl) (by kernel_rfl) (fun _ _ _ h => h) (by rfl) ?_ (by assumption) ?_
      rotate_left
      · intro X hSX
        try dsimp only at hSX
        go_simp <;> with_reducible rfl
      simp only [Act.put, List.setIfInBounds_toArray, List.set_cons_zero, List.set_cons_succ]
      refine held_take (i := 1) (v := ?_) rfl (by kernel_rfl) (by kernel_rfl) (by kernel_rfl) (fun _ _ _ h => h) (by rfl) ?_ (by assumption) ?_
      rotate_left
      · intro X hSX
        try dsimp only at hSX
        go_simp <;> with_reducible rfl
      simp only [Act.put, List.setIfInBounds_toArray, List.set_cons_zero, List.set_cons_succ]
      refine held_take (i := 6) (v := ?_) rfl (by kernel_rfl) (by kernel_rfl) (by kernel_rfl) (fun _ _ _ h => h) (by rfl) ?_ (by assumption) ?_
      rotate_left
      · intro X hSX
        try dsimp only at hSX
        go_simp <;> with_reducible rfl
      simp only [Act.put, List.setIfInBounds_toArray, List.set_cons_zero, List.set_cons_succ]
      refine held_take (i := 15) (v := ?_) rfl (by kernel_rfl) (by kernel_rfl) (by kernel_rfl) (fun _ _ _ h => h) (by rfl) ?_ (by assumption) ?_
      rotate_left
      · intro X hSX
        try dsimp only at hSX
        go_simp <;> with_reducible rfl
      simp only [Act.put, List.setIfInBounds_toArray, List.set_cons_zero, List.set_cons_succ]
      refine held_take (i := 2) (v := ?_) rfl (by kernel_rfl) (by kernel_rfl) (by kernel_rfl) (fun _ _ _ h => h) (by rfl) ?_ (by assumption) ?_
      rotate_left
      · intro X hSX
        try dsimp only at hSX
        go_simp <;> with_reducible rfl
      simp only [Act.put, List.setIfInBounds_toArray, List.set_cons_zero, List.set_cons_succ]
      refine held_take (i := 7) (v := ?_) rfl (by kernel_rfl) (by kernel_rfl) (by kernel_rfl) (fun _ _ _ h => h) (by rfl) ?_ (by assumption) ?_
      rotate_left
      · intro X hSX
        try dsimp only at hSX
        go_simp <;> with_reducible rfl
      simp only [Act.put, List.setIfInBounds_toArray, List.set_cons_zero, List.set_cons_succ]
      refine held_take (i := 11) (v := ?_) rfl (by kernel_rfl) (by kernel_rfl) (by kernel_rfl) (fun _ _ _ h => h) (by rfl) ?_ (by assumption) ?_
      rotate_left
      · intro X hSX
        try dsimp only at hSX
        go_simp <;> with_reducible rfl
      simp only [Act.put, List.setIfInBounds_toArray, List.set_cons_zero, List.set_cons_succ]
      refine held_take (i := 13) (v := ?_) rfl (by kernel_rfl) (by kernel_rfl) (by kernel_rfl) (fun _ _ _ h => h) (by rfl) ?_ (by assumption) ?_
      rotate_left
      · intro X hSX
        try dsimp only at hSX
        go_simp <;> with_reducible rfl
      simp only [Act.put, List.setIfInBounds_toArray, List.set_cons_zero, List.set_cons_succ]
      refine held_take (i := 3) (v := ?_) rfl (by kernel_rfl) (by kernel_rfl) (by kernel_rfl) (fun _ _ _ h => h) (by rfl) ?_ (by assumption) ?_
      rotate_left
      · intro X hSX
        try dsimp only at hSX
        obtain ⟨p0, p1, p2, p3, p4⟩ := hSX
        go_simp <;> with_reducible rfl
      simp only [Act.put, List.setIfInBounds_toArray, List.set_cons_zero, List.set_cons_succ]
      refine held_take (i := 8) (v := ?_) rfl (by kernel_rfl) (by kernel_rfl) (by kernel_rfl) (fun _ _ _ h => h) (by rfl) ?_ (by assumption) ?_
      rotate_left
      · intro X hSX
        try dsimp only at hSX
        obtain ⟨p0, p1, p2, p3, p4⟩ := hSX
        go_simp <;> with_reducible rfl
      simp only [Act.put, List.setIfInBounds_toArray, List.set_cons_zero, List.set_cons_succ]
      refine held_take (i := 12) (v := ?_) rfl (by kernel_rfl) (by kernel_rfl) (by kernel_rfl) (fun _ _ _ h => h) (by rfl) ?_ (by assumption) ?_
      rotate_left
      · intro X hSX
        try dsimp only at hSX
        obtain ⟨p0, p1, p2, p3, p4⟩ := hSX
        go_simp <;> with_reducible rfl
      simp only [Act.put, List.setIfInBounds_toArray, List.set_cons_zero, List.set_cons_succ]
      refine held_take (i := 14) (v := ?_) rfl (by kernel_rfl) (by kernel_rfl) (by kernel_rfl) (fun _ _ _ h => h) (by rfl) ?_ (by assumption) ?_
      rotate_left
      · intro X hSX
        try dsimp only at hSX
        obtain ⟨p0, p1, p2, p3, p4⟩ := hSX
        go_simp <;> with_reducible rfl
      simp only [Act.put, List.setIfInBounds_toArray, List.set_cons_zero, List.set_cons_succ]
      refine held_take (i := 4) (v := ?_) rfl (by kernel_rfl) (by kernel_rfl) (by kernel_rfl) (fun _ _ _ h => h) (by rfl) ?_ (by assumption) ?_
      rotate_left
      · intro X hSX
        try dsimp only at hSX
        go_simp <;> with_reducible rfl
      simp only [Act.put, List.setIfInBounds_toArray, List.set_cons_zero, List.set_cons_succ]
      refine held_take (i := 9) (v := ?_) rfl (by kernel_rfl) (by kernel_rfl) (by kernel_rfl) (fun _ _ _ h => h) (by rfl) ?_ (by assumption) ?_
      rotate_left
      · intro X hSX
        try dsimp only at hSX
        go_simp <;> with_reducible rfl
      simp only [Act.put, List.setIfInBounds_toArray, List.set_cons_zero, List.set_cons_succ]
      refine held_take (i := 5) (v := ?_) rfl (by kernel_rfl) (by kernel_rfl) (by kernel_rfl) (fun _ _ _ h => h) (by rfl) ?_ (by assumption) ?_
      rotate_left
      · intro X hSX
        try dsimp only at hSX
        obtain ⟨p0, p1, p2, p3, p4⟩ := hSX
        go_simp <;> with_reducible rfl
      simp only [Act.put, List.setIfInBounds_toArray, List.set_cons_zero, List.set_cons_succ]
      refine held_take (i := 10) (v := ?_) rfl (by kernel_rfl) (by kernel_rfl) (by kernel_rfl) (fun _ _ _ h => h) (by rfl) ?_ (by assumption) ?_
      rotate_left
      · intro X hSX
        try dsimp only at hSX
        obtain ⟨p0, p1, p2, p3, p4⟩ := hSX
        go_simp <;> with_reducible rfl
      simp only [Act.put, List.setIfInBounds_toArray, List.set_cons_zero, List.set_cons_succ]
      have hPM : P.length ≤ 100000 := by have := HPL.out; have := HDF.out; omega
      have HLTP := Lib.hid (show bp < X6.heap.size ∧ bi < X6.heap.size ∧ bv < X6.heap.size from ⟨World.block_lt_of_cell? X6 _ hS0.1, World.block_lt_of_cell? X6 _ hS0.2.2.2.1, World.block_lt_of_cell? X6 _ hS0.2.2.2.2⟩)
      have HS6 := Lib.hid hS0
      refine held_call (i := 16) rfl (by kernel_rfl) (by rfl) (fun K' hK' => ?_)
      go_simp
      refine (csum_any pa M (ncapk - O) P X6 HL6.out HPL.out (by omega)).mono ?_
      rintro e X7 ⟨rfl, hb7⟩
      have hs7 : X7.cell? ⟨bp, 0, none⟩ = some (.int .i64 (F : Int)) ∧ X7.cell? ⟨bp, 1, none⟩ = some (.int .i64 (O : Int)) ∧ X7.cell? ⟨bp, 2, none⟩ = some (.int .i64 (M : Int)) ∧ X7.cell? ⟨bi, oi + F, none⟩ = some (.int .i64 NI) ∧ X7.cell? ⟨bv, ov + F, none⟩ = some (.int .i64 NV) := ⟨(hb7.cell (p := ⟨bp, 0, none⟩) HLTP.out.1).trans HS6.out.1, (hb7.cell (p := ⟨bp, 1, none⟩) HLTP.out.1).trans HS6.out.2.1, (hb7.cell (p := ⟨bp, 2, none⟩) HLTP.out.1).trans HS6.out.2.2.1, (hb7.cell (p := ⟨bi, oi + F, none⟩) HLTP.out.2.1).trans HS6.out.2.2.2.1, (hb7.cell (p := ⟨bv, ov + F, none⟩) HLTP.out.2.2).trans HS6.out.2.2.2.2⟩
      have HV7 := Lib.hid (HV6.out.below hb7)
      have HP7 := Lib.hid (HP6.out.below hb7)
      have HL7 := Lib.hid (HL6.out.below hb7 rfl)
      have HB7 := Lib.hid (HB6.out.trans (hb7.mono HB6.out.size))
      have HLT7 := Lib.hid (show bp < X7.heap.size ∧ bi < X7.heap.size ∧ bv < X7.heap.size from ⟨Nat.lt_of_lt_of_le HLTP.out.1 hb7.size, Nat.lt_of_lt_of_le HLTP.out.2.1 hb7.size, Nat.lt_of_lt_of_le HLTP.out.2.2 hb7.size⟩)
      have HNW7 := Lib.hid ((hb7.block bp HLTP.out.1).trans HNW6.out)
      clear hb7 HV6 HP6 HL6 HB6 HLTP HS5 HNW6
      refine held_go hK' (hs7) ?_
      try simp only [Act.put, List.setIfInBounds_toArray, List.set_cons_zero, List.set_cons_succ]
      clear hS0 HS6
      obtain ⟨C, hC⟩ : ∃ C, C = crc P := ⟨_, rfl⟩
      rw [← hC] at HMAP ⊢
      have HCR := Lib.hid hC
      clear hC
      refine held_take (i := 17) (v := ?_) rfl (by kernel_rfl) (by kernel_rfl) (by kernel_rfl) (fun _ _ _ h => h) (by rfl) ?_ (by assumption) ?_
      rotate_left
      · intro X hSX
        try dsimp only at hSX
        go_simp <;> with_reducible rfl
      simp only [Act.put, List.setIfInBounds_toArray, List.set_cons_zero, List.set_cons_succ]
      refine held_call (i := 18) rfl (by kernel_rfl) (by rfl) (fun K' hK' => ?_)
      go_simp
      have hb8 := co_box1 X7 (.cells #[.int .i64 NI, .int .i64 NV, .int .i64 (O : Int), .int .i64 (M : Int), .int .u32 (C : Int)] 54)
      have HLI8 : Hid (Lf enC (X7.alloc (.cells #[.int .i64 NI, .int .i64 NV, .int .i64 (O : Int), .int .i64 (M : Int), .int .u32 (C : Int)] 54)) (some ⟨X7.heap.size, 0, none⟩) [⟨NI, NV, (O : Int), (M : Int), C⟩]) := Lib.hid (Lf.lits X7 _ _ rfl _ rfl)
      have HV8 := Lib.hid (HV7.out.below hb8)
      have HP8 := Lib.hid (HP7.out.below hb8)
      have HL8 := Lib.hid (HL7.out.below hb8 rfl)
      have HB8 := Lib.hid (HB7.out.trans (hb8.mono HB7.out.size))
      have hs8 : (X7.alloc (.cells #[.int .i64 NI, .int .i64 NV, .int .i64 (O : Int), .int .i64 (M : Int), .int .u32 (C : Int)] 54)).cell? ⟨bp, 0, none⟩ = some (.int .i64 (F : Int)) ∧ (X7.alloc (.cells #[.int .i64 NI, .int .i64 NV, .int .i64 (O : Int), .int .i64 (M : Int), .int .u32 (C : Int)] 54)).cell? ⟨bp, 1, none⟩ = some (.int .i64 (O : Int)) ∧ (X7.alloc (.cells #[.int .i64 NI, .int .i64 NV, .int .i64 (O : Int), .int .i64 (M : Int), .int .u32 (C : Int)] 54)).cell? ⟨bp, 2, none⟩ = some (.int .i64 (M : Int)) ∧ (X7.alloc (.cells #[.int .i64 NI, .int .i64 NV, .int .i64 (O : Int), .int .i64 (M : Int), .int .u32 (C : Int)] 54)).cell? ⟨bi, oi + F, none⟩ = some (.int .i64 NI) ∧ (X7.alloc (.cells #[.int .i64 NI, .int .i64 NV, .int .i64 (O : Int), .int .i64 (M : Int), .int .u32 (C : Int)] 54)).cell? ⟨bv, ov + F, none⟩ = some (.int .i64 NV) := ⟨(hb8.cell (p := ⟨bp, 0, none⟩) HLT7.out.1).trans hs7.1, (hb8.cell (p := ⟨bp, 1, none⟩) HLT7.out.1).trans hs7.2.1, (hb8.cell (p := ⟨bp, 2, none⟩) HLT7.out.1).trans hs7.2.2.1, (hb8.cell (p := ⟨bi, oi + F, none⟩) HLT7.out.2.1).trans hs7.2.2.2.1, (hb8.cell (p := ⟨bv, ov + F, none⟩) HLT7.out.2.2).trans hs7.2.2.2.2⟩
      have HNW8 := Lib.hid ((hb8.block bp HLT7.out.1).trans HNW7.out)
      clear hb8 HV7 HP7 HL7 HB7 HNW7
      refine held_go hK' (hs8) ?_
      try simp only [Act.put, List.setIfInBounds_toArray, List.set_cons_zero, List.set_cons_succ]
      have hEl1 : E.length + 1 ≤ 10000000 := by omega
      have HZ8 := HB8.out.size
      obtain ⟨E2, hE2⟩ : ∃ E2, E2 = E ++ [(⟨NI, NV, (O : Int), (M : Int), C⟩ : Ent)] := ⟨_, rfl⟩
      have HE2 := Lib.hid hE2
      clear hE2
      refine held_call (i := 19) rfl (by kernel_rfl) (by rfl) (fun K' hK' => ?_)
      refine oper_of_list (ops := #[]) (by unfold Region.wanted; rfl) (wpList_append_g typE celE rfl (.tmp 60) (.tmp 78) rfl X3.heap.size _ E rfl HV8.out ⟨X7.heap.size, 0, none⟩ 1 1 [⟨NI, NV, (O : Int), (M : Int), C⟩] HLI8.out rfl rfl hEl1 HZ8 (fun v9 w9 ho9 hg9 _ => onlyN_end ?_))
      rw [← HE2.out] at ho9
      have HV9 := Lib.hid ho9
      have HP9 := Lib.hid (HP8.out.kept hg9 (HP8.out.apart HV8.out ub_ne))
      have hb9 := (Below.refl X3.heap.size _).grown hg9 HZ8 (fun k hk => (HV8.out.lt k hk).1)
      have HB9 := Lib.hid (HB8.out.trans hb9)
      have hs9 : w9.cell? ⟨bp, 0, none⟩ = some (.int .i64 (F : Int)) ∧ w9.cell? ⟨bp, 1, none⟩ = some (.int .i64 (O : Int)) ∧ w9.cell? ⟨bp, 2, none⟩ = some (.int .i64 (M : Int)) ∧ w9.cell? ⟨bi, oi + F, none⟩ = some (.int .i64 NI) ∧ w9.cell? ⟨bv, ov + F, none⟩ = some (.int .i64 NV) := by
        have hbb := hg9.block bp (Array.getElem?_eq_some_iff.1 HNW8.out).1 (fun e => by
          obtain ⟨cur, hc⟩ := HV8.out.typ e.symm
          rw [HNW8.out] at hc
          have := (Obj.cells.inj (Option.some.inj hc)).2.1
          exact absurd this (by decide))
        exact ⟨(World.cell?_of_block (a := ⟨bp, 0, none⟩) hbb).trans hs8.1, (World.cell?_of_block (a := ⟨bp, 1, none⟩) hbb).trans hs8.2.1, (World.cell?_of_block (a := ⟨bp, 2, none⟩) hbb).trans hs8.2.2.1, (hb9.cell (p := ⟨bi, oi + F, none⟩) HLT0.out.1).trans hs8.2.2.2.1, (hb9.cell (p := ⟨bv, ov + F, none⟩) HLT0.out.2).trans hs8.2.2.2.2⟩
      have HBW9 := Lib.hid (HB3.out.trans (HB9.out.mono HB3.out.size))
      have HLW := Lib.hid (lf_lie (HLP.out.below HBW9.out rfl))
      clear ho9 hg9 hb9 HV8 HP8 HL8 HB8 HLI8 HLT7 hs8 HNW8
      refine held_go hK' (hs9) ?_
      try simp only [Act.put, List.setIfInBounds_toArray, List.set_cons_zero, List.set_cons_succ]
      refine held_take (i := 20) (v := ?_) rfl (by kernel_rfl) (by kernel_rfl) (by kernel_rfl) (fun _ _ _ h => h) (by rfl) ?_ (by assumption) ?_
      rotate_left
      · intro X hSX
        try dsimp only at hSX
        go_simp <;> with_reducible rfl
      simp only [Act.put, List.setIfInBounds_toArray, List.set_cons_zero, List.set_cons_succ]
      refine wpAnyH_done (by kernel_rfl) ?_ _
      refine NoPanic.normal ?_
      have hYl1 : Y.length + M ≤ 10000000 := by have := HYL.out; have := HPL.out; omega
      have HZ9 := Lib.hid HB9.out.size
      clear hs7
      go_wp2_with (at_builtin; refine wpList_append_f typU celU rfl (.tmp 80) (.tmp 81) rfl X3.heap.size _ Y rfl HP9.out pa M (ncapk - O) P HNP.out HLW.out HPL.out rfl hYl1 HZ9.out ?_; intro v10 w10 ho10 hg10; rw [← HFLT.out] at ho10; have HP10 := Lib.hid ho10; have HV10 := Lib.hid (HV9.out.kept hg10 (HV9.out.apart HP9.out (Ne.symm ub_ne))); have HB10 := Lib.hid (HB9.out.grown hg10 HZ9.out (fun k hk => (HP9.out.lt k hk).1)); clear ho10 hg10)
      have HV11 : Hid (Of 54 5 enC w10 X3.heap.size v9 ((l.take (i + 1)).map (entP ids vs data))) := Lib.hid (by rw [HMAP.out, ← HE2.out]; exact HV10.out)
      go_roundg gk0
      case rel => exact ⟨i + 1, _, _, by go_num, rfl, rfl, by omega, HV11, HP10, HB10⟩
      case measure => omega
end Go.Proofs.Ytpjegenobadckaa
