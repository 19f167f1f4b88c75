/-
  The specification's Entries.
-/
import Derived.Test.YtpjegenobadckaaPkEnt
import Derived.Test.YtpjegenobadckaaPkFitS
import Derived.BigQuiet
import Derived.Deep.DeepCutAuto
namespace Go.Proofs.Ytpjegenobadckaa
open Go.RowKit
set_option linter.unusedVariables false
set_option linter.unusedSimpArgs false
attribute [local irreducible] inB inPB
set_option maxRecDepth 100000 in
set_option maxHeartbeats 8000000 in
theorem rentries_any (adl : Option Addr) (nl capl : Nat) (l : List Pc) (adi : Option Addr) (ni capi : Nat) (ids : List Int) (adv : Option Addr) (nv capv : Nat) (vs : List Int) (ad : Option Addr) (n cap : Nat) (data : List (List UInt8)) (w : World)
    (hl : Lf pcC w adl l) (hnl : nl = l.length) (hli : Lf inC w adi ids) (hni : ni = ids.length) (hlv : Lf inC w adv vs) (hnv : nv = vs.length) (hld : Lr w ad data) (hn : n = data.length) (h1 : nl ≤ 1000000) (h2 : ni ≤ 1000000) (h3 : nv ≤ 1000000) (h4 : n ≤ 1000000) (hd : ∀ d ∈ data, d.length ≤ 100000) :
    Calls Try.prog 23 #[.slice adl nl capl, .slice adi ni capi, .slice adv nv capv, .slice ad n cap] w (RetEB w (entU l ids vs data)) := by
  have HL := Lib.hid hl
  have HNL := Lib.hid hnl
  have HI := Lib.hid hli
  have HNI := Lib.hid hni
  have HVS := Lib.hid hlv
  have HNV := Lib.hid hnv
  have HD := Lib.hid hld
  have HN := Lib.hid hn
  have HDL := Lib.hid hd
  have HU := Lib.hid (show entU l ids vs data = _ by unfold entU; rfl)
  clear hl hnl hli hni hlv hnv hld hn hd
  go_enter Try.func23, Try.ntmps23
  by_cases hlen : ids.length = data.length ∧ vs.length = data.length
  rotate_left
  · have HF := Lib.hid (HU.out.trans (if_pos (by omega)))
    clear HU
    by_cases hq : ni = n
    · subst hq
      have hq2 : ((nv : Int) == (ni : Int)) = false := eq_f (by have := HNI.out; have := HNV.out; have := HN.out; omega)
      go_wp2
      go_ret3
      exact ⟨.slice none 0 0, .slice none 0 0, by rw [HF.out]; rfl, by rw [HF.out]; exact Of.nil _ _ _ _ _, by rw [HF.out]; exact Of.nil _ _ _ _ _, Below.refl _ _⟩
    · have hq2 : ((ni : Int) == (n : Int)) = false := eq_f (by omega)
      go_wp2
      go_ret3
      exact ⟨.slice none 0 0, .slice none 0 0, by rw [HF.out]; rfl, by rw [HF.out]; exact Of.nil _ _ _ _ _, by rw [HF.out]; exact Of.nil _ _ _ _ _, Below.refl _ _⟩
  replace HU := Lib.hid (HU.out.trans (if_neg (by omega)))
  obtain rfl : ni = n := by have := HNI.out; have := HN.out; omega
  obtain rfl : nv = ni := by have := HNV.out; have := HN.out; omega
  clear hlen
  go_wp2_with fail
  go_loopg [11] nv (fun gk v11 wx => ∃ i : Nat, v11 = .int .i64 i ∧ i + gk = nv ∧ w = wx ∧ Hid (∀ j (h : j < ids.length), j < i → numI ids[j]) ∧ Hid (∀ j (h : j < vs.length), j < i → numI vs[j]))
  case atStart => exact ⟨0, rfl, by omega, rfl, Lib.hid (fun j _ h => by omega), Lib.hid (fun j _ h => by omega)⟩
  case round =>
    obtain ⟨i, rfl, hi, rfl, hia, hva⟩ := hrel
    cases gk with
    | succ gk0 =>
      have hin : i < nv := by omega
      have hii : i < ids.length := by have := HNI.out; omega
      have hiv : i < vs.length := by have := HNV.out; omega
      obtain ⟨b, off, rfl, -, q⟩ := HI.out.get celI hii
      have q0 : w.cell? ⟨b, off + i, none⟩ = some (.int .i64 ids[i]) := by simpa using q 0 _ (by decide) rfl
      obtain ⟨b2, off2, rfl, -, q⟩ := HVS.out.get celI hiv
      have q1 : w.cell? ⟨b2, off2 + i, none⟩ = some (.int .i64 vs[i]) := by simpa using q 0 _ (by decide) rfl
      have HNI2 := Lib.hid (show numI ids[i] → ∀ j (h : j < ids.length), j < i + 1 → numI ids[j] from fun h j hj hji => by
        rcases Nat.lt_or_ge j i with h3 | h3
        · exact hia.out j hj h3
        · obtain rfl : j = i := by omega
          exact h)
      have HNV2 := Lib.hid (show numI vs[i] → ∀ j (h : j < vs.length), j < i + 1 → numI vs[j] from fun h j hj hji => by
        rcases Nat.lt_or_ge j i with h3 | h3
        · exact hva.out j hj h3
        · obtain rfl : j = i := by omega
          exact h)
      have HBAD := Lib.hid (show ¬ (numI ids[i] ∧ numI vs[i]) → entU l ids vs data = ([], [], 8) from fun h => HU.out.trans (if_pos (fun h' => h ⟨h'.1 _ (List.getElem_mem hii), h'.2 _ (List.getElem_mem hiv)⟩)))
      unfold numI at HNI2 HNV2 HBAD
      generalize ids[i] = x at *
      generalize vs[i] = y at *
      clear q hii hiv hia hva
      by_cases x0 : x < 1
      · have HF := Lib.hid (HBAD.out (by omega))
        clear HNI2 HNV2 HBAD
        go_wp2
        go_ret3
        exact ⟨.slice none 0 0, .slice none 0 0, by rw [HF.out]; rfl, by rw [HF.out]; exact Of.nil _ _ _ _ _, by rw [HF.out]; exact Of.nil _ _ _ _ _, Below.refl _ _⟩
      by_cases x1 : 1125899906842624 < x
      · have HF := Lib.hid (HBAD.out (by omega))
        clear HNI2 HNV2 HBAD
        go_wp2
        go_ret3
        exact ⟨.slice none 0 0, .slice none 0 0, by rw [HF.out]; rfl, by rw [HF.out]; exact Of.nil _ _ _ _ _, by rw [HF.out]; exact Of.nil _ _ _ _ _, Below.refl _ _⟩
      by_cases y0 : y < 1
      · have HF := Lib.hid (HBAD.out (by omega))
        clear HNI2 HNV2 HBAD
        go_wp2
        go_ret3
        exact ⟨.slice none 0 0, .slice none 0 0, by rw [HF.out]; rfl, by rw [HF.out]; exact Of.nil _ _ _ _ _, by rw [HF.out]; exact Of.nil _ _ _ _ _, Below.refl _ _⟩
      by_cases y1 : 1125899906842624 < y
      · have HF := Lib.hid (HBAD.out (by omega))
        clear HNI2 HNV2 HBAD
        go_wp2
        go_ret3
        exact ⟨.slice none 0 0, .slice none 0 0, by rw [HF.out]; rfl, by rw [HF.out]; exact Of.nil _ _ _ _ _, by rw [HF.out]; exact Of.nil _ _ _ _ _, Below.refl _ _⟩
      have hI3 := Lib.hid (HNI2.out (by omega))
      have hV3 := Lib.hid (HNV2.out (by omega))
      clear HNI2 HNV2 HBAD
      go_wp2
      go_roundg gk0
      case rel => exact ⟨i + 1, by go_num, by omega, rfl, hI3, hV3⟩
      case measure => omega
    | zero =>
    obtain rfl : nv = i := by omega
    clear hi
    have HIA : Hid (∀ x ∈ ids, numI x) := Lib.hid (fun x hx => by obtain ⟨j, hj, rfl⟩ := List.getElem_of_mem hx; exact hia.out j hj (by have := HNI.out; omega))
    have HVA : Hid (∀ x ∈ vs, numI x) := Lib.hid (fun x hx => by obtain ⟨j, hj, rfl⟩ := List.getElem_of_mem hx; exact hva.out j hj (by have := HNV.out; omega))
    clear hia hva
    replace HU := Lib.hid (HU.out.trans (if_neg (fun h => h ⟨HIA.out, HVA.out⟩)))
    have hnn : ¬ ((nv : Int) < (nv : Int)) := by omega
    by_cases h64 : 64 < nl
    · have HF := Lib.hid (HU.out.trans (if_pos (by rw [← HNL.out]; exact h64)))
      clear HU
      go_wp2
      go_ret3
      exact ⟨.slice none 0 0, .slice none 0 0, by rw [HF.out]; rfl, by rw [HF.out]; exact Of.nil _ _ _ _ _, by rw [HF.out]; exact Of.nil _ _ _ _ _, Below.refl _ _⟩
    replace HU := Lib.hid (HU.out.trans (if_neg (by rw [← HNL.out]; exact h64)))
    go_wp2_with fail
    clear hnn
    go_loopg [12, 13, 14] nl (fun gk v12 v13 v14 wx => ∃ (i : Nat) (v u : Value), v14 = .int .i64 i ∧ v12 = v ∧ v13 = u ∧ i + gk = nl ∧ Hid (∀ j (h : j < l.length), j < i → inP data l[j]) ∧ Hid (Of 54 5 enC wx w.heap.size v ((l.take i).map (entP ids vs data))) ∧ Hid (Of 5 1 u8C wx w.heap.size u ((l.take i).flatMap (partP data))) ∧ Hid (Below w.heap.size w wx))
    case atStart => exact ⟨0, _, _, rfl, rfl, rfl, by omega, Lib.hid (fun j _ h => by omega), Lib.hid (Of.nil _ _ _ _ _), Lib.hid (Of.nil _ _ _ _ _), Lib.hid (Below.refl _ _)⟩
    case round =>
    obtain ⟨i, v, u, rfl, rfl, rfl, hi, HPA, HV, HP, HB⟩ := hrel
    cases gk with
    | zero =>
      obtain rfl : i = nl := by omega
      have HF := Lib.hid (HU.out.trans (if_neg (fun h => h (fun p hp => by obtain ⟨j, hj, rfl⟩ := List.getElem_of_mem hp; exact HPA.out j hj (by have := HNL.out; omega)))))
      rw [List.take_of_length_le (by rw [HNL.out]; exact Nat.le_refl _)] at HV HP
      go_wp2
      go_ret3
      refine ⟨_, _, by rw [HF.out]; rfl, ?_, ?_, HB.out⟩
      · rw [HF.out]; exact HV.out
      · rw [HF.out]; exact HP.out
    | succ gk0 =>
      have hin : i < nl := by omega
      have hil : i < l.length := by have := HNL.out; omega
      obtain ⟨b, off, rfl, hlt, q⟩ := (HL.out.below HB.out).get celP hil
      have q0 : wr.cell? ⟨b, off + i * 3, none⟩ = some (.int .i64 l[i].f) := q 0 _ (by decide) rfl
      have q1 : wr.cell? ⟨b, off + i * 3 + 1, none⟩ = some (.int .i64 l[i].o) := q 1 _ (by decide) rfl
      have q2 : wr.cell? ⟨b, off + i * 3 + 2, none⟩ = some (.int .i64 l[i].n) := q 2 _ (by decide) rfl
      clear q hlt
      have HMAP := Lib.hid (show (l.take (i + 1)).map (entP ids vs data) = (l.take i).map (entP ids vs data) ++ [entP ids vs data l[i]] by rw [List.take_succ_eq_append_getElem hil, List.map_append]; rfl)
      have HFLT := Lib.hid (show (l.take (i + 1)).flatMap (partP data) = (l.take i).flatMap (partP data) ++ partP data l[i] by rw [List.take_succ_eq_append_getElem hil, List.flatMap_append]; simp)
      have HBAD := Lib.hid (show ¬ inP data l[i] → entU l ids vs data = ([], [], 7) from fun h => HU.out.trans (if_pos (fun h' => h (h' _ (List.getElem_mem hil)))))
      have HPA2 := Lib.hid (show inP data l[i] → ∀ j (h : j < l.length), j < i + 1 → inP data l[j] from fun h j hj hji => by
        rcases Nat.lt_or_ge j i with h3 | h3
        · exact HPA.out j hj h3
        · obtain rfl : j = i := by omega
          exact h)
      have hpl := parts_len (l := l.take i) HDL.out
      have htl : (l.take i).length ≤ 64 := by rw [List.length_take]; omega
      obtain ⟨E, hE⟩ : ∃ E, E = (l.take i).map (entP ids vs data) := ⟨_, rfl⟩
      have hEl : E.length ≤ 64 := by rw [hE, List.length_map]; exact htl
      obtain ⟨Y, hY⟩ : ∃ Y, Y = (l.take i).flatMap (partP data) := ⟨_, rfl⟩
      rw [← hE] at HV HMAP
      rw [← hY] at HP HFLT hpl
      have HYL := Lib.hid (show Y.length ≤ 6400000 by omega)
      clear hE hY htl hpl HPA
      generalize l[i] = p at *
      clear hil
      obtain ⟨f, o, m⟩ := p
      dsimp only at q0 q1 q2
      have hnewp := heap_alloc_new wr (.cells #[.int .i64 f, .int .i64 o, .int .i64 m] 46)
      have HBP := Lib.hid (co_box1 wr (.cells #[.int .i64 f, .int .i64 o, .int .i64 m] 46))
      have HNW := Lib.hid hnewp
      have HBS := Lib.hid HB.out.size
      clear hnewp
      go_upto_region 16 with fail
      obtain ⟨bp, hbp⟩ : ∃ bp, bp = wr.heap.size := ⟨_, rfl⟩
      rw [← hbp] at HNW HBP HBS ⊢
      generalize hX4 : World.alloc wr _ = X4 at *
      have p0 : X4.cell? ⟨bp, 0, none⟩ = some (.int .i64 f) := by rw [cell_of_row _ _ 0 _ _ _ HNW.out]; rfl
      have p1 : X4.cell? ⟨bp, 1, none⟩ = some (.int .i64 o) := by rw [cell_of_row _ _ 1 _ _ _ HNW.out]; rfl
      have p2 : X4.cell? ⟨bp, 2, none⟩ = some (.int .i64 m) := by rw [cell_of_row _ _ 2 _ _ _ HNW.out]; rfl
      have HBX : Hid (Below w.heap.size w X4) := Lib.hid (HB.out.trans (HBP.out.mono HBS.out))
      have HBPW : Hid (Below wr.heap.size wr X4) := Lib.hid (by rw [← hbp]; exact HBP.out)
      have HV4 := Lib.hid (HV.out.below HBPW.out)
      have HP5 := Lib.hid (HP.out.below HBPW.out)
      clear hX4 hbp HV HP HB HBP HBPW q0 q1 q2
      go_cut [118] (fun s118 wx => ∃ (b : Bool) (q : Nat), s118 = .bool b ∧ wx = X4.drewN q ∧ Hid (b = true ↔ ¬ inP data ⟨f, o, m⟩))
      case first =>
        have HNO : Hid (∀ (P : Prop), ¬ P → (inP data ⟨f, o, m⟩ → P) → ¬ inP data ⟨f, o, m⟩) := Lib.hid (fun P h1 h2 h => h1 (h2 h))
        have HIP := Lib.hid (show inP data ⟨f, o, m⟩ ↔ (0 ≤ f ∧ f ≤ (data.length : Int) - 1) ∧ (0 ≤ o ∧ o ≤ ((datP data ⟨f, o, m⟩).length : Int)) ∧ (0 ≤ m ∧ m ≤ ((datP data ⟨f, o, m⟩).length : Int) - o) from Iff.rfl)
        by_cases f0 : f < 0
        · have HR := Lib.hid (HNO.out (0 ≤ f) (by omega) (fun h => (HIP.out.1 h).1.1))
          have df0 : decide (f < 0) = true := decide_eq_true f0
          clear f0
          go_wp2_with fail
          go_quiet (fail)
          go_wp2_with fail
          go_meet
          case rel => exact ⟨true, nq, rfl, rfl, Lib.hid ⟨fun _ => HR.out, fun _ => rfl⟩⟩
        have df0 : decide (f < 0) = false := decide_eq_false f0
        by_cases f1 : (nv : Int) ≤ f
        · have HR := Lib.hid (HNO.out (f ≤ (data.length : Int) - 1) (by have := HN.out; omega) (fun h => (HIP.out.1 h).1.2))
          have df1 : decide ((nv : Int) ≤ f) = true := decide_eq_true f1
          clear f1 f0
          go_wp2_with fail
          go_quiet (fail)
          go_wp2_with fail
          go_meet
          case rel => exact ⟨true, nq, rfl, rfl, Lib.hid ⟨fun _ => HR.out, fun _ => rfl⟩⟩
        have df1 : decide ((nv : Int) ≤ f) = false := decide_eq_false f1
        by_cases o0 : o < 0
        · have HR := Lib.hid (HNO.out (0 ≤ o) (by omega) (fun h => (HIP.out.1 h).2.1.1))
          have do0 : decide (o < 0) = true := decide_eq_true o0
          clear f1 f0 o0
          go_wp2_with fail
          go_quiet (fail)
          go_wp2_with fail
          go_meet
          case rel => exact ⟨true, nq, rfl, rfl, Lib.hid ⟨fun _ => HR.out, fun _ => rfl⟩⟩
        have do0 : decide (o < 0) = false := decide_eq_false o0
        by_cases m0 : m < 0
        · have HR := Lib.hid (HNO.out (0 ≤ m) (by omega) (fun h => (HIP.out.1 h).2.2.1))
          have dm0 : decide (m < 0) = true := decide_eq_true m0
          clear f1 f0 o0 m0
          go_wp2_with fail
          go_quiet (fail)
          go_wp2_with fail
          go_meet
          case rel => exact ⟨true, nq, rfl, rfl, Lib.hid ⟨fun _ => HR.out, fun _ => rfl⟩⟩
        have dm0 : decide (m < 0) = false := decide_eq_false m0
        obtain ⟨F, rfl⟩ := Int.eq_ofNat_of_zero_le (show 0 ≤ f by omega)
        have hF : F < data.length := by have := HN.out; omega
        have hFn : F < nv := by omega
        have df2 : decide (nv ≤ F) = false := decide_eq_false (by omega)
        have df3 : decide ((F : Int) < 0) = false := decide_eq_false (by omega)
        have hDG := datP_get (p := ⟨(F : Int), o, m⟩) hF rfl
        have HIN := Lib.hid (show inP data ⟨(F : Int), o, m⟩ ↔ o ≤ ((data[F]).length : Int) ∧ m ≤ ((data[F]).length : Int) - o by
          unfold inP
          rw [hDG]
          refine ⟨fun h => ⟨h.2.1.2, h.2.2.2⟩, fun h => ⟨⟨?_, ?_⟩, ⟨?_, h.1⟩, ?_, h.2⟩⟩
          · show 0 ≤ (F : Int); omega
          · show (F : Int) ≤ _; omega
          · show 0 ≤ o; omega
          · show 0 ≤ m; omega)
        have hdl := HDL.out _ (List.getElem_mem hF)
        obtain ⟨bd, od, adk, ncapk, rfl, -, hdc, -⟩ := (HD.out.below HBX.out).at1 hF
        generalize (data[F]).length = LD at *
        clear hDG hF
        by_cases o1 : (LD : Int) < o
        · have HR := Lib.hid (HNO.out (o ≤ (LD : Int)) (by omega) (fun h => (HIN.out.1 h).1))
          have do1 : decide ((LD : Int) < o) = true := decide_eq_true o1
          clear f1 f0 o0 m0 o1
          go_wp2_with fail
          go_quiet (fail)
          go_wp2_with fail
          go_meet
          case rel => exact ⟨true, nq, rfl, rfl, Lib.hid ⟨fun _ => HR.out, fun _ => rfl⟩⟩
        have do2 : decide ((LD : Int) < o) = false := decide_eq_false o1
        obtain ⟨O, rfl⟩ := Int.eq_ofNat_of_zero_le (show 0 ≤ o by omega)
        have do3 : decide (LD < O) = false := decide_eq_false (by omega)
        have do4 : decide ((O : Int) < 0) = false := decide_eq_false (by omega)
        have hws : IntKind.i64.wrap ((LD : Int) - (O : Int)) = (LD : Int) - (O : Int) := IntWalk.i64_in _ (by omega)
        by_cases m1 : (LD : Int) - (O : Int) < m
        · have HR := Lib.hid (HNO.out (m ≤ (LD : Int) - (O : Int)) (by omega) (fun h => (HIN.out.1 h).2))
          have dm1 : decide ((LD : Int) - (O : Int) < m) = true := decide_eq_true m1
          clear f1 f0 o0 m0 o1
          go_wp2_with fail
          go_quiet (fail)
          go_wp2_with fail
          go_meet
          case rel => exact ⟨true, nq, rfl, rfl, Lib.hid ⟨fun _ => HR.out, fun _ => rfl⟩⟩
        have HR := Lib.hid (HIN.out.2 ⟨by omega, by omega⟩)
        have dm1 : decide ((LD : Int) - (O : Int) < m) = false := decide_eq_false m1
        clear f1 f0 o0 m0 o1
        go_wp2_with fail
        go_quiet (fail)
        go_wp2_with fail
        go_meet
        case rel => exact ⟨false, nq, rfl, rfl, Lib.hid ⟨fun h => (by cases h), fun h => absurd HR.out h⟩⟩
      case rest =>
        obtain ⟨b118, q, rfl, rfl, HBI⟩ := hcut
        have HBX2 := Lib.hid (HBX.out.trans ((drew_below X4 q).mono HBX.out.size))
        cases b118
        rotate_left
        · have HF := Lib.hid (HBAD.out (HBI.out.1 rfl))
          clear p0 p1 p2
          go_wp2
          go_ret3
          exact ⟨.slice none 0 0, .slice none 0 0, by rw [HF.out]; rfl, by rw [HF.out]; exact Of.nil _ _ _ _ _, by rw [HF.out]; exact Of.nil _ _ _ _ _, HBX2.out⟩
        have hip : inP data ⟨f, o, m⟩ := by
          rcases Classical.em (inP data ⟨f, o, m⟩) with h | h
          · exact h
          · have := HBI.out.2 h; cases this
        have HPA3 := Lib.hid (HPA2.out hip)
        obtain ⟨⟨i0, i1⟩, ⟨i2, i3⟩, i4, i5⟩ := hip
        dsimp only at i0 i1 i2 i3 i4 i5
        have p0' : (X4.drewN q).cell? ⟨bp, 0, none⟩ = some (.int .i64 f) := p0
        have p1' : (X4.drewN q).cell? ⟨bp, 1, none⟩ = some (.int .i64 o) := p1
        have p2' : (X4.drewN q).cell? ⟨bp, 2, none⟩ = some (.int .i64 m) := p2
        have HV6 := Lib.hid (HV4.out.below (drew_below X4 q))
        have HP6 := Lib.hid (HP5.out.below (drew_below X4 q))
        have HNW6 : Hid ((X4.drewN q).heap[bp]? = some (.cells #[.int .i64 f, .int .i64 o, .int .i64 m] 46 (0, 0))) := HNW
        clear p0 p1 p2 HV4 HP5 HNW HBI HPA2 HBAD HBX
        generalize World.drewN X4 q = X5 at *
        obtain ⟨F, rfl⟩ := Int.eq_ofNat_of_zero_le i0
        obtain ⟨O, rfl⟩ := Int.eq_ofNat_of_zero_le i2
        obtain ⟨M, rfl⟩ := Int.eq_ofNat_of_zero_le i4
        have hF : F < data.length := by omega
        have hFn : F < nv := by have := HN.out; omega
        have hDG := datP_get (p := ⟨(F : Int), (O : Int), (M : Int)⟩) hF rfl
        rw [hDG] at i3 i5
        have HPP := Lib.hid (show partP data ⟨(F : Int), (O : Int), (M : Int)⟩ = (data[F].drop O).take M by unfold partP; rw [hDG]; simp only [Int.toNat_natCast])
        have HDF := Lib.hid (HDL.out _ (List.getElem_mem hF))
        obtain ⟨bd, od, adk, ncapk, rfl, hdlt0, hdc0, hdl, hle, hmx, hnn⟩ := HD.out.at1 hF
        have hdc := (HBX2.out.cell (p := ⟨bd, od + F, none⟩) hdlt0).trans hdc0
        have HDLI := Lib.hid hdl
        obtain ⟨D, hD⟩ : ∃ D, D = data[F] := ⟨_, rfl⟩
        rw [← hD] at HPP HDF hdc HDLI hle i3 i5
        obtain ⟨LD, hLD⟩ : ∃ LD, LD = D.length := ⟨_, rfl⟩
        rw [← hLD] at HDF hdc hle i3 i5
        have HLD := Lib.hid hLD
        have hiF : F < ids.length := by have := HNI.out; omega
        have hvF : F < vs.length := by have := HNV.out; omega
        obtain ⟨bi, oi, rfl, hilt0, qi⟩ := HI.out.get celI hiF
        have qi0 : X5.cell? ⟨bi, oi + F, none⟩ = some (.int .i64 ids[F]) := (HBX2.out.cell (p := ⟨bi, oi + F, none⟩) hilt0).trans (by simpa using qi 0 _ (by decide) rfl)
        obtain ⟨bv, ov, rfl, hvlt0, qv⟩ := HVS.out.get celI hvF
        have qv0 : X5.cell? ⟨bv, ov + F, none⟩ = some (.int .i64 vs[F]) := (HBX2.out.cell (p := ⟨bv, ov + F, none⟩) hvlt0).trans (by simpa using qv 0 _ (by decide) rfl)
        have HLT0 := Lib.hid (show bi < w.heap.size ∧ bv < w.heap.size from ⟨hilt0, hvlt0⟩)
        have HEP := Lib.hid (show entP ids vs data ⟨(F : Int), (O : Int), (M : Int)⟩ = ⟨ids[F], vs[F], (O : Int), (M : Int), crc (partP data ⟨(F : Int), (O : Int), (M : Int)⟩)⟩ by
          unfold entP
          simp only [Int.toNat_natCast]
          simp [hiF, hvF])
        generalize ids[F] = NI at *
        generalize vs[F] = NV at *
        have HCI := Lib.hid qi0
        have HCV := Lib.hid qv0
        clear hdl hdlt0 hdc0 hD hLD hDG hF i0 i1 i2 i4 hiF hvF hilt0 hvlt0 qi qv qi0 qv0
        obtain ⟨P, hP⟩ : ∃ P, P = partP data ⟨(F : Int), (O : Int), (M : Int)⟩ := ⟨_, rfl⟩
        rw [← hP] at HFLT HPP HEP
        rw [HEP.out] at HMAP
        clear hP HEP
        have hML : M ≤ LD - O := by omega
        have hOL : O ≤ LD := by omega
        have HPL := Lib.hid (show M = P.length by rw [HPP.out, List.length_take, List.length_drop, ← HLD.out]; omega)
        have HCP : Hid (X5.cell? ⟨bp, 0, none⟩ = some (.int .i64 (F : Int)) ∧ X5.cell? ⟨bp, 1, none⟩ = some (.int .i64 (O : Int)) ∧ X5.cell? ⟨bp, 2, none⟩ = some (.int .i64 (M : Int)) ∧ X5.cell? ⟨bd, od + F, none⟩ = some (.slice adk LD ncapk)) := Lib.hid ⟨p0', p1', p2', hdc⟩
        obtain ⟨pa, hpa⟩ : ∃ pa, pa = ptA adk ncapk O := ⟨_, rfl⟩
        have HPA := Lib.hid hpa
        have HLP : Hid (Lie w pa P) := Lib.hid (by
          have h1 := HDLI.out.pt (cap := ncapk) (by rw [← HLD.out]; exact hle) O M
          rw [← HPP.out, ← hpa] at h1
          exact h1)
        have HNP := Lib.hid (show pa = none → ncapk - O = 0 from by rw [hpa]; exact ptA_nil hnn O)
        clear hpa hnn p0' p1' p2' hdc HDLI
        have hwOM : IntKind.i64.wrap ((O : Int) + (M : Int)) = (O : Int) + (M : Int) := IntWalk.i64_in _ (by have := HDF.out; omega)
        go_wp2_with fail
        have HS4 : Hid (X5.drew.cell? ⟨bp, 0, none⟩ = some (.int .i64 (F : Int)) ∧ X5.drew.cell? ⟨bp, 1, none⟩ = some (.int .i64 (O : Int)) ∧ X5.drew.cell? ⟨bp, 2, none⟩ = some (.int .i64 (M : Int)) ∧ X5.drew.cell? ⟨bd, od + F, none⟩ = some (.slice adk LD ncapk)) := HCP
        refine wp_region_noPanic ?_
        refine wp_region_held_drew (S := (fun X => X.cell? ⟨bp, 0, none⟩ = some (.int .i64 (F : Int)) ∧ X.cell? ⟨bp, 1, none⟩ = some (.int .i64 (O : Int)) ∧ X.cell? ⟨bp, 2, none⟩ = some (.int .i64 (M : Int)) ∧ X.cell? ⟨bd, od + F, none⟩ = some (.slice adk LD ncapk))) (by kernel_rfl) (HS4.out) (fun hS0 => ?_)
        refine held_take (i := 0) (v := ?_) rfl (by kernel_rfl) (by kernel_rfl) (by kernel_rfl) (fun _ _ _ h => h) (by rfl) ?_ (by assumption) ?_
        rotate_left
        · intro X hSX
          try dsimp only at hSX
          go_simp <;> with_reducible rfl
        simp only [Act.put, List.setIfInBounds_toArray, List.set_cons_zero, List.set_cons_succ]
        refine held_take (i := 1) (v := ?_) rfl (by kernel_rfl) (by kernel_rfl) (by kernel_rfl) (fun _ _ _ h => h) (by rfl) ?_ (by assumption) ?_
        rotate_left
        · intro X hSX
          try dsimp only at hSX
          go_simp <;> with_reducible rfl
        simp only [Act.put, List.setIfInBounds_toArray, List.set_cons_zero, List.set_cons_succ]
        refine held_take (i := 5) (v := ?_) rfl (by kernel_rfl) (by kernel_rfl) (by kernel_rfl) (fun _ _ _ h => h) (by rfl) ?_ (by assumption) ?_
        rotate_left
        · intro X hSX
          try dsimp only at hSX
          go_simp <;> with_reducible rfl
        simp only [Act.put, List.setIfInBounds_toArray, List.set_cons_zero, List.set_cons_succ]
        refine held_take (i := 7) (v := ?_) rfl (by kernel_rfl) (by kernel_rfl) (by kernel_rfl) (fun _ _ _ h => h) (by rfl) ?_ (by assumption) ?_
        rotate_left
        · intro X hSX
          try dsimp only at hSX
          go_simp <;> with_reducible rfl
        simp only [Act.put, List.setIfInBounds_toArray, List.set_cons_zero, List.set_cons_succ]
        refine held_take (i := 9) (v := ?_) rfl (by kernel_rfl) (by kernel_rfl) (by kernel_rfl) (fun _ _ _ h => h) (by rfl) ?_ (by assumption) ?_
        rotate_left
        · intro X hSX
          try dsimp only at hSX
          go_simp <;> with_reducible rfl
        simp only [Act.put, List.setIfInBounds_toArray, List.set_cons_zero, List.set_cons_succ]
        refine held_take (i := 2) (v := ?_) rfl (by kernel_rfl) (by kernel_rfl) (by kernel_rfl) (fun _ _ _ h => h) (by rfl) ?_ (by assumption) ?_
        rotate_left
        · intro X hSX
          try dsimp only at hSX
          obtain ⟨p0, p1, p2, p3⟩ := hSX
          go_simp <;> with_reducible rfl
        simp only [Act.put, List.setIfInBounds_toArray, List.set_cons_zero, List.set_cons_succ]
        refine held_take (i := 6) (v := ?_) rfl (by kernel_rfl) (by kernel_rfl) (by kernel_rfl) (fun _ _ _ h => h) (by rfl) ?_ (by assumption) ?_
        rotate_left
        · intro X hSX
          try dsimp only at hSX
          obtain ⟨p0, p1, p2, p3⟩ := hSX
          go_simp <;> with_reducible rfl
        simp only [Act.put, List.setIfInBounds_toArray, List.set_cons_zero, List.set_cons_succ]
        refine held_take (i := 8) (v := ?_) rfl (by kernel_rfl) (by kernel_rfl) (by kernel_rfl) (fun _ _ _ h => h) (by rfl) ?_ (by assumption) ?_
        rotate_left
        · intro X hSX
          try dsimp only at hSX
          obtain ⟨p0, p1, p2, p3⟩ := hSX
          go_simp <;> with_reducible rfl
        simp only [Act.put, List.setIfInBounds_toArray, List.set_cons_zero, List.set_cons_succ]
        refine held_take (i := 10) (v := ?_) rfl (by kernel_rfl) (by kernel_rfl) (by kernel_rfl) (fun _ _ _ h => h) (by rfl) ?_ (by assumption) ?_
        rotate_left
        · intro X hSX
          try dsimp only at hSX
          obtain ⟨p0, p1, p2, p3⟩ := hSX
          go_simp <;> with_reducible rfl
        simp only [Act.put, List.setIfInBounds_toArray, List.set_cons_zero, List.set_cons_succ]
        refine held_take (i := 3) (v := ?_) rfl (by kernel_rfl) (by kernel_rfl) (by kernel_rfl) (fun _ _ _ h => h) (by rfl) ?_ (by assumption) ?_
        rotate_left
        · intro X hSX
          try dsimp only at hSX
          go_simp <;> with_reducible rfl
        simp only [Act.put, List.setIfInBounds_toArray, List.set_cons_zero, List.set_cons_succ]
        refine held_take (i := 4) (v := ?_) rfl (by kernel_rfl) (by kernel_rfl) (by kernel_rfl) (fun _ _ _ h => h) (by rfl) ?_ (by assumption) ?_
        rotate_left
        · intro X hSX
          try dsimp only at hSX
          obtain ⟨p0, p1, p2, p3⟩ := hSX
          go_simp <;> with_reducible rfl
        simp only [Act.put, List.setIfInBounds_toArray, List.set_cons_zero, List.set_cons_succ]
        refine held_take (i := 11) (v := ?_) rfl (by kernel_rfl) (by kernel_rfl) (by kernel_rfl) (fun _ _ _ h => h) (by rfl) ?_ (by assumption) ?_
        rotate_left
        · intro X hSX
          try dsimp only at hSX
          go_simp <;> with_reducible rfl
        simp only [Act.put, List.setIfInBounds_toArray, List.set_cons_zero, List.set_cons_succ]
        refine held_take (i := 12) (v := ?_) rfl (by kernel_rfl) (by kernel_rfl) (by kernel_rfl) (fun _ _ _ h => h) (by rfl) ?_ (by assumption) ?_
        rotate_left
        · intro X hSX
          try dsimp only at hSX
          have hrun := run_part adk LD ncapk O (O + M) X (by omega) (by omega)
          rw [Int.natCast_add, Nat.add_sub_cancel_left] at hrun
          go_simp <;> with_reducible rfl
        simp only [Act.put, List.setIfInBounds_toArray, List.set_cons_zero, List.set_cons_succ]
        refine held_take (i := 13) (v := ?_) rfl (by kernel_rfl) (by kernel_rfl) (by kernel_rfl) (fun _ _ _ h => h) (by rfl) ?_ (by assumption) ?_
        rotate_left
        · intro X hSX
          try dsimp only at hSX
          go_simp <;> with_reducible rfl
        simp only [Act.put, List.setIfInBounds_toArray, List.set_cons_zero, List.set_cons_succ]
        refine wpAnyH_done (by kernel_rfl) ?_ _
        refine NoPanic.normal ?_
        rw [← HPA.out]
        clear HS4 hS0 hwOM
        go_wp2_with fail
        have HS5 : Hid (X5.drew.drew.cell? ⟨bp, 0, none⟩ = some (.int .i64 (F : Int)) ∧ X5.drew.drew.cell? ⟨bp, 1, none⟩ = some (.int .i64 (O : Int)) ∧ X5.drew.drew.cell? ⟨bp, 2, none⟩ = some (.int .i64 (M : Int)) ∧ X5.drew.drew.cell? ⟨bi, oi + F, none⟩ = some (.int .i64 NI) ∧ X5.drew.drew.cell? ⟨bv, ov + F, none⟩ = some (.int .i64 NV)) := Lib.hid ⟨HCP.out.1, HCP.out.2.1, HCP.out.2.2.1, HCI.out, HCV.out⟩
        refine wp_region_noPanic ?_
        refine wp_region_held_drew (S := (fun X => X.cell? ⟨bp, 0, none⟩ = some (.int .i64 (F : Int)) ∧ X.cell? ⟨bp, 1, none⟩ = some (.int .i64 (O : Int)) ∧ X.cell? ⟨bp, 2, none⟩ = some (.int .i64 (M : Int)) ∧ X.cell? ⟨bi, oi + F, none⟩ = some (.int .i64 NI) ∧ X.cell? ⟨bv, ov + F, none⟩ = some (.int .i64 NV))) (by kernel_rfl) (HS5.out) (fun hS0 => ?_)
        replace HV6 : Hid (Of 54 5 enC X5.drew.drew w.heap.size u12 E) := Lib.hid (HV6.out.keep fun _ _ _ => rfl)
        replace HP6 : Hid (Of 5 1 u8C X5.drew.drew w.heap.size u13 Y) := Lib.hid (HP6.out.keep fun _ _ _ => rfl)
        have HB6 : Hid (Below w.heap.size w X5.drew.drew) := Lib.hid HBX2.out.drew.drew
        have HL6 : Hid (Lie X5.drew.drew pa P) := Lib.hid (HLP.out.below HB6.out rfl)
        replace HNW6 : Hid (X5.drew.drew.heap[bp]? = some (.cells #[.int .i64 (F : Int), .int .i64 (O : Int), .int .i64 (M : Int)] 46 (0, 0))) := HNW6
        clear HBX2 HCP HCI HCV HS5
        generalize World.drew (World.drew X5) = X6 at *
        refine held_take (i := 0) (v := ?_) rfl (by kernel_rfl) (by kernel_rfl) (by kernel_rfl) (fun _ _ _ h => h) (by rfl) ?_ (by assumption) ?_
        rotate_left
        · intro X hSX
          try dsimp only at hSX
          go_simp <;> with_reducible rfl
        simp only [Act.put, List.setIfInBounds_toArray, List.set_cons_zero, List.set_cons_succ]
        refine held_take (i := 1) (v := ?_) rfl (by kernel_rfl) (by kernel_rfl) (by kernel_rfl) (fun _ _ _ h => h) (by rfl) ?_ (by assumption) ?_
        rotate_left
        · intro X hSX
          try dsimp only at hSX
          go_simp <;> with_reducible rfl
        simp only [Act.put, List.setIfInBounds_toArray, List.set_cons_zero, List.set_cons_succ]
        refine held_take (i := 6) (v := ?_) rfl (by kernel_rfl) (by kernel_rfl) (by kernel_rfl) (fun _ _ _ h => h) (by rfl) ?_ (by assumption) ?_
        rotate_left
        · intro X hSX
          try dsimp only at hSX
          go_simp <;> with_reducible rfl
        simp only [Act.put, List.setIfInBounds_toArray, List.set_cons_zero, List.set_cons_succ]
        refine held_take (i := 15) (v := ?_) rfl (by kernel_rfl) (by kernel_rfl) (by kernel_rfl) (fun _ _ _ h => h) (by rfl) ?_ (by assumption) ?_
        rotate_left
        · intro X hSX
          try dsimp only at hSX
          go_simp <;> with_reducible rfl
        simp only [Act.put, List.setIfInBounds_toArray, List.set_cons_zero, List.set_cons_succ]
        refine held_take (i := 2) (v := ?_) rfl (by kernel_rfl) (by kernel_rfl) (by kernel_rfl) (fun _ _ _ h => h) (by rfl) ?_ (by assumption) ?_
        rotate_left
        · intro X hSX
          try dsimp only at hSX
          go_simp <;> with_reducible rfl
        simp only [Act.put, List.setIfInBounds_toArray, List.set_cons_zero, List.set_cons_succ]
        refine held_take (i := 7) (v := ?_) rfl (by kernel_rfl) (by kernel_rfl) (by kernel_rfl) (fun _ _ _ h => h) (by rfl) ?_ (by assumption) ?_
        rotate_left
        · intro X hSX
          try dsimp only at hSX
          go_simp <;> with_reducible rfl
        simp only [Act.put, List.setIfInBounds_toArray, List.set_cons_zero, List.set_cons_succ]
        refine held_take (i := 11) (v := ?_) rfl (by kernel_rfl) (by kernel_rfl) (by kernel_rfl) (fun _ _ _ h => h) (by rfl) ?_ (by assumption) ?_
        rotate_left
        · intro X hSX
          try dsimp only at hSX
          go_simp <;> with_reducible rfl
        simp only [Act.put, List.setIfInBounds_toArray, List.set_cons_zero, List.set_cons_succ]
        refine held_take (i := 13) (v := ?_) rfl (by kernel_rfl) (by kernel_rfl) (by kernel_rfl) (fun _ _ _ h => h) (by rfl) ?_ (by assumption) ?_
        rotate_left
        · intro X hSX
          try dsimp only at hSX
          go_simp <;> with_reducible rfl
        simp only [Act.put, List.setIfInBounds_toArray, List.set_cons_zero, List.set_cons_succ]
        refine held_take (i := 3) (v := ?_) rfl (by kernel_rfl) (by kernel_rfl) (by kernel_rfl) (fun _ _ _ h => h) (by rfl) ?_ (by assumption) ?_
        rotate_left
        · intro X hSX
          try dsimp only at hSX
          obtain ⟨p0, p1, p2, p3, p4⟩ := hSX
          go_simp <;> with_reducible rfl
        simp only [Act.put, List.setIfInBounds_toArray, List.set_cons_zero, List.set_cons_succ]
        refine held_take (i := 8) (v := ?_) rfl (by kernel_rfl) (by kernel_rfl) (by kernel_rfl) (fun _ _ _ h => h) (by rfl) ?_ (by assumption) ?_
        rotate_left
        · intro X hSX
          try dsimp only at hSX
          obtain ⟨p0, p1, p2, p3, p4⟩ := hSX
          go_simp <;> with_reducible rfl
        simp only [Act.put, List.setIfInBounds_toArray, List.set_cons_zero, List.set_cons_succ]
        refine held_take (i := 12) (v := ?_) rfl (by kernel_rfl) (by kernel_rfl) (by kernel_rfl) (fun _ _ _ h => h) (by rfl) ?_ (by assumption) ?_
        rotate_left
        · intro X hSX
          try dsimp only at hSX
          obtain ⟨p0, p1, p2, p3, p4⟩ := hSX
          go_simp <;> with_reducible rfl
        simp only [Act.put, List.setIfInBounds_toArray, List.set_cons_zero, List.set_cons_succ]
        refine held_take (i := 14) (v := ?_) rfl (by kernel_rfl) (by kernel_rfl) (by kernel_rfl) (fun _ _ _ h => h) (by rfl) ?_ (by assumption) ?_
        rotate_left
        · intro X hSX
          try dsimp only at hSX
          obtain ⟨p0, p1, p2, p3, p4⟩ := hSX
          go_simp <;> with_reducible rfl
        simp only [Act.put, List.setIfInBounds_toArray, List.set_cons_zero, List.set_cons_succ]
        refine held_take (i := 4) (v := ?_) rfl (by kernel_rfl) (by kernel_rfl) (by kernel_rfl) (fun _ _ _ h => h) (by rfl) ?_ (by assumption) ?_
        rotate_left
        · intro X hSX
          try dsimp only at hSX
          go_simp <;> with_reducible rfl
        simp only [Act.put, List.setIfInBounds_toArray, List.set_cons_zero, List.set_cons_succ]
        refine held_take (i := 9) (v := ?_) rfl (by kernel_rfl) (by kernel_rfl) (by kernel_rfl) (fun _ _ _ h => h) (by rfl) ?_ (by assumption) ?_
        rotate_left
        · intro X hSX
          try dsimp only at hSX
          go_simp <;> with_reducible rfl
        simp only [Act.put, List.setIfInBounds_toArray, List.set_cons_zero, List.set_cons_succ]
        refine held_take (i := 5) (v := ?_) rfl (by kernel_rfl) (by kernel_rfl) (by kernel_rfl) (fun _ _ _ h => h) (by rfl) ?_ (by assumption) ?_
        rotate_left
        · intro X hSX
          try dsimp only at hSX
          obtain ⟨p0, p1, p2, p3, p4⟩ := hSX
          go_simp <;> with_reducible rfl
        simp only [Act.put, List.setIfInBounds_toArray, List.set_cons_zero, List.set_cons_succ]
        refine held_take (i := 10) (v := ?_) rfl (by kernel_rfl) (by kernel_rfl) (by kernel_rfl) (fun _ _ _ h => h) (by rfl) ?_ (by assumption) ?_
        rotate_left
        · intro X hSX
          try dsimp only at hSX
          obtain ⟨p0, p1, p2, p3, p4⟩ := hSX
          go_simp <;> with_reducible rfl
        simp only [Act.put, List.setIfInBounds_toArray, List.set_cons_zero, List.set_cons_succ]
        have hPM : P.length ≤ 100000 := by have := HPL.out; have := HDF.out; omega
        have HLT7 := Lib.hid (show bp < X6.heap.size ∧ bi < X6.heap.size ∧ bv < X6.heap.size from ⟨World.block_lt_of_cell? X6 _ hS0.1, World.block_lt_of_cell? X6 _ hS0.2.2.2.1, World.block_lt_of_cell? X6 _ hS0.2.2.2.2⟩)
        have hs7 := hS0
        refine held_call (i := 16) rfl (by kernel_rfl) (by rfl) (fun K' hK' => ?_)
        go_simp
        refine (rcsum_any pa M (ncapk - O) P X6 HL6.out HPL.out (by omega)).mono ?_
        rintro e X7 ⟨rfl, rfl⟩
        refine held_go hK' (hs7) ?_
        try simp only [Act.put, List.setIfInBounds_toArray, List.set_cons_zero, List.set_cons_succ]
        clear hS0
        obtain ⟨C, hC⟩ : ∃ C, C = crc P := ⟨_, rfl⟩
        rw [← hC] at HMAP ⊢
        have HCR := Lib.hid hC
        clear hC
        have hS0 := hs7
        refine held_take (i := 17) (v := ?_) rfl (by kernel_rfl) (by kernel_rfl) (by kernel_rfl) (fun _ _ _ h => h) (by rfl) ?_ (by assumption) ?_
        rotate_left
        · intro X hSX
          try dsimp only at hSX
          go_simp <;> with_reducible rfl
        simp only [Act.put, List.setIfInBounds_toArray, List.set_cons_zero, List.set_cons_succ]
        refine held_call (i := 18) rfl (by kernel_rfl) (by rfl) (fun K' hK' => ?_)
        go_simp
        have hb8 := co_box1 X6 (.cells #[.int .i64 NI, .int .i64 NV, .int .i64 (O : Int), .int .i64 (M : Int), .int .u32 (C : Int)] 54)
        have HLI8 : Hid (Lf enC (X6.alloc (.cells #[.int .i64 NI, .int .i64 NV, .int .i64 (O : Int), .int .i64 (M : Int), .int .u32 (C : Int)] 54)) (some ⟨X6.heap.size, 0, none⟩) [⟨NI, NV, (O : Int), (M : Int), C⟩]) := Lib.hid (Lf.lits X6 _ _ rfl _ rfl)
        have HV8 := Lib.hid (HV6.out.below hb8)
        have HP8 := Lib.hid (HP6.out.below hb8)
        have HB8 := Lib.hid (HB6.out.trans (hb8.mono HB6.out.size))
        have HNW8 := Lib.hid ((hb8.block bp HLT7.out.1).trans HNW6.out)
        have hs8 := And.intro ((hb8.cell (p := ⟨bp, 0, none⟩) HLT7.out.1).trans hs7.1) (And.intro ((hb8.cell (p := ⟨bp, 1, none⟩) HLT7.out.1).trans hs7.2.1) (And.intro ((hb8.cell (p := ⟨bp, 2, none⟩) HLT7.out.1).trans hs7.2.2.1) (And.intro ((hb8.cell (p := ⟨bi, oi + F, none⟩) HLT7.out.2.1).trans hs7.2.2.2.1) ((hb8.cell (p := ⟨bv, ov + F, none⟩) HLT7.out.2.2).trans hs7.2.2.2.2))))
        clear hb8 HV6 HP6 HL6 HB6 HNW6
        refine held_go hK' (hs8) ?_
        try simp only [Act.put, List.setIfInBounds_toArray, List.set_cons_zero, List.set_cons_succ]
        have hEl1 : E.length + 1 ≤ 10000000 := by omega
        have HZ8 := HB8.out.size
        obtain ⟨E2, hE2⟩ : ∃ E2, E2 = E ++ [(⟨NI, NV, (O : Int), (M : Int), C⟩ : Ent)] := ⟨_, rfl⟩
        have HE2 := Lib.hid hE2
        clear hE2
        refine held_call (i := 19) rfl (by kernel_rfl) (by rfl) (fun K' hK' => ?_)
        refine oper_of_list (ops := #[]) (by unfold Region.wanted; rfl) (wpList_append_g typE celE rfl (.tmp 132) (.tmp 150) rfl w.heap.size _ E rfl HV8.out ⟨X6.heap.size, 0, none⟩ 1 1 [⟨NI, NV, (O : Int), (M : Int), C⟩] HLI8.out rfl rfl hEl1 HZ8 (fun v9 w9 ho9 hg9 _ => onlyN_end ?_))
        rw [← HE2.out] at ho9
        have HV9 := Lib.hid ho9
        have HP9 := Lib.hid (HP8.out.kept hg9 (HP8.out.apart HV8.out ub_ne))
        have hb9 := (Below.refl w.heap.size _).grown hg9 HZ8 (fun k hk => (HV8.out.lt k hk).1)
        have HB9 := Lib.hid (HB8.out.trans hb9)
        have hbb := hg9.block bp (Array.getElem?_eq_some_iff.1 HNW8.out).1 (fun e => by
          obtain ⟨cur, hc⟩ := HV8.out.typ e.symm
          rw [HNW8.out] at hc
          have := (Obj.cells.inj (Option.some.inj hc)).2.1
          exact absurd this (by decide))
        have hs9 := And.intro ((World.cell?_of_block (a := ⟨bp, 0, none⟩) hbb).trans hs8.1) (And.intro ((World.cell?_of_block (a := ⟨bp, 1, none⟩) hbb).trans hs8.2.1) (And.intro ((World.cell?_of_block (a := ⟨bp, 2, none⟩) hbb).trans hs8.2.2.1) (And.intro ((hb9.cell (p := ⟨bi, oi + F, none⟩) HLT0.out.1).trans hs8.2.2.2.1) ((hb9.cell (p := ⟨bv, ov + F, none⟩) HLT0.out.2).trans hs8.2.2.2.2))))
        have HLW := Lib.hid (lf_lie (HLP.out.below HB9.out rfl))
        clear ho9 hg9 hb9 hbb HV8 HP8 HB8 HLI8 HLT7 hs8 HNW8
        refine held_go hK' (hs9) ?_
        try simp only [Act.put, List.setIfInBounds_toArray, List.set_cons_zero, List.set_cons_succ]
        refine held_take (i := 20) (v := ?_) rfl (by kernel_rfl) (by kernel_rfl) (by kernel_rfl) (fun _ _ _ h => h) (by rfl) ?_ (by assumption) ?_
        rotate_left
        · intro X hSX
          try dsimp only at hSX
          go_simp <;> with_reducible rfl
        simp only [Act.put, List.setIfInBounds_toArray, List.set_cons_zero, List.set_cons_succ]
        refine wpAnyH_done (by kernel_rfl) ?_ _
        refine NoPanic.normal ?_
        have hYl1 : Y.length + M ≤ 10000000 := by have := HYL.out; have := HPL.out; omega
        have HZ9 := Lib.hid HB9.out.size
        clear hs7 hS0
        go_wp2_with (at_builtin; refine wpList_append_f typU celU rfl (.tmp 152) (.tmp 153) rfl w.heap.size _ Y rfl HP9.out pa M (ncapk - O) P HNP.out HLW.out HPL.out rfl hYl1 HZ9.out ?_; intro v10 w10 ho10 hg10; rw [← HFLT.out] at ho10; have HP10 := Lib.hid ho10; have HV10 := Lib.hid (HV9.out.kept hg10 (HV9.out.apart HP9.out (Ne.symm ub_ne))); have HB10 := Lib.hid (HB9.out.grown hg10 HZ9.out (fun k hk => (HP9.out.lt k hk).1)); clear ho10 hg10)
        have HV11 : Hid (Of 54 5 enC w10 w.heap.size v9 ((l.take (i + 1)).map (entP ids vs data))) := Lib.hid (by rw [HMAP.out, ← HE2.out]; exact HV10.out)
        go_roundg gk0
        case rel => exact ⟨i + 1, _, _, by go_num, rfl, rfl, by omega, HPA3, HV11, HP10, HB10⟩
        case measure => omega
end Go.Proofs.Ytpjegenobadckaa
