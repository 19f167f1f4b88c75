/-
  The law package's packs.
-/
import Derived.Test.YtgmcniflandmmaaPkLawS
import Derived.Test.YtgmcniflandmmaaPkBndM
import Derived.Test.YtgmcniflandmmaaPkFitS
namespace Go.Proofs.Ytgmcniflandmmaa
open Go.RowKit
set_option linter.unusedVariables false
set_option linter.unusedSimpArgs false
def boC (x : Bool) : List Value := [.bool x]
theorem celB : Cel boC 1 := ⟨fun _ => rfl, fun x u hu => by simp [boC] at hu; subst hu; rfl, by decide⟩
theorem infoBo : (Try.prog.info? 4).map (fun i => (i.zero, i.size, i.bytes)) = some (some (.bool false), 1, 1) := by kernel_rfl
theorem bo_flat (l : List Bool) : l.flatMap boC = l.map Value.bool := by
  induction l with
  | nil => rfl
  | cons x l ih => rw [List.flatMap_cons, ih]; rfl
theorem made_false (n : Nat) : (madeCells (Value.bool false).cells (n * 1)).toList = List.replicate n (.bool false) := by
  apply List.ext_getElem
  · simp [madeCells]
  · intro i h1 h2
    simp [madeCells, Value.cells, Nat.mod_one]
/-- n truth values made anew -/
theorem wpList_make_b {w : World} {ops : Array Oper} {rest : List Oper} {o : Oper} {a : Act} {Q : Exit → Act → World → Prop} (hgd : o.guard = none) (l c : Operand) (hop : o.op = Op.makeSlice 64 l c)
    (L C : Int) (n : Nat) (hl : a.eval l = .int .i64 L) (hc : a.eval c = .int .i64 C) (hL : L = (n : Int)) (hC : C = (n : Int)) (hn : n ≤ 100000)
    (h : ∀ g w', Of 4 1 boC w' w.heap.size (.slice (some ⟨g, 0, none⟩) n n) (List.replicate n false) → Below w.heap.size w w' → wpList Try.prog ops Q rest (a.put o.dst (.slice (some ⟨g, 0, none⟩) n n)) w') : wpList Try.prog ops Q (o :: rest) a w := by
  obtain ⟨i, hi, hz0, hz1, hz2⟩ : ∃ i : TypeInfo, Try.prog.info? 4 = some i ∧ i.zero = some (.bool false) ∧ i.size = 1 ∧ i.bytes = 1 := by
    have h := infoBo
    rcases hi : Try.prog.info? 4 with _ | i
    · rw [hi] at h; simp at h
    · rw [hi] at h
      simp only [Option.map_some, Option.some.injEq, Prod.mk.injEq] at h
      exact ⟨i, rfl, h.1, h.2.1, h.2.2⟩
  refine wpList_make_full w hgd l c 64 hop w.heap.size 4 i (.bool false) 1 Try.underlying64 hi hz0 hz1 .i64 .i64 L C n hl hc hL hC (by rw [hz2]; omega) (by unfold maxLen; omega) (Nat.le_refl _) (fun w' h2 h3 => ?_)
  rw [made_false] at h2
  have hb : Below w.heap.size w w' := (Below.refl _ _).grown h3 (Nat.le_refl _) (by simp)
  refine h _ w' ?_ hb
  unfold Of
  rw [bo_flat, List.length_replicate, List.map_replicate]
  exact h2
/-- which files have been seen -/
def seenL (n : Nat) (P : List Nat) : List Bool := (List.range n).map fun x => decide (x ∈ P)
theorem seenL_nil (n : Nat) : seenL n [] = List.replicate n false := by
  unfold seenL
  apply List.ext_getElem
  · simp
  · intro i h1 h2; simp
theorem seenL_length (n : Nat) (P : List Nat) : (seenL n P).length = n := by simp [seenL]
theorem seenL_get {n : Nat} {P : List Nat} {x : Nat} (h : x < n) : (seenL n P)[x]? = some (decide (x ∈ P)) := by simp [seenL, h]
theorem seenL_set {n : Nat} {P : List Nat} {x : Nat} (h : x < n) : (seenL n P).set x true = seenL n (P ++ [x]) := by
  apply List.ext_getElem?
  intro i
  rw [List.getElem?_set, seenL_length]
  by_cases e : x = i
  · subst e
    rw [if_pos rfl, if_pos h, seenL_get h]
    simp
  · rw [if_neg e]
    by_cases hi : i < n
    · rw [seenL_get hi, seenL_get hi]
      simp [Ne.symm e]
    · rw [List.getElem?_eq_none (by rw [seenL_length]; omega), List.getElem?_eq_none (by rw [seenL_length]; omega)]
theorem flat_gen {α : Type} {ll : List (List α)} {i k : Nat} (hi : i < ll.length) (hk : k < ll[i].length) : ll.flatten = ((ll.take i).flatten ++ (ll[i].take k)) ++ (ll[i][k] :: (ll[i].drop (k + 1) ++ (ll.drop (i + 1)).flatten)) := by
  conv => lhs; rw [← List.take_append_drop i ll, List.drop_eq_getElem_cons hi, List.flatten_append, List.flatten_cons]
  conv => lhs; rw [← List.take_append_drop k ll[i], List.drop_eq_getElem_cons hk]
  simp only [List.append_assoc, List.cons_append]
theorem fresh_at {ll : List (List Nat)} (h : ll.flatten.Nodup) {i k : Nat} (hi : i < ll.length) (hk : k < ll[i].length) : ll[i][k] ∉ (ll.take i).flatten ++ (ll[i].take k) := by
  rw [flat_gen hi hk] at h
  intro hm
  exact (List.nodup_append.1 h).2.2 _ hm _ (List.mem_cons_self) rfl
theorem next_at {α : Type} {ll : List (List α)} {i k : Nat} (hi : i < ll.length) (hk : k < ll[i].length) : ((ll.take i).flatten ++ (ll[i].take k)) ++ [ll[i][k]] = (ll.take i).flatten ++ (ll[i].take (k + 1)) := by
  rw [List.take_succ_eq_append_getElem hk, List.append_assoc]
theorem row_at {α : Type} {ll : List (List α)} {i : Nat} (hi : i < ll.length) : (ll.take i).flatten ++ (ll[i].take ll[i].length) = (ll.take (i + 1)).flatten := by
  rw [List.take_length, List.take_succ_eq_append_getElem hi, List.flatten_append]
  simp
theorem len_at {α : Type} {ll : List (List α)} {i k : Nat} (hi : i < ll.length) (hk : k < ll[i].length) : ((ll.take i).flatten ++ (ll[i].take k)).length < ll.flatten.length := by
  rw [flat_gen hi hk, List.length_append]
  simp
theorem Of.cellB {w : World} {B g n cap i : Nat} {y : List Bool} {x : Bool} (h : Of 4 1 boC w B (.slice (some ⟨g, 0, none⟩) n cap) y) (hx : y[i]? = some x) : w.cell? ⟨g, i, none⟩ = some (.bool x) ∧ w.frozen? ⟨g, i, none⟩ = false := by
  obtain ⟨hi, rfl⟩ := List.getElem?_eq_some_iff.1 hx
  obtain ⟨ad, cap', e, hl, -⟩ := h.read
  cases e
  obtain ⟨b, off, e, hlt, hc⟩ := hl.get celB hi
  cases e
  have := hc 0 _ (by decide) rfl
  obtain ⟨cur, hcu⟩ := h.typ (g := g) rfl
  exact ⟨by simpa using this, by simp [World.frozen?, hcu]⟩
set_option maxRecDepth 100000 in
set_option maxHeartbeats 8000000 in
theorem packs_any (ad : Option Addr) (n cap : Nat) (l : List Int) (c : Int) (v : Value) (B : Nat) (ll : List (List Nat)) (w : World) (hl : Lf inC w ad l) (hn : n = l.length) (hv : NI w B v ll) (hg : GoodF l c ll) (hp : ll.flatten.Perm (List.range l.length)) (hok : OkV l c) (h6 : n ≤ 600) :
    Calls Try.prog 21 #[.slice ad n cap, .int .i64 c, v] w fun e w' => e = .returned (.bool true) ∧ Below w.heap.size w w' := by
  have HL := Lib.hid hl
  have HN := Lib.hid hn
  have HG := Lib.hid hg
  have HV := Lib.hid hv
  have HOK := Lib.hid hok
  have HND := Lib.hid (show ll.flatten.Nodup from hp.nodup_iff.2 List.nodup_range)
  have HFL := Lib.hid (show ll.flatten.length = n by rw [hp.length_eq, List.length_range, hn])
  have hml : ll.length ≤ 600 := by
    have : ∀ (q : List (List Nat)), (∀ x ∈ q, 0 < x.length) → q.length ≤ q.flatten.length := by
      intro q
      induction q with
      | nil => intro _; simp
      | cons x q ih =>
        intro h
        rw [List.flatten_cons, List.length_append, List.length_cons]
        have h1 := h x (by simp)
        have h2 := ih (fun y hy => h y (by simp [hy]))
        omega
    have := this ll (fun x hx => (hg.len x hx).2)
    have := HFL.out
    omega
  obtain ⟨adv, capv, rfl, -⟩ := hv.read
  obtain ⟨M, hM⟩ : ∃ M, M = ll.length := ⟨_, rfl⟩
  rw [← hM] at HV hml ⊢
  have HM := Lib.hid hM
  obtain ⟨hc0, hc1⟩ := hok.1
  clear hl hn hg hv hp hok hM
  go_enter Try.func21, Try.ntmps21
  have hn1 : n ≤ 100000 := by omega
  go_wp2_with (with_reducible refine wpList_make_b rfl (.tmp 14) (.tmp 14) rfl _ _ n rfl rfl rfl rfl hn1 ?_; intro gs w1 hs1 hb1; have HS1 := Lib.hid hs1; have HB1 := Lib.hid hb1; clear hs1 hb1)
  rw [← seenL_nil] at HS1
  have HL1 := Lib.hid (HL.out.below HB1.out)
  go_loopg [8, 9] M (fun gk v8 v9 wx => ∃ i : Nat, v8 = .int .i64 (((ll.take i).flatten.length : Nat) : Int) ∧ v9 = .int .i64 i ∧ i + gk = M ∧ Hid (Of 4 1 boC wx w.heap.size (.slice (some ⟨gs, 0, none⟩) n n) (seenL n (ll.take i).flatten)) ∧ Hid (Below w.heap.size w wx))
  case atStart => exact ⟨0, by simp, rfl, by omega, by simpa using HS1, HB1⟩
  case round =>
    obtain ⟨i, rfl, rfl, hi, hS, hB⟩ := hrel
    cases gk with
    | zero =>
      obtain rfl : i = M := by omega
      have hfl : (ll.take i).flatten.length = n := by rw [List.take_of_length_le (by rw [HM.out]; exact Nat.le_refl _), HFL.out]
      rw [hfl]
      have hnn := eq_t (show (n : Int) = (n : Int) from rfl)
      go_wp2_with fail
      go_ret
      exact ⟨rfl, hB.out⟩
    | succ gk0 =>
      have hin : i < M := by omega
      have hil : i < ll.length := by have := HM.out; omega
      have hlen := HG.out.len _ (List.getElem_mem hil)
      have huse := HG.out.use _ (List.getElem_mem hil)
      have HNUM := Lib.hid (HG.out.num _ (List.getElem_mem hil))
      have HFR := Lib.hid (fun k (hk : k < (ll[i]).length) => fresh_at HND.out hil hk)
      have HNX := Lib.hid (fun k (hk : k < (ll[i]).length) => next_at hil hk)
      have HRW := Lib.hid (row_at hil)
      have HLA := Lib.hid (fun k (hk : k < (ll[i]).length) => len_at hil hk)
      obtain ⟨g, c1, a1, n1, e1, -, -, -, q0, o1⟩ := HV.out.get i hil
      rw [← HM.out] at e1
      cases e1
      obtain ⟨_, _, e1, l1, -⟩ := o1.read
      cases e1
      have HQ0 := Lib.hid q0
      have HGL := Lib.hid (World.block_lt_of_cell? w _ q0)
      have HLR := Lib.hid l1
      obtain ⟨R, hR⟩ : ∃ R, R = ll[i] := ⟨_, rfl⟩
      rw [← hR] at hlen huse HNUM HFR HNX HRW HLA HQ0 HLR
      obtain ⟨Lr, hL⟩ : ∃ Lr, Lr = R.length := ⟨_, rfl⟩
      rw [← hL] at HQ0 hlen
      have HLN := Lib.hid hL
      have HUSE := Lib.hid huse
      obtain ⟨hL64, hL0⟩ := hlen
      obtain ⟨P, hP⟩ : ∃ P, P = (ll.take i).flatten := ⟨_, rfl⟩
      rw [← hP] at hS HFR HNX HRW HLA ⊢
      clear hR hL o1 l1 q0 huse hil hP
      have q0 := (hB.out.cell (p := ⟨g, i, none⟩) HGL.out).trans HQ0.out
      go_wp2_with fail
      clear q0
      go_loopg [8, 10, 11] Lr (fun g2 v8 v10 v11 wx => ∃ (k : Nat) (T : Int), v8 = .int .i64 (((P ++ R.take k).length : Nat) : Int) ∧ v10 = .int .i64 T ∧ v11 = .int .i64 k ∧ k + g2 = Lr ∧ Hid (T = sumZ l (R.take k)) ∧ Hid (Of 4 1 boC wx w.heap.size (.slice (some ⟨gs, 0, none⟩) n n) (seenL n (P ++ R.take k))) ∧ Hid (Below w.heap.size w wx))
      case atStart => exact ⟨0, 0, by simp, rfl, rfl, by omega, Lib.hid (by simp [sumZ]), by simpa using hS, hB⟩
      case round =>
        obtain ⟨k, T, rfl, rfl, rfl, hk, hT, hS2, hB2⟩ := hrel
        have q0 := (hB2.out.cell (p := ⟨g, i, none⟩) HGL.out).trans HQ0.out
        cases gk with
        | zero =>
          obtain rfl : k = Lr := by omega
          have hTU : T = sumZ l R := by rw [hT.out, List.take_of_length_le (by rw [HLN.out]; exact Nat.le_refl _)]
          have huse := HUSE.out
          rw [← hTU] at huse
          have hPR : P ++ R.take k = (ll.take (i + 1)).flatten := by rw [← HRW.out, HLN.out]
          rw [hPR] at hS2 ⊢
          obtain ⟨Z, hZ⟩ : ∃ Z, Z = (ll.take (i + 1)).flatten.length := ⟨_, rfl⟩
          rw [← hZ]
          have HZ := Lib.hid hZ
          clear hZ
          have hTc : ¬ c < T := by omega
          have hL1 : ((k : Int) == 0) = false := eq_f (by omega)
          have hL2 : ¬ (64 : Int) < (k : Int) := by omega
          clear hTU hPR
          go_wp2_with fail
          go_roundg gk0
          case rel => exact ⟨i + 1, by rw [HZ.out], by go_num, by omega, hS2, hB2⟩
          case measure => omega
        | succ gk1 =>
          have hkL : k < Lr := by omega
          have hkl : k < R.length := by have := HLN.out; omega
          obtain ⟨bq, oq, rfl, hqlt, q⟩ := HLR.out.get celN hkl
          have q1 : wr.cell? ⟨bq, oq + k, none⟩ = some (.int .i64 ((R[k] : Nat) : Int)) := (hB2.out.cell (p := ⟨bq, oq + k, none⟩) hqlt).trans (by simpa using q 0 _ (by decide) rfl)
          have hx := HNUM.out _ (List.getElem_mem hkl)
          have hfr := HFR.out k hkl
          have HNX2 := Lib.hid (HNX.out k hkl)
          have hla := HLA.out k hkl
          rw [HFL.out] at hla
          have HTS := Lib.hid (show sumZ l (R.take (k + 1)) = T + szL l R[k] by rw [List.take_succ_eq_append_getElem hkl, sumZ_snoc, ← hT.out])
          have htb := sumZ_take HOK.out.2 R k
          rw [← hT.out] at htb
          have huse := HUSE.out
          obtain ⟨x, hxe⟩ : ∃ x, x = R[k] := ⟨_, rfl⟩
          rw [← hxe] at q1 hx hfr HNX2 HTS
          clear q hxe hkl hqlt
          have hxn : x < n := by have := HN.out; omega
          obtain ⟨bs, os, rfl, hslt, qs⟩ := HL.out.get celI hx
          have qx : wr.cell? ⟨bs, os + x, none⟩ = some (.int .i64 (szL l x)) := (hB2.out.cell (p := ⟨bs, os + x, none⟩) hslt).trans (by rw [szL_get hx]; simpa using qs 0 _ (by decide) rfl)
          have hsx := szL_nn HOK.out.2 x
          obtain ⟨S, hS0⟩ : ∃ S, S = szL l x := ⟨_, rfl⟩
          rw [← hS0] at qx HTS hsx
          obtain ⟨Q, hQ⟩ : ∃ Q, Q = P ++ R.take k := ⟨_, rfl⟩
          rw [← hQ] at hS2 hfr HNX2 hla ⊢
          have hse : (seenL n Q)[x]? = some false := by rw [seenL_get hxn]; simp [hfr]
          obtain ⟨cs, fs⟩ := hS2.out.cellB hse
          have HS3 := Lib.hid (hS2.out.set1 celB (g := gs) rfl x (by rw [seenL_length]; exact hxn) true (.bool true) rfl)
          rw [seenL_set hxn, HNX2.out] at HS3
          have hgs : w.heap.size ≤ gs := (hS2.out.lt gs rfl).1
          have HB3 := Lib.hid (hB2.out.setCell (p := ⟨gs, x, none⟩) hgs (.bool true))
          have HQL := Lib.hid (show (Q.length : Int) + 1 = (((P ++ R.take (k + 1)).length : Nat) : Int) by rw [← HNX2.out, List.length_append, List.length_singleton]; omega)
          have HLTS := Lib.hid hslt
          have HQX := Lib.hid (show w.cell? ⟨bs, os + x, none⟩ = some (.int .i64 S) by rw [hS0, szL_get hx]; simpa using qs 0 _ (by decide) rfl)
          have hw1 : IntKind.i64.wrap (T + S) = T + S := IntWalk.i64_in _ (by omega)
          have hQl : Q.length < n := hla
          clear qs hS0 hslt hse hfr hx hQ
          go_upto_region 14 with fail
          clear cs fs q1 qx q0
          generalize World.setCell wr _ _ = Y at *
          have qx := (HB3.out.cell (p := ⟨bs, os + x, none⟩) HLTS.out).trans HQX.out
          go_wp2_with fail
          go_roundg gk1
          case rel => exact ⟨k + 1, T + S, by rw [← HQL.out], rfl, by go_num, by omega, Lib.hid HTS.out.symm, HS3, HB3⟩
          case measure => omega
end Go.Proofs.Ytgmcniflandmmaa
