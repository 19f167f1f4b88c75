/-
  The law Keeps.
-/
import Derived.Test.YtlbnjojafaieoaaCtForms
import Derived.Test.YtlbnjojafaieoaaCtSame
import Derived.Test.YtlbnjojafaieoaaCtSteps
namespace Go.Proofs.Ytlbnjojafaieoaa
open Go.RowKit
set_option linter.unusedVariables false
set_option linter.unusedSimpArgs false
theorem Ki.heap {w w' : World} {ad : Option Addr} {l : List Blk} (h : Ki w ad l) (hb : ∀ k, k < w.heap.size → w'.heap[k]? = w.heap[k]?) (hs : w.heap.size ≤ w'.heap.size) : Ki w' ad l := by
  obtain ⟨E, e, h1, h2⟩ := h
  refine ⟨E, e, ?_, fun k hk => ⟨?_, (h2 k hk).le, (h2 k hk).mx, (h2 k hk).nn⟩⟩
  · rcases h1 with h0 | ⟨b, off, e, hlt, hc⟩
    · exact .inl h0
    · exact .inr ⟨b, off, e, Nat.lt_of_lt_of_le hlt hs, fun j u hu => (World.cell?_of_block (a := ⟨b, off + j, none⟩) (hb b hlt)).trans (hc j u hu)⟩
  · rcases (h2 k hk).lie.at_ with h0 | ⟨b, off, e, hlt, hc⟩
    · exact ⟨.inl h0⟩
    · exact ⟨.inr ⟨b, off, e, Nat.lt_of_lt_of_le hlt hs, fun j hj => (World.cell?_of_block (a := ⟨b, off + j, none⟩) (hb b hlt)).trans (hc j hj)⟩⟩
/-- the blocks lie, whatever is written to block g -/
def Kno (w : World) (g : Nat) (ad : Option Addr) (l : List Blk) : Prop := ∀ w' : World, (∀ k, k ≠ g → k < w.heap.size → w'.heap[k]? = w.heap[k]?) → w.heap.size ≤ w'.heap.size → Ki w' ad l
theorem Kno.ki {w : World} {g : Nat} {ad : Option Addr} {l : List Blk} (h : Kno w g ad l) : Ki w ad l := h w (fun _ _ _ => rfl) (Nat.le_refl _)
theorem Kno.step {w w' : World} {g : Nat} {ad : Option Addr} {l : List Blk} (h : Kno w g ad l) (hb : ∀ k, k ≠ g → k < w.heap.size → w'.heap[k]? = w.heap[k]?) (hs : w.heap.size ≤ w'.heap.size) : Kno w' g ad l :=
  fun X hX hX2 => h X (fun k hk hlt => (hX k hk (Nat.lt_of_lt_of_le hlt hs)).trans (hb k hk hlt)) (Nat.le_trans hs hX2)
theorem Kno.below {w w' : World} {g : Nat} {ad : Option Addr} {l : List Blk} (h : Kno w g ad l) (hb : Below w.heap.size w w') : Kno w' g ad l := h.step (fun k _ hk => hb.block k hk) hb.size
theorem Kno.of_low {w w' : World} {g : Nat} {ad : Option Addr} {l : List Blk} (h : Ki w ad l) (hb : Below w.heap.size w w') (hg : w.heap.size ≤ g) : Kno w' g ad l :=
  fun X hX hX2 => h.heap (fun k hk => (hX k (by omega) (Nat.lt_of_lt_of_le hk hb.size)).trans (hb.block k hk)) (Nat.le_trans hb.size hX2)
theorem Kno.of_new {w : World} {g C : Nat} {ad : Option Addr} {l : List Blk} (h : Kfr w C ad l) (hg : g < C) : Kno w g ad l :=
  fun X hX hX2 => h X (fun k hk hlt => hX k (by omega) hlt) hX2
theorem Kfr.step {w w' : World} {C C' : Nat} {ad : Option Addr} {l : List Blk} (h : Kfr w C ad l) (hb : ∀ k, C ≤ k → k < w.heap.size → w'.heap[k]? = w.heap[k]?) (hs : w.heap.size ≤ w'.heap.size) (hC : C' ≤ C) : Kfr w' C' ad l :=
  fun X hX hX2 => h X (fun k hk hlt => (hX k (by omega) (Nat.lt_of_lt_of_le hlt hs)).trans (hb k hk hlt)) (Nat.le_trans hs hX2)
theorem Kfr.ki {w : World} {C : Nat} {ad : Option Addr} {l : List Blk} (h : Kfr w C ad l) : Ki w ad l := h w (fun _ _ _ => rfl) (Nat.le_refl _)
abbrev BoxX (w0 w : World) (c : Crt) (ad : Option Addr) (M cap : Nat) : Prop := CrBox w0 w c.bc c.W c.L c.S c.T c.J c.R c.wo c.lk ad M cap c.ep c.lo c.pa
abbrev crKX (c : Crt) (ad : Option Addr) (M cap : Nat) : Array Value := crK c.bc c.W c.L c.S c.T c.J c.R c.wo c.lk ad M cap c.ep c.lo c.pa
theorem CrBox.row_other {w0 w : World} {bc : ByteArray} {W L S T J R : Int} {wo lk : Bool} {ad : Option Addr} {n cap : Nat} {ep lo pa : Int} (h : CrBox w0 w bc W L S T J R wo lk ad n cap ep lo pa) (g : Nat) (hg : w0.heap.size ≠ g) (cs : Array Value) : CrBox w0 (w.setRow g cs) bc W L S T J R wo lk ad n cap ep lo pa :=
  .of_row ((setRow_other w g _ cs hg).trans h.row)
/-- what Write leaves, its blocks new -/
def GetF (X : World) (d : Crt) (M : Nat) (er : Int) (e : Ending) (w' : World) : Prop := ∃ ad cap, e = .returned (.tuple #[crX d ad M cap, .int .i64 er]) ∧ CrIn w' d ad cap ∧ Kfr w' X.heap.size ad d.l ∧ Below X.heap.size X w'
theorem RetF.gets {X w' : World} {r : Crt × Int} {e : Ending} (h : RetF X r e w') {d : Crt} {er : Int} (hr : (d, er) = r) {M : Nat} (hM : M = d.l.length) : GetF X d M er e w' := by subst hr hM; exact h
theorem write_f {c : Crt} {M : Nat} (hM : M = c.l.length) {ad : Option Addr} {cap : Nat} (X : World) (h : CrIn X c ad cap) {d : Crt} {er : Int} {D : Nat} (hD : D = d.l.length) {a : Int} {zd : Option Addr} {zn zc : Nat} {z : List Blk} (hz : Ki X zd z) (hzn : zn = z.length) (hzs : zn ≤ 100000) (hznil : zd = none → zc = 0) (a0 : -9223372036854775808 ≤ a) (a1 : a ≤ 9223372036854775807) (hr : (d, er) = wriC (vldC c) c a z) :
    Calls Try.prog 21 #[crX c ad M cap, .int .i64 a, .slice zd zn zc] X fun e w' => GetF X d D er e w' := by subst hM; exact (write_any c ad cap a zd zn zc z X h hz hzn hzs hznil a0 a1).mono fun e w' h => h.gets hr hD
theorem oper_store_agg {P : Program} {o : Oper} {a : Act} {w : World} {K : Act → World → Prop} {Q : Exit → Act → World → Prop} (ty : TypeId) (x y : Operand) (ho : o.op = .store ty x y)
    (g : Nat) (hx : a.eval x = .pointer (some ⟨g, 0, none⟩)) (cs old : Array Value) (hy : a.eval y = .agg cs) (t : TypeId) (hg : w.heap[g]? = some (.cells old t (0, 0)))
    (hi : (P.info? ty).map (·.size) = some cs.size) (hs : old.size = cs.size) (h1 : cs.all (·.oneCell') = true)
    (h : K (a.put o.dst undef) (w.setRow g cs)) : Oper.wp P o a w K Q := by
  unfold Oper.wp execOp
  simp only [ho, hx, hy, Instr.storeAt, Instr.sureAddr, Sem.run_bind, Sem.run_pure, Result.andThen_ok, run_storeVar_row w g t ty old cs hg hi hs h1]
  exact h
theorem oper_store_ct {o : Oper} {a : Act} {w : World} {K : Act → World → Prop} {Q : Exit → Act → World → Prop} (x y : Operand) (ho : o.op = .store 26 x y)
    (g : Nat) (hx : a.eval x = .pointer (some ⟨g, 0, none⟩)) (bc : ByteArray) (W L S T J R : Int) (wo lk : Bool) (ad : Option Addr) (n cap : Nat) (ep lo pa : Int) (hy : a.eval y = .agg (crK bc W L S T J R wo lk ad n cap ep lo pa))
    (bc0 : ByteArray) (W0 L0 S0 T0 J0 R0 : Int) (wo0 lk0 : Bool) (ad0 : Option Addr) (n0 cap0 : Nat) (ep0 lo0 pa0 : Int) (hg : w.heap[g]? = some (.cells (crK bc0 W0 L0 S0 T0 J0 R0 wo0 lk0 ad0 n0 cap0 ep0 lo0 pa0) 26 (0, 0)))
    (h : K (a.put o.dst undef) (w.setRow g (crK bc W L S T J R wo lk ad n cap ep lo pa))) : Oper.wp Try.prog o a w K Q :=
  oper_store_agg _ x y ho g hx _ _ hy _ hg infoC rfl (by simp [Value.oneCell']) h
/-- the box of a write's result -/
theorem box_of_row {w : World} {g : Nat} {bc : ByteArray} {W L S T J R : Int} {wo lk : Bool} {ad : Option Addr} {n cap : Nat} {ep lo pa : Int} (h : w.heap[g]? = some (.cells (crK bc W L S T J R wo lk ad n cap ep lo pa) 26 (0, 0))) : CrAt w g bc W L S T J R wo lk ad n cap ep lo pa := by
  refine ⟨(Array.getElem?_eq_some_iff.1 h).1, ?_, ?_, ?_, ?_, ?_, ?_, ?_, ?_, ?_, ?_, ?_, ?_, ?_⟩ <;> (rw [cell_of_row w _ _ _ _ (0, 0) h]; rfl)
attribute [local irreducible] tim vld bar cnt okB capU allB vldC eqK newC eraC dmgC wriC freeC marksC readC liC liB dmN
set_option maxRecDepth 100000 in
set_option maxHeartbeats 8000000 in
theorem law_keeps (c : Crt) (ad : Option Addr) (cap : Nat) (sd : Option Addr) (sc : Nat) (ls : List Stp) (w : World) (hin : CrIn w c ad cap) (hst : Kst w sd ls) :
    Calls Try.prog 8 #[crV c ad cap, .slice sd ls.length sc] w fun e w' => e = .returned (.bool true) ∧ Below w.heap.size w w' := by
  have HIN := Lib.hid hin
  have HST := Lib.hid hst
  clear hin hst
  obtain ⟨M, hM⟩ : ∃ M, M = c.l.length := ⟨_, rfl⟩
  obtain ⟨Ln, hLn⟩ : ∃ n, n = ls.length := ⟨_, rfl⟩
  show Calls Try.prog 8 #[crW c.bc c.W c.L c.S c.T c.J c.R c.wo c.lk ad c.l.length cap c.ep c.lo c.pa, .slice sd ls.length sc] w _
  have HM := Lib.hid hM
  have HLN := Lib.hid hLn
  rw [← hM, ← hLn]
  clear hM hLn
  have HB0 := Lib.hid (below_box1 w (boxX c ad M cap))
  have HC := Lib.hid (CrBox.new w c.bc c.W c.L c.S c.T c.J c.R c.wo c.lk ad M cap c.ep c.lo c.pa)
  go_enter Try.func8, Try.ntmps8
  go_wp2_with fail
  generalize World.alloc _ _ = X0 at *
  refine (light_m HM.out X0 (HIN.out.below HB0.out)).mono ?_
  have HLI := Lib.hid (@liC_iff c)
  generalize liC c = li at *
  rintro e w1 ⟨rfl, hb⟩
  have HB1 := Lib.hid (HB0.out.trans (hb.mono HB0.out.size))
  have HC1 := Lib.hid (HC.out.below hb)
  clear hb HB0 HC
  cases li
  · go_wp2_with fail
    refine (awake_any _).mono ?_
    rintro e w3 ⟨rfl, hb⟩
    have HB3 := Lib.hid (HB1.out.trans (hb.mono HB1.out.size))
    clear hb
    go_wp2
    go_ret
    exact ⟨rfl, HB3.out⟩
  obtain ⟨_, k0, k1, k2, k3, k4, k5, k6, k7, k8, k9, k10, k11, k12⟩ := HC1.out.at_
  by_cases hL20 : 20 < Ln
  · go_wp2_with fail
    refine (awake_any _).mono ?_
    rintro e w3 ⟨rfl, hb⟩
    have HB3 := Lib.hid (HB1.out.trans (hb.mono HB1.out.size))
    clear hb
    go_wp2
    go_ret
    exact ⟨rfl, HB3.out⟩
  cases hwo : c.wo
  · go_wp2_with fail
    refine (awake_any _).mono ?_
    rintro e w3 ⟨rfl, hb⟩
    have HB3 := Lib.hid (HB1.out.trans (hb.mono HB1.out.size))
    clear hb
    go_wp2
    go_ret
    exact ⟨rfl, HB3.out⟩
  have HWO := Lib.hid hwo
  have hL2 : Ln ≤ 20 := by omega
  have hd20 : decide (20 < Ln) = false := decide_eq_false (by omega)
  go_wp2_with fail
  clear k0 k1 k2 k3 k4 k5 k6 k7 k8 k9 k10 k11 k12 hL20
  simp only [← hwo]
  clear hwo
  refine (rvalid_m HM.out w1 (HIN.out.below HB1.out)).mono ?_
  have HVV := Lib.hid (rfl : vldC c = vldC c)
  generalize hvv : vldC c = vv at HVV ⊢
  have HV := Lib.hid hvv
  clear hvv HVV
  rintro e w4 ⟨rfl, hb⟩
  replace HB1 := Lib.hid (HB1.out.trans (hb.mono HB1.out.size))
  replace HC1 := Lib.hid (HC1.out.below hb)
  clear hb
  cases vv
  · go_wp2_with fail
    refine (awake_any _).mono ?_
    rintro e w3 ⟨rfl, hb⟩
    have HB3 := Lib.hid (HB1.out.trans (hb.mono HB1.out.size))
    clear hb
    go_wp2
    go_ret
    exact ⟨rfl, HB3.out⟩
  have HBN := Lib.hid (below_boxC w4 (boxX c ad M cap))
  have HBW := Lib.hid (HB1.out.alloc HB1.out.size (boxX c ad M cap))
  have HCN := Lib.hid (HC1.out.below HBN.out)
  have HDN := Lib.hid (CrBox.new w4 c.bc c.W c.L c.S c.T c.J c.R c.wo c.lk ad M cap c.ep c.lo c.pa)
  have HKN := Lib.hid (Kno.of_low (g := w4.heap.size) HIN.out.ki HBW.out HB1.out.size)
  have HW4 := Lib.hid (show w.heap.size < w4.heap.size from HC1.out.at_.lt)
  obtain ⟨_, k0, k1, k2, k3, k4, k5, k6, k7, k8, k9, k10, k11, k12⟩ := HC1.out.at_
  go_wp2
  clear k0 k1 k2 k3 k4 k5 k6 k7 k8 k9 k10 k11 k12
  go_loopg [6] Ln (fun gk v6 wx => ∃ (i : Nat) (dd : Crt) (add : Option Addr) (D capd : Nat), i + gk = Ln ∧ v6 = .int .i64 i ∧ Hid (Below w.heap.size w wx) ∧ Hid (BoxX w wx c ad M cap) ∧ Hid (BoxX w4 wx dd add D capd) ∧ Hid (Kno wx w4.heap.size add dd.l) ∧ Hid (CrIn wx dd add capd) ∧ Hid (D = dd.l.length ∧ dd.wo = true ∧ vldC dd = true ∧ dd.ep = c.ep))
  case atStart => exact ⟨0, c, ad, M, cap, by omega, rfl, HBW, HCN, HDN, HKN, Lib.hid (HIN.out.below HBW.out), Lib.hid ⟨HM.out, HWO.out, HV.out, rfl⟩⟩
  case round =>
    clear HB1 HC1 HBN HBW HCN HDN HKN
    obtain ⟨i, dd, add, D, capd, hi, rfl, hB, hC, hE, hKn, hI, hFA⟩ := hrel
    cases gk with
    | zero =>
      obtain rfl : i = Ln := by omega
      go_wp2_with fail
      refine (awake_any _).mono ?_
      rintro e w3 ⟨rfl, hb⟩
      have HB3 := Lib.hid (hB.out.trans (hb.mono hB.out.size))
      clear hb
      go_wp2
      go_ret
      exact ⟨rfl, HB3.out⟩
    | succ gk =>
      have hiL : i < Ln := by omega
      have hil : i < ls.length := by rw [← HLN.out]; exact hiL
      obtain ⟨sb, so, zd, zc, rfl, hblt, q0, q1, q2, hz, hz1, hz2, hz3, ha0, ha1⟩ := (HST.out.below hB.out).get hil
      generalize ls[i].er = se at *
      generalize ls[i].a = sa at *
      generalize ls[i].z = z at *
      obtain ⟨zn, hzn⟩ : ∃ n, n = z.length := ⟨_, rfl⟩
      rw [← hzn] at q2 hz1
      have HZN := Lib.hid hzn
      have HZI := Lib.hid hz
      have HZL := Lib.hid hz3
      have HQ := Lib.hid (show wr.cell? ⟨sb, so + i * 3, none⟩ = some (.bool se) ∧ wr.cell? ⟨sb, so + i * 3 + 1, none⟩ = some (.int .i64 sa) ∧ wr.cell? ⟨sb, so + i * 3 + 2, none⟩ = some (.slice zd zn zc) ∧ sb < wr.heap.size from ⟨q0, q1, q2, hblt⟩)
      clear hz hz1 hz2 hz3 hzn hil hblt
      go_wp2_with fail
      clear q0 q1 q2
      refine (lib_any zd zn zc z wr HZI.out HZN.out).mono ?_
      have HLB := Lib.hid (fun h => (@liB_iff z).1 h)
      generalize liB z = lb at *
      rintro e w2 ⟨rfl, hb⟩
      replace hB := Lib.hid (hB.out.trans (hb.mono hB.out.size))
      replace hC := Lib.hid (hC.out.below hb)
      replace hE := Lib.hid (hE.out.below hb)
      replace hKn := Lib.hid (hKn.out.below hb)
      replace hI := Lib.hid (hI.out.below hb)
      replace HZI := Lib.hid (HZI.out.below hb)
      replace HQ := Lib.hid (show w2.cell? ⟨sb, so + i * 3, none⟩ = some (.bool se) ∧ w2.cell? ⟨sb, so + i * 3 + 1, none⟩ = some (.int .i64 sa) ∧ w2.cell? ⟨sb, so + i * 3 + 2, none⟩ = some (.slice zd zn zc) ∧ sb < w2.heap.size from ⟨(hb.cell (p := ⟨sb, _, none⟩) HQ.out.2.2.2).trans HQ.out.1, (hb.cell (p := ⟨sb, _, none⟩) HQ.out.2.2.2).trans HQ.out.2.1, (hb.cell (p := ⟨sb, _, none⟩) HQ.out.2.2.2).trans HQ.out.2.2.1, Nat.lt_of_lt_of_le HQ.out.2.2.2 hb.size⟩)
      clear hb
      cases lb
      · go_wp2_with fail
        refine (awake_any _).mono ?_
        rintro e w3 ⟨rfl, hb⟩
        have HB3 := Lib.hid (hB.out.trans (hb.mono hB.out.size))
        clear hb
        go_wp2
        go_ret
        exact ⟨rfl, HB3.out⟩
      have hzn3 : zn ≤ 300 := by have := (HLB.out (by simp)).1; have := HZN.out; omega
      obtain ⟨res, hres⟩ : ∃ res, res = wriC (vldC dd) dd sa z := ⟨_, rfl⟩
      obtain ⟨d, er⟩ := res
      obtain ⟨D7, hD7⟩ : ∃ D, D = d.l.length := ⟨_, rfl⟩
      have HRES := Lib.hid hres
      have HD7 := Lib.hid hD7
      have HDD := Lib.hid hFA.out.1
      have HOK : Hid (er = 0 → d = {dd with l := dd.l ++ z} ∧ vldC d = true) := Lib.hid fun h => by
        obtain ⟨k1, k2⟩ := wri_keeps (a := sa) (z := z) hFA.out.2.2.1 hFA.out.2.1 (by rw [← hres]; exact h)
        rw [← hres] at k1
        have k3 := (Prod.mk.inj k1).1
        exact ⟨k3, by rw [k3]; exact k2⟩
      clear hres hD7
      have HGL := Lib.hid (show w4.heap.size < w2.heap.size from hE.out.at_.lt)
      go_wp2_with fail
      have HBX := Lib.hid (Below.refl w2.heap.size w2).drew
      refine wp_region_noPanic ?_
      refine wp_region_held_drew (S := fun X => Below w2.heap.size w2 X) (by kernel_rfl) (HBX.out) (fun hS0 => ?_)
      refine held_take (i := 0) (v := ?_) rfl (by kernel_rfl) (by kernel_rfl) (by kernel_rfl) (fun _ _ _ h => h) (by rfl) ?_ (by assumption) ?_
      rotate_left
      · intro X hSX
        try dsimp only at hSX
        obtain ⟨_, k0, k1, k2, k3, k4, k5, k6, k7, k8, k9, k10, k11, k12⟩ := hE.out.at_.below hSX hE.out.at_.lt
        go_simp <;> with_reducible rfl
      simp only [Act.put, List.setIfInBounds_toArray, List.set_cons_zero, List.set_cons_succ]
      refine held_take (i := 1) (v := ?_) rfl (by kernel_rfl) (by kernel_rfl) (by kernel_rfl) (fun _ _ _ h => h) (by rfl) ?_ (by assumption) ?_
      rotate_left
      · intro X hSX
        try dsimp only at hSX
        go_simp <;> with_reducible rfl
      simp only [Act.put, List.setIfInBounds_toArray, List.set_cons_zero, List.set_cons_succ]
      refine held_take (i := 2) (v := ?_) rfl (by kernel_rfl) (by kernel_rfl) (by kernel_rfl) (fun _ _ _ h => h) (by rfl) ?_ (by assumption) ?_
      rotate_left
      · intro X hSX
        try dsimp only at hSX
        go_simp <;> with_reducible rfl
      simp only [Act.put, List.setIfInBounds_toArray, List.set_cons_zero, List.set_cons_succ]
      refine held_take (i := 3) (v := ?_) rfl (by kernel_rfl) (by kernel_rfl) (by kernel_rfl) (fun _ _ _ h => h) (by rfl) ?_ (by assumption) ?_
      rotate_left
      · intro X hSX
        try dsimp only at hSX
        go_simp <;> with_reducible rfl
      simp only [Act.put, List.setIfInBounds_toArray, List.set_cons_zero, List.set_cons_succ]
      refine held_take (i := 4) (v := ?_) rfl (by kernel_rfl) (by kernel_rfl) (by kernel_rfl) (fun _ _ _ h => h) (by rfl) ?_ (by assumption) ?_
      rotate_left
      · intro X hSX
        try dsimp only at hSX
        go_simp <;> with_reducible rfl
      simp only [Act.put, List.setIfInBounds_toArray, List.set_cons_zero, List.set_cons_succ]
      refine held_take (i := 5) (v := ?_) rfl (by kernel_rfl) (by kernel_rfl) (by kernel_rfl) (fun _ _ _ h => h) (by rfl) ?_ (by assumption) ?_
      rotate_left
      · intro X hSX
        try dsimp only at hSX
        have q1 := (hSX.cell (p := ⟨sb, so + i * 3 + 1, none⟩) HQ.out.2.2.2).trans HQ.out.2.1
        go_simp <;> with_reducible rfl
      simp only [Act.put, List.setIfInBounds_toArray, List.set_cons_zero, List.set_cons_succ]
      refine held_take (i := 6) (v := ?_) rfl (by kernel_rfl) (by kernel_rfl) (by kernel_rfl) (fun _ _ _ h => h) (by rfl) ?_ (by assumption) ?_
      rotate_left
      · intro X hSX
        try dsimp only at hSX
        go_simp <;> with_reducible rfl
      simp only [Act.put, List.setIfInBounds_toArray, List.set_cons_zero, List.set_cons_succ]
      refine held_take (i := 7) (v := ?_) rfl (by kernel_rfl) (by kernel_rfl) (by kernel_rfl) (fun _ _ _ h => h) (by rfl) ?_ (by assumption) ?_
      rotate_left
      · intro X hSX
        try dsimp only at hSX
        go_simp <;> with_reducible rfl
      simp only [Act.put, List.setIfInBounds_toArray, List.set_cons_zero, List.set_cons_succ]
      refine held_take (i := 8) (v := ?_) rfl (by kernel_rfl) (by kernel_rfl) (by kernel_rfl) (fun _ _ _ h => h) (by rfl) ?_ (by assumption) ?_
      rotate_left
      · intro X hSX
        try dsimp only at hSX
        go_simp <;> with_reducible rfl
      simp only [Act.put, List.setIfInBounds_toArray, List.set_cons_zero, List.set_cons_succ]
      refine held_take (i := 9) (v := ?_) rfl (by kernel_rfl) (by kernel_rfl) (by kernel_rfl) (fun _ _ _ h => h) (by rfl) ?_ (by assumption) ?_
      rotate_left
      · intro X hSX
        try dsimp only at hSX
        go_simp <;> with_reducible rfl
      simp only [Act.put, List.setIfInBounds_toArray, List.set_cons_zero, List.set_cons_succ]
      refine held_take (i := 10) (v := ?_) rfl (by kernel_rfl) (by kernel_rfl) (by kernel_rfl) (fun _ _ _ h => h) (by rfl) ?_ (by assumption) ?_
      rotate_left
      · intro X hSX
        try dsimp only at hSX
        have q2 := (hSX.cell (p := ⟨sb, so + i * 3 + 2, none⟩) HQ.out.2.2.2).trans HQ.out.2.2.1
        go_simp <;> with_reducible rfl
      simp only [Act.put, List.setIfInBounds_toArray, List.set_cons_zero, List.set_cons_succ]
      refine held_two (i := 11) (j := 15) rfl rfl (by kernel_rfl) (by rfl) (by rfl) (fun K' hK' => ?_) (fun K' hK' => ?_)
      · go_simp
        refine (write_f HDD.out _ (hI.out.below HBX.out) HD7.out (HZI.out.below HBX.out) HZN.out (by omega) HZL.out ha0 ha1 HRES.out).mono ?_
        rintro e w3 ⟨ad7, cap7, rfl, hin7, hfr7, hb⟩
        have hS3 : Below w2.heap.size w2 w3 := HBX.out.trans (hb.mono HBX.out.size)
        have hFR : Kfr w3 w2.heap.size ad7 d.l := hfr7
        have HFR := Lib.hid hFR
        have HI7 := Lib.hid hin7
        have HB3 := Lib.hid hS3
        clear hb hin7 hfr7 hFR
        refine held_go hK' (HB3.out) ?_
        try simp only [Act.put, List.setIfInBounds_toArray, List.set_cons_zero, List.set_cons_succ]
        refine held_take (i := 12) (v := ?_) rfl (by kernel_rfl) (by kernel_rfl) (by kernel_rfl) (fun _ _ _ h => h) (by rfl) ?_ (by assumption) ?_
        rotate_left
        · intro X hSX
          try dsimp only at hSX
          go_simp <;> with_reducible rfl
        simp only [Act.put, List.setIfInBounds_toArray, List.set_cons_zero, List.set_cons_succ]
        refine held_take (i := 13) (v := ?_) rfl (by kernel_rfl) (by kernel_rfl) (by kernel_rfl) (fun _ _ _ h => h) (by rfl) ?_ (by assumption) ?_
        rotate_left
        · intro X hSX
          try dsimp only at hSX
          go_simp <;> with_reducible rfl
        simp only [Act.put, List.setIfInBounds_toArray, List.set_cons_zero, List.set_cons_succ]
        refine held_take (i := 14) (v := ?_) rfl (by kernel_rfl) (by kernel_rfl) (by kernel_rfl) (fun _ _ _ h => h) (by rfl) ?_ (by assumption) ?_
        rotate_left
        · intro X hSX
          try dsimp only at hSX
          go_simp <;> with_reducible rfl
        simp only [Act.put, List.setIfInBounds_toArray, List.set_cons_zero, List.set_cons_succ]
        refine held_call (i := 15) rfl (by kernel_rfl) (by rfl) (fun K' hK' => ?_)
        go_simp
        have hS4 : Below w2.heap.size w2 (w3.alloc (boxK ⟨#[]⟩ 0 0 0 0 0 0 false false none 0 0 0 0 0)) := HB3.out.alloc HB3.out.size _
        refine held_go hK' (hS4) ?_
        try simp only [Act.put, List.setIfInBounds_toArray, List.set_cons_zero, List.set_cons_succ]
        refine held_call (i := 16) rfl (by kernel_rfl) (by rfl) (fun K' hK' => ?_)
        refine oper_store_ct (.tmp 7) (.tmp 56) rfl w3.heap.size rfl d.bc d.W d.L d.S d.T d.J d.R d.wo d.lk ad7 D7 cap7 d.ep d.lo d.pa rfl _ _ _ _ _ _ _ _ _ _ _ _ _ _ _ (heap_alloc_new w3 _) ?_
        have hS5 : Below w2.heap.size w2 ((w3.alloc (boxK ⟨#[]⟩ 0 0 0 0 0 0 false false none 0 0 0 0 0)).setRow w3.heap.size (crKX d ad7 D7 cap7)) := below_set hS4 HB3.out.size _
        refine held_go hK' (hS5) ?_
        try simp only [Act.put, List.setIfInBounds_toArray, List.set_cons_zero, List.set_cons_succ]
        refine held_take (i := 17) (v := ?_) rfl (by kernel_rfl) (by kernel_rfl) (by kernel_rfl) (fun _ _ _ h => h) (by rfl) ?_ (by assumption) ?_
        rotate_left
        · intro X hSX
          try dsimp only at hSX
          go_simp <;> with_reducible rfl
        simp only [Act.put, List.setIfInBounds_toArray, List.set_cons_zero, List.set_cons_succ]
        refine wpAnyH_done (by kernel_rfl) ?_ _
        refine NoPanic.normal ?_
        have HS := Lib.hid hS5
        have HROW := Lib.hid (setRow_heap (w3.alloc (boxK ⟨#[]⟩ 0 0 0 0 0 0 false false none 0 0 0 0 0)) w3.heap.size _ (crKX d ad7 D7 cap7) _ _ (heap_alloc_new w3 _))
        have HKF : Hid (Kfr ((w3.alloc (boxK ⟨#[]⟩ 0 0 0 0 0 0 false false none 0 0 0 0 0)).setRow w3.heap.size (crKX d ad7 D7 cap7)) w2.heap.size ad7 d.l) := Lib.hid (HFR.out.step (fun k _ hk => by
          rw [setRow_other _ _ _ _ (by omega)]
          exact Below.heap_alloc _ _ _ hk) (by simp [World.setRow]) (Nat.le_refl _))
        have HG7 := Lib.hid (show w2.heap.size ≤ w3.heap.size from HB3.out.size)
        generalize hg7 : w3.heap.size = g7 at *
        generalize World.setRow _ _ _ = wz at *
        clear hg7 hS3 hS4 hS5 HFR HB3
        have HBz := Lib.hid (hB.out.trans (HS.out.mono hB.out.size))
        have HCz := Lib.hid (hC.out.below HS.out)
        have HEz := Lib.hid (hE.out.below HS.out)
        have HIz := Lib.hid (hI.out.below HS.out)
        have HKz := Lib.hid (hKn.out.below HS.out)
        have HPT := Lib.hid (show D7 ≤ cap7 ∧ cap7 ≤ maxLen ∧ (ad7 = none → cap7 = 0) ∧ d.bc.size ≤ maxLen from ⟨by rw [HD7.out]; exact HI7.out.le, HI7.out.mx, HI7.out.nn, HI7.out.bs⟩)
        have HI7z : Hid (CrIn wz d ad7 cap7) := Lib.hid ⟨HKF.out.ki, HI7.out.le, HPT.out.2.1, HPT.out.2.2.1, HPT.out.2.2.2⟩
        have HA7 := Lib.hid (box_of_row HROW.out)
        have HNE := Lib.hid (show w.heap.size ≠ g7 ∧ w4.heap.size ≠ g7 ∧ w.heap.size ≠ w4.heap.size from ⟨by have := HW4.out; have := HGL.out; have := HG7.out; omega, by have := HGL.out; have := HG7.out; omega, by have := HW4.out; omega⟩)
        have q0 := (HS.out.cell (p := ⟨sb, so + i * 3, none⟩) HQ.out.2.2.2).trans HQ.out.1
        clear HI7 HBX
        cases se
        · by_cases her : er = 0
          rotate_left
          · go_wp2
            go_roundg gk
            case rel => exact ⟨i + 1, dd, add, D, capd, by omega, by go_num, HBz, HCz, HEz, HKz, HIz, hFA⟩
            case measure => omega
          subst her
          obtain ⟨hdd, hvd⟩ := HOK.out rfl
          have HDF := Lib.hid (show D7 = d.l.length ∧ d.wo = true ∧ vldC d = true ∧ d.ep = c.ep from ⟨HD7.out, by rw [hdd]; exact hFA.out.2.1, hvd, by rw [hdd]; exact hFA.out.2.2.2⟩)
          have HTK := Lib.hid (show d.l.take D = dd.l by rw [hdd, hFA.out.1]; exact List.take_left)
          have hDle : D ≤ D7 := by rw [hFA.out.1, HD7.out, hdd]; show dd.l.length ≤ (dd.l ++ z).length; rw [List.length_append]; omega
          have hlt : decide ((D7 : Int) < (D : Int)) = false := decide_eq_false (by omega)
          have hlt2 : decide (D7 < D) = false := decide_eq_false (by omega)
          have hDc : D ≤ cap7 := by have := HPT.out.1; omega
          have hDc2 : (D : Int) ≤ (cap7 : Int) := by omega
          have hep : (d.ep != c.ep) = false := by rw [HDF.out.2.2.2]; simp
          have hep2 : (d.ep == c.ep) = true := by rw [HDF.out.2.2.2]; simp
          have HDS := Lib.hid (show D ≤ 100000 by have h1 := HPT.out.1; have h2 := (vldC_parts hvd).1.c1; have h3 := (vldC_parts hvd).2.1; have := HD7.out; omega)
          have HKT := Lib.hid (show Ki wz ad7 dd.l by have := HI7z.out.ki.take D; rwa [HTK.out] at this)
          have HEK := Lib.hid (eqK_yes (rfl : dd.l = dd.l))
          clear hdd hvd HOK
          go_wp2_with fail
          have HBX := Lib.hid (Below.refl wz.heap.size wz).drew
          refine wp_region_noPanic ?_
          refine wp_region_held_drew (S := fun X => Below wz.heap.size wz X) (by kernel_rfl) (HBX.out) (fun hS0 => ?_)
          refine held_take (i := 0) (v := ?_) rfl (by kernel_rfl) (by kernel_rfl) (by kernel_rfl) (fun _ _ _ h => h) (by rfl) ?_ (by assumption) ?_
          rotate_left
          · intro X hSX
            try dsimp only at hSX
            obtain ⟨_, k0, k1, k2, k3, k4, k5, k6, k7, k8, k9, k10, k11, k12⟩ := HA7.out.below hSX HA7.out.lt
            go_simp <;> with_reducible rfl
          simp only [Act.put, List.setIfInBounds_toArray, List.set_cons_zero, List.set_cons_succ]
          refine held_take (i := 1) (v := ?_) rfl (by kernel_rfl) (by kernel_rfl) (by kernel_rfl) (fun _ _ _ h => h) (by rfl) ?_ (by assumption) ?_
          rotate_left
          · intro X hSX
            try dsimp only at hSX
            obtain ⟨_, k0, k1, k2, k3, k4, k5, k6, k7, k8, k9, k10, k11, k12⟩ := HA7.out.below hSX HA7.out.lt
            go_simp <;> with_reducible rfl
          simp only [Act.put, List.setIfInBounds_toArray, List.set_cons_zero, List.set_cons_succ]
          refine held_take (i := 2) (v := ?_) rfl (by kernel_rfl) (by kernel_rfl) (by kernel_rfl) (fun _ _ _ h => h) (by rfl) ?_ (by assumption) ?_
          rotate_left
          · intro X hSX
            try dsimp only at hSX
            go_simp <;> with_reducible rfl
          simp only [Act.put, List.setIfInBounds_toArray, List.set_cons_zero, List.set_cons_succ]
          refine held_take (i := 3) (v := ?_) rfl (by kernel_rfl) (by kernel_rfl) (by kernel_rfl) (fun _ _ _ h => h) (by rfl) ?_ (by assumption) ?_
          rotate_left
          · intro X hSX
            try dsimp only at hSX
            obtain ⟨_, k0, k1, k2, k3, k4, k5, k6, k7, k8, k9, k10, k11, k12⟩ := HEz.out.at_.below hSX HEz.out.at_.lt
            go_simp <;> with_reducible rfl
          simp only [Act.put, List.setIfInBounds_toArray, List.set_cons_zero, List.set_cons_succ]
          refine held_take (i := 4) (v := ?_) rfl (by kernel_rfl) (by kernel_rfl) (by kernel_rfl) (fun _ _ _ h => h) (by rfl) ?_ (by assumption) ?_
          rotate_left
          · intro X hSX
            try dsimp only at hSX
            obtain ⟨_, k0, k1, k2, k3, k4, k5, k6, k7, k8, k9, k10, k11, k12⟩ := HEz.out.at_.below hSX HEz.out.at_.lt
            go_simp <;> with_reducible rfl
          simp only [Act.put, List.setIfInBounds_toArray, List.set_cons_zero, List.set_cons_succ]
          refine held_take (i := 5) (v := ?_) rfl (by kernel_rfl) (by kernel_rfl) (by kernel_rfl) (fun _ _ _ h => h) (by rfl) ?_ (by assumption) ?_
          rotate_left
          · intro X hSX
            try dsimp only at hSX
            go_simp <;> with_reducible rfl
          simp only [Act.put, List.setIfInBounds_toArray, List.set_cons_zero, List.set_cons_succ]
          refine held_take (i := 6) (v := ?_) rfl (by kernel_rfl) (by kernel_rfl) (by kernel_rfl) (fun _ _ _ h => h) (by rfl) ?_ (by assumption) ?_
          rotate_left
          · intro X hSX
            try dsimp only at hSX
            go_simp <;> with_reducible rfl
          simp only [Act.put, List.setIfInBounds_toArray, List.set_cons_zero, List.set_cons_succ]
          refine held_take (i := 7) (v := ?_) rfl (by kernel_rfl) (by kernel_rfl) (by kernel_rfl) (fun _ _ _ h => h) (by rfl) ?_ (by assumption) ?_
          rotate_left
          · intro X hSX
            try dsimp only at hSX
            go_simp <;> with_reducible rfl
          simp only [Act.put, List.setIfInBounds_toArray, List.set_cons_zero, List.set_cons_succ]
          refine held_take (i := 8) (v := ?_) rfl (by kernel_rfl) (by kernel_rfl) (by kernel_rfl) (fun _ _ _ h => h) (by rfl) ?_ (by assumption) ?_
          rotate_left
          · intro X hSX
            try dsimp only at hSX
            obtain ⟨_, k0, k1, k2, k3, k4, k5, k6, k7, k8, k9, k10, k11, k12⟩ := HA7.out.below hSX HA7.out.lt
            go_simp <;> with_reducible rfl
          simp only [Act.put, List.setIfInBounds_toArray, List.set_cons_zero, List.set_cons_succ]
          refine held_take (i := 9) (v := ?_) rfl (by kernel_rfl) (by kernel_rfl) (by kernel_rfl) (fun _ _ _ h => h) (by rfl) ?_ (by assumption) ?_
          rotate_left
          · intro X hSX
            try dsimp only at hSX
            obtain ⟨_, k0, k1, k2, k3, k4, k5, k6, k7, k8, k9, k10, k11, k12⟩ := HA7.out.below hSX HA7.out.lt
            go_simp <;> with_reducible rfl
          simp only [Act.put, List.setIfInBounds_toArray, List.set_cons_zero, List.set_cons_succ]
          refine held_take (i := 10) (v := ?_) rfl (by kernel_rfl) (by kernel_rfl) (by kernel_rfl) (fun _ _ _ h => h) (by rfl) ?_ (by assumption) ?_
          rotate_left
          · intro X hSX
            try dsimp only at hSX
            obtain ⟨_, k0, k1, k2, k3, k4, k5, k6, k7, k8, k9, k10, k11, k12⟩ := HEz.out.at_.below hSX HEz.out.at_.lt
            go_simp <;> with_reducible rfl
          simp only [Act.put, List.setIfInBounds_toArray, List.set_cons_zero, List.set_cons_succ]
          refine held_take (i := 11) (v := ?_) rfl (by kernel_rfl) (by kernel_rfl) (by kernel_rfl) (fun _ _ _ h => h) (by rfl) ?_ (by assumption) ?_
          rotate_left
          · intro X hSX
            try dsimp only at hSX
            obtain ⟨_, k0, k1, k2, k3, k4, k5, k6, k7, k8, k9, k10, k11, k12⟩ := HEz.out.at_.below hSX HEz.out.at_.lt
            go_simp <;> with_reducible rfl
          simp only [Act.put, List.setIfInBounds_toArray, List.set_cons_zero, List.set_cons_succ]
          refine held_take (i := 12) (v := ?_) rfl (by kernel_rfl) (by kernel_rfl) (by kernel_rfl) (fun _ _ _ h => h) (by rfl) ?_ (by assumption) ?_
          rotate_left
          · intro X hSX
            try dsimp only at hSX
            go_simp <;> with_reducible rfl
          simp only [Act.put, List.setIfInBounds_toArray, List.set_cons_zero, List.set_cons_succ]
          refine held_take (i := 13) (v := ?_) rfl (by kernel_rfl) (by kernel_rfl) (by kernel_rfl) (fun _ _ _ h => h) (by rfl) ?_ (by assumption) ?_
          rotate_left
          · intro X hSX
            try dsimp only at hSX
            go_simp <;> with_reducible rfl
          simp only [Act.put, List.setIfInBounds_toArray, List.set_cons_zero, List.set_cons_succ]
          refine held_take (i := 14) (v := ?_) rfl (by kernel_rfl) (by kernel_rfl) (by kernel_rfl) (fun _ _ _ h => h) (by rfl) ?_ (by assumption) ?_
          rotate_left
          · intro X hSX
            try dsimp only at hSX
            obtain ⟨_, k0, k1, k2, k3, k4, k5, k6, k7, k8, k9, k10, k11, k12⟩ := HEz.out.at_.below hSX HEz.out.at_.lt
            go_simp <;> with_reducible rfl
          simp only [Act.put, List.setIfInBounds_toArray, List.set_cons_zero, List.set_cons_succ]
          refine held_take (i := 15) (v := ?_) rfl (by kernel_rfl) (by kernel_rfl) (by kernel_rfl) (fun _ _ _ h => h) (by rfl) ?_ (by assumption) ?_
          rotate_left
          · intro X hSX
            try dsimp only at hSX
            obtain ⟨_, k0, k1, k2, k3, k4, k5, k6, k7, k8, k9, k10, k11, k12⟩ := HEz.out.at_.below hSX HEz.out.at_.lt
            go_simp <;> with_reducible rfl
          simp only [Act.put, List.setIfInBounds_toArray, List.set_cons_zero, List.set_cons_succ]
          refine held_call (i := 16) rfl (by kernel_rfl) (by rfl) (fun K' hK' => ?_)
          go_simp
          refine (rsame_any ad7 add D D cap7 capd dd.l dd.l _ (HKT.out.below HBX.out) (HIz.out.ki.below HBX.out) HDD.out HDD.out HDS.out).mono ?_
          rw [HEK.out]
          rintro e w6 ⟨rfl, hb⟩
          replace HBX := Lib.hid (HBX.out.trans (hb.mono HBX.out.size))
          have hS6 := HBX.out
          clear hb
          refine held_go hK' (HBX.out) ?_
          try simp only [Act.put, List.setIfInBounds_toArray, List.set_cons_zero, List.set_cons_succ]
          refine held_take (i := 17) (v := ?_) rfl (by kernel_rfl) (by kernel_rfl) (by kernel_rfl) (fun _ _ _ h => h) (by rfl) ?_ (by assumption) ?_
          rotate_left
          · intro X hSX
            try dsimp only at hSX
            go_simp <;> with_reducible rfl
          simp only [Act.put, List.setIfInBounds_toArray, List.set_cons_zero, List.set_cons_succ]
          refine held_take (i := 18) (v := ?_) rfl (by kernel_rfl) (by kernel_rfl) (by kernel_rfl) (fun _ _ _ h => h) (by rfl) ?_ (by assumption) ?_
          rotate_left
          · intro X hSX
            try dsimp only at hSX
            go_simp <;> with_reducible rfl
          simp only [Act.put, List.setIfInBounds_toArray, List.set_cons_zero, List.set_cons_succ]
          refine held_take (i := 19) (v := ?_) rfl (by kernel_rfl) (by kernel_rfl) (by kernel_rfl) (fun _ _ _ h => h) (by rfl) ?_ (by assumption) ?_
          rotate_left
          · intro X hSX
            try dsimp only at hSX
            go_simp <;> with_reducible rfl
          simp only [Act.put, List.setIfInBounds_toArray, List.set_cons_zero, List.set_cons_succ]
          refine held_take (i := 20) (v := ?_) rfl (by kernel_rfl) (by kernel_rfl) (by kernel_rfl) (fun _ _ _ h => h) (by rfl) ?_ (by assumption) ?_
          rotate_left
          · intro X hSX
            try dsimp only at hSX
            obtain ⟨_, k0, k1, k2, k3, k4, k5, k6, k7, k8, k9, k10, k11, k12⟩ := HA7.out.below hSX HA7.out.lt
            go_simp <;> with_reducible rfl
          simp only [Act.put, List.setIfInBounds_toArray, List.set_cons_zero, List.set_cons_succ]
          refine held_take (i := 21) (v := ?_) rfl (by kernel_rfl) (by kernel_rfl) (by kernel_rfl) (fun _ _ _ h => h) (by rfl) ?_ (by assumption) ?_
          rotate_left
          · intro X hSX
            try dsimp only at hSX
            obtain ⟨_, k0, k1, k2, k3, k4, k5, k6, k7, k8, k9, k10, k11, k12⟩ := HA7.out.below hSX HA7.out.lt
            go_simp <;> with_reducible rfl
          simp only [Act.put, List.setIfInBounds_toArray, List.set_cons_zero, List.set_cons_succ]
          refine held_take (i := 22) (v := ?_) rfl (by kernel_rfl) (by kernel_rfl) (by kernel_rfl) (fun _ _ _ h => h) (by rfl) ?_ (by assumption) ?_
          rotate_left
          · intro X hSX
            try dsimp only at hSX
            obtain ⟨_, k0, k1, k2, k3, k4, k5, k6, k7, k8, k9, k10, k11, k12⟩ := HCz.out.at_.below hSX HCz.out.at_.lt
            go_simp <;> with_reducible rfl
          simp only [Act.put, List.setIfInBounds_toArray, List.set_cons_zero, List.set_cons_succ]
          refine held_take (i := 23) (v := ?_) rfl (by kernel_rfl) (by kernel_rfl) (by kernel_rfl) (fun _ _ _ h => h) (by rfl) ?_ (by assumption) ?_
          rotate_left
          · intro X hSX
            try dsimp only at hSX
            obtain ⟨_, k0, k1, k2, k3, k4, k5, k6, k7, k8, k9, k10, k11, k12⟩ := HCz.out.at_.below hSX HCz.out.at_.lt
            go_simp <;> with_reducible rfl
          simp only [Act.put, List.setIfInBounds_toArray, List.set_cons_zero, List.set_cons_succ]
          refine held_take (i := 24) (v := ?_) rfl (by kernel_rfl) (by kernel_rfl) (by kernel_rfl) (fun _ _ _ h => h) (by rfl) ?_ (by assumption) ?_
          rotate_left
          · intro X hSX
            try dsimp only at hSX
            go_simp <;> with_reducible rfl
          simp only [Act.put, List.setIfInBounds_toArray, List.set_cons_zero, List.set_cons_succ]
          refine held_take (i := 25) (v := ?_) rfl (by kernel_rfl) (by kernel_rfl) (by kernel_rfl) (fun _ _ _ h => h) (by rfl) ?_ (by assumption) ?_
          rotate_left
          · intro X hSX
            try dsimp only at hSX
            go_simp <;> with_reducible rfl
          simp only [Act.put, List.setIfInBounds_toArray, List.set_cons_zero, List.set_cons_succ]
          refine wpAnyH_done (by kernel_rfl) ?_ _
          refine NoPanic.normal ?_
          have HB6 := Lib.hid (HBz.out.trans (HBX.out.mono HBz.out.size))
          have HC6 := Lib.hid (HCz.out.below HBX.out)
          have HE6 := Lib.hid (HEz.out.below HBX.out)
          obtain ⟨_, k0, k1, k2, k3, k4, k5, k6, k7, k8, k9, k10, k11, k12⟩ := HA7.out.below HBX.out HA7.out.lt
          have HFIN := Lib.hid (show Kfr (w6.setRow w4.heap.size (crKX d ad7 D7 cap7)) w2.heap.size ad7 d.l from HKF.out.step (fun k hk hlt => by
            rw [setRow_other _ _ _ _ (by have := HGL.out; omega)]
            exact HBX.out.block k hlt) (by have := HBX.out.size; simpa [World.setRow] using this) (Nat.le_refl _))
          have HKN := Lib.hid (Kno.of_new HFIN.out HGL.out)
          go_wp2_with (with_reducible refine wpList_store_cr rfl (.tmp 5) (.tmp 96) rfl w4.heap.size rfl _ _ _ _ _ _ _ _ _ _ _ _ _ _ _ rfl _ _ _ _ _ _ _ _ _ _ _ _ _ _ _ HE6.out.row ?_)
          go_roundg gk
          case rel => exact ⟨i + 1, d, ad7, D7, cap7, by omega, by go_num, Lib.hid (below_set HB6.out (Nat.le_of_lt HW4.out) _), Lib.hid (HC6.out.row_other _ HNE.out.2.2 _), Lib.hid (.of_row (setRow_heap _ _ _ _ _ _ HE6.out.row)), HKN, Lib.hid ⟨HKN.out.ki, by rw [← HD7.out]; exact HPT.out.1, HPT.out.2.1, HPT.out.2.2.1, HPT.out.2.2.2⟩, HDF⟩
          case measure => omega
        · obtain ⟨_, k0, k1, k2, k3, k4, k5, k6, k7, k8, k9, k10, k11, k12⟩ := HEz.out.at_
          go_wp2_with fail
          clear k0 k1 k2 k3 k4 k5 k6 k7 k8 k9 k10 k11 k12 q0
          refine (erase_m (d := crZ) (er := 17) (D := 0) HDD.out wz HIz.out rfl (era_keeps hFA.out.2.2.1 hFA.out.2.1).symm).mono ?_
          rintro e w5 ⟨ad8, cap8, rfl, -, hb⟩
          have hrow5 := (hb.block g7 HA7.out.lt).trans HROW.out
          have HR5 := Lib.hid hrow5
          have HB5 := Lib.hid (HBz.out.trans (hb.mono HBz.out.size))
          have HC5 := Lib.hid (HCz.out.below hb)
          have HE5 := Lib.hid (HEz.out.below hb)
          have HK5 : ∀ cs, Hid (Kno (w5.setRow g7 cs) w4.heap.size add dd.l) := fun cs => Lib.hid (hKn.out.step (fun k hk hlt => by
            rw [setRow_other _ _ _ _ (by have := HG7.out; omega)]
            exact (hb.block k (Nat.lt_of_lt_of_le hlt HS.out.size)).trans (HS.out.block k hlt)) (by have h1 := hb.size; have h2 := HS.out.size; simp only [World.setRow]; simpa using Nat.le_trans h2 h1))
          clear hb hrow5
          go_wp2_with (with_reducible refine wpList_store_cr rfl (.tmp 7) (.tmp 66) rfl g7 rfl _ _ _ _ _ _ _ _ _ _ _ _ _ _ _ rfl _ _ _ _ _ _ _ _ _ _ _ _ _ _ _ HR5.out ?_)
          go_roundg gk
          case rel => exact ⟨i + 1, dd, add, D, capd, by omega, by go_num, Lib.hid (below_set HB5.out (by have := HG7.out; have := hB.out.size; omega) _), Lib.hid (HC5.out.row_other _ HNE.out.1 _), Lib.hid (HE5.out.row_other _ HNE.out.2.1 _), HK5 _, Lib.hid ⟨(HK5 _).out.ki, hI.out.le, hI.out.mx, hI.out.nn, hI.out.bs⟩, hFA⟩
          case measure => omega
      · go_simp
        have hS3 : Below w2.heap.size w2 (w2.drew.alloc (boxK ⟨#[]⟩ 0 0 0 0 0 0 false false none 0 0 0 0 0)) := HBX.out.alloc HBX.out.size _
        refine held_go hK' (hS3) ?_
        try simp only [Act.put, List.setIfInBounds_toArray, List.set_cons_zero, List.set_cons_succ]
        refine held_call (i := 11) rfl (by kernel_rfl) (by rfl) (fun K' hK' => ?_)
        go_simp
        refine (write_f HDD.out _ (hI.out.below hS3) HD7.out (HZI.out.below hS3) HZN.out (by omega) HZL.out ha0 ha1 HRES.out).mono ?_
        rintro e w3 ⟨ad7, cap7, rfl, hin7, hfr7, hb⟩
        have hsz : (w2.drew.alloc (boxK ⟨#[]⟩ 0 0 0 0 0 0 false false none 0 0 0 0 0)).heap.size = w2.heap.size + 1 := by simp
        rw [hsz] at hfr7
        have hrow0 : w3.heap[w2.heap.size]? = some (boxK ⟨#[]⟩ 0 0 0 0 0 0 false false none 0 0 0 0 0) := (hb.block w2.heap.size (by rw [hsz]; omega)).trans (heap_alloc_new w2.drew _)
        have hlt3 : w2.heap.size + 1 ≤ w3.heap.size := by have := hb.size; rw [hsz] at this; exact this
        have hS4 : Below w2.heap.size w2 w3 := hS3.trans (hb.mono hS3.size)
        have HFR := Lib.hid hfr7
        have HI7 := Lib.hid hin7
        have HB3 := Lib.hid hS4
        have HRW := Lib.hid hrow0
        clear hb hin7 hfr7 hrow0 hsz
        refine held_go hK' (hS4) ?_
        try simp only [Act.put, List.setIfInBounds_toArray, List.set_cons_zero, List.set_cons_succ]
        refine held_take (i := 12) (v := ?_) rfl (by kernel_rfl) (by kernel_rfl) (by kernel_rfl) (fun _ _ _ h => h) (by rfl) ?_ (by assumption) ?_
        rotate_left
        · intro X hSX
          try dsimp only at hSX
          go_simp <;> with_reducible rfl
        simp only [Act.put, List.setIfInBounds_toArray, List.set_cons_zero, List.set_cons_succ]
        refine held_take (i := 13) (v := ?_) rfl (by kernel_rfl) (by kernel_rfl) (by kernel_rfl) (fun _ _ _ h => h) (by rfl) ?_ (by assumption) ?_
        rotate_left
        · intro X hSX
          try dsimp only at hSX
          go_simp <;> with_reducible rfl
        simp only [Act.put, List.setIfInBounds_toArray, List.set_cons_zero, List.set_cons_succ]
        refine held_take (i := 14) (v := ?_) rfl (by kernel_rfl) (by kernel_rfl) (by kernel_rfl) (fun _ _ _ h => h) (by rfl) ?_ (by assumption) ?_
        rotate_left
        · intro X hSX
          try dsimp only at hSX
          go_simp <;> with_reducible rfl
        simp only [Act.put, List.setIfInBounds_toArray, List.set_cons_zero, List.set_cons_succ]
        refine held_call (i := 16) rfl (by kernel_rfl) (by rfl) (fun K' hK' => ?_)
        refine oper_store_ct (.tmp 7) (.tmp 56) rfl w2.heap.size rfl d.bc d.W d.L d.S d.T d.J d.R d.wo d.lk ad7 D7 cap7 d.ep d.lo d.pa rfl _ _ _ _ _ _ _ _ _ _ _ _ _ _ _ HRW.out ?_
        have hS5 : Below w2.heap.size w2 (w3.setRow w2.heap.size (crKX d ad7 D7 cap7)) := below_set hS4 (Nat.le_refl _) _
        refine held_go hK' (hS5) ?_
        try simp only [Act.put, List.setIfInBounds_toArray, List.set_cons_zero, List.set_cons_succ]
        refine held_take (i := 17) (v := ?_) rfl (by kernel_rfl) (by kernel_rfl) (by kernel_rfl) (fun _ _ _ h => h) (by rfl) ?_ (by assumption) ?_
        rotate_left
        · intro X hSX
          try dsimp only at hSX
          go_simp <;> with_reducible rfl
        simp only [Act.put, List.setIfInBounds_toArray, List.set_cons_zero, List.set_cons_succ]
        refine wpAnyH_done (by kernel_rfl) ?_ _
        refine NoPanic.normal ?_
        have HS := Lib.hid hS5
        have HROW := Lib.hid (setRow_heap w3 w2.heap.size _ (crKX d ad7 D7 cap7) _ _ HRW.out)
        have HKF : Hid (Kfr (w3.setRow w2.heap.size (crKX d ad7 D7 cap7)) w2.heap.size ad7 d.l) := Lib.hid (HFR.out.step (fun k hk hlt => by
          rw [setRow_other _ _ _ _ (by omega)]) (by simp [World.setRow]) (Nat.le_succ _))
        generalize World.setRow _ _ _ = wz at *
        obtain ⟨g7, hg7⟩ : ∃ g, g = w2.heap.size := ⟨_, rfl⟩
        have HG7 := Lib.hid (show w2.heap.size ≤ g7 by omega)
        rw [← hg7] at HROW ⊢
        clear hg7 hS3 hS4 hS5 HFR HB3 HRW hlt3
        have HBz := Lib.hid (hB.out.trans (HS.out.mono hB.out.size))
        have HCz := Lib.hid (hC.out.below HS.out)
        have HEz := Lib.hid (hE.out.below HS.out)
        have HIz := Lib.hid (hI.out.below HS.out)
        have HKz := Lib.hid (hKn.out.below HS.out)
        have HPT := Lib.hid (show D7 ≤ cap7 ∧ cap7 ≤ maxLen ∧ (ad7 = none → cap7 = 0) ∧ d.bc.size ≤ maxLen from ⟨by rw [HD7.out]; exact HI7.out.le, HI7.out.mx, HI7.out.nn, HI7.out.bs⟩)
        have HI7z : Hid (CrIn wz d ad7 cap7) := Lib.hid ⟨HKF.out.ki, HI7.out.le, HPT.out.2.1, HPT.out.2.2.1, HPT.out.2.2.2⟩
        have HA7 := Lib.hid (box_of_row HROW.out)
        have HNE := Lib.hid (show w.heap.size ≠ g7 ∧ w4.heap.size ≠ g7 ∧ w.heap.size ≠ w4.heap.size from ⟨by have := HW4.out; have := HGL.out; have := HG7.out; omega, by have := HGL.out; have := HG7.out; omega, by have := HW4.out; omega⟩)
        have q0 := (HS.out.cell (p := ⟨sb, so + i * 3, none⟩) HQ.out.2.2.2).trans HQ.out.1
        clear HI7 HBX
        cases se
        · by_cases her : er = 0
          rotate_left
          · go_wp2
            go_roundg gk
            case rel => exact ⟨i + 1, dd, add, D, capd, by omega, by go_num, HBz, HCz, HEz, HKz, HIz, hFA⟩
            case measure => omega
          subst her
          obtain ⟨hdd, hvd⟩ := HOK.out rfl
          have HDF := Lib.hid (show D7 = d.l.length ∧ d.wo = true ∧ vldC d = true ∧ d.ep = c.ep from ⟨HD7.out, by rw [hdd]; exact hFA.out.2.1, hvd, by rw [hdd]; exact hFA.out.2.2.2⟩)
          have HTK := Lib.hid (show d.l.take D = dd.l by rw [hdd, hFA.out.1]; exact List.take_left)
          have hDle : D ≤ D7 := by rw [hFA.out.1, HD7.out, hdd]; show dd.l.length ≤ (dd.l ++ z).length; rw [List.length_append]; omega
          have hlt : decide ((D7 : Int) < (D : Int)) = false := decide_eq_false (by omega)
          have hlt2 : decide (D7 < D) = false := decide_eq_false (by omega)
          have hDc : D ≤ cap7 := by have := HPT.out.1; omega
          have hDc2 : (D : Int) ≤ (cap7 : Int) := by omega
          have hep : (d.ep != c.ep) = false := by rw [HDF.out.2.2.2]; simp
          have hep2 : (d.ep == c.ep) = true := by rw [HDF.out.2.2.2]; simp
          have HDS := Lib.hid (show D ≤ 100000 by have h1 := HPT.out.1; have h2 := (vldC_parts hvd).1.c1; have h3 := (vldC_parts hvd).2.1; have := HD7.out; omega)
          have HKT := Lib.hid (show Ki wz ad7 dd.l by have := HI7z.out.ki.take D; rwa [HTK.out] at this)
          have HEK := Lib.hid (eqK_yes (rfl : dd.l = dd.l))
          clear hdd hvd HOK
          go_wp2_with fail
          have HBX := Lib.hid (Below.refl wz.heap.size wz).drew
          refine wp_region_noPanic ?_
          refine wp_region_held_drew (S := fun X => Below wz.heap.size wz X) (by kernel_rfl) (HBX.out) (fun hS0 => ?_)
          refine held_take (i := 0) (v := ?_) rfl (by kernel_rfl) (by kernel_rfl) (by kernel_rfl) (fun _ _ _ h => h) (by rfl) ?_ (by assumption) ?_
          rotate_left
          · intro X hSX
            try dsimp only at hSX
            obtain ⟨_, k0, k1, k2, k3, k4, k5, k6, k7, k8, k9, k10, k11, k12⟩ := HA7.out.below hSX HA7.out.lt
            go_simp <;> with_reducible rfl
          simp only [Act.put, List.setIfInBounds_toArray, List.set_cons_zero, List.set_cons_succ]
          refine held_take (i := 1) (v := ?_) rfl (by kernel_rfl) (by kernel_rfl) (by kernel_rfl) (fun _ _ _ h => h) (by rfl) ?_ (by assumption) ?_
          rotate_left
          · intro X hSX
            try dsimp only at hSX
            obtain ⟨_, k0, k1, k2, k3, k4, k5, k6, k7, k8, k9, k10, k11, k12⟩ := HA7.out.below hSX HA7.out.lt
            go_simp <;> with_reducible rfl
          simp only [Act.put, List.setIfInBounds_toArray, List.set_cons_zero, List.set_cons_succ]
          refine held_take (i := 2) (v := ?_) rfl (by kernel_rfl) (by kernel_rfl) (by kernel_rfl) (fun _ _ _ h => h) (by rfl) ?_ (by assumption) ?_
          rotate_left
          · intro X hSX
            try dsimp only at hSX
            go_simp <;> with_reducible rfl
          simp only [Act.put, List.setIfInBounds_toArray, List.set_cons_zero, List.set_cons_succ]
          refine held_take (i := 3) (v := ?_) rfl (by kernel_rfl) (by kernel_rfl) (by kernel_rfl) (fun _ _ _ h => h) (by rfl) ?_ (by assumption) ?_
          rotate_left
          · intro X hSX
            try dsimp only at hSX
            obtain ⟨_, k0, k1, k2, k3, k4, k5, k6, k7, k8, k9, k10, k11, k12⟩ := HEz.out.at_.below hSX HEz.out.at_.lt
            go_simp <;> with_reducible rfl
          simp only [Act.put, List.setIfInBounds_toArray, List.set_cons_zero, List.set_cons_succ]
          refine held_take (i := 4) (v := ?_) rfl (by kernel_rfl) (by kernel_rfl) (by kernel_rfl) (fun _ _ _ h => h) (by rfl) ?_ (by assumption) ?_
          rotate_left
          · intro X hSX
            try dsimp only at hSX
            obtain ⟨_, k0, k1, k2, k3, k4, k5, k6, k7, k8, k9, k10, k11, k12⟩ := HEz.out.at_.below hSX HEz.out.at_.lt
            go_simp <;> with_reducible rfl
          simp only [Act.put, List.setIfInBounds_toArray, List.set_cons_zero, List.set_cons_succ]
          refine held_take (i := 5) (v := ?_) rfl (by kernel_rfl) (by kernel_rfl) (by kernel_rfl) (fun _ _ _ h => h) (by rfl) ?_ (by assumption) ?_
          rotate_left
          · intro X hSX
            try dsimp only at hSX
            go_simp <;> with_reducible rfl
          simp only [Act.put, List.setIfInBounds_toArray, List.set_cons_zero, List.set_cons_succ]
          refine held_take (i := 6) (v := ?_) rfl (by kernel_rfl) (by kernel_rfl) (by kernel_rfl) (fun _ _ _ h => h) (by rfl) ?_ (by assumption) ?_
          rotate_left
          · intro X hSX
            try dsimp only at hSX
            go_simp <;> with_reducible rfl
          simp only [Act.put, List.setIfInBounds_toArray, List.set_cons_zero, List.set_cons_succ]
          refine held_take (i := 7) (v := ?_) rfl (by kernel_rfl) (by kernel_rfl) (by kernel_rfl) (fun _ _ _ h => h) (by rfl) ?_ (by assumption) ?_
          rotate_left
          · intro X hSX
            try dsimp only at hSX
            go_simp <;> with_reducible rfl
          simp only [Act.put, List.setIfInBounds_toArray, List.set_cons_zero, List.set_cons_succ]
          refine held_take (i := 8) (v := ?_) rfl (by kernel_rfl) (by kernel_rfl) (by kernel_rfl) (fun _ _ _ h => h) (by rfl) ?_ (by assumption) ?_
          rotate_left
          · intro X hSX
            try dsimp only at hSX
            obtain ⟨_, k0, k1, k2, k3, k4, k5, k6, k7, k8, k9, k10, k11, k12⟩ := HA7.out.below hSX HA7.out.lt
            go_simp <;> with_reducible rfl
          simp only [Act.put, List.setIfInBounds_toArray, List.set_cons_zero, List.set_cons_succ]
          refine held_take (i := 9) (v := ?_) rfl (by kernel_rfl) (by kernel_rfl) (by kernel_rfl) (fun _ _ _ h => h) (by rfl) ?_ (by assumption) ?_
          rotate_left
          · intro X hSX
            try dsimp only at hSX
            obtain ⟨_, k0, k1, k2, k3, k4, k5, k6, k7, k8, k9, k10, k11, k12⟩ := HA7.out.below hSX HA7.out.lt
            go_simp <;> with_reducible rfl
          simp only [Act.put, List.setIfInBounds_toArray, List.set_cons_zero, List.set_cons_succ]
          refine held_take (i := 10) (v := ?_) rfl (by kernel_rfl) (by kernel_rfl) (by kernel_rfl) (fun _ _ _ h => h) (by rfl) ?_ (by assumption) ?_
          rotate_left
          · intro X hSX
            try dsimp only at hSX
            obtain ⟨_, k0, k1, k2, k3, k4, k5, k6, k7, k8, k9, k10, k11, k12⟩ := HEz.out.at_.below hSX HEz.out.at_.lt
            go_simp <;> with_reducible rfl
          simp only [Act.put, List.setIfInBounds_toArray, List.set_cons_zero, List.set_cons_succ]
          refine held_take (i := 11) (v := ?_) rfl (by kernel_rfl) (by kernel_rfl) (by kernel_rfl) (fun _ _ _ h => h) (by rfl) ?_ (by assumption) ?_
          rotate_left
          · intro X hSX
            try dsimp only at hSX
            obtain ⟨_, k0, k1, k2, k3, k4, k5, k6, k7, k8, k9, k10, k11, k12⟩ := HEz.out.at_.below hSX HEz.out.at_.lt
            go_simp <;> with_reducible rfl
          simp only [Act.put, List.setIfInBounds_toArray, List.set_cons_zero, List.set_cons_succ]
          refine held_take (i := 12) (v := ?_) rfl (by kernel_rfl) (by kernel_rfl) (by kernel_rfl) (fun _ _ _ h => h) (by rfl) ?_ (by assumption) ?_
          rotate_left
          · intro X hSX
            try dsimp only at hSX
            go_simp <;> with_reducible rfl
          simp only [Act.put, List.setIfInBounds_toArray, List.set_cons_zero, List.set_cons_succ]
          refine held_take (i := 13) (v := ?_) rfl (by kernel_rfl) (by kernel_rfl) (by kernel_rfl) (fun _ _ _ h => h) (by rfl) ?_ (by assumption) ?_
          rotate_left
          · intro X hSX
            try dsimp only at hSX
            go_simp <;> with_reducible rfl
          simp only [Act.put, List.setIfInBounds_toArray, List.set_cons_zero, List.set_cons_succ]
          refine held_take (i := 14) (v := ?_) rfl (by kernel_rfl) (by kernel_rfl) (by kernel_rfl) (fun _ _ _ h => h) (by rfl) ?_ (by assumption) ?_
          rotate_left
          · intro X hSX
            try dsimp only at hSX
            obtain ⟨_, k0, k1, k2, k3, k4, k5, k6, k7, k8, k9, k10, k11, k12⟩ := HEz.out.at_.below hSX HEz.out.at_.lt
            go_simp <;> with_reducible rfl
          simp only [Act.put, List.setIfInBounds_toArray, List.set_cons_zero, List.set_cons_succ]
          refine held_take (i := 15) (v := ?_) rfl (by kernel_rfl) (by kernel_rfl) (by kernel_rfl) (fun _ _ _ h => h) (by rfl) ?_ (by assumption) ?_
          rotate_left
          · intro X hSX
            try dsimp only at hSX
            obtain ⟨_, k0, k1, k2, k3, k4, k5, k6, k7, k8, k9, k10, k11, k12⟩ := HEz.out.at_.below hSX HEz.out.at_.lt
            go_simp <;> with_reducible rfl
          simp only [Act.put, List.setIfInBounds_toArray, List.set_cons_zero, List.set_cons_succ]
          refine held_call (i := 16) rfl (by kernel_rfl) (by rfl) (fun K' hK' => ?_)
          go_simp
          refine (rsame_any ad7 add D D cap7 capd dd.l dd.l _ (HKT.out.below HBX.out) (HIz.out.ki.below HBX.out) HDD.out HDD.out HDS.out).mono ?_
          rw [HEK.out]
          rintro e w6 ⟨rfl, hb⟩
          replace HBX := Lib.hid (HBX.out.trans (hb.mono HBX.out.size))
          have hS6 := HBX.out
          clear hb
          refine held_go hK' (HBX.out) ?_
          try simp only [Act.put, List.setIfInBounds_toArray, List.set_cons_zero, List.set_cons_succ]
          refine held_take (i := 17) (v := ?_) rfl (by kernel_rfl) (by kernel_rfl) (by kernel_rfl) (fun _ _ _ h => h) (by rfl) ?_ (by assumption) ?_
          rotate_left
          · intro X hSX
            try dsimp only at hSX
            go_simp <;> with_reducible rfl
          simp only [Act.put, List.setIfInBounds_toArray, List.set_cons_zero, List.set_cons_succ]
          refine held_take (i := 18) (v := ?_) rfl (by kernel_rfl) (by kernel_rfl) (by kernel_rfl) (fun _ _ _ h => h) (by rfl) ?_ (by assumption) ?_
          rotate_left
          · intro X hSX
            try dsimp only at hSX
            go_simp <;> with_reducible rfl
          simp only [Act.put, List.setIfInBounds_toArray, List.set_cons_zero, List.set_cons_succ]
          refine held_take (i := 19) (v := ?_) rfl (by kernel_rfl) (by kernel_rfl) (by kernel_rfl) (fun _ _ _ h => h) (by rfl) ?_ (by assumption) ?_
          rotate_left
          · intro X hSX
            try dsimp only at hSX
            go_simp <;> with_reducible rfl
          simp only [Act.put, List.setIfInBounds_toArray, List.set_cons_zero, List.set_cons_succ]
          refine held_take (i := 20) (v := ?_) rfl (by kernel_rfl) (by kernel_rfl) (by kernel_rfl) (fun _ _ _ h => h) (by rfl) ?_ (by assumption) ?_
          rotate_left
          · intro X hSX
            try dsimp only at hSX
            obtain ⟨_, k0, k1, k2, k3, k4, k5, k6, k7, k8, k9, k10, k11, k12⟩ := HA7.out.below hSX HA7.out.lt
            go_simp <;> with_reducible rfl
          simp only [Act.put, List.setIfInBounds_toArray, List.set_cons_zero, List.set_cons_succ]
          refine held_take (i := 21) (v := ?_) rfl (by kernel_rfl) (by kernel_rfl) (by kernel_rfl) (fun _ _ _ h => h) (by rfl) ?_ (by assumption) ?_
          rotate_left
          · intro X hSX
            try dsimp only at hSX
            obtain ⟨_, k0, k1, k2, k3, k4, k5, k6, k7, k8, k9, k10, k11, k12⟩ := HA7.out.below hSX HA7.out.lt
            go_simp <;> with_reducible rfl
          simp only [Act.put, List.setIfInBounds_toArray, List.set_cons_zero, List.set_cons_succ]
          refine held_take (i := 22) (v := ?_) rfl (by kernel_rfl) (by kernel_rfl) (by kernel_rfl) (fun _ _ _ h => h) (by rfl) ?_ (by assumption) ?_
          rotate_left
          · intro X hSX
            try dsimp only at hSX
            obtain ⟨_, k0, k1, k2, k3, k4, k5, k6, k7, k8, k9, k10, k11, k12⟩ := HCz.out.at_.below hSX HCz.out.at_.lt
            go_simp <;> with_reducible rfl
          simp only [Act.put, List.setIfInBounds_toArray, List.set_cons_zero, List.set_cons_succ]
          refine held_take (i := 23) (v := ?_) rfl (by kernel_rfl) (by kernel_rfl) (by kernel_rfl) (fun _ _ _ h => h) (by rfl) ?_ (by assumption) ?_
          rotate_left
          · intro X hSX
            try dsimp only at hSX
            obtain ⟨_, k0, k1, k2, k3, k4, k5, k6, k7, k8, k9, k10, k11, k12⟩ := HCz.out.at_.below hSX HCz.out.at_.lt
            go_simp <;> with_reducible rfl
          simp only [Act.put, List.setIfInBounds_toArray, List.set_cons_zero, List.set_cons_succ]
          refine held_take (i := 24) (v := ?_) rfl (by kernel_rfl) (by kernel_rfl) (by kernel_rfl) (fun _ _ _ h => h) (by rfl) ?_ (by assumption) ?_
          rotate_left
          · intro X hSX
            try dsimp only at hSX
            go_simp <;> with_reducible rfl
          simp only [Act.put, List.setIfInBounds_toArray, List.set_cons_zero, List.set_cons_succ]
          refine held_take (i := 25) (v := ?_) rfl (by kernel_rfl) (by kernel_rfl) (by kernel_rfl) (fun _ _ _ h => h) (by rfl) ?_ (by assumption) ?_
          rotate_left
          · intro X hSX
            try dsimp only at hSX
            go_simp <;> with_reducible rfl
          simp only [Act.put, List.setIfInBounds_toArray, List.set_cons_zero, List.set_cons_succ]
          refine wpAnyH_done (by kernel_rfl) ?_ _
          refine NoPanic.normal ?_
          have HB6 := Lib.hid (HBz.out.trans (HBX.out.mono HBz.out.size))
          have HC6 := Lib.hid (HCz.out.below HBX.out)
          have HE6 := Lib.hid (HEz.out.below HBX.out)
          obtain ⟨_, k0, k1, k2, k3, k4, k5, k6, k7, k8, k9, k10, k11, k12⟩ := HA7.out.below HBX.out HA7.out.lt
          have HFIN := Lib.hid (show Kfr (w6.setRow w4.heap.size (crKX d ad7 D7 cap7)) w2.heap.size ad7 d.l from HKF.out.step (fun k hk hlt => by
            rw [setRow_other _ _ _ _ (by have := HGL.out; omega)]
            exact HBX.out.block k hlt) (by have := HBX.out.size; simpa [World.setRow] using this) (Nat.le_refl _))
          have HKN := Lib.hid (Kno.of_new HFIN.out HGL.out)
          go_wp2_with (with_reducible refine wpList_store_cr rfl (.tmp 5) (.tmp 96) rfl w4.heap.size rfl _ _ _ _ _ _ _ _ _ _ _ _ _ _ _ rfl _ _ _ _ _ _ _ _ _ _ _ _ _ _ _ HE6.out.row ?_)
          go_roundg gk
          case rel => exact ⟨i + 1, d, ad7, D7, cap7, by omega, by go_num, Lib.hid (below_set HB6.out (Nat.le_of_lt HW4.out) _), Lib.hid (HC6.out.row_other _ HNE.out.2.2 _), Lib.hid (.of_row (setRow_heap _ _ _ _ _ _ HE6.out.row)), HKN, Lib.hid ⟨HKN.out.ki, by rw [← HD7.out]; exact HPT.out.1, HPT.out.2.1, HPT.out.2.2.1, HPT.out.2.2.2⟩, HDF⟩
          case measure => omega
        · obtain ⟨_, k0, k1, k2, k3, k4, k5, k6, k7, k8, k9, k10, k11, k12⟩ := HEz.out.at_
          go_wp2_with fail
          clear k0 k1 k2 k3 k4 k5 k6 k7 k8 k9 k10 k11 k12 q0
          refine (erase_m (d := crZ) (er := 17) (D := 0) HDD.out wz HIz.out rfl (era_keeps hFA.out.2.2.1 hFA.out.2.1).symm).mono ?_
          rintro e w5 ⟨ad8, cap8, rfl, -, hb⟩
          have hrow5 := (hb.block g7 HA7.out.lt).trans HROW.out
          have HR5 := Lib.hid hrow5
          have HB5 := Lib.hid (HBz.out.trans (hb.mono HBz.out.size))
          have HC5 := Lib.hid (HCz.out.below hb)
          have HE5 := Lib.hid (HEz.out.below hb)
          have HK5 : ∀ cs, Hid (Kno (w5.setRow g7 cs) w4.heap.size add dd.l) := fun cs => Lib.hid (hKn.out.step (fun k hk hlt => by
            rw [setRow_other _ _ _ _ (by have := HG7.out; omega)]
            exact (hb.block k (Nat.lt_of_lt_of_le hlt HS.out.size)).trans (HS.out.block k hlt)) (by have h1 := hb.size; have h2 := HS.out.size; simp only [World.setRow]; simpa using Nat.le_trans h2 h1))
          clear hb hrow5
          go_wp2_with (with_reducible refine wpList_store_cr rfl (.tmp 7) (.tmp 66) rfl g7 rfl _ _ _ _ _ _ _ _ _ _ _ _ _ _ _ rfl _ _ _ _ _ _ _ _ _ _ _ _ _ _ _ HR5.out ?_)
          go_roundg gk
          case rel => exact ⟨i + 1, dd, add, D, capd, by omega, by go_num, Lib.hid (below_set HB5.out (by have := HG7.out; have := hB.out.size; omega) _), Lib.hid (HC5.out.row_other _ HNE.out.1 _), Lib.hid (HE5.out.row_other _ HNE.out.2.1 _), HK5 _, Lib.hid ⟨(HK5 _).out.ki, hI.out.le, hI.out.mx, hI.out.nn, hI.out.bs⟩, hFA⟩
          case measure => omega
end Go.Proofs.Ytlbnjojafaieoaa
