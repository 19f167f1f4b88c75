/-
  DriveCosts: the costs of operations, and what a drive and its cartridges count.
-/
import Derived.Test.YtepmmlnopdjjdaaDvRunB
import Derived.Test.YtepmmlnopdjjdaaDvCostB
import Derived.Test.YtepmmlnopdjjdaaDvCostH
import Derived.Deep.DeepCutAuto
import Derived.Deep.LoopGhost
namespace Go.Proofs.Ytepmmlnopdjjdaa
open Go.RowKit
set_option linter.unusedVariables false
set_option linter.unusedSimpArgs false
set_option maxRecDepth 100000
theorem el_at {X : World} {b o : Nat} {c : Crt} {ad : Option Addr} {cap : Nat} (h : ∀ j, j < 13 → X.cell? ⟨b, o + j, none⟩ = (crC c ad cap)[j]?) :
    X.cell? ⟨b, o, none⟩ = some (.string c.bc) ∧ X.cell? ⟨b, o + 1, none⟩ = some (.int .i64 c.W) ∧ X.cell? ⟨b, o + 2, none⟩ = some (.int .i64 c.L) ∧ X.cell? ⟨b, o + 3, none⟩ = some (.int .i64 c.S) ∧ X.cell? ⟨b, o + 4, none⟩ = some (.int .i64 c.T) ∧ X.cell? ⟨b, o + 5, none⟩ = some (.int .i64 c.J) ∧ X.cell? ⟨b, o + 6, none⟩ = some (.int .i64 c.R) ∧
    X.cell? ⟨b, o + 7, none⟩ = some (.bool c.wo) ∧ X.cell? ⟨b, o + 8, none⟩ = some (.bool c.lk) ∧ X.cell? ⟨b, o + 9, none⟩ = some (.slice ad c.l.length cap) ∧ X.cell? ⟨b, o + 10, none⟩ = some (.int .i64 c.ep) ∧ X.cell? ⟨b, o + 11, none⟩ = some (.int .i64 c.lo) ∧ X.cell? ⟨b, o + 12, none⟩ = some (.int .i64 c.pa) :=
  ⟨h 0 (by omega), h 1 (by omega), h 2 (by omega), h 3 (by omega), h 4 (by omega), h 5 (by omega), h 6 (by omega), h 7 (by omega), h 8 (by omega), h 9 (by omega), h 10 (by omega), h 11 (by omega), h 12 (by omega)⟩
theorem bl {w X Y : World} (h : Hid (Below w.heap.size w X)) (hb : Below X.heap.size X Y) : Hid (Below w.heap.size w Y) := Lib.hid (h.out.trans (hb.mono h.out.size))
theorem row_cells {X Y : World} {g : Nat} {C : Array Value} {t : TypeId} (hb : Below X.heap.size X Y) (h : X.heap[g]? = some (.cells C t (0, 0))) (j : Nat) : Y.cell? ⟨g, j, none⟩ = X.cell? ⟨g, j, none⟩ := by
  rw [row_cell h, row_cell (row_next h hb)]
theorem Bx.grow {w X Y : World} {L : List (Array Value × TypeId)} (h : Bx w X L) {v : Value} (hg : X.grownBy Y v.ownBlock) (hv : ∀ j, v.ownBlock = some j → w.heap.size + L.length ≤ j) : Bx w Y L := by
  refine ⟨h.b.grown hg h.b.size (fun k hk => by have := hv k hk; omega), fun i p hp => ?_⟩
  have h1 := h.at_ i p hp
  have hi := (List.getElem?_eq_some_iff.1 hp).1
  rw [hg.block _ (Array.getElem?_eq_some_iff.1 h1).1 (fun e => by have := hv _ e.symm; omega)]
  exact h1
theorem Lk.made (X : World) (B : Nat) (hB : B ≤ X.heap.size) : Lk (X.alloc (.cells #[] 30)) B (fun _ => False) (.slice (some ⟨X.heap.size, 0, none⟩) 0 0) [] :=
  ⟨[], rfl, World.ownsRow_made X #[] 0 hB (by decide) rfl, fun k hk => by simp at hk⟩
theorem infoSp : (Try.prog.info? 32).map (·.size) = some 4 := by kernel_rfl
theorem wpList_store_sp {ops : Array Oper} {rest : List Oper} {o : Oper} {a : Act} {w : World} {Q : Exit → Act → World → Prop} (hgd : o.guard = none) (x y : Operand) (ho : o.op = .store 32 x y)
    (g : Nat) (hx : a.eval x = .pointer (some ⟨g, 0, none⟩)) (p q r : Int) (zd : Option Addr) (zn zc : Nat) (hy : a.eval y = .agg #[.int .i64 p, .int .i64 q, .int .i64 r, .slice zd zn zc]) (hg : w.heap[g]? = some (.cells #[.int .i64 0, .int .i64 0, .int .i64 0, .slice none 0 0] 32 (0, 0)))
    (h : wpList Try.prog ops Q rest (a.put o.dst undef) (w.setRow g #[.int .i64 p, .int .i64 q, .int .i64 r, .slice zd zn zc])) : wpList Try.prog ops Q (o :: rest) a w :=
  wpList_store_agg hgd _ x y ho g hx _ _ hy _ hg infoSp rfl (by simp [Value.oneCell']) h
theorem sp_cells {X : World} {g : Nat} {a b c : Int} {zd : Option Addr} {zn zc : Nat} (h : X.heap[g]? = some (.cells #[.int .i64 a, .int .i64 b, .int .i64 c, .slice zd zn zc] 32 (0, 0))) :
    X.cell? ⟨g, 0, none⟩ = some (.int .i64 a) ∧ X.cell? ⟨g, 1, none⟩ = some (.int .i64 b) ∧ X.cell? ⟨g, 2, none⟩ = some (.int .i64 c) ∧ X.cell? ⟨g, 3, none⟩ = some (.slice zd zn zc) := by
  refine ⟨?_, ?_, ?_, ?_⟩ <;> (rw [row_cell h]; rfl)
/-- how great the cartridges are behind k operations -/
def Sz (n : Nat) (es : List Crt) (k : Nat) : Prop := es.length = n ∧ ∀ c ∈ es, c.l.length ≤ 200 + 60 * k ∧ ∀ b ∈ c.l, b.d.length ≤ 200
theorem Sz.up {n k : Nat} {es : List Crt} (h : Sz n es k) : Sz n es (k + 1) := ⟨h.1, fun c hc => ⟨by have := (h.2 c hc).1; omega, (h.2 c hc).2⟩⟩
theorem Sz.set {n k W : Nat} {es : List Crt} {x : Crt} (h : Sz n es k) (h1 : x.l.length ≤ 200 + 60 * k + 60) (h2 : ∀ b ∈ x.l, b.d.length ≤ 200) : Sz n (es.set W x) (k + 1) :=
  ⟨by rw [List.length_set]; exact h.1, fun c hc => by
    rcases List.mem_or_eq_of_mem_set hc with h3 | rfl
    · exact h.up.2 c h3
    · exact ⟨by omega, h2⟩⟩
attribute [local irreducible] stU fewB due worn mdlU drvU vldC
set_option maxHeartbeats 16000000 in
theorem law_costs (m : Mdl) (ca : Option Addr) (cn cc : Nat) (cs : List Crt) (sa : Option Addr) (sn sc : Nat) (ls : List St4) (w : World) (hc : Kcs w ca cs) (hcn : cn = cs.length) (hcl : cn ≤ cc) (hcm : cc ≤ maxLen) (hs : Ks4 w sa ls) (hsn : sn = ls.length) (hsl : sn ≤ sc) (hsm : sc ≤ maxLen) :
    Calls Try.prog 5 #[mdV m, .slice ca cn cc, .slice sa sn sc] w fun e w' => e = .returned (.bool true) ∧ Below w.heap.size w w' := by
  have HKC := Lib.hid hc
  have HKS := Lib.hid hs
  have HCN := Lib.hid hcn
  have HSN := Lib.hid hsn
  have hcm2 : cn ≤ 9223372036854775807 := by unfold maxLen at hcm; omega
  have hsm2 : sn ≤ 9223372036854775807 := by unfold maxLen at hsm; omega
  have HT := Lib.hid (show Bx w (w.alloc (boxMx m)) [(mdK m, 23)] from Bx.start w [(mdK m, 23)])
  clear hc hs hcn hsn hcl hcm hsl hsm
  go_enter Try.func5, Try.ntmps5
  go_wp2_with fail
  generalize World.alloc _ _ = Y0 at *
  refine (lives_any Y0).mono ?_
  rintro e Y1 ⟨rfl, hb⟩
  replace HT := Lib.hid (HT.out.next hb)
  clear hb
  go_wp2_with fail
  refine (few_any ca cn cc cs sa sn sc ls 60 Y1 (HKC.out.below HT.out.b) HCN.out (HKS.out.below HT.out.b) HSN.out hcm2 hsm2).mono ?_
  rintro e Y3 ⟨rfl, hY⟩
  obtain rfl := hY.symm
  cases hfew : fewB cs ls 60
  · go_wp2
    go_ret
    exact ⟨rfl, HT.out.b⟩
  have hfw := fewB_iff.1 hfew
  have HOC := Lib.hid (fun c (h : c ∈ cs) => okC_iff.1 (hfw.2.1 c h))
  have HOS := Lib.hid (fun s (h : s ∈ ls) => okS_iff.1 (hfw.2.2 s h))
  have hc4 : cn ≤ 4 := by rw [HCN.out]; exact hfw.1.1
  have hs60 : sn ≤ 60 := by have h1 := hfw.1.2; rw [HSN.out]; omega
  clear hfew hfw
  go_wp2_with fail
  have HL := Lib.hid (Lk.made Y1 (w.heap.size + 1) HT.out.size)
  replace HT := Lib.hid (HT.out.next (below_boxC Y1 (.cells #[] 30)))
  generalize World.alloc Y1 _ = Y2 at *
  generalize Y1.heap.size = g0 at *
  go_loopg [7, 8, 9] cn (fun gk v7 v8 v9 wx => ∃ (k : Nat) (v : Value), v = v7 ∧ v8 = .int .i64 (sumP (cs.take k)) ∧ v9 = .int .i64 k ∧ k + gk = cn ∧ Hid (Lk wx (w.heap.size + 1) (fun _ => False) v (cs.take k)) ∧ Hid (Bx w wx [(mdK m, 23)]) ∧ Hid (∀ c ∈ cs.take k, 0 ≤ c.pa ∧ c.pa ≤ 140737488355328))
  case atStart => exact ⟨0, _, rfl, rfl, rfl, by omega, HL, HT, Lib.hid fun c hc => by simp at hc⟩
  case round =>
    clear HT HL
    obtain ⟨k, v, rfl, rfl, rfl, hk, hl, ht, hp⟩ := hrel
    have HP := Lib.hid hp.out
    have HT := Lib.hid ht.out
    have HL := Lib.hid hl.out
    clear hl ht hp
    cases gk with
    | succ gk0 =>
      have hkn : k < cn := by omega
      have hkl : k < cs.length := by rw [← HCN.out]; exact hkn
      have hlen : (cs.take k).length + 1 ≤ 100000 := by rw [List.length_take]; omega
      have HTK := Lib.hid (show cs.take (k + 1) = cs.take k ++ [cs[k]] by simp)
      have HX := Lib.hid (HOC.out _ (List.getElem_mem hkl))
      have hsb := sumP_bd (B := 140737488355328) (by omega) (cs.take k) HP.out
      rw [show (cs.take k).length = k by rw [List.length_take]; omega] at hsb
      have hk4 : 140737488355328 * (k : Int) ≤ 562949953421312 := by omega
      obtain ⟨sk, hsk⟩ : ∃ s, s = sumP (cs.take k) := ⟨_, rfl⟩
      rw [← hsk] at hsb ⊢
      have HSK := Lib.hid hsk
      clear hsk
      obtain ⟨b, off, ad', cap', hca, hbw, hcells, hin⟩ := HKC.out.get hkl
      subst hca
      generalize cs[k] = x at *
      have HIN := Lib.hid hin
      obtain ⟨c0, c1, c2, c3, c4, c5, c6, c7, c8, c9, c10, c11, c12⟩ := el_at (X := wr) (fun j hj => (HT.out.b.cell (p := ⟨b, off + k * 13 + j, none⟩) hbw).trans (hcells j hj))
      have HCP := Lib.hid (fun X h => rdcopied_any x ad' cap' X h (by have h1 := HX.out.1; omega) (fun b hb => by have h1 := HX.out.2 b hb; omega))
      have hbw2 : b < wr.heap.size := by have h1 := HT.out.b.size; omega
      have HBW := Lib.hid hbw
      have HCE := Lib.hid hcells
      clear hcells hin hbw
      by_cases hpa : 0 ≤ x.pa ∧ x.pa ≤ 140737488355328
      rotate_left
      · have hpart : 140737488355328 < x.pa ∨ (x.pa ≤ 140737488355328 ∧ x.pa < 0) := by omega
        clear hpa
        rcases hpart with h1 | ⟨h1, h2⟩
        all_goals
          go_wp2
          go_ret
          exact ⟨rfl, HT.out.b⟩
      have hp0 := hpa.1
      have hp1 := hpa.2
      have hw1 : IntKind.i64.wrap (sk + x.pa) = sk + x.pa := by rw [IntKind.wrap_i64]; omega
      have HSN2 := Lib.hid (show sumP (cs.take (k + 1)) = sk + x.pa by rw [HTK.out, sumP_snoc, HSK.out])
      have HP2 := Lib.hid (show ∀ c ∈ cs.take (k + 1), 0 ≤ c.pa ∧ c.pa ≤ 140737488355328 from fun c hc => by
        rw [HTK.out] at hc
        rcases List.mem_append.1 hc with h | h
        · exact HP.out c h
        · obtain rfl : c = x := by simpa using h
          exact hpa)
      clear hpa
      go_wp2_with fail
      clear c0 c1 c2 c3 c4 c5 c6 c7 c8 c9 c10 c11 c12 hbw2
      refine (HCP.out wr (HIN.out.below HT.out.b)).mono ?_
      rintro e X1 ⟨ad1, cap1, rfl, hi, hkf, hb⟩
      have HL1 := Lib.hid ((HL.out.next hb).next (below_boxC X1 (boxCx x ad1 cap1)))
      have HT1 := Lib.hid ((HT.out.next hb).next (below_boxC X1 (boxCx x ad1 cap1)))
      have HG := Lib.hid (show (X1.alloc (boxCx x ad1 cap1)).heap[X1.heap.size]? = some (.cells (⟨x, ad1, cap1⟩ : Ck).cells.toArray 30 (0, 0)) from heap_alloc_new X1 (boxCx x ad1 cap1))
      have HKO := Lib.hid (show (⟨x, ad1, cap1⟩ : Ck).Out (X1.alloc (boxCx x ad1 cap1)) (fun j => False ∨ v.ownBlock = some j) from
        ⟨(KnoS.of_fr hkf (fun j hj => hj.elim False.elim (fun h => (HL.out.lt j h).2))).below (below_boxC X1 (boxCx x ad1 cap1)), hi.le, hi.mx, hi.nn, hi.bs⟩)
      have HB1 := Lib.hid (show w.heap.size + 1 ≤ (X1.alloc (boxCx x ad1 cap1)).heap.size from HT1.out.size)
      clear hi hkf hb HCP HIN
      go_wp2_with (first
        | (at_builtin; refine wpList_append_c rfl (.tmp 43) (.tmp 49) rfl (w.heap.size + 1) (fun _ => False) _ _ rfl HL1.out ⟨x, ad1, cap1⟩ X1.heap.size 1 rfl HG.out HKO.out hlen HB1.out ?_; intro v11 w11 hl11 hg11 _; have HL11 := Lib.hid (show Lk w11 (w.heap.size + 1) (fun _ => False) v11 (cs.take (k + 1)) by rw [HTK.out]; exact hl11); have HT11 := Lib.hid (HT1.out.grow hg11 (fun j hj => (HL1.out.lt j hj).1)); obtain ⟨c0, c1, c2, c3, c4, c5, c6, c7, c8, c9, c10, c11, c12⟩ := el_at (X := w11) (fun j hj => (HT11.out.b.cell (p := ⟨b, off + k * 13 + j, none⟩) HBW.out).trans (HCE.out j hj)); clear hl11 hg11 HL1 HT1 HG HKO HB1)
        | fail)
      go_roundg gk0
      case rel => exact ⟨k + 1, _, rfl, by rw [HSN2.out], by go_num, by omega, HL11, HT11, HP2⟩
      case measure => omega
    | zero =>
      obtain rfl : k = cn := by omega
      have HTC := Lib.hid (show cs.take k = cs from List.take_of_length_le (by rw [← HCN.out]; exact Nat.le_refl _))
      have HL2 := Lib.hid (show Lk wr (w.heap.size + 1) (fun _ => False) v cs by have h1 := HL.out; rw [HTC.out] at h1; exact h1)
      have HP2 := Lib.hid (show ∀ c ∈ cs, 0 ≤ c.pa ∧ c.pa ≤ 140737488355328 by have h1 := HP.out; rw [HTC.out] at h1; exact h1)
      rw [HTC.out]
      have hsb := sumP_bd (B := 140737488355328) (by omega) cs HP2.out
      rw [← HCN.out] at hsb
      have hsb2 : 0 ≤ sumP cs ∧ sumP cs ≤ 562949953421312 := by omega
      obtain ⟨s0, hs0⟩ : ∃ s, s = sumP cs := ⟨_, rfl⟩
      have HPZ := Lib.hid (show Pz s0 drZ cs 0 from ⟨by rw [hs0]; show (0 : Int) = _; omega, by show (0 : Int) ≤ 0 ∧ (0 : Int) ≤ _; omega, fun c hc => by have h1 := HP2.out c hc; omega⟩)
      rw [← hs0] at hsb2 ⊢
      clear HL HP HP2 HTC hsb hs0
      obtain ⟨va, vc, hv, -, hvl, -⟩ := HL2.out.slice
      rw [← HCN.out] at hv hvl
      subst hv
      have R0 := Lib.hid (show (wr.alloc (.cells #[.int .i64 0, .string ⟨#[]⟩, .int .i64 0, .int .i64 0, .int .i64 0, .int .i64 0] 25)).heap[wr.heap.size]? = some (.cells (drK drZ) 25 (0, 0)) from heap_alloc_new wr _)
      have HR0 := Lib.hid (show Rl w ((wr.alloc (.cells #[.int .i64 0, .string ⟨#[]⟩, .int .i64 0, .int .i64 0, .int .i64 0, .int .i64 0] 25)).setRow wr.heap.size (drK drZ)) [(mdK m, 23)] wr.heap.size drZ (.slice va k vc) cs from
        ⟨setRow_heap _ _ _ _ _ _ R0.out, (HL2.out.add _ (T := fun j => j = wr.heap.size) (fun j hj => .inr hj)).row rfl (fun j hj => Nat.ne_of_lt (HL2.out.lt j hj).2), HT.out.size, fun j hj => Nat.ne_of_lt (HL2.out.lt j hj).2, (HT.out.next (below_boxC wr _)).far HT.out.size _⟩)
      have HE0 := Lib.hid (show Sz k cs 0 from ⟨HCN.out.symm, fun c hc => ⟨(HOC.out c hc).1, (HOC.out c hc).2⟩⟩)
      clear HL2 HT HOC
      go_wp2_with (with_reducible refine wpList_store_dr rfl (.tmp 10) (.tmp 58) rfl wr.heap.size rfl _ _ _ _ _ _ rfl drZ R0.out ?_)
      clear R0
      have HR := Lib.hid HR0.out
      clear HR0
      generalize World.setRow (World.alloc wr _) _ _ = Z0 at *
      generalize wr.heap.size = dp at *
      obtain ⟨cn, hcn⟩ : ∃ n, n = k := ⟨_, rfl⟩
      subst hcn
      clear HCN HKC hk
      go_loopg [11] sn (fun gk v11 wx => ∃ (k : Nat) (d : Drv) (es : List Crt), v11 = .int .i64 k ∧ k + gk = sn ∧ Hid (Rl w wx [(mdK m, 23)] dp d (.slice va cn vc) es) ∧ Hid (Sz cn es k) ∧ Hid (Pz s0 d es k))
      case atStart => exact ⟨0, drZ, cs, rfl, by omega, HR, HE0, HPZ⟩
      case round =>
        clear HR HE0 HPZ
        obtain ⟨k, d, es, rfl, hk, hr, he, hz⟩ := hrel
        have HR := Lib.hid hr.out
        have HE := Lib.hid he.out
        have HZ := Lib.hid hz.out
        clear hr he hz
        cases gk with
        | zero =>
          obtain rfl : k = sn := by omega
          have hel : es.length = cn := HE.out.1
          have HKE := Lib.hid (show ∃ ad cap, Value.slice va cn vc = .slice ad es.length cap ∧ Kcs wr ad es from by obtain ⟨a1, a2, a3, a4, _⟩ := HR.out.k.slice; exact ⟨a1, a2, a3, a4⟩)
          have HKS2 := Lib.hid (show Kcs wr va es by
            obtain ⟨a1, a2, a3, a4⟩ := HKE.out
            simp only [Value.slice.injEq] at a3
            rw [a3.1]; exact a4)
          clear HKE
          have HDP := Lib.hid (show d.pa = sumP es - s0 from HZ.out.1)
          have HPB := Lib.hid (show ∀ c ∈ es, 0 ≤ c.pa ∧ c.pa ≤ 140737788355328 from fun c hc => by have h1 := HZ.out.2.2 c hc; omega)
          clear HE HZ
          go_wp2_with fail
          obtain ⟨w0, hw0⟩ : ∃ w0, w0 = wr := ⟨_, rfl⟩
          subst hw0
          go_loopg [14, 15] cn (fun gk v14 v15 wx => ∃ j : Nat, v14 = .int .i64 (sumP (es.take j)) ∧ v15 = .int .i64 j ∧ j + gk = cn ∧ wx = w0)
          case atStart => exact ⟨0, rfl, rfl, by omega, rfl⟩
          case round =>
            obtain ⟨j, rfl, rfl, hj, rfl⟩ := hrel
            cases gk with
            | succ gk1 =>
              have hjl : j < es.length := by omega
              have HTK := Lib.hid (show es.take (j + 1) = es.take j ++ [es[j]] by simp)
              have hsb := sumP_bd (B := 140737788355328) (by omega) (es.take j) (fun c hc => HPB.out c (List.mem_of_mem_take hc))
              rw [show (es.take j).length = j by rw [List.length_take]; omega] at hsb
              have hx := HPB.out _ (List.getElem_mem hjl)
              obtain ⟨b, off, ad', cap', hva, hbw, hcells, -⟩ := HKS2.out.get hjl
              subst hva
              have q12 := hcells 12 (by omega)
              rw [show (crC es[j] ad' cap')[12]? = some (.int .i64 es[j].pa) from rfl] at q12
              have HSM := Lib.hid (show sumP (es.take (j + 1)) = sumP (es.take j) + es[j].pa by rw [HTK.out, sumP_snoc])
              generalize es[j].pa = xp at *
              generalize sumP (es.take j) = sj at *
              have hw1 : IntKind.i64.wrap (sj + xp) = sj + xp := by rw [IntKind.wrap_i64]; omega
              have hjc : j < cn := by omega
              clear hcells hsb
              go_wp2_with fail
              go_roundg gk1
              case rel => exact ⟨j + 1, by rw [HSM.out], by go_num, by omega, rfl⟩
              case measure => omega
            | zero =>
              obtain rfl : j = cn := by omega
              rw [List.take_of_length_le (by omega)]
              obtain ⟨_, d0, d1, d2, d3, d4, d5⟩ := DrAt.of HR.out.x
              have hw1 : IntKind.i64.wrap (sumP es - s0) = d.pa := by
                rw [HDP.out, IntKind.wrap_i64]
                have h1 := sumP_bd (B := 140737788355328) (by omega) es HPB.out
                rw [hel] at h1
                omega
              have hq : (d.pa == d.pa) = true := by simp
              go_wp2
              go_ret
              exact ⟨by simp, HR.out.b.b⟩
        | succ gk0 =>
          have hks : k < sn := by omega
          have hkl : k < ls.length := by rw [← HSN.out]; exact hks
          obtain ⟨b, off, zd, zc, hsa, hbw, hcells, hsi⟩ := HKS.out.get hkl
          subst hsa
          have c0 := hcells 0 (by omega)
          have c1 := hcells 1 (by omega)
          have c2 := hcells 2 (by omega)
          have c3 := hcells 3 (by omega)
          have hzl := HOS.out _ (List.getElem_mem hkl)
          generalize ls[k] = sk at *
          obtain ⟨kind, which, nn, z⟩ := sk
          have HC := Lib.hid (show w.cell? ⟨b, off + k * 4, none⟩ = some (.int .i64 kind) ∧ w.cell? ⟨b, off + k * 4 + 1, none⟩ = some (.int .i64 which) ∧ w.cell? ⟨b, off + k * 4 + 2, none⟩ = some (.int .i64 nn) ∧ w.cell? ⟨b, off + k * 4 + 3, none⟩ = some (.slice zd z.length zc) ∧ b < w.heap.size from ⟨c0, c1, c2, c3, hbw⟩)
          have HZL := Lib.hid hzl
          have s0' := (HR.out.b.b.cell (p := ⟨b, off + k * 4, none⟩) hbw).trans HC.out.1
          have s1' := (HR.out.b.b.cell (p := ⟨b, off + k * 4 + 1, none⟩) hbw).trans HC.out.2.1
          have s2' := (HR.out.b.b.cell (p := ⟨b, off + k * 4 + 2, none⟩) hbw).trans HC.out.2.2.1
          have s3' := (HR.out.b.b.cell (p := ⟨b, off + k * 4 + 3, none⟩) hbw).trans HC.out.2.2.2.1
          have hbw2 : b < wr.heap.size := by have h1 := HR.out.b.b.size; omega
          clear c0 c1 c2 c3 hbw hcells hkl hzl
          have R0 := Lib.hid (show (wr.alloc (.cells #[.int .i64 0, .int .i64 0, .int .i64 0, .slice none 0 0] 32)).heap[wr.heap.size]? = some (.cells #[.int .i64 0, .int .i64 0, .int .i64 0, .slice none 0 0] 32 (0, 0)) from heap_alloc_new wr _)
          have HB := Lib.hid (show Below wr.heap.size wr ((wr.alloc (.cells #[.int .i64 0, .int .i64 0, .int .i64 0, .slice none 0 0] 32)).setRow wr.heap.size #[.int .i64 kind, .int .i64 which, .int .i64 nn, .slice zd z.length zc]) from below_row (below_boxC wr _) (Nat.le_refl _) _)
          have HSP := Lib.hid (show ((wr.alloc (.cells #[.int .i64 0, .int .i64 0, .int .i64 0, .slice none 0 0] 32)).setRow wr.heap.size #[.int .i64 kind, .int .i64 which, .int .i64 nn, .slice zd z.length zc]).heap[wr.heap.size]? = some (.cells #[.int .i64 kind, .int .i64 which, .int .i64 nn, .slice zd z.length zc] 32 (0, 0)) from setRow_heap _ _ _ _ _ _ R0.out)
          obtain ⟨p0, p1, p2, p3⟩ := sp_cells HSP.out
          by_cases hw : 0 ≤ which ∧ which < (cn : Int)
          rotate_left
          · have hpart : which < 0 ∨ (0 ≤ which ∧ (cn : Int) ≤ which) := by omega
            clear hw
            rcases hpart with h1 | ⟨h1, h2⟩
            all_goals
              go_wp2_with (with_reducible refine wpList_store_sp rfl (.tmp 12) (.tmp 68) rfl wr.heap.size rfl _ _ _ _ _ _ rfl R0.out ?_)
              go_ret
              exact ⟨rfl, HR.out.b.b.trans (HB.out.mono HR.out.b.b.size)⟩
          obtain ⟨W, hW⟩ : ∃ W : Nat, which = (W : Int) := ⟨which.toNat, by omega⟩
          subst hW
          have hWc : W < cn := by omega
          clear hw
          go_upto_region 21 with (with_reducible refine wpList_store_sp rfl (.tmp 12) (.tmp 68) rfl wr.heap.size rfl _ _ _ _ _ _ rfl R0.out ?_)
          clear p0 p1 p2 p3 s0' s1' s2' s3' R0 hbw2
          have HDS := Lib.hid (show dp < wr.heap.size ∧ ∀ lg, va = some ⟨lg, 0, none⟩ → lg < wr.heap.size from by
            obtain ⟨lg0, cap0, C0, a0, c0, hv0, -, -, hg0, -⟩ := HR.out.put W (by rw [HE.out.1]; exact hWc)
            simp only [Value.slice.injEq] at hv0
            refine ⟨(Array.getElem?_eq_some_iff.1 HR.out.x).1, fun lg h => ?_⟩
            rw [hv0.1] at h
            cases h
            exact (Array.getElem?_eq_some_iff.1 hg0).1)
          replace HR := Lib.hid (HR.out.next HB.out)
          clear HB
          generalize World.setRow (World.alloc wr _) _ _ = Z1 at *
          generalize wr.heap.size = sp at *
          obtain ⟨lg, cap, C, ad', cap', hv, hcap, hne, hg, hC, hcell, hout, hlt, hdl, hput⟩ := HR.out.put W (by rw [HE.out.1]; exact hWc)
          simp only [Value.slice.injEq] at hv
          obtain ⟨hva, -, hvc⟩ := hv
          subst hva hvc
          have HLS := Lib.hid (show dp < sp ∧ lg < sp ∧ lg ≠ dp from ⟨HDS.out.1, HDS.out.2 lg rfl, hne⟩)
          have HPUT := Lib.hid hput
          have HG := Lib.hid hg
          have HCC := Lib.hid hC
          have HCE := Lib.hid hcell
          have HLT := Lib.hid (And.intro hdl hlt)
          have hWe : W < es.length := by rw [HE.out.1]; exact hWc
          have HCX := Lib.hid (HE.out.2 _ (List.getElem_mem hWe))
          have HPX := Lib.hid (HZ.out.2.2 _ (List.getElem_mem hWe))
          have HSET := Lib.hid (fun (d2 : Drv) (c2 : Crt) h1 h2 h3 => HZ.out.set hWe (d2 := d2) (c2 := c2) h1 h2 h3)
          have HIN := Lib.hid hout.i
          have HZI := Lib.hid (hsi.ki.below HR.out.b.b)
          clear hput hg hC hcell hout hdl hlt hne HDS
          generalize es[W] = c at *
          clear hWe
          have hk60 : k < 60 := by omega
          have HCP := Lib.hid (fun X h => rdcopied_any c ad' cap' X h (by have h1 := HCX.out.1; omega) (fun b hb => by have h1 := HCX.out.2 b hb; omega))
          have HPG := Lib.hid (fun X ad1 cap1 (h : CrIn X c ad1 cap1) hz => program_any side_prog m d c ad1 cap1 kind W nn zd z.length zc z X h hz rfl (by have h1 := HZL.out.1; simp only at h1; omega) hsi.nn ⟨hsi.n0, hsi.n1⟩)
          have HLN := Lib.hid (show (stU m d c kind nn z).c.l.length ≤ 200 + 60 * k + 60 ∧ (stU m d c kind nn z).l.length ≤ 200 + 60 * k by have h0 := stU_len m d c kind nn z; have h1 := HCX.out.1; have h2 := HZL.out.1; simp only at h2; omega)
          have HDT := Lib.hid (show ∀ b ∈ (stU m d c kind nn z).c.l, b.d.length ≤ 200 from fun b hb => (stU_sub m d c kind nn z b hb).elim (fun h => HCX.out.2 b h) (fun h => HZL.out.2 b h))
          have HCS := Lib.hid (st_cost m d c kind nn z (by have h1 := HZ.out.2.1; omega) (by have h1 := HPX.out; omega))
          have HHD := Lib.hid (fun he => st_hd (m := m) (d := d) (c := c) (k := kind) (n := nn) (z := z) (by have h1 := HCX.out.1; omega) (by have h1 := HZL.out.1; simp only at h1; omega) he)
          generalize stU m d c kind nn z = r at *
          clear hsi
          go_cut [13] (fun s13 wx => ∃ p ad2 n2 cap2 zd2 zn2 zc2, s13 = .pointer (some ⟨p, 0, none⟩) ∧ Hid (StS Z1 wx (fun j : Nat => j = dp ∨ j = lg) p r ad2 n2 cap2 zd2 zn2 zc2))
          case first =>
            have HT := Lib.hid (Below.refl Z1.heap.size Z1).drew
            refine wp_region_noPanic ?_
            refine wp_region_held_drew (S := (fun X => Below Z1.heap.size Z1 X)) (by kernel_rfl) (HT.out) (fun hS0 => ?_)
            generalize World.drew Z1 = X0 at *
            refine held_take (i := 0) (v := ?_) rfl (by kernel_rfl) (by kernel_rfl) (by kernel_rfl) (fun _ _ _ h => h) (by rfl) ?_ (by assumption) ?_
            rotate_left
            · intro X hSX
              try dsimp only at hSX
              obtain ⟨_, m0, m1, m2, m3, m4⟩ := (HR.out.b.next hSX).m
              go_simp <;> with_reducible rfl
            simp only [Act.put, List.setIfInBounds_toArray, List.set_cons_zero, List.set_cons_succ]
            refine held_take (i := 1) (v := ?_) rfl (by kernel_rfl) (by kernel_rfl) (by kernel_rfl) (fun _ _ _ h => h) (by rfl) ?_ (by assumption) ?_
            rotate_left
            · intro X hSX
              try dsimp only at hSX
              obtain ⟨_, d0, d1, d2, d3, d4, d5⟩ := DrAt.of (row_next HR.out.x hSX)
              go_simp <;> with_reducible rfl
            simp only [Act.put, List.setIfInBounds_toArray, List.set_cons_zero, List.set_cons_succ]
            refine held_take (i := 2) (v := ?_) rfl (by kernel_rfl) (by kernel_rfl) (by kernel_rfl) (fun _ _ _ h => h) (by rfl) ?_ (by assumption) ?_
            rotate_left
            · intro X hSX
              try dsimp only at hSX
              go_simp <;> with_reducible rfl
            simp only [Act.put, List.setIfInBounds_toArray, List.set_cons_zero, List.set_cons_succ]
            refine held_take (i := 3) (v := ?_) rfl (by kernel_rfl) (by kernel_rfl) (by kernel_rfl) (fun _ _ _ h => h) (by rfl) ?_ (by assumption) ?_
            rotate_left
            · intro X hSX
              try dsimp only at hSX
              go_simp <;> with_reducible rfl
            simp only [Act.put, List.setIfInBounds_toArray, List.set_cons_zero, List.set_cons_succ]
            refine held_take (i := 4) (v := ?_) rfl (by kernel_rfl) (by kernel_rfl) (by kernel_rfl) (fun _ _ _ h => h) (by rfl) ?_ (by assumption) ?_
            rotate_left
            · intro X hSX
              try dsimp only at hSX
              obtain ⟨p0, p1, p2, p3⟩ := sp_cells (row_next HSP.out hSX)
              go_simp <;> with_reducible rfl
            simp only [Act.put, List.setIfInBounds_toArray, List.set_cons_zero, List.set_cons_succ]
            refine held_take (i := 5) (v := ?_) rfl (by kernel_rfl) (by kernel_rfl) (by kernel_rfl) (fun _ _ _ h => h) (by rfl) ?_ (by assumption) ?_
            rotate_left
            · intro X hSX
              try dsimp only at hSX
              go_simp <;> with_reducible rfl
            simp only [Act.put, List.setIfInBounds_toArray, List.set_cons_zero, List.set_cons_succ]
            refine held_take (i := 6) (v := ?_) rfl (by kernel_rfl) (by kernel_rfl) (by kernel_rfl) (fun _ _ _ h => h) (by rfl) ?_ (by assumption) ?_
            rotate_left
            · intro X hSX
              try dsimp only at hSX
              obtain ⟨k0, k1, k2, k3, k4, k5, k6, k7, k8, k9, k10, k11, k12⟩ := el_at (fun j hj => (row_cells hSX HG.out (W * 13 + j)).trans (HCE.out j hj))
              go_simp <;> with_reducible rfl
            simp only [Act.put, List.setIfInBounds_toArray, List.set_cons_zero, List.set_cons_succ]
            refine held_take (i := 8) (v := ?_) rfl (by kernel_rfl) (by kernel_rfl) (by kernel_rfl) (fun _ _ _ h => h) (by rfl) ?_ (by assumption) ?_
            rotate_left
            · intro X hSX
              try dsimp only at hSX
              obtain ⟨p0, p1, p2, p3⟩ := sp_cells (row_next HSP.out hSX)
              go_simp <;> with_reducible rfl
            simp only [Act.put, List.setIfInBounds_toArray, List.set_cons_zero, List.set_cons_succ]
            refine held_two (i := 7) (j := 10) rfl rfl (by kernel_rfl) (by rfl) (by rfl) (fun K' hK' => ?_) (fun K' hK' => ?_)
            · as_aux_lemma =>
              go_simp
              refine (HCP.out X0 (HIN.out.below HT.out)).mono ?_
              rintro e X1 ⟨ad1, cap1, rfl, hi, hkf, hb⟩
              have HI1 := Lib.hid hi
              have HK1 := Lib.hid (show KnoS X1 (fun j : Nat => (j = dp ∨ j = lg)) ad1 c.l from KnoS.of_fr hkf (fun k (hk : (k = dp ∨ k = lg)) => by have h_b := HLT.out; have h_t := HT.out.size; omega))
              clear hi hkf
              replace HT := bl HT hb
              refine held_go hK' (HT.out) ?_
              try simp only [Act.put, List.setIfInBounds_toArray, List.set_cons_zero, List.set_cons_succ]
              clear hS0
              have hS0 := HT.out
              clear hb
              refine held_two (i := 9) (j := 10) rfl rfl (by kernel_rfl) (by rfl) (by rfl) (fun K' hK' => ?_) (fun K' hK' => ?_)
              · as_aux_lemma =>
                go_simp
                refine (HPG.out X1 ad1 cap1 HI1.out (HZI.out.below HT.out)).mono ?_
                rintro e X2 hret
                obtain ⟨ad2, n2, cap2, zd2, zn2, zc2, rfl, hok, hb⟩ := DnOk.of (S := (fun j : Nat => (j = dp ∨ j = lg))) hret HK1.out (fun k (hk : (k = dp ∨ k = lg)) => by have h_b := HLT.out; have h_t := HT.out.size; omega)
                have HOK2 := Lib.hid hok
                clear hret hok HI1 HK1
                replace HT := bl HT hb
                refine held_go hK' (HT.out) ?_
                try simp only [Act.put, List.setIfInBounds_toArray, List.set_cons_zero, List.set_cons_succ]
                clear hS0
                have hS0 := HT.out
                clear hb
                refine held_call (i := 10) rfl (by kernel_rfl) (by rfl) (fun K' hK' => ?_)
                go_simp
                have HPp := Lib.hid (heap_alloc_new X2 boxDn)
                have HNp := Lib.hid (show Z1.heap.size ≤ X2.heap.size from HT.out.size)
                replace HOK2 := Lib.hid (HOK2.out.add (T := (fun j : Nat => (j = dp ∨ j = lg) ∨ j = X2.heap.size)) boxDn (fun k hk => hk))
                replace HT := bl HT (below_boxC X2 boxDn)
                refine held_go hK' (HT.out) ?_
                try simp only [Act.put, List.setIfInBounds_toArray, List.set_cons_zero, List.set_cons_succ]
                generalize World.alloc X2 _ = X3 at *
                generalize X2.heap.size = p at *
                clear hS0
                have hS0 := HT.out
                refine held_call (i := 11) rfl (by kernel_rfl) (by rfl) (fun K' hK' => ?_)
                refine oper_store_dn (.tmp 13) (.tmp 88) rfl p rfl _ _ _ _ _ _ _ _ _ _ rfl HPp.out ?_
                refine held_go hK' (below_row HT.out HNp.out _) ?_
                try simp only [Act.put, List.setIfInBounds_toArray, List.set_cons_zero, List.set_cons_succ]
                have HSB := Lib.hid (sts_fin HPp.out HOK2.out HNp.out HT.out)
                refine wpAnyH_done (by kernel_rfl) ?_ _
                refine NoPanic.normal ?_
                go_wp2_with fail
                go_meet
                exact ⟨_, _, _, _, _, _, _, rfl, HSB⟩
              · as_aux_lemma =>
                go_simp
                have HPp := Lib.hid (heap_alloc_new X1 boxDn)
                have HNp := Lib.hid (show Z1.heap.size ≤ X1.heap.size from HT.out.size)
                replace HI1 := Lib.hid (HI1.out.below (below_boxC X1 boxDn))
                replace HK1 := Lib.hid (HK1.out.add (T := (fun j : Nat => (j = dp ∨ j = lg) ∨ j = X1.heap.size)) boxDn (fun k hk => hk))
                replace HT := bl HT (below_boxC X1 boxDn)
                refine held_go hK' (HT.out) ?_
                try simp only [Act.put, List.setIfInBounds_toArray, List.set_cons_zero, List.set_cons_succ]
                generalize World.alloc X1 _ = X2 at *
                generalize X1.heap.size = p at *
                clear hS0
                have hS0 := HT.out
                refine held_call (i := 9) rfl (by kernel_rfl) (by rfl) (fun K' hK' => ?_)
                go_simp
                refine (HPG.out X2 ad1 cap1 HI1.out (HZI.out.below HT.out)).mono ?_
                rintro e X3 hret
                obtain ⟨ad2, n2, cap2, zd2, zn2, zc2, rfl, hok, hb⟩ := DnOk.of (S := (fun j : Nat => (j = dp ∨ j = lg) ∨ j = p)) hret HK1.out (fun k (hk : (k = dp ∨ k = lg) ∨ k = p) => by have h_p := (Array.getElem?_eq_some_iff.1 HPp.out).1; have h_b := HLT.out; have h_t := HT.out.size; omega)
                have HOK2 := Lib.hid hok
                clear hret hok HI1 HK1
                replace HPp := Lib.hid (row_next HPp.out hb)
                replace HT := bl HT hb
                refine held_go hK' (HT.out) ?_
                try simp only [Act.put, List.setIfInBounds_toArray, List.set_cons_zero, List.set_cons_succ]
                clear hS0
                have hS0 := HT.out
                clear hb
                refine held_call (i := 11) rfl (by kernel_rfl) (by rfl) (fun K' hK' => ?_)
                refine oper_store_dn (.tmp 13) (.tmp 88) rfl p rfl _ _ _ _ _ _ _ _ _ _ rfl HPp.out ?_
                refine held_go hK' (below_row HT.out HNp.out _) ?_
                try simp only [Act.put, List.setIfInBounds_toArray, List.set_cons_zero, List.set_cons_succ]
                have HSB := Lib.hid (sts_fin HPp.out HOK2.out HNp.out HT.out)
                refine wpAnyH_done (by kernel_rfl) ?_ _
                refine NoPanic.normal ?_
                go_wp2_with fail
                go_meet
                exact ⟨_, _, _, _, _, _, _, rfl, HSB⟩
            · as_aux_lemma =>
              go_simp
              have HPp := Lib.hid (heap_alloc_new X0 boxDn)
              have HNp := Lib.hid (show Z1.heap.size ≤ X0.heap.size from HT.out.size)
              replace HT := bl HT (below_boxC X0 boxDn)
              refine held_go hK' (HT.out) ?_
              try simp only [Act.put, List.setIfInBounds_toArray, List.set_cons_zero, List.set_cons_succ]
              generalize World.alloc X0 _ = X1 at *
              generalize X0.heap.size = p at *
              clear hS0
              have hS0 := HT.out
              refine held_call (i := 7) rfl (by kernel_rfl) (by rfl) (fun K' hK' => ?_)
              go_simp
              refine (HCP.out X1 (HIN.out.below HT.out)).mono ?_
              rintro e X2 ⟨ad1, cap1, rfl, hi, hkf, hb⟩
              have HI1 := Lib.hid hi
              have HK1 := Lib.hid (show KnoS X2 (fun j : Nat => (j = dp ∨ j = lg) ∨ j = p) ad1 c.l from KnoS.of_fr hkf (fun k (hk : (k = dp ∨ k = lg) ∨ k = p) => by have h_p := (Array.getElem?_eq_some_iff.1 HPp.out).1; have h_b := HLT.out; have h_t := HT.out.size; omega))
              clear hi hkf
              replace HPp := Lib.hid (row_next HPp.out hb)
              replace HT := bl HT hb
              refine held_go hK' (HT.out) ?_
              try simp only [Act.put, List.setIfInBounds_toArray, List.set_cons_zero, List.set_cons_succ]
              clear hS0
              have hS0 := HT.out
              clear hb
              refine held_call (i := 9) rfl (by kernel_rfl) (by rfl) (fun K' hK' => ?_)
              go_simp
              refine (HPG.out X2 ad1 cap1 HI1.out (HZI.out.below HT.out)).mono ?_
              rintro e X3 hret
              obtain ⟨ad2, n2, cap2, zd2, zn2, zc2, rfl, hok, hb⟩ := DnOk.of (S := (fun j : Nat => (j = dp ∨ j = lg) ∨ j = p)) hret HK1.out (fun k (hk : (k = dp ∨ k = lg) ∨ k = p) => by have h_p := (Array.getElem?_eq_some_iff.1 HPp.out).1; have h_b := HLT.out; have h_t := HT.out.size; omega)
              have HOK2 := Lib.hid hok
              clear hret hok HI1 HK1
              replace HPp := Lib.hid (row_next HPp.out hb)
              replace HT := bl HT hb
              refine held_go hK' (HT.out) ?_
              try simp only [Act.put, List.setIfInBounds_toArray, List.set_cons_zero, List.set_cons_succ]
              clear hS0
              have hS0 := HT.out
              clear hb
              refine held_call (i := 11) rfl (by kernel_rfl) (by rfl) (fun K' hK' => ?_)
              refine oper_store_dn (.tmp 13) (.tmp 88) rfl p rfl _ _ _ _ _ _ _ _ _ _ rfl HPp.out ?_
              refine held_go hK' (below_row HT.out HNp.out _) ?_
              try simp only [Act.put, List.setIfInBounds_toArray, List.set_cons_zero, List.set_cons_succ]
              have HSB := Lib.hid (sts_fin HPp.out HOK2.out HNp.out HT.out)
              refine wpAnyH_done (by kernel_rfl) ?_ _
              refine NoPanic.normal ?_
              go_wp2_with fail
              go_meet
              exact ⟨_, _, _, _, _, _, _, rfl, HSB⟩
          case rest =>
            obtain ⟨p, ad2, n2, cap2, zd2, zn2, zc2, rfl, hst⟩ := hcut
            have HS := Lib.hid hst.out
            have hn2 := HS.out.ok.nl
            clear hst HCP HPG HZI HZL HC
            subst hn2
            obtain ⟨_, x0, x1, x2, x3, x4, x5, x6, x7, x8, x9, x10, x11, x12, x13, x14, x15, x16, x17, x18, x19, x20, x21⟩ := DnAt.of HS.out.x
            obtain ⟨p0, p1, p2, p3⟩ := sp_cells (row_next HSP.out HS.out.b)
            by_cases he : r.e = 0 ∨ r.e = 15
            rotate_left
            · have hz : r.d = drZ ∧ r.t = 0 := by
                rcases HCS.out with h | h
                · exact h.2
                · exact absurd h.1 he
              obtain ⟨z1, z2⟩ := hz
              rw [z1] at x0 x1 x2 x3 x4 x5
              rw [z2] at x20
              dsimp only [drZ] at x0 x1 x2 x3 x4 x5
              have q0 : (r.e != 0) = true := by simp; omega
              have q15 : (r.e != 15) = true := by simp; omega
              clear he z1 z2
              go_wp2_with fail
              go_roundg gk0
              case rel => exact ⟨k + 1, d, es, by go_num, by omega, Lib.hid (HR.out.next HS.out.b), Lib.hid HE.out.up, Lib.hid HZ.out.up⟩
              case measure => omega
            · have hh := HHD.out he
              have HTC := Lib.hid (show r.t = cosU m c.W c.L c.S c.T c.J c.R d.hd r.d.hd kind from by
                rcases HCS.out with h | h
                · exact absurd he (by omega)
                · exact h.2.1)
              have HBL := Lib.hid (show kind ≠ 4 → r.c.l = c.l from by
                rcases HCS.out with h | h
                · exact absurd he (by omega)
                · exact h.2.2.1)
              have HPS := Lib.hid (show r.d.pa - d.pa = r.c.pa - c.pa ∧ 0 ≤ r.d.pa - d.pa ∧ r.d.pa - d.pa ≤ 5000000 from by
                rcases HCS.out with h | h
                · exact absurd he (by omega)
                · exact h.2.2.2)
              clear HHD HCS
              have hpart : r.e = 0 ∨ (¬ r.e = 0 ∧ r.e = 15) := by omega
              clear he
              rcases hpart with h0 | ⟨h0, h15⟩
              · have q0 : (r.e != 0) = false := by rw [h0]; rfl
                clear h0
                go_upto_region 25 with fail
                clear q0 x0 x1 x2 x3 x4 x5 x6 x7 x8 x9 x10 x11 x12 x13 x14 x15 x16 x17 x18 x19 x20 x21 p0 p1 p2 p3
                have HG2 := Lib.hid (row_next HG.out HS.out.b)
                have HCE2 := Lib.hid (fun j hj => (row_cells HS.out.b HG.out (W * 13 + j)).trans (HCE.out j hj))
                have HSP2 := Lib.hid (row_next HSP.out HS.out.b)
                have HR2 := Lib.hid (HR.out.next HS.out.b)
                have HCO := Lib.hid (fun X => cost_any m c.W c.L c.S c.T c.J c.R d.hd r.d.hd kind W nn zd z.length zc X hh.1 hh.2.1 hh.2.2)
                rw [← HTC.out] at HCO
                have hqt : (r.t != r.t) = false := by simp
                clear hh
                by_cases hk4 : kind = 4
                · have hk5 : (kind != 4) = false := by rw [hk4]; rfl
                  clear hk4
                  have HB2 := Lib.hid (Below.refl wc.heap.size wc).drew
                  refine wp_region_noPanic ?_
                  refine wp_region_held_drew (S := (fun X => Below wc.heap.size wc X)) (by kernel_rfl) (HB2.out) (fun hS0 => ?_)
                  generalize World.drew wc = X2 at *
                  refine held_take (i := 0) (v := ?_) rfl (by kernel_rfl) (by kernel_rfl) (by kernel_rfl) (fun _ _ _ h => h) (by rfl) ?_ (by assumption) ?_
                  rotate_left
                  · intro X hSX
                    try dsimp only at hSX
                    go_simp <;> with_reducible rfl
                  simp only [Act.put, List.setIfInBounds_toArray, List.set_cons_zero, List.set_cons_succ]
                  refine held_take (i := 1) (v := ?_) rfl (by kernel_rfl) (by kernel_rfl) (by kernel_rfl) (fun _ _ _ h => h) (by rfl) ?_ (by assumption) ?_
                  rotate_left
                  · intro X hSX
                    try dsimp only at hSX
                    obtain ⟨_, x0, x1, x2, x3, x4, x5, x6, x7, x8, x9, x10, x11, x12, x13, x14, x15, x16, x17, x18, x19, x20, x21⟩ := DnAt.of (row_next HS.out.x hSX)
                    go_simp <;> with_reducible rfl
                  simp only [Act.put, List.setIfInBounds_toArray, List.set_cons_zero, List.set_cons_succ]
                  refine held_take (i := 2) (v := ?_) rfl (by kernel_rfl) (by kernel_rfl) (by kernel_rfl) (fun _ _ _ h => h) (by rfl) ?_ (by assumption) ?_
                  rotate_left
                  · intro X hSX
                    try dsimp only at hSX
                    obtain ⟨_, m0, m1, m2, m3, m4⟩ := (HR2.out.b.next hSX).m
                    go_simp <;> with_reducible rfl
                  simp only [Act.put, List.setIfInBounds_toArray, List.set_cons_zero, List.set_cons_succ]
                  refine held_take (i := 3) (v := ?_) rfl (by kernel_rfl) (by kernel_rfl) (by kernel_rfl) (fun _ _ _ h => h) (by rfl) ?_ (by assumption) ?_
                  rotate_left
                  · intro X hSX
                    try dsimp only at hSX
                    go_simp <;> with_reducible rfl
                  simp only [Act.put, List.setIfInBounds_toArray, List.set_cons_zero, List.set_cons_succ]
                  refine held_take (i := 4) (v := ?_) rfl (by kernel_rfl) (by kernel_rfl) (by kernel_rfl) (fun _ _ _ h => h) (by rfl) ?_ (by assumption) ?_
                  rotate_left
                  · intro X hSX
                    try dsimp only at hSX
                    go_simp <;> with_reducible rfl
                  simp only [Act.put, List.setIfInBounds_toArray, List.set_cons_zero, List.set_cons_succ]
                  refine held_take (i := 5) (v := ?_) rfl (by kernel_rfl) (by kernel_rfl) (by kernel_rfl) (fun _ _ _ h => h) (by rfl) ?_ (by assumption) ?_
                  rotate_left
                  · intro X hSX
                    try dsimp only at hSX
                    obtain ⟨p0, p1, p2, p3⟩ := sp_cells (row_next HSP2.out hSX)
                    go_simp <;> with_reducible rfl
                  simp only [Act.put, List.setIfInBounds_toArray, List.set_cons_zero, List.set_cons_succ]
                  refine held_take (i := 6) (v := ?_) rfl (by kernel_rfl) (by kernel_rfl) (by kernel_rfl) (fun _ _ _ h => h) (by rfl) ?_ (by assumption) ?_
                  rotate_left
                  · intro X hSX
                    try dsimp only at hSX
                    go_simp <;> with_reducible rfl
                  simp only [Act.put, List.setIfInBounds_toArray, List.set_cons_zero, List.set_cons_succ]
                  refine held_take (i := 7) (v := ?_) rfl (by kernel_rfl) (by kernel_rfl) (by kernel_rfl) (fun _ _ _ h => h) (by rfl) ?_ (by assumption) ?_
                  rotate_left
                  · intro X hSX
                    try dsimp only at hSX
                    go_simp <;> with_reducible rfl
                  simp only [Act.put, List.setIfInBounds_toArray, List.set_cons_zero, List.set_cons_succ]
                  refine held_take (i := 8) (v := ?_) rfl (by kernel_rfl) (by kernel_rfl) (by kernel_rfl) (fun _ _ _ h => h) (by rfl) ?_ (by assumption) ?_
                  rotate_left
                  · intro X hSX
                    try dsimp only at hSX
                    obtain ⟨k0, k1, k2, k3, k4, k5, k6, k7, k8, k9, k10, k11, k12⟩ := el_at (fun j hj => (row_cells hSX HG2.out (W * 13 + j)).trans (HCE2.out j hj))
                    go_simp <;> with_reducible rfl
                  simp only [Act.put, List.setIfInBounds_toArray, List.set_cons_zero, List.set_cons_succ]
                  refine held_take (i := 9) (v := ?_) rfl (by kernel_rfl) (by kernel_rfl) (by kernel_rfl) (fun _ _ _ h => h) (by rfl) ?_ (by assumption) ?_
                  rotate_left
                  · intro X hSX
                    try dsimp only at hSX
                    go_simp <;> with_reducible rfl
                  simp only [Act.put, List.setIfInBounds_toArray, List.set_cons_zero, List.set_cons_succ]
                  refine held_take (i := 10) (v := ?_) rfl (by kernel_rfl) (by kernel_rfl) (by kernel_rfl) (fun _ _ _ h => h) (by rfl) ?_ (by assumption) ?_
                  rotate_left
                  · intro X hSX
                    try dsimp only at hSX
                    obtain ⟨_, d0, d1, d2, d3, d4, d5⟩ := DrAt.of (row_next HR2.out.x hSX)
                    go_simp <;> with_reducible rfl
                  simp only [Act.put, List.setIfInBounds_toArray, List.set_cons_zero, List.set_cons_succ]
                  refine held_take (i := 11) (v := ?_) rfl (by kernel_rfl) (by kernel_rfl) (by kernel_rfl) (fun _ _ _ h => h) (by rfl) ?_ (by assumption) ?_
                  rotate_left
                  · intro X hSX
                    try dsimp only at hSX
                    go_simp <;> with_reducible rfl
                  simp only [Act.put, List.setIfInBounds_toArray, List.set_cons_zero, List.set_cons_succ]
                  refine held_take (i := 12) (v := ?_) rfl (by kernel_rfl) (by kernel_rfl) (by kernel_rfl) (fun _ _ _ h => h) (by rfl) ?_ (by assumption) ?_
                  rotate_left
                  · intro X hSX
                    try dsimp only at hSX
                    go_simp <;> with_reducible rfl
                  simp only [Act.put, List.setIfInBounds_toArray, List.set_cons_zero, List.set_cons_succ]
                  refine held_take (i := 13) (v := ?_) rfl (by kernel_rfl) (by kernel_rfl) (by kernel_rfl) (fun _ _ _ h => h) (by rfl) ?_ (by assumption) ?_
                  rotate_left
                  · intro X hSX
                    try dsimp only at hSX
                    obtain ⟨_, x0, x1, x2, x3, x4, x5, x6, x7, x8, x9, x10, x11, x12, x13, x14, x15, x16, x17, x18, x19, x20, x21⟩ := DnAt.of (row_next HS.out.x hSX)
                    go_simp <;> with_reducible rfl
                  simp only [Act.put, List.setIfInBounds_toArray, List.set_cons_zero, List.set_cons_succ]
                  refine held_take (i := 14) (v := ?_) rfl (by kernel_rfl) (by kernel_rfl) (by kernel_rfl) (fun _ _ _ h => h) (by rfl) ?_ (by assumption) ?_
                  rotate_left
                  · intro X hSX
                    try dsimp only at hSX
                    obtain ⟨p0, p1, p2, p3⟩ := sp_cells (row_next HSP2.out hSX)
                    go_simp <;> with_reducible rfl
                  simp only [Act.put, List.setIfInBounds_toArray, List.set_cons_zero, List.set_cons_succ]
                  refine held_call (i := 15) rfl (by kernel_rfl) (by rfl) (fun K' hK' => ?_)
                  go_simp
                  refine (HCO.out X2).mono ?_
                  rintro e X3 ⟨rfl, hb⟩
                  have HT3 := bl HB2 hb
                  refine held_go hK' (HT3.out) ?_
                  try simp only [Act.put, List.setIfInBounds_toArray, List.set_cons_zero, List.set_cons_succ]
                  clear hS0 hb
                  have hS0 := HT3.out
                  refine held_take (i := 16) (v := ?_) rfl (by kernel_rfl) (by kernel_rfl) (by kernel_rfl) (fun _ _ _ h => h) (by rfl) ?_ (by assumption) ?_
                  rotate_left
                  · intro X hSX
                    try dsimp only at hSX
                    go_simp <;> with_reducible rfl
                  simp only [Act.put, List.setIfInBounds_toArray, List.set_cons_zero, List.set_cons_succ]
                  refine held_take (i := 17) (v := ?_) rfl (by kernel_rfl) (by kernel_rfl) (by kernel_rfl) (fun _ _ _ h => h) (by rfl) ?_ (by assumption) ?_
                  rotate_left
                  · intro X hSX
                    try dsimp only at hSX
                    go_simp <;> with_reducible rfl
                  simp only [Act.put, List.setIfInBounds_toArray, List.set_cons_zero, List.set_cons_succ]
                  refine held_take (i := 18) (v := ?_) rfl (by kernel_rfl) (by kernel_rfl) (by kernel_rfl) (fun _ _ _ h => h) (by rfl) ?_ (by assumption) ?_
                  rotate_left
                  · intro X hSX
                    try dsimp only at hSX
                    go_simp <;> with_reducible rfl
                  simp only [Act.put, List.setIfInBounds_toArray, List.set_cons_zero, List.set_cons_succ]
                  refine held_take (i := 19) (v := ?_) rfl (by kernel_rfl) (by kernel_rfl) (by kernel_rfl) (fun _ _ _ h => h) (by rfl) ?_ (by assumption) ?_
                  rotate_left
                  · intro X hSX
                    try dsimp only at hSX
                    obtain ⟨p0, p1, p2, p3⟩ := sp_cells (row_next HSP2.out hSX)
                    go_simp <;> with_reducible rfl
                  simp only [Act.put, List.setIfInBounds_toArray, List.set_cons_zero, List.set_cons_succ]
                  refine held_take (i := 20) (v := ?_) rfl (by kernel_rfl) (by kernel_rfl) (by kernel_rfl) (fun _ _ _ h => h) (by rfl) ?_ (by assumption) ?_
                  rotate_left
                  · intro X hSX
                    try dsimp only at hSX
                    go_simp <;> with_reducible rfl
                  simp only [Act.put, List.setIfInBounds_toArray, List.set_cons_zero, List.set_cons_succ]
                  refine held_take (i := 21) (v := ?_) rfl (by kernel_rfl) (by kernel_rfl) (by kernel_rfl) (fun _ _ _ h => h) (by rfl) ?_ (by assumption) ?_
                  rotate_left
                  · intro X hSX
                    try dsimp only at hSX
                    go_simp <;> with_reducible rfl
                  simp only [Act.put, List.setIfInBounds_toArray, List.set_cons_zero, List.set_cons_succ]
                  refine held_skip (i := 22) rfl (by kernel_rfl) (by kernel_rfl) (by kernel_rfl) (fun _ _ _ h => h) (by rfl) (by assumption) ?_
                  simp only [Act.put, List.setIfInBounds_toArray, List.set_cons_zero, List.set_cons_succ]
                  refine held_skip (i := 23) rfl (by kernel_rfl) (by kernel_rfl) (by kernel_rfl) (fun _ _ _ h => h) (by rfl) (by assumption) ?_
                  simp only [Act.put, List.setIfInBounds_toArray, List.set_cons_zero, List.set_cons_succ]
                  refine held_skip (i := 24) rfl (by kernel_rfl) (by kernel_rfl) (by kernel_rfl) (fun _ _ _ h => h) (by rfl) (by assumption) ?_
                  simp only [Act.put, List.setIfInBounds_toArray, List.set_cons_zero, List.set_cons_succ]
                  refine held_skip (i := 25) rfl (by kernel_rfl) (by kernel_rfl) (by kernel_rfl) (fun _ _ _ h => h) (by rfl) (by assumption) ?_
                  simp only [Act.put, List.setIfInBounds_toArray, List.set_cons_zero, List.set_cons_succ]
                  refine held_skip (i := 26) rfl (by kernel_rfl) (by kernel_rfl) (by kernel_rfl) (fun _ _ _ h => h) (by rfl) (by assumption) ?_
                  simp only [Act.put, List.setIfInBounds_toArray, List.set_cons_zero, List.set_cons_succ]
                  refine held_skip (i := 27) rfl (by kernel_rfl) (by kernel_rfl) (by kernel_rfl) (fun _ _ _ h => h) (by rfl) (by assumption) ?_
                  simp only [Act.put, List.setIfInBounds_toArray, List.set_cons_zero, List.set_cons_succ]
                  refine held_skip (i := 28) rfl (by kernel_rfl) (by kernel_rfl) (by kernel_rfl) (fun _ _ _ h => h) (by rfl) (by assumption) ?_
                  simp only [Act.put, List.setIfInBounds_toArray, List.set_cons_zero, List.set_cons_succ]
                  refine held_skip (i := 29) rfl (by kernel_rfl) (by kernel_rfl) (by kernel_rfl) (fun _ _ _ h => h) (by rfl) (by assumption) ?_
                  simp only [Act.put, List.setIfInBounds_toArray, List.set_cons_zero, List.set_cons_succ]
                  refine held_skip (i := 30) rfl (by kernel_rfl) (by kernel_rfl) (by kernel_rfl) (fun _ _ _ h => h) (by rfl) (by assumption) ?_
                  simp only [Act.put, List.setIfInBounds_toArray, List.set_cons_zero, List.set_cons_succ]
                  refine held_skip (i := 31) rfl (by kernel_rfl) (by kernel_rfl) (by kernel_rfl) (fun _ _ _ h => h) (by rfl) (by assumption) ?_
                  simp only [Act.put, List.setIfInBounds_toArray, List.set_cons_zero, List.set_cons_succ]
                  refine held_skip (i := 32) rfl (by kernel_rfl) (by kernel_rfl) (by kernel_rfl) (fun _ _ _ h => h) (by rfl) (by assumption) ?_
                  simp only [Act.put, List.setIfInBounds_toArray, List.set_cons_zero, List.set_cons_succ]
                  refine held_take (i := 33) (v := ?_) rfl (by kernel_rfl) (by kernel_rfl) (by kernel_rfl) (fun _ _ _ h => h) (by rfl) ?_ (by assumption) ?_
                  rotate_left
                  · intro X hSX
                    try dsimp only at hSX
                    go_simp <;> with_reducible rfl
                  simp only [Act.put, List.setIfInBounds_toArray, List.set_cons_zero, List.set_cons_succ]
                  refine held_take (i := 34) (v := ?_) rfl (by kernel_rfl) (by kernel_rfl) (by kernel_rfl) (fun _ _ _ h => h) (by rfl) ?_ (by assumption) ?_
                  rotate_left
                  · intro X hSX
                    try dsimp only at hSX
                    go_simp <;> with_reducible rfl
                  simp only [Act.put, List.setIfInBounds_toArray, List.set_cons_zero, List.set_cons_succ]
                  refine wpAnyH_done (by kernel_rfl) ?_ _
                  refine NoPanic.normal ?_
                  clear hS0
                  go_wp2_with fail
                  have HB5 := Lib.hid (Below.refl X3.heap.size X3).drew
                  have HS3 := Lib.hid ((HS.out.next HT3.out).next HB5.out)
                  have HR3 := Lib.hid (HR.out.next HS3.out.b)
                  have HSP3 := Lib.hid (row_next HSP.out HS3.out.b)
                  refine wp_region_noPanic ?_
                  refine wp_region_held_drew (S := (fun X => X.heap[p]? = some (.cells (dnK r.d r.c ad2 r.c.l.length cap2 zd2 zn2 zc2 r.t r.e) 39 (0, 0)) ∧ X.heap[sp]? = some (.cells #[.int .i64 kind, .int .i64 W, .int .i64 nn, .slice zd z.length zc] 32 (0, 0)))) (by kernel_rfl) (⟨HS3.out.x, HSP3.out⟩) (fun hS0 => ?_)
                  generalize World.drew X3 = X4 at *
                  have HPT := Lib.hid (HPUT.out X4 HS3.out.b r.d ⟨r.c, ad2, cap2⟩ ⟨HS3.out.ok.k.less (fun j hj => .inl hj), HS3.out.ok.le, HS3.out.ok.mx, HS3.out.ok.nn, HS3.out.ok.bs⟩)
                  have HNE := Lib.hid (show (dp ≠ p ∨ p ≠ dp) ∧ (lg ≠ p ∨ p ≠ lg) ∧ lg ≠ dp ∧ (dp ≠ sp ∨ sp ≠ dp) ∧ (lg ≠ sp ∨ sp ≠ lg) by have h1 := HS3.out.np; have h2 := HLT.out; have h3 := HLS.out; exact ⟨.inl (by omega), .inl (by omega), h3.2.2, .inl (by omega), .inl (by omega)⟩)
                  have HG3 := Lib.hid (row_next HG.out HS3.out.b)
                  refine held_take (i := 0) (v := ?_) rfl (by kernel_rfl) (by kernel_rfl) (by kernel_rfl) (fun _ _ _ h => h) (by rfl) ?_ (by assumption) ?_
                  rotate_left
                  · intro X hSX
                    try dsimp only at hSX
                    go_simp <;> with_reducible rfl
                  simp only [Act.put, List.setIfInBounds_toArray, List.set_cons_zero, List.set_cons_succ]
                  refine held_take (i := 1) (v := ?_) rfl (by kernel_rfl) (by kernel_rfl) (by kernel_rfl) (fun _ _ _ h => h) (by rfl) ?_ (by assumption) ?_
                  rotate_left
                  · intro X hSX
                    try dsimp only at hSX
                    go_simp <;> with_reducible rfl
                  simp only [Act.put, List.setIfInBounds_toArray, List.set_cons_zero, List.set_cons_succ]
                  refine held_take (i := 2) (v := ?_) rfl (by kernel_rfl) (by kernel_rfl) (by kernel_rfl) (fun _ _ _ h => h) (by rfl) ?_ (by assumption) ?_
                  rotate_left
                  · intro X hSX
                    try dsimp only at hSX
                    obtain ⟨p0, p1, p2, p3⟩ := sp_cells hSX.2
                    go_simp <;> with_reducible rfl
                  simp only [Act.put, List.setIfInBounds_toArray, List.set_cons_zero, List.set_cons_succ]
                  refine held_take (i := 3) (v := ?_) rfl (by kernel_rfl) (by kernel_rfl) (by kernel_rfl) (fun _ _ _ h => h) (by rfl) ?_ (by assumption) ?_
                  rotate_left
                  · intro X hSX
                    try dsimp only at hSX
                    go_simp <;> with_reducible rfl
                  simp only [Act.put, List.setIfInBounds_toArray, List.set_cons_zero, List.set_cons_succ]
                  refine held_take (i := 4) (v := ?_) rfl (by kernel_rfl) (by kernel_rfl) (by kernel_rfl) (fun _ _ _ h => h) (by rfl) ?_ (by assumption) ?_
                  rotate_left
                  · intro X hSX
                    try dsimp only at hSX
                    obtain ⟨_, x0, x1, x2, x3, x4, x5, -, -, -, -, -, -, -, -, -, -, -, -, -, -, -, -⟩ := DnAt.of hSX.1
                    go_simp <;> with_reducible rfl
                  simp only [Act.put, List.setIfInBounds_toArray, List.set_cons_zero, List.set_cons_succ]
                  refine held_take (i := 5) (v := ?_) rfl (by kernel_rfl) (by kernel_rfl) (by kernel_rfl) (fun _ _ _ h => h) (by rfl) ?_ (by assumption) ?_
                  rotate_left
                  · intro X hSX
                    try dsimp only at hSX
                    go_simp <;> with_reducible rfl
                  simp only [Act.put, List.setIfInBounds_toArray, List.set_cons_zero, List.set_cons_succ]
                  refine held_take (i := 6) (v := ?_) rfl (by kernel_rfl) (by kernel_rfl) (by kernel_rfl) (fun _ _ _ h => h) (by rfl) ?_ (by assumption) ?_
                  rotate_left
                  · intro X hSX
                    try dsimp only at hSX
                    obtain ⟨_, -, -, -, -, -, -, x6, x7, x8, x9, x10, x11, x12, x13, x14, x15, x16, x17, x18, -, -, -⟩ := DnAt.of hSX.1
                    go_simp <;> with_reducible rfl
                  simp only [Act.put, List.setIfInBounds_toArray, List.set_cons_zero, List.set_cons_succ]
                  refine held_call (i := 7) rfl (by kernel_rfl) (by rfl) (fun K' hK' => ?_)
                  refine oper_store_dr (.tmp 10) (.tmp 150) rfl dp rfl r.d rfl d HR3.out.x ?_
                  have hS1 := And.intro (str_far hS0.1 HNE.out.1 (drK r.d)) (str_far hS0.2 HNE.out.2.2.2.1 (drK r.d))
                  refine held_go hK' (hS1) ?_
                  try simp only [Act.put, List.setIfInBounds_toArray, List.set_cons_zero, List.set_cons_succ]
                  clear hS0
                  have hS0 := hS1
                  clear hS1
                  refine held_take (i := 8) (v := ?_) rfl (by kernel_rfl) (by kernel_rfl) (by kernel_rfl) (fun _ _ _ h => h) (by rfl) ?_ (by assumption) ?_
                  rotate_left
                  · intro X hSX
                    try dsimp only at hSX
                    go_simp <;> with_reducible rfl
                  simp only [Act.put, List.setIfInBounds_toArray, List.set_cons_zero, List.set_cons_succ]
                  refine held_call (i := 9) rfl (by kernel_rfl) (by rfl) (fun K' hK' => ?_)
                  refine oper_store_el (.tmp 153) (.tmp 152) rfl lg (W * 13) rfl (crQ r.c ad2 cap2) rfl C (str_far HG3.out (.inl (fun e => HNE.out.2.2.1 e.symm)) _) rfl HCC.out (by simp [Value.oneCell']) ?_
                  refine held_go hK' (⟨str_far hS0.1 HNE.out.2.1 _, str_far hS0.2 HNE.out.2.2.2.2 _⟩) ?_
                  try simp only [Act.put, List.setIfInBounds_toArray, List.set_cons_zero, List.set_cons_succ]
                  refine wpAnyH_done (by kernel_rfl) ?_ _
                  refine NoPanic.normal ?_
                  have HRN := Lib.hid HPT.out.1
                  clear HPT HR3 HG3 hS0
                  go_wp2_with fail
                  go_roundg gk0
                  case rel => exact ⟨k + 1, r.d, es.set W r.c, by go_num, by omega, HRN, Lib.hid (HE.out.set HLN.out.1 HDT.out), Lib.hid (HSET.out _ _ HPS.out.1 HPS.out.2.1 HPS.out.2.2)⟩
                  case measure => omega
                · have hk5 : (kind != 4) = true := by simp [hk4]
                  have hl := HBL.out hk4
                  have HSL := Lib.hid (fun X (h : Below wc.heap.size wc X) => same_l (cap := cap2) (cap2 := cap') (l := r.c.l) (n1 := r.c.l.length) (n2 := c.l.length) rfl (by rw [hl]) X (HS.out.ok.k.below h).ki (by rw [hl]; exact ((HIN.out.below HS.out.b).below h).ki) (by have h1 := HLN.out.1; omega))
                  clear hk4 hl
                  have HB2 := Lib.hid (Below.refl wc.heap.size wc).drew
                  refine wp_region_noPanic ?_
                  refine wp_region_held_drew (S := (fun X => Below wc.heap.size wc X)) (by kernel_rfl) (HB2.out) (fun hS0 => ?_)
                  generalize World.drew wc = X2 at *
                  refine held_take (i := 0) (v := ?_) rfl (by kernel_rfl) (by kernel_rfl) (by kernel_rfl) (fun _ _ _ h => h) (by rfl) ?_ (by assumption) ?_
                  rotate_left
                  · intro X hSX
                    try dsimp only at hSX
                    go_simp <;> with_reducible rfl
                  simp only [Act.put, List.setIfInBounds_toArray, List.set_cons_zero, List.set_cons_succ]
                  refine held_take (i := 1) (v := ?_) rfl (by kernel_rfl) (by kernel_rfl) (by kernel_rfl) (fun _ _ _ h => h) (by rfl) ?_ (by assumption) ?_
                  rotate_left
                  · intro X hSX
                    try dsimp only at hSX
                    obtain ⟨_, x0, x1, x2, x3, x4, x5, x6, x7, x8, x9, x10, x11, x12, x13, x14, x15, x16, x17, x18, x19, x20, x21⟩ := DnAt.of (row_next HS.out.x hSX)
                    go_simp <;> with_reducible rfl
                  simp only [Act.put, List.setIfInBounds_toArray, List.set_cons_zero, List.set_cons_succ]
                  refine held_take (i := 2) (v := ?_) rfl (by kernel_rfl) (by kernel_rfl) (by kernel_rfl) (fun _ _ _ h => h) (by rfl) ?_ (by assumption) ?_
                  rotate_left
                  · intro X hSX
                    try dsimp only at hSX
                    obtain ⟨_, m0, m1, m2, m3, m4⟩ := (HR2.out.b.next hSX).m
                    go_simp <;> with_reducible rfl
                  simp only [Act.put, List.setIfInBounds_toArray, List.set_cons_zero, List.set_cons_succ]
                  refine held_take (i := 3) (v := ?_) rfl (by kernel_rfl) (by kernel_rfl) (by kernel_rfl) (fun _ _ _ h => h) (by rfl) ?_ (by assumption) ?_
                  rotate_left
                  · intro X hSX
                    try dsimp only at hSX
                    go_simp <;> with_reducible rfl
                  simp only [Act.put, List.setIfInBounds_toArray, List.set_cons_zero, List.set_cons_succ]
                  refine held_take (i := 4) (v := ?_) rfl (by kernel_rfl) (by kernel_rfl) (by kernel_rfl) (fun _ _ _ h => h) (by rfl) ?_ (by assumption) ?_
                  rotate_left
                  · intro X hSX
                    try dsimp only at hSX
                    go_simp <;> with_reducible rfl
                  simp only [Act.put, List.setIfInBounds_toArray, List.set_cons_zero, List.set_cons_succ]
                  refine held_take (i := 5) (v := ?_) rfl (by kernel_rfl) (by kernel_rfl) (by kernel_rfl) (fun _ _ _ h => h) (by rfl) ?_ (by assumption) ?_
                  rotate_left
                  · intro X hSX
                    try dsimp only at hSX
                    obtain ⟨p0, p1, p2, p3⟩ := sp_cells (row_next HSP2.out hSX)
                    go_simp <;> with_reducible rfl
                  simp only [Act.put, List.setIfInBounds_toArray, List.set_cons_zero, List.set_cons_succ]
                  refine held_take (i := 6) (v := ?_) rfl (by kernel_rfl) (by kernel_rfl) (by kernel_rfl) (fun _ _ _ h => h) (by rfl) ?_ (by assumption) ?_
                  rotate_left
                  · intro X hSX
                    try dsimp only at hSX
                    go_simp <;> with_reducible rfl
                  simp only [Act.put, List.setIfInBounds_toArray, List.set_cons_zero, List.set_cons_succ]
                  refine held_take (i := 7) (v := ?_) rfl (by kernel_rfl) (by kernel_rfl) (by kernel_rfl) (fun _ _ _ h => h) (by rfl) ?_ (by assumption) ?_
                  rotate_left
                  · intro X hSX
                    try dsimp only at hSX
                    go_simp <;> with_reducible rfl
                  simp only [Act.put, List.setIfInBounds_toArray, List.set_cons_zero, List.set_cons_succ]
                  refine held_take (i := 8) (v := ?_) rfl (by kernel_rfl) (by kernel_rfl) (by kernel_rfl) (fun _ _ _ h => h) (by rfl) ?_ (by assumption) ?_
                  rotate_left
                  · intro X hSX
                    try dsimp only at hSX
                    obtain ⟨k0, k1, k2, k3, k4, k5, k6, k7, k8, k9, k10, k11, k12⟩ := el_at (fun j hj => (row_cells hSX HG2.out (W * 13 + j)).trans (HCE2.out j hj))
                    go_simp <;> with_reducible rfl
                  simp only [Act.put, List.setIfInBounds_toArray, List.set_cons_zero, List.set_cons_succ]
                  refine held_take (i := 9) (v := ?_) rfl (by kernel_rfl) (by kernel_rfl) (by kernel_rfl) (fun _ _ _ h => h) (by rfl) ?_ (by assumption) ?_
                  rotate_left
                  · intro X hSX
                    try dsimp only at hSX
                    go_simp <;> with_reducible rfl
                  simp only [Act.put, List.setIfInBounds_toArray, List.set_cons_zero, List.set_cons_succ]
                  refine held_take (i := 10) (v := ?_) rfl (by kernel_rfl) (by kernel_rfl) (by kernel_rfl) (fun _ _ _ h => h) (by rfl) ?_ (by assumption) ?_
                  rotate_left
                  · intro X hSX
                    try dsimp only at hSX
                    obtain ⟨_, d0, d1, d2, d3, d4, d5⟩ := DrAt.of (row_next HR2.out.x hSX)
                    go_simp <;> with_reducible rfl
                  simp only [Act.put, List.setIfInBounds_toArray, List.set_cons_zero, List.set_cons_succ]
                  refine held_take (i := 11) (v := ?_) rfl (by kernel_rfl) (by kernel_rfl) (by kernel_rfl) (fun _ _ _ h => h) (by rfl) ?_ (by assumption) ?_
                  rotate_left
                  · intro X hSX
                    try dsimp only at hSX
                    go_simp <;> with_reducible rfl
                  simp only [Act.put, List.setIfInBounds_toArray, List.set_cons_zero, List.set_cons_succ]
                  refine held_take (i := 12) (v := ?_) rfl (by kernel_rfl) (by kernel_rfl) (by kernel_rfl) (fun _ _ _ h => h) (by rfl) ?_ (by assumption) ?_
                  rotate_left
                  · intro X hSX
                    try dsimp only at hSX
                    go_simp <;> with_reducible rfl
                  simp only [Act.put, List.setIfInBounds_toArray, List.set_cons_zero, List.set_cons_succ]
                  refine held_take (i := 13) (v := ?_) rfl (by kernel_rfl) (by kernel_rfl) (by kernel_rfl) (fun _ _ _ h => h) (by rfl) ?_ (by assumption) ?_
                  rotate_left
                  · intro X hSX
                    try dsimp only at hSX
                    obtain ⟨_, x0, x1, x2, x3, x4, x5, x6, x7, x8, x9, x10, x11, x12, x13, x14, x15, x16, x17, x18, x19, x20, x21⟩ := DnAt.of (row_next HS.out.x hSX)
                    go_simp <;> with_reducible rfl
                  simp only [Act.put, List.setIfInBounds_toArray, List.set_cons_zero, List.set_cons_succ]
                  refine held_take (i := 14) (v := ?_) rfl (by kernel_rfl) (by kernel_rfl) (by kernel_rfl) (fun _ _ _ h => h) (by rfl) ?_ (by assumption) ?_
                  rotate_left
                  · intro X hSX
                    try dsimp only at hSX
                    obtain ⟨p0, p1, p2, p3⟩ := sp_cells (row_next HSP2.out hSX)
                    go_simp <;> with_reducible rfl
                  simp only [Act.put, List.setIfInBounds_toArray, List.set_cons_zero, List.set_cons_succ]
                  refine held_call (i := 15) rfl (by kernel_rfl) (by rfl) (fun K' hK' => ?_)
                  go_simp
                  refine (HCO.out X2).mono ?_
                  rintro e X3 ⟨rfl, hb⟩
                  have HT3 := bl HB2 hb
                  refine held_go hK' (HT3.out) ?_
                  try simp only [Act.put, List.setIfInBounds_toArray, List.set_cons_zero, List.set_cons_succ]
                  clear hS0 hb
                  have hS0 := HT3.out
                  refine held_take (i := 16) (v := ?_) rfl (by kernel_rfl) (by kernel_rfl) (by kernel_rfl) (fun _ _ _ h => h) (by rfl) ?_ (by assumption) ?_
                  rotate_left
                  · intro X hSX
                    try dsimp only at hSX
                    go_simp <;> with_reducible rfl
                  simp only [Act.put, List.setIfInBounds_toArray, List.set_cons_zero, List.set_cons_succ]
                  refine held_take (i := 17) (v := ?_) rfl (by kernel_rfl) (by kernel_rfl) (by kernel_rfl) (fun _ _ _ h => h) (by rfl) ?_ (by assumption) ?_
                  rotate_left
                  · intro X hSX
                    try dsimp only at hSX
                    go_simp <;> with_reducible rfl
                  simp only [Act.put, List.setIfInBounds_toArray, List.set_cons_zero, List.set_cons_succ]
                  refine held_take (i := 18) (v := ?_) rfl (by kernel_rfl) (by kernel_rfl) (by kernel_rfl) (fun _ _ _ h => h) (by rfl) ?_ (by assumption) ?_
                  rotate_left
                  · intro X hSX
                    try dsimp only at hSX
                    go_simp <;> with_reducible rfl
                  simp only [Act.put, List.setIfInBounds_toArray, List.set_cons_zero, List.set_cons_succ]
                  refine held_take (i := 19) (v := ?_) rfl (by kernel_rfl) (by kernel_rfl) (by kernel_rfl) (fun _ _ _ h => h) (by rfl) ?_ (by assumption) ?_
                  rotate_left
                  · intro X hSX
                    try dsimp only at hSX
                    obtain ⟨p0, p1, p2, p3⟩ := sp_cells (row_next HSP2.out hSX)
                    go_simp <;> with_reducible rfl
                  simp only [Act.put, List.setIfInBounds_toArray, List.set_cons_zero, List.set_cons_succ]
                  refine held_take (i := 20) (v := ?_) rfl (by kernel_rfl) (by kernel_rfl) (by kernel_rfl) (fun _ _ _ h => h) (by rfl) ?_ (by assumption) ?_
                  rotate_left
                  · intro X hSX
                    try dsimp only at hSX
                    go_simp <;> with_reducible rfl
                  simp only [Act.put, List.setIfInBounds_toArray, List.set_cons_zero, List.set_cons_succ]
                  refine held_take (i := 21) (v := ?_) rfl (by kernel_rfl) (by kernel_rfl) (by kernel_rfl) (fun _ _ _ h => h) (by rfl) ?_ (by assumption) ?_
                  rotate_left
                  · intro X hSX
                    try dsimp only at hSX
                    go_simp <;> with_reducible rfl
                  simp only [Act.put, List.setIfInBounds_toArray, List.set_cons_zero, List.set_cons_succ]
                  refine held_take (i := 22) (v := ?_) rfl (by kernel_rfl) (by kernel_rfl) (by kernel_rfl) (fun _ _ _ h => h) (by rfl) ?_ (by assumption) ?_
                  rotate_left
                  · intro X hSX
                    try dsimp only at hSX
                    go_simp <;> with_reducible rfl
                  simp only [Act.put, List.setIfInBounds_toArray, List.set_cons_zero, List.set_cons_succ]
                  refine held_take (i := 23) (v := ?_) rfl (by kernel_rfl) (by kernel_rfl) (by kernel_rfl) (fun _ _ _ h => h) (by rfl) ?_ (by assumption) ?_
                  rotate_left
                  · intro X hSX
                    try dsimp only at hSX
                    go_simp <;> with_reducible rfl
                  simp only [Act.put, List.setIfInBounds_toArray, List.set_cons_zero, List.set_cons_succ]
                  refine held_take (i := 24) (v := ?_) rfl (by kernel_rfl) (by kernel_rfl) (by kernel_rfl) (fun _ _ _ h => h) (by rfl) ?_ (by assumption) ?_
                  rotate_left
                  · intro X hSX
                    try dsimp only at hSX
                    obtain ⟨_, x0, x1, x2, x3, x4, x5, x6, x7, x8, x9, x10, x11, x12, x13, x14, x15, x16, x17, x18, x19, x20, x21⟩ := DnAt.of (row_next HS.out.x hSX)
                    go_simp <;> with_reducible rfl
                  simp only [Act.put, List.setIfInBounds_toArray, List.set_cons_zero, List.set_cons_succ]
                  refine held_take (i := 25) (v := ?_) rfl (by kernel_rfl) (by kernel_rfl) (by kernel_rfl) (fun _ _ _ h => h) (by rfl) ?_ (by assumption) ?_
                  rotate_left
                  · intro X hSX
                    try dsimp only at hSX
                    go_simp <;> with_reducible rfl
                  simp only [Act.put, List.setIfInBounds_toArray, List.set_cons_zero, List.set_cons_succ]
                  refine held_take (i := 26) (v := ?_) rfl (by kernel_rfl) (by kernel_rfl) (by kernel_rfl) (fun _ _ _ h => h) (by rfl) ?_ (by assumption) ?_
                  rotate_left
                  · intro X hSX
                    try dsimp only at hSX
                    go_simp <;> with_reducible rfl
                  simp only [Act.put, List.setIfInBounds_toArray, List.set_cons_zero, List.set_cons_succ]
                  refine held_take (i := 27) (v := ?_) rfl (by kernel_rfl) (by kernel_rfl) (by kernel_rfl) (fun _ _ _ h => h) (by rfl) ?_ (by assumption) ?_
                  rotate_left
                  · intro X hSX
                    try dsimp only at hSX
                    obtain ⟨p0, p1, p2, p3⟩ := sp_cells (row_next HSP2.out hSX)
                    go_simp <;> with_reducible rfl
                  simp only [Act.put, List.setIfInBounds_toArray, List.set_cons_zero, List.set_cons_succ]
                  refine held_take (i := 28) (v := ?_) rfl (by kernel_rfl) (by kernel_rfl) (by kernel_rfl) (fun _ _ _ h => h) (by rfl) ?_ (by assumption) ?_
                  rotate_left
                  · intro X hSX
                    try dsimp only at hSX
                    go_simp <;> with_reducible rfl
                  simp only [Act.put, List.setIfInBounds_toArray, List.set_cons_zero, List.set_cons_succ]
                  refine held_take (i := 29) (v := ?_) rfl (by kernel_rfl) (by kernel_rfl) (by kernel_rfl) (fun _ _ _ h => h) (by rfl) ?_ (by assumption) ?_
                  rotate_left
                  · intro X hSX
                    try dsimp only at hSX
                    go_simp <;> with_reducible rfl
                  simp only [Act.put, List.setIfInBounds_toArray, List.set_cons_zero, List.set_cons_succ]
                  refine held_take (i := 30) (v := ?_) rfl (by kernel_rfl) (by kernel_rfl) (by kernel_rfl) (fun _ _ _ h => h) (by rfl) ?_ (by assumption) ?_
                  rotate_left
                  · intro X hSX
                    try dsimp only at hSX
                    obtain ⟨k0, k1, k2, k3, k4, k5, k6, k7, k8, k9, k10, k11, k12⟩ := el_at (fun j hj => (row_cells hSX HG2.out (W * 13 + j)).trans (HCE2.out j hj))
                    go_simp <;> with_reducible rfl
                  simp only [Act.put, List.setIfInBounds_toArray, List.set_cons_zero, List.set_cons_succ]
                  refine held_call (i := 31) rfl (by kernel_rfl) (by rfl) (fun K' hK' => ?_)
                  go_simp
                  refine (HSL.out X3 HT3.out).mono ?_
                  rintro e X4 ⟨rfl, hb⟩
                  have HT4 := bl HT3 hb
                  refine held_go hK' (HT4.out) ?_
                  try simp only [Act.put, List.setIfInBounds_toArray, List.set_cons_zero, List.set_cons_succ]
                  clear hS0 hb
                  have hS0 := HT4.out
                  refine held_take (i := 32) (v := ?_) rfl (by kernel_rfl) (by kernel_rfl) (by kernel_rfl) (fun _ _ _ h => h) (by rfl) ?_ (by assumption) ?_
                  rotate_left
                  · intro X hSX
                    try dsimp only at hSX
                    go_simp <;> with_reducible rfl
                  simp only [Act.put, List.setIfInBounds_toArray, List.set_cons_zero, List.set_cons_succ]
                  refine held_take (i := 33) (v := ?_) rfl (by kernel_rfl) (by kernel_rfl) (by kernel_rfl) (fun _ _ _ h => h) (by rfl) ?_ (by assumption) ?_
                  rotate_left
                  · intro X hSX
                    try dsimp only at hSX
                    go_simp <;> with_reducible rfl
                  simp only [Act.put, List.setIfInBounds_toArray, List.set_cons_zero, List.set_cons_succ]
                  refine held_take (i := 34) (v := ?_) rfl (by kernel_rfl) (by kernel_rfl) (by kernel_rfl) (fun _ _ _ h => h) (by rfl) ?_ (by assumption) ?_
                  rotate_left
                  · intro X hSX
                    try dsimp only at hSX
                    go_simp <;> with_reducible rfl
                  simp only [Act.put, List.setIfInBounds_toArray, List.set_cons_zero, List.set_cons_succ]
                  refine wpAnyH_done (by kernel_rfl) ?_ _
                  refine NoPanic.normal ?_
                  clear hS0
                  go_wp2_with fail
                  have HB5 := Lib.hid (Below.refl X4.heap.size X4).drew
                  have HS3 := Lib.hid ((HS.out.next HT4.out).next HB5.out)
                  have HR3 := Lib.hid (HR.out.next HS3.out.b)
                  have HSP3 := Lib.hid (row_next HSP.out HS3.out.b)
                  refine wp_region_noPanic ?_
                  refine wp_region_held_drew (S := (fun X => X.heap[p]? = some (.cells (dnK r.d r.c ad2 r.c.l.length cap2 zd2 zn2 zc2 r.t r.e) 39 (0, 0)) ∧ X.heap[sp]? = some (.cells #[.int .i64 kind, .int .i64 W, .int .i64 nn, .slice zd z.length zc] 32 (0, 0)))) (by kernel_rfl) (⟨HS3.out.x, HSP3.out⟩) (fun hS0 => ?_)
                  generalize World.drew X4 = X5 at *
                  have HPT := Lib.hid (HPUT.out X5 HS3.out.b r.d ⟨r.c, ad2, cap2⟩ ⟨HS3.out.ok.k.less (fun j hj => .inl hj), HS3.out.ok.le, HS3.out.ok.mx, HS3.out.ok.nn, HS3.out.ok.bs⟩)
                  have HNE := Lib.hid (show (dp ≠ p ∨ p ≠ dp) ∧ (lg ≠ p ∨ p ≠ lg) ∧ lg ≠ dp ∧ (dp ≠ sp ∨ sp ≠ dp) ∧ (lg ≠ sp ∨ sp ≠ lg) by have h1 := HS3.out.np; have h2 := HLT.out; have h3 := HLS.out; exact ⟨.inl (by omega), .inl (by omega), h3.2.2, .inl (by omega), .inl (by omega)⟩)
                  have HG3 := Lib.hid (row_next HG.out HS3.out.b)
                  refine held_take (i := 0) (v := ?_) rfl (by kernel_rfl) (by kernel_rfl) (by kernel_rfl) (fun _ _ _ h => h) (by rfl) ?_ (by assumption) ?_
                  rotate_left
                  · intro X hSX
                    try dsimp only at hSX
                    go_simp <;> with_reducible rfl
                  simp only [Act.put, List.setIfInBounds_toArray, List.set_cons_zero, List.set_cons_succ]
                  refine held_take (i := 1) (v := ?_) rfl (by kernel_rfl) (by kernel_rfl) (by kernel_rfl) (fun _ _ _ h => h) (by rfl) ?_ (by assumption) ?_
                  rotate_left
                  · intro X hSX
                    try dsimp only at hSX
                    go_simp <;> with_reducible rfl
                  simp only [Act.put, List.setIfInBounds_toArray, List.set_cons_zero, List.set_cons_succ]
                  refine held_take (i := 2) (v := ?_) rfl (by kernel_rfl) (by kernel_rfl) (by kernel_rfl) (fun _ _ _ h => h) (by rfl) ?_ (by assumption) ?_
                  rotate_left
                  · intro X hSX
                    try dsimp only at hSX
                    obtain ⟨p0, p1, p2, p3⟩ := sp_cells hSX.2
                    go_simp <;> with_reducible rfl
                  simp only [Act.put, List.setIfInBounds_toArray, List.set_cons_zero, List.set_cons_succ]
                  refine held_take (i := 3) (v := ?_) rfl (by kernel_rfl) (by kernel_rfl) (by kernel_rfl) (fun _ _ _ h => h) (by rfl) ?_ (by assumption) ?_
                  rotate_left
                  · intro X hSX
                    try dsimp only at hSX
                    go_simp <;> with_reducible rfl
                  simp only [Act.put, List.setIfInBounds_toArray, List.set_cons_zero, List.set_cons_succ]
                  refine held_take (i := 4) (v := ?_) rfl (by kernel_rfl) (by kernel_rfl) (by kernel_rfl) (fun _ _ _ h => h) (by rfl) ?_ (by assumption) ?_
                  rotate_left
                  · intro X hSX
                    try dsimp only at hSX
                    obtain ⟨_, x0, x1, x2, x3, x4, x5, -, -, -, -, -, -, -, -, -, -, -, -, -, -, -, -⟩ := DnAt.of hSX.1
                    go_simp <;> with_reducible rfl
                  simp only [Act.put, List.setIfInBounds_toArray, List.set_cons_zero, List.set_cons_succ]
                  refine held_take (i := 5) (v := ?_) rfl (by kernel_rfl) (by kernel_rfl) (by kernel_rfl) (fun _ _ _ h => h) (by rfl) ?_ (by assumption) ?_
                  rotate_left
                  · intro X hSX
                    try dsimp only at hSX
                    go_simp <;> with_reducible rfl
                  simp only [Act.put, List.setIfInBounds_toArray, List.set_cons_zero, List.set_cons_succ]
                  refine held_take (i := 6) (v := ?_) rfl (by kernel_rfl) (by kernel_rfl) (by kernel_rfl) (fun _ _ _ h => h) (by rfl) ?_ (by assumption) ?_
                  rotate_left
                  · intro X hSX
                    try dsimp only at hSX
                    obtain ⟨_, -, -, -, -, -, -, x6, x7, x8, x9, x10, x11, x12, x13, x14, x15, x16, x17, x18, -, -, -⟩ := DnAt.of hSX.1
                    go_simp <;> with_reducible rfl
                  simp only [Act.put, List.setIfInBounds_toArray, List.set_cons_zero, List.set_cons_succ]
                  refine held_call (i := 7) rfl (by kernel_rfl) (by rfl) (fun K' hK' => ?_)
                  refine oper_store_dr (.tmp 10) (.tmp 150) rfl dp rfl r.d rfl d HR3.out.x ?_
                  have hS1 := And.intro (str_far hS0.1 HNE.out.1 (drK r.d)) (str_far hS0.2 HNE.out.2.2.2.1 (drK r.d))
                  refine held_go hK' (hS1) ?_
                  try simp only [Act.put, List.setIfInBounds_toArray, List.set_cons_zero, List.set_cons_succ]
                  clear hS0
                  have hS0 := hS1
                  clear hS1
                  refine held_take (i := 8) (v := ?_) rfl (by kernel_rfl) (by kernel_rfl) (by kernel_rfl) (fun _ _ _ h => h) (by rfl) ?_ (by assumption) ?_
                  rotate_left
                  · intro X hSX
                    try dsimp only at hSX
                    go_simp <;> with_reducible rfl
                  simp only [Act.put, List.setIfInBounds_toArray, List.set_cons_zero, List.set_cons_succ]
                  refine held_call (i := 9) rfl (by kernel_rfl) (by rfl) (fun K' hK' => ?_)
                  refine oper_store_el (.tmp 153) (.tmp 152) rfl lg (W * 13) rfl (crQ r.c ad2 cap2) rfl C (str_far HG3.out (.inl (fun e => HNE.out.2.2.1 e.symm)) _) rfl HCC.out (by simp [Value.oneCell']) ?_
                  refine held_go hK' (⟨str_far hS0.1 HNE.out.2.1 _, str_far hS0.2 HNE.out.2.2.2.2 _⟩) ?_
                  try simp only [Act.put, List.setIfInBounds_toArray, List.set_cons_zero, List.set_cons_succ]
                  refine wpAnyH_done (by kernel_rfl) ?_ _
                  refine NoPanic.normal ?_
                  have HRN := Lib.hid HPT.out.1
                  clear HPT HR3 HG3 hS0
                  go_wp2_with fail
                  go_roundg gk0
                  case rel => exact ⟨k + 1, r.d, es.set W r.c, by go_num, by omega, HRN, Lib.hid (HE.out.set HLN.out.1 HDT.out), Lib.hid (HSET.out _ _ HPS.out.1 HPS.out.2.1 HPS.out.2.2)⟩
                  case measure => omega
              · have q0 : (r.e != 0) = true := by simp [h0]
                have q15 : (r.e != 15) = false := by rw [h15]; rfl
                clear h0 h15
                go_upto_region 25 with fail
                clear q0 q15 x0 x1 x2 x3 x4 x5 x6 x7 x8 x9 x10 x11 x12 x13 x14 x15 x16 x17 x18 x19 x20 x21 p0 p1 p2 p3
                have HG2 := Lib.hid (row_next HG.out HS.out.b)
                have HCE2 := Lib.hid (fun j hj => (row_cells HS.out.b HG.out (W * 13 + j)).trans (HCE.out j hj))
                have HSP2 := Lib.hid (row_next HSP.out HS.out.b)
                have HR2 := Lib.hid (HR.out.next HS.out.b)
                have HCO := Lib.hid (fun X => cost_any m c.W c.L c.S c.T c.J c.R d.hd r.d.hd kind W nn zd z.length zc X hh.1 hh.2.1 hh.2.2)
                rw [← HTC.out] at HCO
                have hqt : (r.t != r.t) = false := by simp
                clear hh
                by_cases hk4 : kind = 4
                · have hk5 : (kind != 4) = false := by rw [hk4]; rfl
                  clear hk4
                  have HB2 := Lib.hid (Below.refl wc.heap.size wc).drew
                  refine wp_region_noPanic ?_
                  refine wp_region_held_drew (S := (fun X => Below wc.heap.size wc X)) (by kernel_rfl) (HB2.out) (fun hS0 => ?_)
                  generalize World.drew wc = X2 at *
                  refine held_take (i := 0) (v := ?_) rfl (by kernel_rfl) (by kernel_rfl) (by kernel_rfl) (fun _ _ _ h => h) (by rfl) ?_ (by assumption) ?_
                  rotate_left
                  · intro X hSX
                    try dsimp only at hSX
                    go_simp <;> with_reducible rfl
                  simp only [Act.put, List.setIfInBounds_toArray, List.set_cons_zero, List.set_cons_succ]
                  refine held_take (i := 1) (v := ?_) rfl (by kernel_rfl) (by kernel_rfl) (by kernel_rfl) (fun _ _ _ h => h) (by rfl) ?_ (by assumption) ?_
                  rotate_left
                  · intro X hSX
                    try dsimp only at hSX
                    obtain ⟨_, x0, x1, x2, x3, x4, x5, x6, x7, x8, x9, x10, x11, x12, x13, x14, x15, x16, x17, x18, x19, x20, x21⟩ := DnAt.of (row_next HS.out.x hSX)
                    go_simp <;> with_reducible rfl
                  simp only [Act.put, List.setIfInBounds_toArray, List.set_cons_zero, List.set_cons_succ]
                  refine held_take (i := 2) (v := ?_) rfl (by kernel_rfl) (by kernel_rfl) (by kernel_rfl) (fun _ _ _ h => h) (by rfl) ?_ (by assumption) ?_
                  rotate_left
                  · intro X hSX
                    try dsimp only at hSX
                    obtain ⟨_, m0, m1, m2, m3, m4⟩ := (HR2.out.b.next hSX).m
                    go_simp <;> with_reducible rfl
                  simp only [Act.put, List.setIfInBounds_toArray, List.set_cons_zero, List.set_cons_succ]
                  refine held_take (i := 3) (v := ?_) rfl (by kernel_rfl) (by kernel_rfl) (by kernel_rfl) (fun _ _ _ h => h) (by rfl) ?_ (by assumption) ?_
                  rotate_left
                  · intro X hSX
                    try dsimp only at hSX
                    go_simp <;> with_reducible rfl
                  simp only [Act.put, List.setIfInBounds_toArray, List.set_cons_zero, List.set_cons_succ]
                  refine held_take (i := 4) (v := ?_) rfl (by kernel_rfl) (by kernel_rfl) (by kernel_rfl) (fun _ _ _ h => h) (by rfl) ?_ (by assumption) ?_
                  rotate_left
                  · intro X hSX
                    try dsimp only at hSX
                    go_simp <;> with_reducible rfl
                  simp only [Act.put, List.setIfInBounds_toArray, List.set_cons_zero, List.set_cons_succ]
                  refine held_take (i := 5) (v := ?_) rfl (by kernel_rfl) (by kernel_rfl) (by kernel_rfl) (fun _ _ _ h => h) (by rfl) ?_ (by assumption) ?_
                  rotate_left
                  · intro X hSX
                    try dsimp only at hSX
                    obtain ⟨p0, p1, p2, p3⟩ := sp_cells (row_next HSP2.out hSX)
                    go_simp <;> with_reducible rfl
                  simp only [Act.put, List.setIfInBounds_toArray, List.set_cons_zero, List.set_cons_succ]
                  refine held_take (i := 6) (v := ?_) rfl (by kernel_rfl) (by kernel_rfl) (by kernel_rfl) (fun _ _ _ h => h) (by rfl) ?_ (by assumption) ?_
                  rotate_left
                  · intro X hSX
                    try dsimp only at hSX
                    go_simp <;> with_reducible rfl
                  simp only [Act.put, List.setIfInBounds_toArray, List.set_cons_zero, List.set_cons_succ]
                  refine held_take (i := 7) (v := ?_) rfl (by kernel_rfl) (by kernel_rfl) (by kernel_rfl) (fun _ _ _ h => h) (by rfl) ?_ (by assumption) ?_
                  rotate_left
                  · intro X hSX
                    try dsimp only at hSX
                    go_simp <;> with_reducible rfl
                  simp only [Act.put, List.setIfInBounds_toArray, List.set_cons_zero, List.set_cons_succ]
                  refine held_take (i := 8) (v := ?_) rfl (by kernel_rfl) (by kernel_rfl) (by kernel_rfl) (fun _ _ _ h => h) (by rfl) ?_ (by assumption) ?_
                  rotate_left
                  · intro X hSX
                    try dsimp only at hSX
                    obtain ⟨k0, k1, k2, k3, k4, k5, k6, k7, k8, k9, k10, k11, k12⟩ := el_at (fun j hj => (row_cells hSX HG2.out (W * 13 + j)).trans (HCE2.out j hj))
                    go_simp <;> with_reducible rfl
                  simp only [Act.put, List.setIfInBounds_toArray, List.set_cons_zero, List.set_cons_succ]
                  refine held_take (i := 9) (v := ?_) rfl (by kernel_rfl) (by kernel_rfl) (by kernel_rfl) (fun _ _ _ h => h) (by rfl) ?_ (by assumption) ?_
                  rotate_left
                  · intro X hSX
                    try dsimp only at hSX
                    go_simp <;> with_reducible rfl
                  simp only [Act.put, List.setIfInBounds_toArray, List.set_cons_zero, List.set_cons_succ]
                  refine held_take (i := 10) (v := ?_) rfl (by kernel_rfl) (by kernel_rfl) (by kernel_rfl) (fun _ _ _ h => h) (by rfl) ?_ (by assumption) ?_
                  rotate_left
                  · intro X hSX
                    try dsimp only at hSX
                    obtain ⟨_, d0, d1, d2, d3, d4, d5⟩ := DrAt.of (row_next HR2.out.x hSX)
                    go_simp <;> with_reducible rfl
                  simp only [Act.put, List.setIfInBounds_toArray, List.set_cons_zero, List.set_cons_succ]
                  refine held_take (i := 11) (v := ?_) rfl (by kernel_rfl) (by kernel_rfl) (by kernel_rfl) (fun _ _ _ h => h) (by rfl) ?_ (by assumption) ?_
                  rotate_left
                  · intro X hSX
                    try dsimp only at hSX
                    go_simp <;> with_reducible rfl
                  simp only [Act.put, List.setIfInBounds_toArray, List.set_cons_zero, List.set_cons_succ]
                  refine held_take (i := 12) (v := ?_) rfl (by kernel_rfl) (by kernel_rfl) (by kernel_rfl) (fun _ _ _ h => h) (by rfl) ?_ (by assumption) ?_
                  rotate_left
                  · intro X hSX
                    try dsimp only at hSX
                    go_simp <;> with_reducible rfl
                  simp only [Act.put, List.setIfInBounds_toArray, List.set_cons_zero, List.set_cons_succ]
                  refine held_take (i := 13) (v := ?_) rfl (by kernel_rfl) (by kernel_rfl) (by kernel_rfl) (fun _ _ _ h => h) (by rfl) ?_ (by assumption) ?_
                  rotate_left
                  · intro X hSX
                    try dsimp only at hSX
                    obtain ⟨_, x0, x1, x2, x3, x4, x5, x6, x7, x8, x9, x10, x11, x12, x13, x14, x15, x16, x17, x18, x19, x20, x21⟩ := DnAt.of (row_next HS.out.x hSX)
                    go_simp <;> with_reducible rfl
                  simp only [Act.put, List.setIfInBounds_toArray, List.set_cons_zero, List.set_cons_succ]
                  refine held_take (i := 14) (v := ?_) rfl (by kernel_rfl) (by kernel_rfl) (by kernel_rfl) (fun _ _ _ h => h) (by rfl) ?_ (by assumption) ?_
                  rotate_left
                  · intro X hSX
                    try dsimp only at hSX
                    obtain ⟨p0, p1, p2, p3⟩ := sp_cells (row_next HSP2.out hSX)
                    go_simp <;> with_reducible rfl
                  simp only [Act.put, List.setIfInBounds_toArray, List.set_cons_zero, List.set_cons_succ]
                  refine held_call (i := 15) rfl (by kernel_rfl) (by rfl) (fun K' hK' => ?_)
                  go_simp
                  refine (HCO.out X2).mono ?_
                  rintro e X3 ⟨rfl, hb⟩
                  have HT3 := bl HB2 hb
                  refine held_go hK' (HT3.out) ?_
                  try simp only [Act.put, List.setIfInBounds_toArray, List.set_cons_zero, List.set_cons_succ]
                  clear hS0 hb
                  have hS0 := HT3.out
                  refine held_take (i := 16) (v := ?_) rfl (by kernel_rfl) (by kernel_rfl) (by kernel_rfl) (fun _ _ _ h => h) (by rfl) ?_ (by assumption) ?_
                  rotate_left
                  · intro X hSX
                    try dsimp only at hSX
                    go_simp <;> with_reducible rfl
                  simp only [Act.put, List.setIfInBounds_toArray, List.set_cons_zero, List.set_cons_succ]
                  refine held_take (i := 17) (v := ?_) rfl (by kernel_rfl) (by kernel_rfl) (by kernel_rfl) (fun _ _ _ h => h) (by rfl) ?_ (by assumption) ?_
                  rotate_left
                  · intro X hSX
                    try dsimp only at hSX
                    go_simp <;> with_reducible rfl
                  simp only [Act.put, List.setIfInBounds_toArray, List.set_cons_zero, List.set_cons_succ]
                  refine held_take (i := 18) (v := ?_) rfl (by kernel_rfl) (by kernel_rfl) (by kernel_rfl) (fun _ _ _ h => h) (by rfl) ?_ (by assumption) ?_
                  rotate_left
                  · intro X hSX
                    try dsimp only at hSX
                    go_simp <;> with_reducible rfl
                  simp only [Act.put, List.setIfInBounds_toArray, List.set_cons_zero, List.set_cons_succ]
                  refine held_take (i := 19) (v := ?_) rfl (by kernel_rfl) (by kernel_rfl) (by kernel_rfl) (fun _ _ _ h => h) (by rfl) ?_ (by assumption) ?_
                  rotate_left
                  · intro X hSX
                    try dsimp only at hSX
                    obtain ⟨p0, p1, p2, p3⟩ := sp_cells (row_next HSP2.out hSX)
                    go_simp <;> with_reducible rfl
                  simp only [Act.put, List.setIfInBounds_toArray, List.set_cons_zero, List.set_cons_succ]
                  refine held_take (i := 20) (v := ?_) rfl (by kernel_rfl) (by kernel_rfl) (by kernel_rfl) (fun _ _ _ h => h) (by rfl) ?_ (by assumption) ?_
                  rotate_left
                  · intro X hSX
                    try dsimp only at hSX
                    go_simp <;> with_reducible rfl
                  simp only [Act.put, List.setIfInBounds_toArray, List.set_cons_zero, List.set_cons_succ]
                  refine held_take (i := 21) (v := ?_) rfl (by kernel_rfl) (by kernel_rfl) (by kernel_rfl) (fun _ _ _ h => h) (by rfl) ?_ (by assumption) ?_
                  rotate_left
                  · intro X hSX
                    try dsimp only at hSX
                    go_simp <;> with_reducible rfl
                  simp only [Act.put, List.setIfInBounds_toArray, List.set_cons_zero, List.set_cons_succ]
                  refine held_skip (i := 22) rfl (by kernel_rfl) (by kernel_rfl) (by kernel_rfl) (fun _ _ _ h => h) (by rfl) (by assumption) ?_
                  simp only [Act.put, List.setIfInBounds_toArray, List.set_cons_zero, List.set_cons_succ]
                  refine held_skip (i := 23) rfl (by kernel_rfl) (by kernel_rfl) (by kernel_rfl) (fun _ _ _ h => h) (by rfl) (by assumption) ?_
                  simp only [Act.put, List.setIfInBounds_toArray, List.set_cons_zero, List.set_cons_succ]
                  refine held_skip (i := 24) rfl (by kernel_rfl) (by kernel_rfl) (by kernel_rfl) (fun _ _ _ h => h) (by rfl) (by assumption) ?_
                  simp only [Act.put, List.setIfInBounds_toArray, List.set_cons_zero, List.set_cons_succ]
                  refine held_skip (i := 25) rfl (by kernel_rfl) (by kernel_rfl) (by kernel_rfl) (fun _ _ _ h => h) (by rfl) (by assumption) ?_
                  simp only [Act.put, List.setIfInBounds_toArray, List.set_cons_zero, List.set_cons_succ]
                  refine held_skip (i := 26) rfl (by kernel_rfl) (by kernel_rfl) (by kernel_rfl) (fun _ _ _ h => h) (by rfl) (by assumption) ?_
                  simp only [Act.put, List.setIfInBounds_toArray, List.set_cons_zero, List.set_cons_succ]
                  refine held_skip (i := 27) rfl (by kernel_rfl) (by kernel_rfl) (by kernel_rfl) (fun _ _ _ h => h) (by rfl) (by assumption) ?_
                  simp only [Act.put, List.setIfInBounds_toArray, List.set_cons_zero, List.set_cons_succ]
                  refine held_skip (i := 28) rfl (by kernel_rfl) (by kernel_rfl) (by kernel_rfl) (fun _ _ _ h => h) (by rfl) (by assumption) ?_
                  simp only [Act.put, List.setIfInBounds_toArray, List.set_cons_zero, List.set_cons_succ]
                  refine held_skip (i := 29) rfl (by kernel_rfl) (by kernel_rfl) (by kernel_rfl) (fun _ _ _ h => h) (by rfl) (by assumption) ?_
                  simp only [Act.put, List.setIfInBounds_toArray, List.set_cons_zero, List.set_cons_succ]
                  refine held_skip (i := 30) rfl (by kernel_rfl) (by kernel_rfl) (by kernel_rfl) (fun _ _ _ h => h) (by rfl) (by assumption) ?_
                  simp only [Act.put, List.setIfInBounds_toArray, List.set_cons_zero, List.set_cons_succ]
                  refine held_skip (i := 31) rfl (by kernel_rfl) (by kernel_rfl) (by kernel_rfl) (fun _ _ _ h => h) (by rfl) (by assumption) ?_
                  simp only [Act.put, List.setIfInBounds_toArray, List.set_cons_zero, List.set_cons_succ]
                  refine held_skip (i := 32) rfl (by kernel_rfl) (by kernel_rfl) (by kernel_rfl) (fun _ _ _ h => h) (by rfl) (by assumption) ?_
                  simp only [Act.put, List.setIfInBounds_toArray, List.set_cons_zero, List.set_cons_succ]
                  refine held_take (i := 33) (v := ?_) rfl (by kernel_rfl) (by kernel_rfl) (by kernel_rfl) (fun _ _ _ h => h) (by rfl) ?_ (by assumption) ?_
                  rotate_left
                  · intro X hSX
                    try dsimp only at hSX
                    go_simp <;> with_reducible rfl
                  simp only [Act.put, List.setIfInBounds_toArray, List.set_cons_zero, List.set_cons_succ]
                  refine held_take (i := 34) (v := ?_) rfl (by kernel_rfl) (by kernel_rfl) (by kernel_rfl) (fun _ _ _ h => h) (by rfl) ?_ (by assumption) ?_
                  rotate_left
                  · intro X hSX
                    try dsimp only at hSX
                    go_simp <;> with_reducible rfl
                  simp only [Act.put, List.setIfInBounds_toArray, List.set_cons_zero, List.set_cons_succ]
                  refine wpAnyH_done (by kernel_rfl) ?_ _
                  refine NoPanic.normal ?_
                  clear hS0
                  go_wp2_with fail
                  have HB5 := Lib.hid (Below.refl X3.heap.size X3).drew
                  have HS3 := Lib.hid ((HS.out.next HT3.out).next HB5.out)
                  have HR3 := Lib.hid (HR.out.next HS3.out.b)
                  have HSP3 := Lib.hid (row_next HSP.out HS3.out.b)
                  refine wp_region_noPanic ?_
                  refine wp_region_held_drew (S := (fun X => X.heap[p]? = some (.cells (dnK r.d r.c ad2 r.c.l.length cap2 zd2 zn2 zc2 r.t r.e) 39 (0, 0)) ∧ X.heap[sp]? = some (.cells #[.int .i64 kind, .int .i64 W, .int .i64 nn, .slice zd z.length zc] 32 (0, 0)))) (by kernel_rfl) (⟨HS3.out.x, HSP3.out⟩) (fun hS0 => ?_)
                  generalize World.drew X3 = X4 at *
                  have HPT := Lib.hid (HPUT.out X4 HS3.out.b r.d ⟨r.c, ad2, cap2⟩ ⟨HS3.out.ok.k.less (fun j hj => .inl hj), HS3.out.ok.le, HS3.out.ok.mx, HS3.out.ok.nn, HS3.out.ok.bs⟩)
                  have HNE := Lib.hid (show (dp ≠ p ∨ p ≠ dp) ∧ (lg ≠ p ∨ p ≠ lg) ∧ lg ≠ dp ∧ (dp ≠ sp ∨ sp ≠ dp) ∧ (lg ≠ sp ∨ sp ≠ lg) by have h1 := HS3.out.np; have h2 := HLT.out; have h3 := HLS.out; exact ⟨.inl (by omega), .inl (by omega), h3.2.2, .inl (by omega), .inl (by omega)⟩)
                  have HG3 := Lib.hid (row_next HG.out HS3.out.b)
                  refine held_take (i := 0) (v := ?_) rfl (by kernel_rfl) (by kernel_rfl) (by kernel_rfl) (fun _ _ _ h => h) (by rfl) ?_ (by assumption) ?_
                  rotate_left
                  · intro X hSX
                    try dsimp only at hSX
                    go_simp <;> with_reducible rfl
                  simp only [Act.put, List.setIfInBounds_toArray, List.set_cons_zero, List.set_cons_succ]
                  refine held_take (i := 1) (v := ?_) rfl (by kernel_rfl) (by kernel_rfl) (by kernel_rfl) (fun _ _ _ h => h) (by rfl) ?_ (by assumption) ?_
                  rotate_left
                  · intro X hSX
                    try dsimp only at hSX
                    go_simp <;> with_reducible rfl
                  simp only [Act.put, List.setIfInBounds_toArray, List.set_cons_zero, List.set_cons_succ]
                  refine held_take (i := 2) (v := ?_) rfl (by kernel_rfl) (by kernel_rfl) (by kernel_rfl) (fun _ _ _ h => h) (by rfl) ?_ (by assumption) ?_
                  rotate_left
                  · intro X hSX
                    try dsimp only at hSX
                    obtain ⟨p0, p1, p2, p3⟩ := sp_cells hSX.2
                    go_simp <;> with_reducible rfl
                  simp only [Act.put, List.setIfInBounds_toArray, List.set_cons_zero, List.set_cons_succ]
                  refine held_take (i := 3) (v := ?_) rfl (by kernel_rfl) (by kernel_rfl) (by kernel_rfl) (fun _ _ _ h => h) (by rfl) ?_ (by assumption) ?_
                  rotate_left
                  · intro X hSX
                    try dsimp only at hSX
                    go_simp <;> with_reducible rfl
                  simp only [Act.put, List.setIfInBounds_toArray, List.set_cons_zero, List.set_cons_succ]
                  refine held_take (i := 4) (v := ?_) rfl (by kernel_rfl) (by kernel_rfl) (by kernel_rfl) (fun _ _ _ h => h) (by rfl) ?_ (by assumption) ?_
                  rotate_left
                  · intro X hSX
                    try dsimp only at hSX
                    obtain ⟨_, x0, x1, x2, x3, x4, x5, -, -, -, -, -, -, -, -, -, -, -, -, -, -, -, -⟩ := DnAt.of hSX.1
                    go_simp <;> with_reducible rfl
                  simp only [Act.put, List.setIfInBounds_toArray, List.set_cons_zero, List.set_cons_succ]
                  refine held_take (i := 5) (v := ?_) rfl (by kernel_rfl) (by kernel_rfl) (by kernel_rfl) (fun _ _ _ h => h) (by rfl) ?_ (by assumption) ?_
                  rotate_left
                  · intro X hSX
                    try dsimp only at hSX
                    go_simp <;> with_reducible rfl
                  simp only [Act.put, List.setIfInBounds_toArray, List.set_cons_zero, List.set_cons_succ]
                  refine held_take (i := 6) (v := ?_) rfl (by kernel_rfl) (by kernel_rfl) (by kernel_rfl) (fun _ _ _ h => h) (by rfl) ?_ (by assumption) ?_
                  rotate_left
                  · intro X hSX
                    try dsimp only at hSX
                    obtain ⟨_, -, -, -, -, -, -, x6, x7, x8, x9, x10, x11, x12, x13, x14, x15, x16, x17, x18, -, -, -⟩ := DnAt.of hSX.1
                    go_simp <;> with_reducible rfl
                  simp only [Act.put, List.setIfInBounds_toArray, List.set_cons_zero, List.set_cons_succ]
                  refine held_call (i := 7) rfl (by kernel_rfl) (by rfl) (fun K' hK' => ?_)
                  refine oper_store_dr (.tmp 10) (.tmp 150) rfl dp rfl r.d rfl d HR3.out.x ?_
                  have hS1 := And.intro (str_far hS0.1 HNE.out.1 (drK r.d)) (str_far hS0.2 HNE.out.2.2.2.1 (drK r.d))
                  refine held_go hK' (hS1) ?_
                  try simp only [Act.put, List.setIfInBounds_toArray, List.set_cons_zero, List.set_cons_succ]
                  clear hS0
                  have hS0 := hS1
                  clear hS1
                  refine held_take (i := 8) (v := ?_) rfl (by kernel_rfl) (by kernel_rfl) (by kernel_rfl) (fun _ _ _ h => h) (by rfl) ?_ (by assumption) ?_
                  rotate_left
                  · intro X hSX
                    try dsimp only at hSX
                    go_simp <;> with_reducible rfl
                  simp only [Act.put, List.setIfInBounds_toArray, List.set_cons_zero, List.set_cons_succ]
                  refine held_call (i := 9) rfl (by kernel_rfl) (by rfl) (fun K' hK' => ?_)
                  refine oper_store_el (.tmp 153) (.tmp 152) rfl lg (W * 13) rfl (crQ r.c ad2 cap2) rfl C (str_far HG3.out (.inl (fun e => HNE.out.2.2.1 e.symm)) _) rfl HCC.out (by simp [Value.oneCell']) ?_
                  refine held_go hK' (⟨str_far hS0.1 HNE.out.2.1 _, str_far hS0.2 HNE.out.2.2.2.2 _⟩) ?_
                  try simp only [Act.put, List.setIfInBounds_toArray, List.set_cons_zero, List.set_cons_succ]
                  refine wpAnyH_done (by kernel_rfl) ?_ _
                  refine NoPanic.normal ?_
                  have HRN := Lib.hid HPT.out.1
                  clear HPT HR3 HG3 hS0
                  go_wp2_with fail
                  go_roundg gk0
                  case rel => exact ⟨k + 1, r.d, es.set W r.c, by go_num, by omega, HRN, Lib.hid (HE.out.set HLN.out.1 HDT.out), Lib.hid (HSET.out _ _ HPS.out.1 HPS.out.2.1 HPS.out.2.2)⟩
                  case measure => omega
                · have hk5 : (kind != 4) = true := by simp [hk4]
                  have hl := HBL.out hk4
                  have HSL := Lib.hid (fun X (h : Below wc.heap.size wc X) => same_l (cap := cap2) (cap2 := cap') (l := r.c.l) (n1 := r.c.l.length) (n2 := c.l.length) rfl (by rw [hl]) X (HS.out.ok.k.below h).ki (by rw [hl]; exact ((HIN.out.below HS.out.b).below h).ki) (by have h1 := HLN.out.1; omega))
                  clear hk4 hl
                  have HB2 := Lib.hid (Below.refl wc.heap.size wc).drew
                  refine wp_region_noPanic ?_
                  refine wp_region_held_drew (S := (fun X => Below wc.heap.size wc X)) (by kernel_rfl) (HB2.out) (fun hS0 => ?_)
                  generalize World.drew wc = X2 at *
                  refine held_take (i := 0) (v := ?_) rfl (by kernel_rfl) (by kernel_rfl) (by kernel_rfl) (fun _ _ _ h => h) (by rfl) ?_ (by assumption) ?_
                  rotate_left
                  · intro X hSX
                    try dsimp only at hSX
                    go_simp <;> with_reducible rfl
                  simp only [Act.put, List.setIfInBounds_toArray, List.set_cons_zero, List.set_cons_succ]
                  refine held_take (i := 1) (v := ?_) rfl (by kernel_rfl) (by kernel_rfl) (by kernel_rfl) (fun _ _ _ h => h) (by rfl) ?_ (by assumption) ?_
                  rotate_left
                  · intro X hSX
                    try dsimp only at hSX
                    obtain ⟨_, x0, x1, x2, x3, x4, x5, x6, x7, x8, x9, x10, x11, x12, x13, x14, x15, x16, x17, x18, x19, x20, x21⟩ := DnAt.of (row_next HS.out.x hSX)
                    go_simp <;> with_reducible rfl
                  simp only [Act.put, List.setIfInBounds_toArray, List.set_cons_zero, List.set_cons_succ]
                  refine held_take (i := 2) (v := ?_) rfl (by kernel_rfl) (by kernel_rfl) (by kernel_rfl) (fun _ _ _ h => h) (by rfl) ?_ (by assumption) ?_
                  rotate_left
                  · intro X hSX
                    try dsimp only at hSX
                    obtain ⟨_, m0, m1, m2, m3, m4⟩ := (HR2.out.b.next hSX).m
                    go_simp <;> with_reducible rfl
                  simp only [Act.put, List.setIfInBounds_toArray, List.set_cons_zero, List.set_cons_succ]
                  refine held_take (i := 3) (v := ?_) rfl (by kernel_rfl) (by kernel_rfl) (by kernel_rfl) (fun _ _ _ h => h) (by rfl) ?_ (by assumption) ?_
                  rotate_left
                  · intro X hSX
                    try dsimp only at hSX
                    go_simp <;> with_reducible rfl
                  simp only [Act.put, List.setIfInBounds_toArray, List.set_cons_zero, List.set_cons_succ]
                  refine held_take (i := 4) (v := ?_) rfl (by kernel_rfl) (by kernel_rfl) (by kernel_rfl) (fun _ _ _ h => h) (by rfl) ?_ (by assumption) ?_
                  rotate_left
                  · intro X hSX
                    try dsimp only at hSX
                    go_simp <;> with_reducible rfl
                  simp only [Act.put, List.setIfInBounds_toArray, List.set_cons_zero, List.set_cons_succ]
                  refine held_take (i := 5) (v := ?_) rfl (by kernel_rfl) (by kernel_rfl) (by kernel_rfl) (fun _ _ _ h => h) (by rfl) ?_ (by assumption) ?_
                  rotate_left
                  · intro X hSX
                    try dsimp only at hSX
                    obtain ⟨p0, p1, p2, p3⟩ := sp_cells (row_next HSP2.out hSX)
                    go_simp <;> with_reducible rfl
                  simp only [Act.put, List.setIfInBounds_toArray, List.set_cons_zero, List.set_cons_succ]
                  refine held_take (i := 6) (v := ?_) rfl (by kernel_rfl) (by kernel_rfl) (by kernel_rfl) (fun _ _ _ h => h) (by rfl) ?_ (by assumption) ?_
                  rotate_left
                  · intro X hSX
                    try dsimp only at hSX
                    go_simp <;> with_reducible rfl
                  simp only [Act.put, List.setIfInBounds_toArray, List.set_cons_zero, List.set_cons_succ]
                  refine held_take (i := 7) (v := ?_) rfl (by kernel_rfl) (by kernel_rfl) (by kernel_rfl) (fun _ _ _ h => h) (by rfl) ?_ (by assumption) ?_
                  rotate_left
                  · intro X hSX
                    try dsimp only at hSX
                    go_simp <;> with_reducible rfl
                  simp only [Act.put, List.setIfInBounds_toArray, List.set_cons_zero, List.set_cons_succ]
                  refine held_take (i := 8) (v := ?_) rfl (by kernel_rfl) (by kernel_rfl) (by kernel_rfl) (fun _ _ _ h => h) (by rfl) ?_ (by assumption) ?_
                  rotate_left
                  · intro X hSX
                    try dsimp only at hSX
                    obtain ⟨k0, k1, k2, k3, k4, k5, k6, k7, k8, k9, k10, k11, k12⟩ := el_at (fun j hj => (row_cells hSX HG2.out (W * 13 + j)).trans (HCE2.out j hj))
                    go_simp <;> with_reducible rfl
                  simp only [Act.put, List.setIfInBounds_toArray, List.set_cons_zero, List.set_cons_succ]
                  refine held_take (i := 9) (v := ?_) rfl (by kernel_rfl) (by kernel_rfl) (by kernel_rfl) (fun _ _ _ h => h) (by rfl) ?_ (by assumption) ?_
                  rotate_left
                  · intro X hSX
                    try dsimp only at hSX
                    go_simp <;> with_reducible rfl
                  simp only [Act.put, List.setIfInBounds_toArray, List.set_cons_zero, List.set_cons_succ]
                  refine held_take (i := 10) (v := ?_) rfl (by kernel_rfl) (by kernel_rfl) (by kernel_rfl) (fun _ _ _ h => h) (by rfl) ?_ (by assumption) ?_
                  rotate_left
                  · intro X hSX
                    try dsimp only at hSX
                    obtain ⟨_, d0, d1, d2, d3, d4, d5⟩ := DrAt.of (row_next HR2.out.x hSX)
                    go_simp <;> with_reducible rfl
                  simp only [Act.put, List.setIfInBounds_toArray, List.set_cons_zero, List.set_cons_succ]
                  refine held_take (i := 11) (v := ?_) rfl (by kernel_rfl) (by kernel_rfl) (by kernel_rfl) (fun _ _ _ h => h) (by rfl) ?_ (by assumption) ?_
                  rotate_left
                  · intro X hSX
                    try dsimp only at hSX
                    go_simp <;> with_reducible rfl
                  simp only [Act.put, List.setIfInBounds_toArray, List.set_cons_zero, List.set_cons_succ]
                  refine held_take (i := 12) (v := ?_) rfl (by kernel_rfl) (by kernel_rfl) (by kernel_rfl) (fun _ _ _ h => h) (by rfl) ?_ (by assumption) ?_
                  rotate_left
                  · intro X hSX
                    try dsimp only at hSX
                    go_simp <;> with_reducible rfl
                  simp only [Act.put, List.setIfInBounds_toArray, List.set_cons_zero, List.set_cons_succ]
                  refine held_take (i := 13) (v := ?_) rfl (by kernel_rfl) (by kernel_rfl) (by kernel_rfl) (fun _ _ _ h => h) (by rfl) ?_ (by assumption) ?_
                  rotate_left
                  · intro X hSX
                    try dsimp only at hSX
                    obtain ⟨_, x0, x1, x2, x3, x4, x5, x6, x7, x8, x9, x10, x11, x12, x13, x14, x15, x16, x17, x18, x19, x20, x21⟩ := DnAt.of (row_next HS.out.x hSX)
                    go_simp <;> with_reducible rfl
                  simp only [Act.put, List.setIfInBounds_toArray, List.set_cons_zero, List.set_cons_succ]
                  refine held_take (i := 14) (v := ?_) rfl (by kernel_rfl) (by kernel_rfl) (by kernel_rfl) (fun _ _ _ h => h) (by rfl) ?_ (by assumption) ?_
                  rotate_left
                  · intro X hSX
                    try dsimp only at hSX
                    obtain ⟨p0, p1, p2, p3⟩ := sp_cells (row_next HSP2.out hSX)
                    go_simp <;> with_reducible rfl
                  simp only [Act.put, List.setIfInBounds_toArray, List.set_cons_zero, List.set_cons_succ]
                  refine held_call (i := 15) rfl (by kernel_rfl) (by rfl) (fun K' hK' => ?_)
                  go_simp
                  refine (HCO.out X2).mono ?_
                  rintro e X3 ⟨rfl, hb⟩
                  have HT3 := bl HB2 hb
                  refine held_go hK' (HT3.out) ?_
                  try simp only [Act.put, List.setIfInBounds_toArray, List.set_cons_zero, List.set_cons_succ]
                  clear hS0 hb
                  have hS0 := HT3.out
                  refine held_take (i := 16) (v := ?_) rfl (by kernel_rfl) (by kernel_rfl) (by kernel_rfl) (fun _ _ _ h => h) (by rfl) ?_ (by assumption) ?_
                  rotate_left
                  · intro X hSX
                    try dsimp only at hSX
                    go_simp <;> with_reducible rfl
                  simp only [Act.put, List.setIfInBounds_toArray, List.set_cons_zero, List.set_cons_succ]
                  refine held_take (i := 17) (v := ?_) rfl (by kernel_rfl) (by kernel_rfl) (by kernel_rfl) (fun _ _ _ h => h) (by rfl) ?_ (by assumption) ?_
                  rotate_left
                  · intro X hSX
                    try dsimp only at hSX
                    go_simp <;> with_reducible rfl
                  simp only [Act.put, List.setIfInBounds_toArray, List.set_cons_zero, List.set_cons_succ]
                  refine held_take (i := 18) (v := ?_) rfl (by kernel_rfl) (by kernel_rfl) (by kernel_rfl) (fun _ _ _ h => h) (by rfl) ?_ (by assumption) ?_
                  rotate_left
                  · intro X hSX
                    try dsimp only at hSX
                    go_simp <;> with_reducible rfl
                  simp only [Act.put, List.setIfInBounds_toArray, List.set_cons_zero, List.set_cons_succ]
                  refine held_take (i := 19) (v := ?_) rfl (by kernel_rfl) (by kernel_rfl) (by kernel_rfl) (fun _ _ _ h => h) (by rfl) ?_ (by assumption) ?_
                  rotate_left
                  · intro X hSX
                    try dsimp only at hSX
                    obtain ⟨p0, p1, p2, p3⟩ := sp_cells (row_next HSP2.out hSX)
                    go_simp <;> with_reducible rfl
                  simp only [Act.put, List.setIfInBounds_toArray, List.set_cons_zero, List.set_cons_succ]
                  refine held_take (i := 20) (v := ?_) rfl (by kernel_rfl) (by kernel_rfl) (by kernel_rfl) (fun _ _ _ h => h) (by rfl) ?_ (by assumption) ?_
                  rotate_left
                  · intro X hSX
                    try dsimp only at hSX
                    go_simp <;> with_reducible rfl
                  simp only [Act.put, List.setIfInBounds_toArray, List.set_cons_zero, List.set_cons_succ]
                  refine held_take (i := 21) (v := ?_) rfl (by kernel_rfl) (by kernel_rfl) (by kernel_rfl) (fun _ _ _ h => h) (by rfl) ?_ (by assumption) ?_
                  rotate_left
                  · intro X hSX
                    try dsimp only at hSX
                    go_simp <;> with_reducible rfl
                  simp only [Act.put, List.setIfInBounds_toArray, List.set_cons_zero, List.set_cons_succ]
                  refine held_take (i := 22) (v := ?_) rfl (by kernel_rfl) (by kernel_rfl) (by kernel_rfl) (fun _ _ _ h => h) (by rfl) ?_ (by assumption) ?_
                  rotate_left
                  · intro X hSX
                    try dsimp only at hSX
                    go_simp <;> with_reducible rfl
                  simp only [Act.put, List.setIfInBounds_toArray, List.set_cons_zero, List.set_cons_succ]
                  refine held_take (i := 23) (v := ?_) rfl (by kernel_rfl) (by kernel_rfl) (by kernel_rfl) (fun _ _ _ h => h) (by rfl) ?_ (by assumption) ?_
                  rotate_left
                  · intro X hSX
                    try dsimp only at hSX
                    go_simp <;> with_reducible rfl
                  simp only [Act.put, List.setIfInBounds_toArray, List.set_cons_zero, List.set_cons_succ]
                  refine held_take (i := 24) (v := ?_) rfl (by kernel_rfl) (by kernel_rfl) (by kernel_rfl) (fun _ _ _ h => h) (by rfl) ?_ (by assumption) ?_
                  rotate_left
                  · intro X hSX
                    try dsimp only at hSX
                    obtain ⟨_, x0, x1, x2, x3, x4, x5, x6, x7, x8, x9, x10, x11, x12, x13, x14, x15, x16, x17, x18, x19, x20, x21⟩ := DnAt.of (row_next HS.out.x hSX)
                    go_simp <;> with_reducible rfl
                  simp only [Act.put, List.setIfInBounds_toArray, List.set_cons_zero, List.set_cons_succ]
                  refine held_take (i := 25) (v := ?_) rfl (by kernel_rfl) (by kernel_rfl) (by kernel_rfl) (fun _ _ _ h => h) (by rfl) ?_ (by assumption) ?_
                  rotate_left
                  · intro X hSX
                    try dsimp only at hSX
                    go_simp <;> with_reducible rfl
                  simp only [Act.put, List.setIfInBounds_toArray, List.set_cons_zero, List.set_cons_succ]
                  refine held_take (i := 26) (v := ?_) rfl (by kernel_rfl) (by kernel_rfl) (by kernel_rfl) (fun _ _ _ h => h) (by rfl) ?_ (by assumption) ?_
                  rotate_left
                  · intro X hSX
                    try dsimp only at hSX
                    go_simp <;> with_reducible rfl
                  simp only [Act.put, List.setIfInBounds_toArray, List.set_cons_zero, List.set_cons_succ]
                  refine held_take (i := 27) (v := ?_) rfl (by kernel_rfl) (by kernel_rfl) (by kernel_rfl) (fun _ _ _ h => h) (by rfl) ?_ (by assumption) ?_
                  rotate_left
                  · intro X hSX
                    try dsimp only at hSX
                    obtain ⟨p0, p1, p2, p3⟩ := sp_cells (row_next HSP2.out hSX)
                    go_simp <;> with_reducible rfl
                  simp only [Act.put, List.setIfInBounds_toArray, List.set_cons_zero, List.set_cons_succ]
                  refine held_take (i := 28) (v := ?_) rfl (by kernel_rfl) (by kernel_rfl) (by kernel_rfl) (fun _ _ _ h => h) (by rfl) ?_ (by assumption) ?_
                  rotate_left
                  · intro X hSX
                    try dsimp only at hSX
                    go_simp <;> with_reducible rfl
                  simp only [Act.put, List.setIfInBounds_toArray, List.set_cons_zero, List.set_cons_succ]
                  refine held_take (i := 29) (v := ?_) rfl (by kernel_rfl) (by kernel_rfl) (by kernel_rfl) (fun _ _ _ h => h) (by rfl) ?_ (by assumption) ?_
                  rotate_left
                  · intro X hSX
                    try dsimp only at hSX
                    go_simp <;> with_reducible rfl
                  simp only [Act.put, List.setIfInBounds_toArray, List.set_cons_zero, List.set_cons_succ]
                  refine held_take (i := 30) (v := ?_) rfl (by kernel_rfl) (by kernel_rfl) (by kernel_rfl) (fun _ _ _ h => h) (by rfl) ?_ (by assumption) ?_
                  rotate_left
                  · intro X hSX
                    try dsimp only at hSX
                    obtain ⟨k0, k1, k2, k3, k4, k5, k6, k7, k8, k9, k10, k11, k12⟩ := el_at (fun j hj => (row_cells hSX HG2.out (W * 13 + j)).trans (HCE2.out j hj))
                    go_simp <;> with_reducible rfl
                  simp only [Act.put, List.setIfInBounds_toArray, List.set_cons_zero, List.set_cons_succ]
                  refine held_call (i := 31) rfl (by kernel_rfl) (by rfl) (fun K' hK' => ?_)
                  go_simp
                  refine (HSL.out X3 HT3.out).mono ?_
                  rintro e X4 ⟨rfl, hb⟩
                  have HT4 := bl HT3 hb
                  refine held_go hK' (HT4.out) ?_
                  try simp only [Act.put, List.setIfInBounds_toArray, List.set_cons_zero, List.set_cons_succ]
                  clear hS0 hb
                  have hS0 := HT4.out
                  refine held_take (i := 32) (v := ?_) rfl (by kernel_rfl) (by kernel_rfl) (by kernel_rfl) (fun _ _ _ h => h) (by rfl) ?_ (by assumption) ?_
                  rotate_left
                  · intro X hSX
                    try dsimp only at hSX
                    go_simp <;> with_reducible rfl
                  simp only [Act.put, List.setIfInBounds_toArray, List.set_cons_zero, List.set_cons_succ]
                  refine held_take (i := 33) (v := ?_) rfl (by kernel_rfl) (by kernel_rfl) (by kernel_rfl) (fun _ _ _ h => h) (by rfl) ?_ (by assumption) ?_
                  rotate_left
                  · intro X hSX
                    try dsimp only at hSX
                    go_simp <;> with_reducible rfl
                  simp only [Act.put, List.setIfInBounds_toArray, List.set_cons_zero, List.set_cons_succ]
                  refine held_take (i := 34) (v := ?_) rfl (by kernel_rfl) (by kernel_rfl) (by kernel_rfl) (fun _ _ _ h => h) (by rfl) ?_ (by assumption) ?_
                  rotate_left
                  · intro X hSX
                    try dsimp only at hSX
                    go_simp <;> with_reducible rfl
                  simp only [Act.put, List.setIfInBounds_toArray, List.set_cons_zero, List.set_cons_succ]
                  refine wpAnyH_done (by kernel_rfl) ?_ _
                  refine NoPanic.normal ?_
                  clear hS0
                  go_wp2_with fail
                  have HB5 := Lib.hid (Below.refl X4.heap.size X4).drew
                  have HS3 := Lib.hid ((HS.out.next HT4.out).next HB5.out)
                  have HR3 := Lib.hid (HR.out.next HS3.out.b)
                  have HSP3 := Lib.hid (row_next HSP.out HS3.out.b)
                  refine wp_region_noPanic ?_
                  refine wp_region_held_drew (S := (fun X => X.heap[p]? = some (.cells (dnK r.d r.c ad2 r.c.l.length cap2 zd2 zn2 zc2 r.t r.e) 39 (0, 0)) ∧ X.heap[sp]? = some (.cells #[.int .i64 kind, .int .i64 W, .int .i64 nn, .slice zd z.length zc] 32 (0, 0)))) (by kernel_rfl) (⟨HS3.out.x, HSP3.out⟩) (fun hS0 => ?_)
                  generalize World.drew X4 = X5 at *
                  have HPT := Lib.hid (HPUT.out X5 HS3.out.b r.d ⟨r.c, ad2, cap2⟩ ⟨HS3.out.ok.k.less (fun j hj => .inl hj), HS3.out.ok.le, HS3.out.ok.mx, HS3.out.ok.nn, HS3.out.ok.bs⟩)
                  have HNE := Lib.hid (show (dp ≠ p ∨ p ≠ dp) ∧ (lg ≠ p ∨ p ≠ lg) ∧ lg ≠ dp ∧ (dp ≠ sp ∨ sp ≠ dp) ∧ (lg ≠ sp ∨ sp ≠ lg) by have h1 := HS3.out.np; have h2 := HLT.out; have h3 := HLS.out; exact ⟨.inl (by omega), .inl (by omega), h3.2.2, .inl (by omega), .inl (by omega)⟩)
                  have HG3 := Lib.hid (row_next HG.out HS3.out.b)
                  refine held_take (i := 0) (v := ?_) rfl (by kernel_rfl) (by kernel_rfl) (by kernel_rfl) (fun _ _ _ h => h) (by rfl) ?_ (by assumption) ?_
                  rotate_left
                  · intro X hSX
                    try dsimp only at hSX
                    go_simp <;> with_reducible rfl
                  simp only [Act.put, List.setIfInBounds_toArray, List.set_cons_zero, List.set_cons_succ]
                  refine held_take (i := 1) (v := ?_) rfl (by kernel_rfl) (by kernel_rfl) (by kernel_rfl) (fun _ _ _ h => h) (by rfl) ?_ (by assumption) ?_
                  rotate_left
                  · intro X hSX
                    try dsimp only at hSX
                    go_simp <;> with_reducible rfl
                  simp only [Act.put, List.setIfInBounds_toArray, List.set_cons_zero, List.set_cons_succ]
                  refine held_take (i := 2) (v := ?_) rfl (by kernel_rfl) (by kernel_rfl) (by kernel_rfl) (fun _ _ _ h => h) (by rfl) ?_ (by assumption) ?_
                  rotate_left
                  · intro X hSX
                    try dsimp only at hSX
                    obtain ⟨p0, p1, p2, p3⟩ := sp_cells hSX.2
                    go_simp <;> with_reducible rfl
                  simp only [Act.put, List.setIfInBounds_toArray, List.set_cons_zero, List.set_cons_succ]
                  refine held_take (i := 3) (v := ?_) rfl (by kernel_rfl) (by kernel_rfl) (by kernel_rfl) (fun _ _ _ h => h) (by rfl) ?_ (by assumption) ?_
                  rotate_left
                  · intro X hSX
                    try dsimp only at hSX
                    go_simp <;> with_reducible rfl
                  simp only [Act.put, List.setIfInBounds_toArray, List.set_cons_zero, List.set_cons_succ]
                  refine held_take (i := 4) (v := ?_) rfl (by kernel_rfl) (by kernel_rfl) (by kernel_rfl) (fun _ _ _ h => h) (by rfl) ?_ (by assumption) ?_
                  rotate_left
                  · intro X hSX
                    try dsimp only at hSX
                    obtain ⟨_, x0, x1, x2, x3, x4, x5, -, -, -, -, -, -, -, -, -, -, -, -, -, -, -, -⟩ := DnAt.of hSX.1
                    go_simp <;> with_reducible rfl
                  simp only [Act.put, List.setIfInBounds_toArray, List.set_cons_zero, List.set_cons_succ]
                  refine held_take (i := 5) (v := ?_) rfl (by kernel_rfl) (by kernel_rfl) (by kernel_rfl) (fun _ _ _ h => h) (by rfl) ?_ (by assumption) ?_
                  rotate_left
                  · intro X hSX
                    try dsimp only at hSX
                    go_simp <;> with_reducible rfl
                  simp only [Act.put, List.setIfInBounds_toArray, List.set_cons_zero, List.set_cons_succ]
                  refine held_take (i := 6) (v := ?_) rfl (by kernel_rfl) (by kernel_rfl) (by kernel_rfl) (fun _ _ _ h => h) (by rfl) ?_ (by assumption) ?_
                  rotate_left
                  · intro X hSX
                    try dsimp only at hSX
                    obtain ⟨_, -, -, -, -, -, -, x6, x7, x8, x9, x10, x11, x12, x13, x14, x15, x16, x17, x18, -, -, -⟩ := DnAt.of hSX.1
                    go_simp <;> with_reducible rfl
                  simp only [Act.put, List.setIfInBounds_toArray, List.set_cons_zero, List.set_cons_succ]
                  refine held_call (i := 7) rfl (by kernel_rfl) (by rfl) (fun K' hK' => ?_)
                  refine oper_store_dr (.tmp 10) (.tmp 150) rfl dp rfl r.d rfl d HR3.out.x ?_
                  have hS1 := And.intro (str_far hS0.1 HNE.out.1 (drK r.d)) (str_far hS0.2 HNE.out.2.2.2.1 (drK r.d))
                  refine held_go hK' (hS1) ?_
                  try simp only [Act.put, List.setIfInBounds_toArray, List.set_cons_zero, List.set_cons_succ]
                  clear hS0
                  have hS0 := hS1
                  clear hS1
                  refine held_take (i := 8) (v := ?_) rfl (by kernel_rfl) (by kernel_rfl) (by kernel_rfl) (fun _ _ _ h => h) (by rfl) ?_ (by assumption) ?_
                  rotate_left
                  · intro X hSX
                    try dsimp only at hSX
                    go_simp <;> with_reducible rfl
                  simp only [Act.put, List.setIfInBounds_toArray, List.set_cons_zero, List.set_cons_succ]
                  refine held_call (i := 9) rfl (by kernel_rfl) (by rfl) (fun K' hK' => ?_)
                  refine oper_store_el (.tmp 153) (.tmp 152) rfl lg (W * 13) rfl (crQ r.c ad2 cap2) rfl C (str_far HG3.out (.inl (fun e => HNE.out.2.2.1 e.symm)) _) rfl HCC.out (by simp [Value.oneCell']) ?_
                  refine held_go hK' (⟨str_far hS0.1 HNE.out.2.1 _, str_far hS0.2 HNE.out.2.2.2.2 _⟩) ?_
                  try simp only [Act.put, List.setIfInBounds_toArray, List.set_cons_zero, List.set_cons_succ]
                  refine wpAnyH_done (by kernel_rfl) ?_ _
                  refine NoPanic.normal ?_
                  have HRN := Lib.hid HPT.out.1
                  clear HPT HR3 HG3 hS0
                  go_wp2_with fail
                  go_roundg gk0
                  case rel => exact ⟨k + 1, r.d, es.set W r.c, by go_num, by omega, HRN, Lib.hid (HE.out.set HLN.out.1 HDT.out), Lib.hid (HSET.out _ _ HPS.out.1 HPS.out.2.1 HPS.out.2.2)⟩
                  case measure => omega
end Go.Proofs.Ytepmmlnopdjjdaa
