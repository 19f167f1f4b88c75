/-
 DriveRuns: any operations of the program and of the document, one after another, with some cartridges.
-/
import Derived.Test.YtogeenihpcbbcaaDvRunB
import Derived.Deep.DeepCutAuto
import Derived.Deep.LoopGhost
namespace Go.Proofs.Ytogeenihpcbbcaa
open Go.RowKit
set_option linter.unusedVariables false
set_option linter.unusedSimpArgs false
set_option maxRecDepth 100000
theorem el_at {X : World} {b o : Nat} {c : Crt} {ad : Option Addr} {cap : Nat} (h : ∀ j, j < 13 → X.cell? ⟨b, o + j, none⟩ = (crC c ad cap)[j]?) :
  X.cell? ⟨b, o, none⟩ = some (.string c.bc) ∧ X.cell? ⟨b, o + 1, none⟩ = some (.int .i64 c.W) ∧ X.cell? ⟨b, o + 2, none⟩ = some (.int .i64 c.L) ∧ X.cell? ⟨b, o + 3, none⟩ = some (.int .i64 c.S) ∧ X.cell? ⟨b, o + 4, none⟩ = some (.int .i64 c.T) ∧ X.cell? ⟨b, o + 5, none⟩ = some (.int .i64 c.J) ∧ X.cell? ⟨b, o + 6, none⟩ = some (.int .i64 c.R) ∧
  X.cell? ⟨b, o + 7, none⟩ = some (.bool c.wo) ∧ X.cell? ⟨b, o + 8, none⟩ = some (.bool c.lk) ∧ X.cell? ⟨b, o + 9, none⟩ = some (.slice ad c.l.length cap) ∧ X.cell? ⟨b, o + 10, none⟩ = some (.int .i64 c.ep) ∧ X.cell? ⟨b, o + 11, none⟩ = some (.int .i64 c.lo) ∧ X.cell? ⟨b, o + 12, none⟩ = some (.int .i64 c.pa) :=
 ⟨h 0 (by omega), h 1 (by omega), h 2 (by omega), h 3 (by omega), h 4 (by omega), h 5 (by omega), h 6 (by omega), h 7 (by omega), h 8 (by omega), h 9 (by omega), h 10 (by omega), h 11 (by omega), h 12 (by omega)⟩
theorem bl {w X Y : World} (h : Hid (Below w.heap.size w X)) (hb : Below X.heap.size X Y) : Hid (Below w.heap.size w Y) := Lib.hid (h.out.trans (hb.mono h.out.size))
theorem row_cells {X Y : World} {g : Nat} {C : Array Value} {t : TypeId} (hb : Below X.heap.size X Y) (h : X.heap[g]? = some (.cells C t (0, 0))) (j : Nat) : Y.cell? ⟨g, j, none⟩ = X.cell? ⟨g, j, none⟩ := by
 rw [row_cell h, row_cell (row_next h hb)]
theorem Bx.grow {w X Y : World} {L : List (Array Value × TypeId)} (h : Bx w X L) {v : Value} (hg : X.grownBy Y v.ownBlock) (hv : ∀ j, v.ownBlock = some j → w.heap.size + L.length ≤ j) : Bx w Y L := by
 refine ⟨h.b.grown hg h.b.size (fun k hk => by have := hv k hk; omega), fun i p hp => ?_⟩
 have h1 := h.at_ i p hp
 have hi := (List.getElem?_eq_some_iff.1 hp).1
 rw [hg.block _ (Array.getElem?_eq_some_iff.1 h1).1 (fun e => by have := hv _ e.symm; omega)]
 exact h1
theorem Lk.made (X : World) (B : Nat) (hB : B ≤ X.heap.size) : Lk (X.alloc (.cells #[] 30)) B (fun _ => False) (.slice (some ⟨X.heap.size, 0, none⟩) 0 0) [] :=
 ⟨[], rfl, World.ownsRow_made X #[] 0 hB (by decide) rfl, fun k hk => by simp at hk⟩
/-- how great the cartridges are behind k operations -/
def Sz (n : Nat) (es : List Crt) (k : Nat) : Prop := es.length = n ∧ ∀ c ∈ es, c.l.length ≤ 200 + 60 * k ∧ ∀ b ∈ c.l, b.d.length ≤ 200
theorem Sz.up {n k : Nat} {es : List Crt} (h : Sz n es k) : Sz n es (k + 1) := ⟨h.1, fun c hc => ⟨by have := (h.2 c hc).1; omega, (h.2 c hc).2⟩⟩
theorem Sz.set {n k W : Nat} {es : List Crt} {x : Crt} (h : Sz n es k) (h1 : x.l.length ≤ 200 + 60 * k + 60) (h2 : ∀ b ∈ x.l, b.d.length ≤ 200) : Sz n (es.set W x) (k + 1) :=
 ⟨by rw [List.length_set]; exact h.1, fun c hc => by
  rcases List.mem_or_eq_of_mem_set hc with h3 | rfl
  ·exact h.up.2 c h3
  ·exact ⟨by omega, h2⟩⟩
attribute [local irreducible] stU fewB due worn mdlU drvU vldC
set_option maxHeartbeats 16000000 in
theorem law_runs (m : Mdl) (ca : Option Addr) (cn cc : Nat) (cs : List Crt) (sa : Option Addr) (sn sc : Nat) (ls : List St4) (w : World) (hc : Kcs w ca cs) (hcn : cn = cs.length) (hcl : cn ≤ cc) (hcm : cc ≤ maxLen) (hs : Ks4 w sa ls) (hsn : sn = ls.length) (hsl : sn ≤ sc) (hsm : sc ≤ maxLen) :
  Calls Try.prog 4 #[mdV m, .slice ca cn cc, .slice sa sn sc] w fun e w' => e = .returned (.bool true) ∧ Below w.heap.size w w' := by
 have HKC := Lib.hid hc
 have HKS := Lib.hid hs
 have HCN := Lib.hid hcn
 have HSN := Lib.hid hsn
 have hcm2 : cn ≤ 9223372036854775807 := by unfold maxLen at hcm; omega
 have hsm2 : sn ≤ 9223372036854775807 := by unfold maxLen at hsm; omega
 have HT := Lib.hid (show Bx w (w.alloc (boxMx m)) [(mdK m, 23)] from Bx.start w [(mdK m, 23)])
 clear hc hs hcn hsn hcl hcm hsl hsm
 go_enter Try.func4, Try.ntmps4
 go_wp2_with fail
 generalize World.alloc _ _ = Y0 at *
 refine (lives_any Y0).mono ?_
 rintro e Y1 ⟨rfl, hb⟩
 replace HT := Lib.hid (HT.out.next hb)
 clear hb
 go_wp2_with fail
 refine (few_any ca cn cc cs sa sn sc ls 60 Y1 (HKC.out.below HT.out.b) HCN.out (HKS.out.below HT.out.b) HSN.out hcm2 hsm2).mono ?_
 rintro e Y3 ⟨rfl, hY⟩
 obtain rfl := hY.symm
 cases hfew : fewB cs ls 60
 ·go_wp2
  go_ret
  exact ⟨rfl, HT.out.b⟩
 have hfw := fewB_iff.1 hfew
 have HOC := Lib.hid (fun c (h : c ∈ cs) => okC_iff.1 (hfw.2.1 c h))
 have HOS := Lib.hid (fun s (h : s ∈ ls) => okS_iff.1 (hfw.2.2 s h))
 have hc4 : cn ≤ 4 := by rw [HCN.out]; exact hfw.1.1
 have hs60 : sn ≤ 60 := by have h1 := hfw.1.2; rw [HSN.out]; omega
 clear hfew hfw
 go_wp2_with fail
 have HL := Lib.hid (Lk.made Y1 (w.heap.size + 1) HT.out.size)
 replace HT := Lib.hid (HT.out.next (below_boxC Y1 (.cells #[] 30)))
 generalize World.alloc Y1 _ = Y2 at *
 generalize Y1.heap.size = g0 at *
 go_loopg [7, 8] cn (fun gk v7 v8 wx => ∃ (k : Nat) (v : Value), v = v7 ∧ v8 = .int .i64 k ∧ k + gk = cn ∧ Hid (Lk wx (w.heap.size + 1) (fun _ => False) v (cs.take k)) ∧ Hid (Bx w wx [(mdK m, 23)]))
 case atStart => exact ⟨0, _, rfl, rfl, by omega, HL, HT⟩
 case round =>
  clear HT HL
  obtain ⟨k, v, rfl, rfl, hk, hl, ht⟩ := hrel
  have HT := Lib.hid ht.out
  have HL := Lib.hid hl.out
  clear hl ht
  cases gk with
  | succ gk0 =>
   have hkn : k < cn := by omega
   have hkl : k < cs.length := by rw [← HCN.out]; exact hkn
   have hlen : (cs.take k).length + 1 ≤ 100000 := by rw [List.length_take]; omega
   have HTK := Lib.hid (show cs.take (k + 1) = cs.take k ++ [cs[k]] by simp)
   have HX := Lib.hid (HOC.out _ (List.getElem_mem hkl))
   obtain ⟨b, off, ad', cap', hca, hbw, hcells, hin⟩ := HKC.out.get hkl
   subst hca
   generalize cs[k] = x at *
   have HIN := Lib.hid hin
   obtain ⟨c0, c1, c2, c3, c4, c5, c6, c7, c8, c9, c10, c11, c12⟩ := el_at (X := wr) (fun j hj => (HT.out.b.cell (p := ⟨b, off + k * 13 + j, none⟩) hbw).trans (hcells j hj))
   have HCP := Lib.hid (fun X h => rdcopied_any x ad' cap' X h (by have h1 := HX.out.1; omega) (fun b hb => by have h1 := HX.out.2 b hb; omega))
   have hbw2 : b < wr.heap.size := by have h1 := HT.out.b.size; omega
   clear hcells hin hbw
   go_wp2_with fail
   clear c0 c1 c2 c3 c4 c5 c6 c7 c8 c9 c10 c11 c12 hbw2
   refine (HCP.out wr (HIN.out.below HT.out.b)).mono ?_
   rintro e X1 ⟨ad1, cap1, rfl, hi, hkf, hb⟩
   have HL1 := Lib.hid ((HL.out.next hb).next (below_boxC X1 (boxCx x ad1 cap1)))
   have HT1 := Lib.hid ((HT.out.next hb).next (below_boxC X1 (boxCx x ad1 cap1)))
   have HG := Lib.hid (show (X1.alloc (boxCx x ad1 cap1)).heap[X1.heap.size]? = some (.cells (⟨x, ad1, cap1⟩ : Ck).cells.toArray 30 (0, 0)) from heap_alloc_new X1 (boxCx x ad1 cap1))
   have HKO := Lib.hid (show (⟨x, ad1, cap1⟩ : Ck).Out (X1.alloc (boxCx x ad1 cap1)) (fun j => False ∨ v.ownBlock = some j) from
    ⟨(KnoS.of_fr hkf (fun j hj => hj.elim False.elim (fun h => (HL.out.lt j h).2))).below (below_boxC X1 (boxCx x ad1 cap1)), hi.le, hi.mx, hi.nn, hi.bs⟩)
   have HB1 := Lib.hid (show w.heap.size + 1 ≤ (X1.alloc (boxCx x ad1 cap1)).heap.size from HT1.out.size)
   clear hi hkf hb HCP HIN
   go_wp2_with (first
    | (at_builtin; refine wpList_append_c rfl (.tmp 27) (.tmp 33) rfl (w.heap.size + 1) (fun _ => False) _ _ rfl HL1.out ⟨x, ad1, cap1⟩ X1.heap.size 1 rfl HG.out HKO.out hlen HB1.out ?_; intro v11 w11 hl11 hg11 _; have HL11 := Lib.hid (show Lk w11 (w.heap.size + 1) (fun _ => False) v11 (cs.take (k + 1)) by rw [HTK.out]; exact hl11); have HT11 := Lib.hid (HT1.out.grow hg11 (fun j hj => (HL1.out.lt j hj).1)); clear hl11 hg11 HL1 HT1 HG HKO HB1)
    | fail)
   go_roundg gk0
   case rel => exact ⟨k + 1, _, rfl, by go_num, by omega, HL11, HT11⟩
   case measure => omega
  | zero =>
   obtain rfl : k = cn := by omega
   have HL2 := Lib.hid (show Lk wr (w.heap.size + 1) (fun _ => False) v cs by have h1 := HL.out; rw [List.take_of_length_le (by rw [← HCN.out]; exact Nat.le_refl _)] at h1; exact h1)
   clear HL
   obtain ⟨va, vc, hv, -, hvl, -⟩ := HL2.out.slice
   rw [← HCN.out] at hv hvl
   subst hv
   have R0 := Lib.hid (show (wr.alloc (.cells #[.int .i64 0, .string ⟨#[]⟩, .int .i64 0, .int .i64 0, .int .i64 0, .int .i64 0] 25)).heap[wr.heap.size]? = some (.cells (drK drZ) 25 (0, 0)) from heap_alloc_new wr _)
   have HR0 := Lib.hid (show Rl w ((wr.alloc (.cells #[.int .i64 0, .string ⟨#[]⟩, .int .i64 0, .int .i64 0, .int .i64 0, .int .i64 0] 25)).setRow wr.heap.size (drK drZ)) [(mdK m, 23)] wr.heap.size drZ (.slice va k vc) cs from
    ⟨setRow_heap _ _ _ _ _ _ R0.out, (HL2.out.add _ (T := fun j => j = wr.heap.size) (fun j hj => .inr hj)).row rfl (fun j hj => Nat.ne_of_lt (HL2.out.lt j hj).2), HT.out.size, fun j hj => Nat.ne_of_lt (HL2.out.lt j hj).2, (HT.out.next (below_boxC wr _)).far HT.out.size _⟩)
   have HE0 := Lib.hid (show Sz k cs 0 from ⟨HCN.out.symm, fun c hc => ⟨(HOC.out c hc).1, (HOC.out c hc).2⟩⟩)
   clear HL2 HT HOC
   go_wp2_with (with_reducible refine wpList_store_dr rfl (.tmp 9) (.tmp 35) rfl wr.heap.size rfl _ _ _ _ _ _ rfl drZ R0.out ?_)
   clear R0
   have HR := Lib.hid HR0.out
   clear HR0
   generalize World.setRow (World.alloc wr _) _ _ = Z0 at *
   generalize wr.heap.size = dp at *
   obtain ⟨cn, hcn⟩ : ∃ n, n = k := ⟨_, rfl⟩
   subst hcn
   clear HCN HKC hk
   go_loopg [10] sn (fun gk v10 wx => ∃ (k : Nat) (d : Drv) (es : List Crt), v10 = .int .i64 k ∧ k + gk = sn ∧ Hid (Rl w wx [(mdK m, 23)] dp d (.slice va cn vc) es) ∧ Hid (Sz cn es k))
   case atStart => exact ⟨0, drZ, cs, rfl, by omega, HR, HE0⟩
   case round =>
    clear HR HE0
    obtain ⟨k, d, es, rfl, hk, hr, he⟩ := hrel
    have HR := Lib.hid hr.out
    have HE := Lib.hid he.out
    clear hr he
    cases gk with
    | zero =>
     obtain rfl : k = sn := by omega
     go_wp2
     go_ret
     exact ⟨rfl, HR.out.b.b⟩
    | succ gk0 =>
     have hks : k < sn := by omega
     have hkl : k < ls.length := by rw [← HSN.out]; exact hks
     obtain ⟨b, off, zd, zc, hsa, hbw, hcells, hsi⟩ := HKS.out.get hkl
     subst hsa
     have c0 := hcells 0 (by omega)
     have c1 := hcells 1 (by omega)
     have c2 := hcells 2 (by omega)
     have c3 := hcells 3 (by omega)
     have hzl := HOS.out _ (List.getElem_mem hkl)
     generalize ls[k] = sk at *
     obtain ⟨kind, which, nn, z⟩ := sk
     have HC := Lib.hid (show w.cell? ⟨b, off + k * 4, none⟩ = some (.int .i64 kind) ∧ w.cell? ⟨b, off + k * 4 + 1, none⟩ = some (.int .i64 which) ∧ w.cell? ⟨b, off + k * 4 + 2, none⟩ = some (.int .i64 nn) ∧ w.cell? ⟨b, off + k * 4 + 3, none⟩ = some (.slice zd z.length zc) ∧ b < w.heap.size from ⟨c0, c1, c2, c3, hbw⟩)
     have HZI := Lib.hid (hsi.ki.below HR.out.b.b)
     have HZL := Lib.hid hzl
     have s1 := (HR.out.b.b.cell (p := ⟨b, off + k * 4 + 1, none⟩) hbw).trans HC.out.2.1
     have hbw2 : b < wr.heap.size := by have h1 := HR.out.b.b.size; omega
     clear c0 c1 c2 c3 hbw hcells hkl hzl
     by_cases hw : 0 ≤ which ∧ which < (cn : Int)
     rotate_left
     ·have hpart : which < 0 ∨ (0 ≤ which ∧ (cn : Int) ≤ which) := by omega
      clear hw
      rcases hpart with h1 | ⟨h1, h2⟩
      all_goals
       go_wp2
       go_ret
       exact ⟨rfl, HR.out.b.b⟩
     obtain ⟨W, hW⟩ : ∃ W : Nat, which = (W : Int) := ⟨which.toNat, by omega⟩
     subst hW
     have hWc : W < cn := by omega
     clear hw
     obtain ⟨lg, cap, C, ad', cap', hv, hcap, hne, hg, hC, hcell, hout, hlt, hdl, hput⟩ := HR.out.put W (by rw [HE.out.1]; exact hWc)
     simp only [Value.slice.injEq] at hv
     obtain ⟨hva, -, hvc⟩ := hv
     subst hva hvc
     have HPUT := Lib.hid hput
     have HG := Lib.hid hg
     have HCC := Lib.hid hC
     have HCE := Lib.hid hcell
     have HLT := Lib.hid (And.intro hdl hlt)
     have HCX := Lib.hid (HE.out.2 _ (List.getElem_mem (show W < es.length by rw [HE.out.1]; exact hWc)))
     have HIN := Lib.hid hout.i
     clear hput hg hC hcell hout hdl hlt
     have hWe : W < es.length := by rw [HE.out.1]; exact hWc
     generalize es[W] = c at *
     clear hWe
     have HCP := Lib.hid (fun X h => rdcopied_any c ad' cap' X h (by have h1 := HCX.out.1; omega) (fun b hb => by have h1 := HCX.out.2 b hb; omega))
     have HPG := Lib.hid (fun X ad1 cap1 (h : CrIn X c ad1 cap1) hz => program_any side_prog m d c ad1 cap1 kind W nn zd z.length zc z X h hz rfl (by have h1 := HZL.out.1; simp only at h1; omega) hsi.nn ⟨hsi.n0, hsi.n1⟩)
     have HDC := Lib.hid (fun X ad1 cap1 (h : CrIn X c ad1 cap1) hz => document_any m d c ad1 cap1 kind W nn zd z.length zc z X h hz rfl (by have h1 := HZL.out.1; simp only at h1; omega) hsi.nn ⟨hsi.n0, hsi.n1⟩)
     have HLN := Lib.hid (show (stU m d c kind nn z).c.l.length ≤ 200 + 60 * k + 60 ∧ (stU m d c kind nn z).l.length ≤ 200 + 60 * k by have h0 := stU_len m d c kind nn z; have h1 := HCX.out.1; have h2 := HZL.out.1; simp only at h2; omega)
     have HDT := Lib.hid (show ∀ b ∈ (stU m d c kind nn z).c.l, b.d.length ≤ 200 from fun b hb => (stU_sub m d c kind nn z b hb).elim (fun h => HCX.out.2 b h) (fun h => HZL.out.2 b h))
     generalize stU m d c kind nn z = r at *
     clear hsi HCX
     go_upto_region 17 with fail
     clear s1
     go_cut [12, 13] (fun s12 s13 wx => ∃ p q ad2 n2 cap2 zd2 zn2 zc2 ad4 n4 cap4 zd4 zn4 zc4, s12 = .pointer (some ⟨p, 0, none⟩) ∧ s13 = .pointer (some ⟨q, 0, none⟩) ∧ Hid (StR wr wx (fun j : Nat => j = dp ∨ j = lg) p q r ad2 n2 cap2 zd2 zn2 zc2 ad4 n4 cap4 zd4 zn4 zc4))
     case first =>
      have HT := Lib.hid (Below.refl wr.heap.size wr).drew
      refine wp_region_noPanic ?_
      refine wp_region_held_drew (S := (fun X => Below wr.heap.size wr X)) (by kernel_rfl) (HT.out) (fun hS0 => ?_)
      generalize World.drew wr = X0 at *
      refine held_take (i := 0) (v := ?_) rfl (by kernel_rfl) (by kernel_rfl) (by kernel_rfl) (fun _ _ _ h => h) (by rfl) ?_ (by assumption) ?_
      rotate_left
      ·intro X hSX
       try dsimp only at hSX
       obtain ⟨_, m0, m1, m2, m3, m4⟩ := (HR.out.b.next hSX).m
       go_simp <;> with_reducible rfl
      simp only [Act.put, List.setIfInBounds_toArray, List.set_cons_zero, List.set_cons_succ]
      refine held_take (i := 12) (v := ?_) rfl (by kernel_rfl) (by kernel_rfl) (by kernel_rfl) (fun _ _ _ h => h) (by rfl) ?_ (by assumption) ?_
      rotate_left
      ·intro X hSX
       try dsimp only at hSX
       obtain ⟨_, m0, m1, m2, m3, m4⟩ := (HR.out.b.next hSX).m
       go_simp <;> with_reducible rfl
      simp only [Act.put, List.setIfInBounds_toArray, List.set_cons_zero, List.set_cons_succ]
      refine held_take (i := 1) (v := ?_) rfl (by kernel_rfl) (by kernel_rfl) (by kernel_rfl) (fun _ _ _ h => h) (by rfl) ?_ (by assumption) ?_
      rotate_left
      ·intro X hSX
       try dsimp only at hSX
       obtain ⟨_, d0, d1, d2, d3, d4, d5⟩ := DrAt.of (row_next HR.out.x hSX)
       go_simp <;> with_reducible rfl
      simp only [Act.put, List.setIfInBounds_toArray, List.set_cons_zero, List.set_cons_succ]
      refine held_take (i := 13) (v := ?_) rfl (by kernel_rfl) (by kernel_rfl) (by kernel_rfl) (fun _ _ _ h => h) (by rfl) ?_ (by assumption) ?_
      rotate_left
      ·intro X hSX
       try dsimp only at hSX
       obtain ⟨_, d0, d1, d2, d3, d4, d5⟩ := DrAt.of (row_next HR.out.x hSX)
       go_simp <;> with_reducible rfl
      simp only [Act.put, List.setIfInBounds_toArray, List.set_cons_zero, List.set_cons_succ]
      refine held_take (i := 2) (v := ?_) rfl (by kernel_rfl) (by kernel_rfl) (by kernel_rfl) (fun _ _ _ h => h) (by rfl) ?_ (by assumption) ?_
      rotate_left
      ·intro X hSX
       try dsimp only at hSX
       go_simp <;> with_reducible rfl
      simp only [Act.put, List.setIfInBounds_toArray, List.set_cons_zero, List.set_cons_succ]
      refine held_take (i := 3) (v := ?_) rfl (by kernel_rfl) (by kernel_rfl) (by kernel_rfl) (fun _ _ _ h => h) (by rfl) ?_ (by assumption) ?_
      rotate_left
      ·intro X hSX
       try dsimp only at hSX
       go_simp <;> with_reducible rfl
      simp only [Act.put, List.setIfInBounds_toArray, List.set_cons_zero, List.set_cons_succ]
      refine held_take (i := 14) (v := ?_) rfl (by kernel_rfl) (by kernel_rfl) (by kernel_rfl) (fun _ _ _ h => h) (by rfl) ?_ (by assumption) ?_
      rotate_left
      ·intro X hSX
       try dsimp only at hSX
       go_simp <;> with_reducible rfl
      simp only [Act.put, List.setIfInBounds_toArray, List.set_cons_zero, List.set_cons_succ]
      refine held_take (i := 15) (v := ?_) rfl (by kernel_rfl) (by kernel_rfl) (by kernel_rfl) (fun _ _ _ h => h) (by rfl) ?_ (by assumption) ?_
      rotate_left
      ·intro X hSX
       try dsimp only at hSX
       go_simp <;> with_reducible rfl
      simp only [Act.put, List.setIfInBounds_toArray, List.set_cons_zero, List.set_cons_succ]
      refine held_take (i := 4) (v := ?_) rfl (by kernel_rfl) (by kernel_rfl) (by kernel_rfl) (fun _ _ _ h => h) (by rfl) ?_ (by assumption) ?_
      rotate_left
      ·intro X hSX
       try dsimp only at hSX
       go_simp <;> with_reducible rfl
      simp only [Act.put, List.setIfInBounds_toArray, List.set_cons_zero, List.set_cons_succ]
      refine held_take (i := 16) (v := ?_) rfl (by kernel_rfl) (by kernel_rfl) (by kernel_rfl) (fun _ _ _ h => h) (by rfl) ?_ (by assumption) ?_
      rotate_left
      ·intro X hSX
       try dsimp only at hSX
       go_simp <;> with_reducible rfl
      simp only [Act.put, List.setIfInBounds_toArray, List.set_cons_zero, List.set_cons_succ]
      refine held_take (i := 5) (v := ?_) rfl (by kernel_rfl) (by kernel_rfl) (by kernel_rfl) (fun _ _ _ h => h) (by rfl) ?_ (by assumption) ?_
      rotate_left
      ·intro X hSX
       try dsimp only at hSX
       obtain ⟨k0, k1, k2, k3, k4, k5, k6, k7, k8, k9, k10, k11, k12⟩ := el_at (fun j hj => (row_cells hSX HG.out (W * 13 + j)).trans (HCE.out j hj))
       go_simp <;> with_reducible rfl
      simp only [Act.put, List.setIfInBounds_toArray, List.set_cons_zero, List.set_cons_succ]
      refine held_take (i := 17) (v := ?_) rfl (by kernel_rfl) (by kernel_rfl) (by kernel_rfl) (fun _ _ _ h => h) (by rfl) ?_ (by assumption) ?_
      rotate_left
      ·intro X hSX
       try dsimp only at hSX
       obtain ⟨k0, k1, k2, k3, k4, k5, k6, k7, k8, k9, k10, k11, k12⟩ := el_at (fun j hj => (row_cells hSX HG.out (W * 13 + j)).trans (HCE.out j hj))
       go_simp <;> with_reducible rfl
      simp only [Act.put, List.setIfInBounds_toArray, List.set_cons_zero, List.set_cons_succ]
      refine held_take (i := 7) (v := ?_) rfl (by kernel_rfl) (by kernel_rfl) (by kernel_rfl) (fun _ _ _ h => h) (by rfl) ?_ (by assumption) ?_
      rotate_left
      ·intro X hSX
       try dsimp only at hSX
       go_simp <;> with_reducible rfl
      simp only [Act.put, List.setIfInBounds_toArray, List.set_cons_zero, List.set_cons_succ]
      refine held_take (i := 8) (v := ?_) rfl (by kernel_rfl) (by kernel_rfl) (by kernel_rfl) (fun _ _ _ h => h) (by rfl) ?_ (by assumption) ?_
      rotate_left
      ·intro X hSX
       try dsimp only at hSX
       go_simp <;> with_reducible rfl
      simp only [Act.put, List.setIfInBounds_toArray, List.set_cons_zero, List.set_cons_succ]
      refine held_take (i := 9) (v := ?_) rfl (by kernel_rfl) (by kernel_rfl) (by kernel_rfl) (fun _ _ _ h => h) (by rfl) ?_ (by assumption) ?_
      rotate_left
      ·intro X hSX
       try dsimp only at hSX
       go_simp <;> with_reducible rfl
      simp only [Act.put, List.setIfInBounds_toArray, List.set_cons_zero, List.set_cons_succ]
      refine held_take (i := 19) (v := ?_) rfl (by kernel_rfl) (by kernel_rfl) (by kernel_rfl) (fun _ _ _ h => h) (by rfl) ?_ (by assumption) ?_
      rotate_left
      ·intro X hSX
       try dsimp only at hSX
       go_simp <;> with_reducible rfl
      simp only [Act.put, List.setIfInBounds_toArray, List.set_cons_zero, List.set_cons_succ]
      refine held_take (i := 20) (v := ?_) rfl (by kernel_rfl) (by kernel_rfl) (by kernel_rfl) (fun _ _ _ h => h) (by rfl) ?_ (by assumption) ?_
      rotate_left
      ·intro X hSX
       try dsimp only at hSX
       go_simp <;> with_reducible rfl
      simp only [Act.put, List.setIfInBounds_toArray, List.set_cons_zero, List.set_cons_succ]
      refine held_take (i := 21) (v := ?_) rfl (by kernel_rfl) (by kernel_rfl) (by kernel_rfl) (fun _ _ _ h => h) (by rfl) ?_ (by assumption) ?_
      rotate_left
      ·intro X hSX
       try dsimp only at hSX
       go_simp <;> with_reducible rfl
      simp only [Act.put, List.setIfInBounds_toArray, List.set_cons_zero, List.set_cons_succ]
      refine held_take (i := 10) (v := ?_) rfl (by kernel_rfl) (by kernel_rfl) (by kernel_rfl) (fun _ _ _ h => h) (by rfl) ?_ (by assumption) ?_
      rotate_left
      ·intro X hSX
       try dsimp only at hSX
       have s0 := ((HR.out.b.next hSX).b.cell (p := ⟨b, off + k * 4, none⟩) HC.out.2.2.2.2).trans HC.out.1
       have s1 := ((HR.out.b.next hSX).b.cell (p := ⟨b, off + k * 4 + 1, none⟩) HC.out.2.2.2.2).trans HC.out.2.1
       have s2 := ((HR.out.b.next hSX).b.cell (p := ⟨b, off + k * 4 + 2, none⟩) HC.out.2.2.2.2).trans HC.out.2.2.1
       have s3 := ((HR.out.b.next hSX).b.cell (p := ⟨b, off + k * 4 + 3, none⟩) HC.out.2.2.2.2).trans HC.out.2.2.2.1
       go_simp <;> with_reducible rfl
      simp only [Act.put, List.setIfInBounds_toArray, List.set_cons_zero, List.set_cons_succ]
      refine held_take (i := 22) (v := ?_) rfl (by kernel_rfl) (by kernel_rfl) (by kernel_rfl) (fun _ _ _ h => h) (by rfl) ?_ (by assumption) ?_
      rotate_left
      ·intro X hSX
       try dsimp only at hSX
       have s0 := ((HR.out.b.next hSX).b.cell (p := ⟨b, off + k * 4, none⟩) HC.out.2.2.2.2).trans HC.out.1
       have s1 := ((HR.out.b.next hSX).b.cell (p := ⟨b, off + k * 4 + 1, none⟩) HC.out.2.2.2.2).trans HC.out.2.1
       have s2 := ((HR.out.b.next hSX).b.cell (p := ⟨b, off + k * 4 + 2, none⟩) HC.out.2.2.2.2).trans HC.out.2.2.1
       have s3 := ((HR.out.b.next hSX).b.cell (p := ⟨b, off + k * 4 + 3, none⟩) HC.out.2.2.2.2).trans HC.out.2.2.2.1
       go_simp <;> with_reducible rfl
      simp only [Act.put, List.setIfInBounds_toArray, List.set_cons_zero, List.set_cons_succ]
      refine held_three (i := 6) (j := 24) (k := 25) rfl rfl rfl (by kernel_rfl) (by rfl) (by rfl) (by rfl) (fun K' hK' => ?_) (fun K' hK' => ?_) (fun K' hK' => ?_)
      ·as_aux_lemma =>
       go_simp
       refine (HCP.out X0 (HIN.out.below HT.out)).mono ?_
       rintro e X1 ⟨ad1, cap1, rfl, hi, hkf, hb⟩
       have HI1 := Lib.hid hi
       have HK1 := Lib.hid (show KnoS X1 (fun j : Nat => (j = dp ∨ j = lg)) ad1 c.l from KnoS.of_fr hkf (fun k (hk : (k = dp ∨ k = lg)) => by have h_b := HLT.out; have h_t := HT.out.size; omega))
       clear hi hkf
       replace HT := bl HT hb
       refine held_go hK' (HT.out) ?_
       try simp only [Act.put, List.setIfInBounds_toArray, List.set_cons_zero, List.set_cons_succ]
       clear hS0
       have hS0 := HT.out
       clear hb
       refine held_three (i := 11) (j := 24) (k := 25) rfl rfl rfl (by kernel_rfl) (by rfl) (by rfl) (by rfl) (fun K' hK' => ?_) (fun K' hK' => ?_) (fun K' hK' => ?_)
       ·as_aux_lemma =>
        go_simp
        refine (HPG.out X1 ad1 cap1 HI1.out (HZI.out.below HT.out)).mono ?_
        rintro e X2 hret
        obtain ⟨ad2, n2, cap2, zd2, zn2, zc2, rfl, hok, hb⟩ := DnOk.of (S := (fun j : Nat => (j = dp ∨ j = lg))) hret HK1.out (fun k (hk : (k = dp ∨ k = lg)) => by have h_b := HLT.out; have h_t := HT.out.size; omega)
        have HOK2 := Lib.hid hok
        clear hret hok HI1 HK1
        replace HT := bl HT hb
        refine held_go hK' (HT.out) ?_
        try simp only [Act.put, List.setIfInBounds_toArray, List.set_cons_zero, List.set_cons_succ]
        clear hS0
        have hS0 := HT.out
        clear hb
        refine held_three (i := 18) (j := 24) (k := 25) rfl rfl rfl (by kernel_rfl) (by rfl) (by rfl) (by rfl) (fun K' hK' => ?_) (fun K' hK' => ?_) (fun K' hK' => ?_)
        ·as_aux_lemma =>
         go_simp
         refine (HCP.out X2 (HIN.out.below HT.out)).mono ?_
         rintro e X3 ⟨ad3, cap3, rfl, hi, hkf, hb⟩
         have HI3 := Lib.hid hi
         have HK3 := Lib.hid (show KnoS X3 (fun j : Nat => (j = dp ∨ j = lg)) ad3 c.l from KnoS.of_fr hkf (fun k (hk : (k = dp ∨ k = lg)) => by have h_b := HLT.out; have h_t := HT.out.size; omega))
         clear hi hkf
         replace HOK2 := Lib.hid (HOK2.out.below hb)
         replace HT := bl HT hb
         refine held_go hK' (HT.out) ?_
         try simp only [Act.put, List.setIfInBounds_toArray, List.set_cons_zero, List.set_cons_succ]
         clear hS0
         have hS0 := HT.out
         clear hb
         refine held_three (i := 23) (j := 24) (k := 25) rfl rfl rfl (by kernel_rfl) (by rfl) (by rfl) (by rfl) (fun K' hK' => ?_) (fun K' hK' => ?_) (fun K' hK' => ?_)
         ·as_aux_lemma =>
          go_simp
          refine (HDC.out X3 ad3 cap3 HI3.out (HZI.out.below HT.out)).mono ?_
          rintro e X4 hret
          obtain ⟨ad4, n4, cap4, zd4, zn4, zc4, rfl, hok, hb⟩ := DnOk.of (S := (fun j : Nat => (j = dp ∨ j = lg))) hret HK3.out (fun k (hk : (k = dp ∨ k = lg)) => by have h_b := HLT.out; have h_t := HT.out.size; omega)
          have HOK4 := Lib.hid hok
          clear hret hok HI3 HK3
          replace HOK2 := Lib.hid (HOK2.out.below hb)
          replace HT := bl HT hb
          refine held_go hK' (HT.out) ?_
          try simp only [Act.put, List.setIfInBounds_toArray, List.set_cons_zero, List.set_cons_succ]
          clear hS0
          have hS0 := HT.out
          clear hb
          refine held_two (i := 24) (j := 25) rfl rfl (by kernel_rfl) (by rfl) (by rfl) (fun K' hK' => ?_) (fun K' hK' => ?_)
          ·as_aux_lemma =>
           go_simp
           have HPp := Lib.hid (heap_alloc_new X4 boxDn)
           have HNp := Lib.hid (show wr.heap.size ≤ X4.heap.size from HT.out.size)
           replace HOK2 := Lib.hid (HOK2.out.add (T := (fun j : Nat => (j = dp ∨ j = lg) ∨ j = X4.heap.size)) boxDn (fun k hk => hk))
           replace HOK4 := Lib.hid (HOK4.out.add (T := (fun j : Nat => (j = dp ∨ j = lg) ∨ j = X4.heap.size)) boxDn (fun k hk => hk))
           replace HT := bl HT (below_boxC X4 boxDn)
           refine held_go hK' (HT.out) ?_
           try simp only [Act.put, List.setIfInBounds_toArray, List.set_cons_zero, List.set_cons_succ]
           generalize World.alloc X4 _ = X5 at *
           generalize X4.heap.size = p at *
           clear hS0
           have hS0 := HT.out
           refine held_call (i := 25) rfl (by kernel_rfl) (by rfl) (fun K' hK' => ?_)
           go_simp
           have HPq := Lib.hid (heap_alloc_new X5 boxDn)
           have HNq := Lib.hid (show wr.heap.size ≤ X5.heap.size from HT.out.size)
           have HNE := Lib.hid (show p ≠ X5.heap.size ∨ X5.heap.size ≠ p by have h1 := (Array.getElem?_eq_some_iff.1 HPp.out).1; omega)
           replace HPp := Lib.hid (row_next HPp.out (below_boxC X5 boxDn))
           replace HOK2 := Lib.hid (HOK2.out.add (T := (fun j : Nat => (j = dp ∨ j = lg) ∨ j = p ∨ j = X5.heap.size)) boxDn (fun k hk => or_last hk))
           replace HOK4 := Lib.hid (HOK4.out.add (T := (fun j : Nat => (j = dp ∨ j = lg) ∨ j = p ∨ j = X5.heap.size)) boxDn (fun k hk => or_last hk))
           replace HT := bl HT (below_boxC X5 boxDn)
           refine held_go hK' (HT.out) ?_
           try simp only [Act.put, List.setIfInBounds_toArray, List.set_cons_zero, List.set_cons_succ]
           generalize World.alloc X5 _ = X6 at *
           generalize X5.heap.size = q at *
           clear hS0
           have hS0 := HT.out
           refine held_call (i := 26) rfl (by kernel_rfl) (by rfl) (fun K' hK' => ?_)
           refine oper_store_dn (.tmp 12) (.tmp 66) rfl p rfl _ _ _ _ _ _ _ _ _ _ rfl HPp.out ?_
           refine held_go hK' (below_row HT.out HNp.out _) ?_
           try simp only [Act.put, List.setIfInBounds_toArray, List.set_cons_zero, List.set_cons_succ]
           have HSB := Lib.hid (str_fin HPp.out HPq.out HNE.out HOK2.out HOK4.out HNp.out HNq.out HT.out)
           clear hS0
           have hS0 := below_row HT.out HNp.out (dnK r.d r.c ad2 n2 cap2 zd2 zn2 zc2 r.t r.e)
           replace HPq := Lib.hid (str_far HPq.out HNE.out (dnK r.d r.c ad2 n2 cap2 zd2 zn2 zc2 r.t r.e))
           refine held_call (i := 27) rfl (by kernel_rfl) (by rfl) (fun K' hK' => ?_)
           refine oper_store_dn (.tmp 13) (.tmp 78) rfl q rfl _ _ _ _ _ _ _ _ _ _ rfl HPq.out ?_
           refine held_go hK' (HSB.out.b) ?_
           try simp only [Act.put, List.setIfInBounds_toArray, List.set_cons_zero, List.set_cons_succ]
           refine wpAnyH_done (by kernel_rfl) ?_ _
           refine NoPanic.normal ?_
           go_wp2_with fail
           go_meet
           exact ⟨_, _, _, _, _, _, _, _, _, _, _, _, _, _, rfl, rfl, HSB⟩
          ·as_aux_lemma =>
           go_simp
           have HPq := Lib.hid (heap_alloc_new X4 boxDn)
           have HNq := Lib.hid (show wr.heap.size ≤ X4.heap.size from HT.out.size)
           replace HOK2 := Lib.hid (HOK2.out.add (T := (fun j : Nat => (j = dp ∨ j = lg) ∨ j = X4.heap.size)) boxDn (fun k hk => hk))
           replace HOK4 := Lib.hid (HOK4.out.add (T := (fun j : Nat => (j = dp ∨ j = lg) ∨ j = X4.heap.size)) boxDn (fun k hk => hk))
           replace HT := bl HT (below_boxC X4 boxDn)
           refine held_go hK' (HT.out) ?_
           try simp only [Act.put, List.setIfInBounds_toArray, List.set_cons_zero, List.set_cons_succ]
           generalize World.alloc X4 _ = X5 at *
           generalize X4.heap.size = q at *
           clear hS0
           have hS0 := HT.out
           refine held_call (i := 24) rfl (by kernel_rfl) (by rfl) (fun K' hK' => ?_)
           go_simp
           have HPp := Lib.hid (heap_alloc_new X5 boxDn)
           have HNp := Lib.hid (show wr.heap.size ≤ X5.heap.size from HT.out.size)
           have HNE := Lib.hid (show X5.heap.size ≠ q ∨ q ≠ X5.heap.size by have h1 := (Array.getElem?_eq_some_iff.1 HPq.out).1; omega)
           replace HPq := Lib.hid (row_next HPq.out (below_boxC X5 boxDn))
           replace HOK2 := Lib.hid (HOK2.out.add (T := (fun j : Nat => (j = dp ∨ j = lg) ∨ j = X5.heap.size ∨ j = q)) boxDn (fun k hk => or_mid hk))
           replace HOK4 := Lib.hid (HOK4.out.add (T := (fun j : Nat => (j = dp ∨ j = lg) ∨ j = X5.heap.size ∨ j = q)) boxDn (fun k hk => or_mid hk))
           replace HT := bl HT (below_boxC X5 boxDn)
           refine held_go hK' (HT.out) ?_
           try simp only [Act.put, List.setIfInBounds_toArray, List.set_cons_zero, List.set_cons_succ]
           generalize World.alloc X5 _ = X6 at *
           generalize X5.heap.size = p at *
           clear hS0
           have hS0 := HT.out
           refine held_call (i := 26) rfl (by kernel_rfl) (by rfl) (fun K' hK' => ?_)
           refine oper_store_dn (.tmp 12) (.tmp 66) rfl p rfl _ _ _ _ _ _ _ _ _ _ rfl HPp.out ?_
           refine held_go hK' (below_row HT.out HNp.out _) ?_
           try simp only [Act.put, List.setIfInBounds_toArray, List.set_cons_zero, List.set_cons_succ]
           have HSB := Lib.hid (str_fin HPp.out HPq.out HNE.out HOK2.out HOK4.out HNp.out HNq.out HT.out)
           clear hS0
           have hS0 := below_row HT.out HNp.out (dnK r.d r.c ad2 n2 cap2 zd2 zn2 zc2 r.t r.e)
           replace HPq := Lib.hid (str_far HPq.out HNE.out (dnK r.d r.c ad2 n2 cap2 zd2 zn2 zc2 r.t r.e))
           refine held_call (i := 27) rfl (by kernel_rfl) (by rfl) (fun K' hK' => ?_)
           refine oper_store_dn (.tmp 13) (.tmp 78) rfl q rfl _ _ _ _ _ _ _ _ _ _ rfl HPq.out ?_
           refine held_go hK' (HSB.out.b) ?_
           try simp only [Act.put, List.setIfInBounds_toArray, List.set_cons_zero, List.set_cons_succ]
           refine wpAnyH_done (by kernel_rfl) ?_ _
           refine NoPanic.normal ?_
           go_wp2_with fail
           go_meet
           exact ⟨_, _, _, _, _, _, _, _, _, _, _, _, _, _, rfl, rfl, HSB⟩
         ·as_aux_lemma =>
          go_simp
          have HPp := Lib.hid (heap_alloc_new X3 boxDn)
          have HNp := Lib.hid (show wr.heap.size ≤ X3.heap.size from HT.out.size)
          replace HOK2 := Lib.hid (HOK2.out.add (T := (fun j : Nat => (j = dp ∨ j = lg) ∨ j = X3.heap.size)) boxDn (fun k hk => hk))
          replace HI3 := Lib.hid (HI3.out.below (below_boxC X3 boxDn))
          replace HK3 := Lib.hid (HK3.out.add (T := (fun j : Nat => (j = dp ∨ j = lg) ∨ j = X3.heap.size)) boxDn (fun k hk => hk))
          replace HT := bl HT (below_boxC X3 boxDn)
          refine held_go hK' (HT.out) ?_
          try simp only [Act.put, List.setIfInBounds_toArray, List.set_cons_zero, List.set_cons_succ]
          generalize World.alloc X3 _ = X4 at *
          generalize X3.heap.size = p at *
          clear hS0
          have hS0 := HT.out
          refine held_two (i := 23) (j := 25) rfl rfl (by kernel_rfl) (by rfl) (by rfl) (fun K' hK' => ?_) (fun K' hK' => ?_)
          ·as_aux_lemma =>
           go_simp
           refine (HDC.out X4 ad3 cap3 HI3.out (HZI.out.below HT.out)).mono ?_
           rintro e X5 hret
           obtain ⟨ad4, n4, cap4, zd4, zn4, zc4, rfl, hok, hb⟩ := DnOk.of (S := (fun j : Nat => (j = dp ∨ j = lg) ∨ j = p)) hret HK3.out (fun k (hk : (k = dp ∨ k = lg) ∨ k = p) => by have h_p := (Array.getElem?_eq_some_iff.1 HPp.out).1; have h_b := HLT.out; have h_t := HT.out.size; omega)
           have HOK4 := Lib.hid hok
           clear hret hok HI3 HK3
           replace HPp := Lib.hid (row_next HPp.out hb)
           replace HOK2 := Lib.hid (HOK2.out.below hb)
           replace HT := bl HT hb
           refine held_go hK' (HT.out) ?_
           try simp only [Act.put, List.setIfInBounds_toArray, List.set_cons_zero, List.set_cons_succ]
           clear hS0
           have hS0 := HT.out
           clear hb
           refine held_call (i := 25) rfl (by kernel_rfl) (by rfl) (fun K' hK' => ?_)
           go_simp
           have HPq := Lib.hid (heap_alloc_new X5 boxDn)
           have HNq := Lib.hid (show wr.heap.size ≤ X5.heap.size from HT.out.size)
           have HNE := Lib.hid (show p ≠ X5.heap.size ∨ X5.heap.size ≠ p by have h1 := (Array.getElem?_eq_some_iff.1 HPp.out).1; omega)
           replace HPp := Lib.hid (row_next HPp.out (below_boxC X5 boxDn))
           replace HOK2 := Lib.hid (HOK2.out.add (T := (fun j : Nat => (j = dp ∨ j = lg) ∨ j = p ∨ j = X5.heap.size)) boxDn (fun k hk => or_last hk))
           replace HOK4 := Lib.hid (HOK4.out.add (T := (fun j : Nat => (j = dp ∨ j = lg) ∨ j = p ∨ j = X5.heap.size)) boxDn (fun k hk => or_last hk))
           replace HT := bl HT (below_boxC X5 boxDn)
           refine held_go hK' (HT.out) ?_
           try simp only [Act.put, List.setIfInBounds_toArray, List.set_cons_zero, List.set_cons_succ]
           generalize World.alloc X5 _ = X6 at *
           generalize X5.heap.size = q at *
           clear hS0
           have hS0 := HT.out
           refine held_call (i := 26) rfl (by kernel_rfl) (by rfl) (fun K' hK' => ?_)
           refine oper_store_dn (.tmp 12) (.tmp 66) rfl p rfl _ _ _ _ _ _ _ _ _ _ rfl HPp.out ?_
           refine held_go hK' (below_row HT.out HNp.out _) ?_
           try simp only [Act.put, List.setIfInBounds_toArray, List.set_cons_zero, List.set_cons_succ]
           have HSB := Lib.hid (str_fin HPp.out HPq.out HNE.out HOK2.out HOK4.out HNp.out HNq.out HT.out)
           clear hS0
           have hS0 := below_row HT.out HNp.out (dnK r.d r.c ad2 n2 cap2 zd2 zn2 zc2 r.t r.e)
           replace HPq := Lib.hid (str_far HPq.out HNE.out (dnK r.d r.c ad2 n2 cap2 zd2 zn2 zc2 r.t r.e))
           refine held_call (i := 27) rfl (by kernel_rfl) (by rfl) (fun K' hK' => ?_)
           refine oper_store_dn (.tmp 13) (.tmp 78) rfl q rfl _ _ _ _ _ _ _ _ _ _ rfl HPq.out ?_
           refine held_go hK' (HSB.out.b) ?_
           try simp only [Act.put, List.setIfInBounds_toArray, List.set_cons_zero, List.set_cons_succ]
           refine wpAnyH_done (by kernel_rfl) ?_ _
           refine NoPanic.normal ?_
           go_wp2_with fail
           go_meet
           exact ⟨_, _, _, _, _, _, _, _, _, _, _, _, _, _, rfl, rfl, HSB⟩
          ·as_aux_lemma =>
           go_simp
           have HPq := Lib.hid (heap_alloc_new X4 boxDn)
           have HNq := Lib.hid (show wr.heap.size ≤ X4.heap.size from HT.out.size)
           have HNE := Lib.hid (show p ≠ X4.heap.size ∨ X4.heap.size ≠ p by have h1 := (Array.getElem?_eq_some_iff.1 HPp.out).1; omega)
           replace HPp := Lib.hid (row_next HPp.out (below_boxC X4 boxDn))
           replace HOK2 := Lib.hid (HOK2.out.add (T := (fun j : Nat => (j = dp ∨ j = lg) ∨ j = p ∨ j = X4.heap.size)) boxDn (fun k hk => or_last hk))
           replace HI3 := Lib.hid (HI3.out.below (below_boxC X4 boxDn))
           replace HK3 := Lib.hid (HK3.out.add (T := (fun j : Nat => (j = dp ∨ j = lg) ∨ j = p ∨ j = X4.heap.size)) boxDn (fun k hk => or_last hk))
           replace HT := bl HT (below_boxC X4 boxDn)
           refine held_go hK' (HT.out) ?_
           try simp only [Act.put, List.setIfInBounds_toArray, List.set_cons_zero, List.set_cons_succ]
           generalize World.alloc X4 _ = X5 at *
           generalize X4.heap.size = q at *
           clear hS0
           have hS0 := HT.out
           refine held_call (i := 23) rfl (by kernel_rfl) (by rfl) (fun K' hK' => ?_)
           go_simp
           refine (HDC.out X5 ad3 cap3 HI3.out (HZI.out.below HT.out)).mono ?_
           rintro e X6 hret
           obtain ⟨ad4, n4, cap4, zd4, zn4, zc4, rfl, hok, hb⟩ := DnOk.of (S := (fun j : Nat => (j = dp ∨ j = lg) ∨ j = p ∨ j = q)) hret HK3.out (fun k (hk : (k = dp ∨ k = lg) ∨ k = p ∨ k = q) => by have h_p := (Array.getElem?_eq_some_iff.1 HPp.out).1; have h_q := (Array.getElem?_eq_some_iff.1 HPq.out).1; have h_b := HLT.out; have h_t := HT.out.size; omega)
           have HOK4 := Lib.hid hok
           clear hret hok HI3 HK3
           replace HPp := Lib.hid (row_next HPp.out hb)
           replace HPq := Lib.hid (row_next HPq.out hb)
           replace HOK2 := Lib.hid (HOK2.out.below hb)
           replace HT := bl HT hb
           refine held_go hK' (HT.out) ?_
           try simp only [Act.put, List.setIfInBounds_toArray, List.set_cons_zero, List.set_cons_succ]
           clear hS0
           have hS0 := HT.out
           clear hb
           refine held_call (i := 26) rfl (by kernel_rfl) (by rfl) (fun K' hK' => ?_)
           refine oper_store_dn (.tmp 12) (.tmp 66) rfl p rfl _ _ _ _ _ _ _ _ _ _ rfl HPp.out ?_
           refine held_go hK' (below_row HT.out HNp.out _) ?_
           try simp only [Act.put, List.setIfInBounds_toArray, List.set_cons_zero, List.set_cons_succ]
           have HSB := Lib.hid (str_fin HPp.out HPq.out HNE.out HOK2.out HOK4.out HNp.out HNq.out HT.out)
           clear hS0
           have hS0 := below_row HT.out HNp.out (dnK r.d r.c ad2 n2 cap2 zd2 zn2 zc2 r.t r.e)
           replace HPq := Lib.hid (str_far HPq.out HNE.out (dnK r.d r.c ad2 n2 cap2 zd2 zn2 zc2 r.t r.e))
           refine held_call (i := 27) rfl (by kernel_rfl) (by rfl) (fun K' hK' => ?_)
           refine oper_store_dn (.tmp 13) (.tmp 78) rfl q rfl _ _ _ _ _ _ _ _ _ _ rfl HPq.out ?_
           refine held_go hK' (HSB.out.b) ?_
           try simp only [Act.put, List.setIfInBounds_toArray, List.set_cons_zero, List.set_cons_succ]
           refine wpAnyH_done (by kernel_rfl) ?_ _
           refine NoPanic.normal ?_
           go_wp2_with fail
           go_meet
           exact ⟨_, _, _, _, _, _, _, _, _, _, _, _, _, _, rfl, rfl, HSB⟩
         ·as_aux_lemma =>
          go_simp
          have HPq := Lib.hid (heap_alloc_new X3 boxDn)
          have HNq := Lib.hid (show wr.heap.size ≤ X3.heap.size from HT.out.size)
          replace HOK2 := Lib.hid (HOK2.out.add (T := (fun j : Nat => (j = dp ∨ j = lg) ∨ j = X3.heap.size)) boxDn (fun k hk => hk))
          replace HI3 := Lib.hid (HI3.out.below (below_boxC X3 boxDn))
          replace HK3 := Lib.hid (HK3.out.add (T := (fun j : Nat => (j = dp ∨ j = lg) ∨ j = X3.heap.size)) boxDn (fun k hk => hk))
          replace HT := bl HT (below_boxC X3 boxDn)
          refine held_go hK' (HT.out) ?_
          try simp only [Act.put, List.setIfInBounds_toArray, List.set_cons_zero, List.set_cons_succ]
          generalize World.alloc X3 _ = X4 at *
          generalize X3.heap.size = q at *
          clear hS0
          have hS0 := HT.out
          refine held_two (i := 23) (j := 24) rfl rfl (by kernel_rfl) (by rfl) (by rfl) (fun K' hK' => ?_) (fun K' hK' => ?_)
          ·as_aux_lemma =>
           go_simp
           refine (HDC.out X4 ad3 cap3 HI3.out (HZI.out.below HT.out)).mono ?_
           rintro e X5 hret
           obtain ⟨ad4, n4, cap4, zd4, zn4, zc4, rfl, hok, hb⟩ := DnOk.of (S := (fun j : Nat => (j = dp ∨ j = lg) ∨ j = q)) hret HK3.out (fun k (hk : (k = dp ∨ k = lg) ∨ k = q) => by have h_q := (Array.getElem?_eq_some_iff.1 HPq.out).1; have h_b := HLT.out; have h_t := HT.out.size; omega)
           have HOK4 := Lib.hid hok
           clear hret hok HI3 HK3
           replace HPq := Lib.hid (row_next HPq.out hb)
           replace HOK2 := Lib.hid (HOK2.out.below hb)
           replace HT := bl HT hb
           refine held_go hK' (HT.out) ?_
           try simp only [Act.put, List.setIfInBounds_toArray, List.set_cons_zero, List.set_cons_succ]
           clear hS0
           have hS0 := HT.out
           clear hb
           refine held_call (i := 24) rfl (by kernel_rfl) (by rfl) (fun K' hK' => ?_)
           go_simp
           have HPp := Lib.hid (heap_alloc_new X5 boxDn)
           have HNp := Lib.hid (show wr.heap.size ≤ X5.heap.size from HT.out.size)
           have HNE := Lib.hid (show X5.heap.size ≠ q ∨ q ≠ X5.heap.size by have h1 := (Array.getElem?_eq_some_iff.1 HPq.out).1; omega)
           replace HPq := Lib.hid (row_next HPq.out (below_boxC X5 boxDn))
           replace HOK2 := Lib.hid (HOK2.out.add (T := (fun j : Nat => (j = dp ∨ j = lg) ∨ j = X5.heap.size ∨ j = q)) boxDn (fun k hk => or_mid hk))
           replace HOK4 := Lib.hid (HOK4.out.add (T := (fun j : Nat => (j = dp ∨ j = lg) ∨ j = X5.heap.size ∨ j = q)) boxDn (fun k hk => or_mid hk))
           replace HT := bl HT (below_boxC X5 boxDn)
           refine held_go hK' (HT.out) ?_
           try simp only [Act.put, List.setIfInBounds_toArray, List.set_cons_zero, List.set_cons_succ]
           generalize World.alloc X5 _ = X6 at *
           generalize X5.heap.size = p at *
           clear hS0
           have hS0 := HT.out
           refine held_call (i := 26) rfl (by kernel_rfl) (by rfl) (fun K' hK' => ?_)
           refine oper_store_dn (.tmp 12) (.tmp 66) rfl p rfl _ _ _ _ _ _ _ _ _ _ rfl HPp.out ?_
           refine held_go hK' (below_row HT.out HNp.out _) ?_
           try simp only [Act.put, List.setIfInBounds_toArray, List.set_cons_zero, List.set_cons_succ]
           have HSB := Lib.hid (str_fin HPp.out HPq.out HNE.out HOK2.out HOK4.out HNp.out HNq.out HT.out)
           clear hS0
           have hS0 := below_row HT.out HNp.out (dnK r.d r.c ad2 n2 cap2 zd2 zn2 zc2 r.t r.e)
           replace HPq := Lib.hid (str_far HPq.out HNE.out (dnK r.d r.c ad2 n2 cap2 zd2 zn2 zc2 r.t r.e))
           refine held_call (i := 27) rfl (by kernel_rfl) (by rfl) (fun K' hK' => ?_)
           refine oper_store_dn (.tmp 13) (.tmp 78) rfl q rfl _ _ _ _ _ _ _ _ _ _ rfl HPq.out ?_
           refine held_go hK' (HSB.out.b) ?_
           try simp only [Act.put, List.setIfInBounds_toArray, List.set_cons_zero, List.set_cons_succ]
           refine wpAnyH_done (by kernel_rfl) ?_ _
           refine NoPanic.normal ?_
           go_wp2_with fail
           go_meet
           exact ⟨_, _, _, _, _, _, _, _, _, _, _, _, _, _, rfl, rfl, HSB⟩
          ·as_aux_lemma =>
           go_simp
           have HPp := Lib.hid (heap_alloc_new X4 boxDn)
           have HNp := Lib.hid (show wr.heap.size ≤ X4.heap.size from HT.out.size)
           have HNE := Lib.hid (show X4.heap.size ≠ q ∨ q ≠ X4.heap.size by have h1 := (Array.getElem?_eq_some_iff.1 HPq.out).1; omega)
           replace HPq := Lib.hid (row_next HPq.out (below_boxC X4 boxDn))
           replace HOK2 := Lib.hid (HOK2.out.add (T := (fun j : Nat => (j = dp ∨ j = lg) ∨ j = X4.heap.size ∨ j = q)) boxDn (fun k hk => or_mid hk))
           replace HI3 := Lib.hid (HI3.out.below (below_boxC X4 boxDn))
           replace HK3 := Lib.hid (HK3.out.add (T := (fun j : Nat => (j = dp ∨ j = lg) ∨ j = X4.heap.size ∨ j = q)) boxDn (fun k hk => or_mid hk))
           replace HT := bl HT (below_boxC X4 boxDn)
           refine held_go hK' (HT.out) ?_
           try simp only [Act.put, List.setIfInBounds_toArray, List.set_cons_zero, List.set_cons_succ]
           generalize World.alloc X4 _ = X5 at *
           generalize X4.heap.size = p at *
           clear hS0
           have hS0 := HT.out
           refine held_call (i := 23) rfl (by kernel_rfl) (by rfl) (fun K' hK' => ?_)
           go_simp
           refine (HDC.out X5 ad3 cap3 HI3.out (HZI.out.below HT.out)).mono ?_
           rintro e X6 hret
           obtain ⟨ad4, n4, cap4, zd4, zn4, zc4, rfl, hok, hb⟩ := DnOk.of (S := (fun j : Nat => (j = dp ∨ j = lg) ∨ j = p ∨ j = q)) hret HK3.out (fun k (hk : (k = dp ∨ k = lg) ∨ k = p ∨ k = q) => by have h_p := (Array.getElem?_eq_some_iff.1 HPp.out).1; have h_q := (Array.getElem?_eq_some_iff.1 HPq.out).1; have h_b := HLT.out; have h_t := HT.out.size; omega)
           have HOK4 := Lib.hid hok
           clear hret hok HI3 HK3
           replace HPq := Lib.hid (row_next HPq.out hb)
           replace HPp := Lib.hid (row_next HPp.out hb)
           replace HOK2 := Lib.hid (HOK2.out.below hb)
           replace HT := bl HT hb
           refine held_go hK' (HT.out) ?_
           try simp only [Act.put, List.setIfInBounds_toArray, List.set_cons_zero, List.set_cons_succ]
           clear hS0
           have hS0 := HT.out
           clear hb
           refine held_call (i := 26) rfl (by kernel_rfl) (by rfl) (fun K' hK' => ?_)
           refine oper_store_dn (.tmp 12) (.tmp 66) rfl p rfl _ _ _ _ _ _ _ _ _ _ rfl HPp.out ?_
           refine held_go hK' (below_row HT.out HNp.out _) ?_
           try simp only [Act.put, List.setIfInBounds_toArray, List.set_cons_zero, List.set_cons_succ]
           have HSB := Lib.hid (str_fin HPp.out HPq.out HNE.out HOK2.out HOK4.out HNp.out HNq.out HT.out)
           clear hS0
           have hS0 := below_row HT.out HNp.out (dnK r.d r.c ad2 n2 cap2 zd2 zn2 zc2 r.t r.e)
           replace HPq := Lib.hid (str_far HPq.out HNE.out (dnK r.d r.c ad2 n2 cap2 zd2 zn2 zc2 r.t r.e))
           refine held_call (i := 27) rfl (by kernel_rfl) (by rfl) (fun K' hK' => ?_)
           refine oper_store_dn (.tmp 13) (.tmp 78) rfl q rfl _ _ _ _ _ _ _ _ _ _ rfl HPq.out ?_
           refine held_go hK' (HSB.out.b) ?_
           try simp only [Act.put, List.setIfInBounds_toArray, List.set_cons_zero, List.set_cons_succ]
           refine wpAnyH_done (by kernel_rfl) ?_ _
           refine NoPanic.normal ?_
           go_wp2_with fail
           go_meet
           exact ⟨_, _, _, _, _, _, _, _, _, _, _, _, _, _, rfl, rfl, HSB⟩
        ·as_aux_lemma =>
         go_simp
         have HPp := Lib.hid (heap_alloc_new X2 boxDn)
         have HNp := Lib.hid (show wr.heap.size ≤ X2.heap.size from HT.out.size)
         replace HOK2 := Lib.hid (HOK2.out.add (T := (fun j : Nat => (j = dp ∨ j = lg) ∨ j = X2.heap.size)) boxDn (fun k hk => hk))
         replace HT := bl HT (below_boxC X2 boxDn)
         refine held_go hK' (HT.out) ?_
         try simp only [Act.put, List.setIfInBounds_toArray, List.set_cons_zero, List.set_cons_succ]
         generalize World.alloc X2 _ = X3 at *
         generalize X2.heap.size = p at *
         clear hS0
         have hS0 := HT.out
         refine held_two (i := 18) (j := 25) rfl rfl (by kernel_rfl) (by rfl) (by rfl) (fun K' hK' => ?_) (fun K' hK' => ?_)
         ·as_aux_lemma =>
          go_simp
          refine (HCP.out X3 (HIN.out.below HT.out)).mono ?_
          rintro e X4 ⟨ad3, cap3, rfl, hi, hkf, hb⟩
          have HI3 := Lib.hid hi
          have HK3 := Lib.hid (show KnoS X4 (fun j : Nat => (j = dp ∨ j = lg) ∨ j = p) ad3 c.l from KnoS.of_fr hkf (fun k (hk : (k = dp ∨ k = lg) ∨ k = p) => by have h_p := (Array.getElem?_eq_some_iff.1 HPp.out).1; have h_b := HLT.out; have h_t := HT.out.size; omega))
          clear hi hkf
          replace HPp := Lib.hid (row_next HPp.out hb)
          replace HOK2 := Lib.hid (HOK2.out.below hb)
          replace HT := bl HT hb
          refine held_go hK' (HT.out) ?_
          try simp only [Act.put, List.setIfInBounds_toArray, List.set_cons_zero, List.set_cons_succ]
          clear hS0
          have hS0 := HT.out
          clear hb
          refine held_two (i := 23) (j := 25) rfl rfl (by kernel_rfl) (by rfl) (by rfl) (fun K' hK' => ?_) (fun K' hK' => ?_)
          ·as_aux_lemma =>
           go_simp
           refine (HDC.out X4 ad3 cap3 HI3.out (HZI.out.below HT.out)).mono ?_
           rintro e X5 hret
           obtain ⟨ad4, n4, cap4, zd4, zn4, zc4, rfl, hok, hb⟩ := DnOk.of (S := (fun j : Nat => (j = dp ∨ j = lg) ∨ j = p)) hret HK3.out (fun k (hk : (k = dp ∨ k = lg) ∨ k = p) => by have h_p := (Array.getElem?_eq_some_iff.1 HPp.out).1; have h_b := HLT.out; have h_t := HT.out.size; omega)
           have HOK4 := Lib.hid hok
           clear hret hok HI3 HK3
           replace HPp := Lib.hid (row_next HPp.out hb)
           replace HOK2 := Lib.hid (HOK2.out.below hb)
           replace HT := bl HT hb
           refine held_go hK' (HT.out) ?_
           try simp only [Act.put, List.setIfInBounds_toArray, List.set_cons_zero, List.set_cons_succ]
           clear hS0
           have hS0 := HT.out
           clear hb
           refine held_call (i := 25) rfl (by kernel_rfl) (by rfl) (fun K' hK' => ?_)
           go_simp
           have HPq := Lib.hid (heap_alloc_new X5 boxDn)
           have HNq := Lib.hid (show wr.heap.size ≤ X5.heap.size from HT.out.size)
           have HNE := Lib.hid (show p ≠ X5.heap.size ∨ X5.heap.size ≠ p by have h1 := (Array.getElem?_eq_some_iff.1 HPp.out).1; omega)
           replace HPp := Lib.hid (row_next HPp.out (below_boxC X5 boxDn))
           replace HOK2 := Lib.hid (HOK2.out.add (T := (fun j : Nat => (j = dp ∨ j = lg) ∨ j = p ∨ j = X5.heap.size)) boxDn (fun k hk => or_last hk))
           replace HOK4 := Lib.hid (HOK4.out.add (T := (fun j : Nat => (j = dp ∨ j = lg) ∨ j = p ∨ j = X5.heap.size)) boxDn (fun k hk => or_last hk))
           replace HT := bl HT (below_boxC X5 boxDn)
           refine held_go hK' (HT.out) ?_
           try simp only [Act.put, List.setIfInBounds_toArray, List.set_cons_zero, List.set_cons_succ]
           generalize World.alloc X5 _ = X6 at *
           generalize X5.heap.size = q at *
           clear hS0
           have hS0 := HT.out
           refine held_call (i := 26) rfl (by kernel_rfl) (by rfl) (fun K' hK' => ?_)
           refine oper_store_dn (.tmp 12) (.tmp 66) rfl p rfl _ _ _ _ _ _ _ _ _ _ rfl HPp.out ?_
           refine held_go hK' (below_row HT.out HNp.out _) ?_
           try simp only [Act.put, List.setIfInBounds_toArray, List.set_cons_zero, List.set_cons_succ]
           have HSB := Lib.hid (str_fin HPp.out HPq.out HNE.out HOK2.out HOK4.out HNp.out HNq.out HT.out)
           clear hS0
           have hS0 := below_row HT.out HNp.out (dnK r.d r.c ad2 n2 cap2 zd2 zn2 zc2 r.t r.e)
           replace HPq := Lib.hid (str_far HPq.out HNE.out (dnK r.d r.c ad2 n2 cap2 zd2 zn2 zc2 r.t r.e))
           refine held_call (i := 27) rfl (by kernel_rfl) (by rfl) (fun K' hK' => ?_)
           refine oper_store_dn (.tmp 13) (.tmp 78) rfl q rfl _ _ _ _ _ _ _ _ _ _ rfl HPq.out ?_
           refine held_go hK' (HSB.out.b) ?_
           try simp only [Act.put, List.setIfInBounds_toArray, List.set_cons_zero, List.set_cons_succ]
           refine wpAnyH_done (by kernel_rfl) ?_ _
           refine NoPanic.normal ?_
           go_wp2_with fail
           go_meet
           exact ⟨_, _, _, _, _, _, _, _, _, _, _, _, _, _, rfl, rfl, HSB⟩
          ·as_aux_lemma =>
           go_simp
           have HPq := Lib.hid (heap_alloc_new X4 boxDn)
           have HNq := Lib.hid (show wr.heap.size ≤ X4.heap.size from HT.out.size)
           have HNE := Lib.hid (show p ≠ X4.heap.size ∨ X4.heap.size ≠ p by have h1 := (Array.getElem?_eq_some_iff.1 HPp.out).1; omega)
           replace HPp := Lib.hid (row_next HPp.out (below_boxC X4 boxDn))
           replace HOK2 := Lib.hid (HOK2.out.add (T := (fun j : Nat => (j = dp ∨ j = lg) ∨ j = p ∨ j = X4.heap.size)) boxDn (fun k hk => or_last hk))
           replace HI3 := Lib.hid (HI3.out.below (below_boxC X4 boxDn))
           replace HK3 := Lib.hid (HK3.out.add (T := (fun j : Nat => (j = dp ∨ j = lg) ∨ j = p ∨ j = X4.heap.size)) boxDn (fun k hk => or_last hk))
           replace HT := bl HT (below_boxC X4 boxDn)
           refine held_go hK' (HT.out) ?_
           try simp only [Act.put, List.setIfInBounds_toArray, List.set_cons_zero, List.set_cons_succ]
           generalize World.alloc X4 _ = X5 at *
           generalize X4.heap.size = q at *
           clear hS0
           have hS0 := HT.out
           refine held_call (i := 23) rfl (by kernel_rfl) (by rfl) (fun K' hK' => ?_)
           go_simp
           refine (HDC.out X5 ad3 cap3 HI3.out (HZI.out.below HT.out)).mono ?_
           rintro e X6 hret
           obtain ⟨ad4, n4, cap4, zd4, zn4, zc4, rfl, hok, hb⟩ := DnOk.of (S := (fun j : Nat => (j = dp ∨ j = lg) ∨ j = p ∨ j = q)) hret HK3.out (fun k (hk : (k = dp ∨ k = lg) ∨ k = p ∨ k = q) => by have h_p := (Array.getElem?_eq_some_iff.1 HPp.out).1; have h_q := (Array.getElem?_eq_some_iff.1 HPq.out).1; have h_b := HLT.out; have h_t := HT.out.size; omega)
           have HOK4 := Lib.hid hok
           clear hret hok HI3 HK3
           replace HPp := Lib.hid (row_next HPp.out hb)
           replace HPq := Lib.hid (row_next HPq.out hb)
           replace HOK2 := Lib.hid (HOK2.out.below hb)
           replace HT := bl HT hb
           refine held_go hK' (HT.out) ?_
           try simp only [Act.put, List.setIfInBounds_toArray, List.set_cons_zero, List.set_cons_succ]
           clear hS0
           have hS0 := HT.out
           clear hb
           refine held_call (i := 26) rfl (by kernel_rfl) (by rfl) (fun K' hK' => ?_)
           refine oper_store_dn (.tmp 12) (.tmp 66) rfl p rfl _ _ _ _ _ _ _ _ _ _ rfl HPp.out ?_
           refine held_go hK' (below_row HT.out HNp.out _) ?_
           try simp only [Act.put, List.setIfInBounds_toArray, List.set_cons_zero, List.set_cons_succ]
           have HSB := Lib.hid (str_fin HPp.out HPq.out HNE.out HOK2.out HOK4.out HNp.out HNq.out HT.out)
           clear hS0
           have hS0 := below_row HT.out HNp.out (dnK r.d r.c ad2 n2 cap2 zd2 zn2 zc2 r.t r.e)
           replace HPq := Lib.hid (str_far HPq.out HNE.out (dnK r.d r.c ad2 n2 cap2 zd2 zn2 zc2 r.t r.e))
           refine held_call (i := 27) rfl (by kernel_rfl) (by rfl) (fun K' hK' => ?_)
           refine oper_store_dn (.tmp 13) (.tmp 78) rfl q rfl _ _ _ _ _ _ _ _ _ _ rfl HPq.out ?_
           refine held_go hK' (HSB.out.b) ?_
           try simp only [Act.put, List.setIfInBounds_toArray, List.set_cons_zero, List.set_cons_succ]
           refine wpAnyH_done (by kernel_rfl) ?_ _
           refine NoPanic.normal ?_
           go_wp2_with fail
           go_meet
           exact ⟨_, _, _, _, _, _, _, _, _, _, _, _, _, _, rfl, rfl, HSB⟩
         ·as_aux_lemma =>
          go_simp
          have HPq := Lib.hid (heap_alloc_new X3 boxDn)
          have HNq := Lib.hid (show wr.heap.size ≤ X3.heap.size from HT.out.size)
          have HNE := Lib.hid (show p ≠ X3.heap.size ∨ X3.heap.size ≠ p by have h1 := (Array.getElem?_eq_some_iff.1 HPp.out).1; omega)
          replace HPp := Lib.hid (row_next HPp.out (below_boxC X3 boxDn))
          replace HOK2 := Lib.hid (HOK2.out.add (T := (fun j : Nat => (j = dp ∨ j = lg) ∨ j = p ∨ j = X3.heap.size)) boxDn (fun k hk => or_last hk))
          replace HT := bl HT (below_boxC X3 boxDn)
          refine held_go hK' (HT.out) ?_
          try simp only [Act.put, List.setIfInBounds_toArray, List.set_cons_zero, List.set_cons_succ]
          generalize World.alloc X3 _ = X4 at *
          generalize X3.heap.size = q at *
          clear hS0
          have hS0 := HT.out
          refine held_call (i := 18) rfl (by kernel_rfl) (by rfl) (fun K' hK' => ?_)
          go_simp
          refine (HCP.out X4 (HIN.out.below HT.out)).mono ?_
          rintro e X5 ⟨ad3, cap3, rfl, hi, hkf, hb⟩
          have HI3 := Lib.hid hi
          have HK3 := Lib.hid (show KnoS X5 (fun j : Nat => (j = dp ∨ j = lg) ∨ j = p ∨ j = q) ad3 c.l from KnoS.of_fr hkf (fun k (hk : (k = dp ∨ k = lg) ∨ k = p ∨ k = q) => by have h_p := (Array.getElem?_eq_some_iff.1 HPp.out).1; have h_q := (Array.getElem?_eq_some_iff.1 HPq.out).1; have h_b := HLT.out; have h_t := HT.out.size; omega))
          clear hi hkf
          replace HPp := Lib.hid (row_next HPp.out hb)
          replace HPq := Lib.hid (row_next HPq.out hb)
          replace HOK2 := Lib.hid (HOK2.out.below hb)
          replace HT := bl HT hb
          refine held_go hK' (HT.out) ?_
          try simp only [Act.put, List.setIfInBounds_toArray, List.set_cons_zero, List.set_cons_succ]
          clear hS0
          have hS0 := HT.out
          clear hb
          refine held_call (i := 23) rfl (by kernel_rfl) (by rfl) (fun K' hK' => ?_)
          go_simp
          refine (HDC.out X5 ad3 cap3 HI3.out (HZI.out.below HT.out)).mono ?_
          rintro e X6 hret
          obtain ⟨ad4, n4, cap4, zd4, zn4, zc4, rfl, hok, hb⟩ := DnOk.of (S := (fun j : Nat => (j = dp ∨ j = lg) ∨ j = p ∨ j = q)) hret HK3.out (fun k (hk : (k = dp ∨ k = lg) ∨ k = p ∨ k = q) => by have h_p := (Array.getElem?_eq_some_iff.1 HPp.out).1; have h_q := (Array.getElem?_eq_some_iff.1 HPq.out).1; have h_b := HLT.out; have h_t := HT.out.size; omega)
          have HOK4 := Lib.hid hok
          clear hret hok HI3 HK3
          replace HPp := Lib.hid (row_next HPp.out hb)
          replace HPq := Lib.hid (row_next HPq.out hb)
          replace HOK2 := Lib.hid (HOK2.out.below hb)
          replace HT := bl HT hb
          refine held_go hK' (HT.out) ?_
          try simp only [Act.put, List.setIfInBounds_toArray, List.set_cons_zero, List.set_cons_succ]
          clear hS0
          have hS0 := HT.out
          clear hb
          refine held_call (i := 26) rfl (by kernel_rfl) (by rfl) (fun K' hK' => ?_)
          refine oper_store_dn (.tmp 12) (.tmp 66) rfl p rfl _ _ _ _ _ _ _ _ _ _ rfl HPp.out ?_
          refine held_go hK' (below_row HT.out HNp.out _) ?_
          try simp only [Act.put, List.setIfInBounds_toArray, List.set_cons_zero, List.set_cons_succ]
          have HSB := Lib.hid (str_fin HPp.out HPq.out HNE.out HOK2.out HOK4.out HNp.out HNq.out HT.out)
          clear hS0
          have hS0 := below_row HT.out HNp.out (dnK r.d r.c ad2 n2 cap2 zd2 zn2 zc2 r.t r.e)
          replace HPq := Lib.hid (str_far HPq.out HNE.out (dnK r.d r.c ad2 n2 cap2 zd2 zn2 zc2 r.t r.e))
          refine held_call (i := 27) rfl (by kernel_rfl) (by rfl) (fun K' hK' => ?_)
          refine oper_store_dn (.tmp 13) (.tmp 78) rfl q rfl _ _ _ _ _ _ _ _ _ _ rfl HPq.out ?_
          refine held_go hK' (HSB.out.b) ?_
          try simp only [Act.put, List.setIfInBounds_toArray, List.set_cons_zero, List.set_cons_succ]
          refine wpAnyH_done (by kernel_rfl) ?_ _
          refine NoPanic.normal ?_
          go_wp2_with fail
          go_meet
          exact ⟨_, _, _, _, _, _, _, _, _, _, _, _, _, _, rfl, rfl, HSB⟩
        ·as_aux_lemma =>
         go_simp
         have HPq := Lib.hid (heap_alloc_new X2 boxDn)
         have HNq := Lib.hid (show wr.heap.size ≤ X2.heap.size from HT.out.size)
         replace HOK2 := Lib.hid (HOK2.out.add (T := (fun j : Nat => (j = dp ∨ j = lg) ∨ j = X2.heap.size)) boxDn (fun k hk => hk))
         replace HT := bl HT (below_boxC X2 boxDn)
         refine held_go hK' (HT.out) ?_
         try simp only [Act.put, List.setIfInBounds_toArray, List.set_cons_zero, List.set_cons_succ]
         generalize World.alloc X2 _ = X3 at *
         generalize X2.heap.size = q at *
         clear hS0
         have hS0 := HT.out
         refine held_two (i := 18) (j := 24) rfl rfl (by kernel_rfl) (by rfl) (by rfl) (fun K' hK' => ?_) (fun K' hK' => ?_)
         ·as_aux_lemma =>
          go_simp
          refine (HCP.out X3 (HIN.out.below HT.out)).mono ?_
          rintro e X4 ⟨ad3, cap3, rfl, hi, hkf, hb⟩
          have HI3 := Lib.hid hi
          have HK3 := Lib.hid (show KnoS X4 (fun j : Nat => (j = dp ∨ j = lg) ∨ j = q) ad3 c.l from KnoS.of_fr hkf (fun k (hk : (k = dp ∨ k = lg) ∨ k = q) => by have h_q := (Array.getElem?_eq_some_iff.1 HPq.out).1; have h_b := HLT.out; have h_t := HT.out.size; omega))
          clear hi hkf
          replace HPq := Lib.hid (row_next HPq.out hb)
          replace HOK2 := Lib.hid (HOK2.out.below hb)
          replace HT := bl HT hb
          refine held_go hK' (HT.out) ?_
          try simp only [Act.put, List.setIfInBounds_toArray, List.set_cons_zero, List.set_cons_succ]
          clear hS0
          have hS0 := HT.out
          clear hb
          refine held_two (i := 23) (j := 24) rfl rfl (by kernel_rfl) (by rfl) (by rfl) (fun K' hK' => ?_) (fun K' hK' => ?_)
          ·as_aux_lemma =>
           go_simp
           refine (HDC.out X4 ad3 cap3 HI3.out (HZI.out.below HT.out)).mono ?_
           rintro e X5 hret
           obtain ⟨ad4, n4, cap4, zd4, zn4, zc4, rfl, hok, hb⟩ := DnOk.of (S := (fun j : Nat => (j = dp ∨ j = lg) ∨ j = q)) hret HK3.out (fun k (hk : (k = dp ∨ k = lg) ∨ k = q) => by have h_q := (Array.getElem?_eq_some_iff.1 HPq.out).1; have h_b := HLT.out; have h_t := HT.out.size; omega)
           have HOK4 := Lib.hid hok
           clear hret hok HI3 HK3
           replace HPq := Lib.hid (row_next HPq.out hb)
           replace HOK2 := Lib.hid (HOK2.out.below hb)
           replace HT := bl HT hb
           refine held_go hK' (HT.out) ?_
           try simp only [Act.put, List.setIfInBounds_toArray, List.set_cons_zero, List.set_cons_succ]
           clear hS0
           have hS0 := HT.out
           clear hb
           refine held_call (i := 24) rfl (by kernel_rfl) (by rfl) (fun K' hK' => ?_)
           go_simp
           have HPp := Lib.hid (heap_alloc_new X5 boxDn)
           have HNp := Lib.hid (show wr.heap.size ≤ X5.heap.size from HT.out.size)
           have HNE := Lib.hid (show X5.heap.size ≠ q ∨ q ≠ X5.heap.size by have h1 := (Array.getElem?_eq_some_iff.1 HPq.out).1; omega)
           replace HPq := Lib.hid (row_next HPq.out (below_boxC X5 boxDn))
           replace HOK2 := Lib.hid (HOK2.out.add (T := (fun j : Nat => (j = dp ∨ j = lg) ∨ j = X5.heap.size ∨ j = q)) boxDn (fun k hk => or_mid hk))
           replace HOK4 := Lib.hid (HOK4.out.add (T := (fun j : Nat => (j = dp ∨ j = lg) ∨ j = X5.heap.size ∨ j = q)) boxDn (fun k hk => or_mid hk))
           replace HT := bl HT (below_boxC X5 boxDn)
           refine held_go hK' (HT.out) ?_
           try simp only [Act.put, List.setIfInBounds_toArray, List.set_cons_zero, List.set_cons_succ]
           generalize World.alloc X5 _ = X6 at *
           generalize X5.heap.size = p at *
           clear hS0
           have hS0 := HT.out
           refine held_call (i := 26) rfl (by kernel_rfl) (by rfl) (fun K' hK' => ?_)
           refine oper_store_dn (.tmp 12) (.tmp 66) rfl p rfl _ _ _ _ _ _ _ _ _ _ rfl HPp.out ?_
           refine held_go hK' (below_row HT.out HNp.out _) ?_
           try simp only [Act.put, List.setIfInBounds_toArray, List.set_cons_zero, List.set_cons_succ]
           have HSB := Lib.hid (str_fin HPp.out HPq.out HNE.out HOK2.out HOK4.out HNp.out HNq.out HT.out)
           clear hS0
           have hS0 := below_row HT.out HNp.out (dnK r.d r.c ad2 n2 cap2 zd2 zn2 zc2 r.t r.e)
           replace HPq := Lib.hid (str_far HPq.out HNE.out (dnK r.d r.c ad2 n2 cap2 zd2 zn2 zc2 r.t r.e))
           refine held_call (i := 27) rfl (by kernel_rfl) (by rfl) (fun K' hK' => ?_)
           refine oper_store_dn (.tmp 13) (.tmp 78) rfl q rfl _ _ _ _ _ _ _ _ _ _ rfl HPq.out ?_
           refine held_go hK' (HSB.out.b) ?_
           try simp only [Act.put, List.setIfInBounds_toArray, List.set_cons_zero, List.set_cons_succ]
           refine wpAnyH_done (by kernel_rfl) ?_ _
           refine NoPanic.normal ?_
           go_wp2_with fail
           go_meet
           exact ⟨_, _, _, _, _, _, _, _, _, _, _, _, _, _, rfl, rfl, HSB⟩
          ·as_aux_lemma =>
           go_simp
           have HPp := Lib.hid (heap_alloc_new X4 boxDn)
           have HNp := Lib.hid (show wr.heap.size ≤ X4.heap.size from HT.out.size)
           have HNE := Lib.hid (show X4.heap.size ≠ q ∨ q ≠ X4.heap.size by have h1 := (Array.getElem?_eq_some_iff.1 HPq.out).1; omega)
           replace HPq := Lib.hid (row_next HPq.out (below_boxC X4 boxDn))
           replace HOK2 := Lib.hid (HOK2.out.add (T := (fun j : Nat => (j = dp ∨ j = lg) ∨ j = X4.heap.size ∨ j = q)) boxDn (fun k hk => or_mid hk))
           replace HI3 := Lib.hid (HI3.out.below (below_boxC X4 boxDn))
           replace HK3 := Lib.hid (HK3.out.add (T := (fun j : Nat => (j = dp ∨ j = lg) ∨ j = X4.heap.size ∨ j = q)) boxDn (fun k hk => or_mid hk))
           replace HT := bl HT (below_boxC X4 boxDn)
           refine held_go hK' (HT.out) ?_
           try simp only [Act.put, List.setIfInBounds_toArray, List.set_cons_zero, List.set_cons_succ]
           generalize World.alloc X4 _ = X5 at *
           generalize X4.heap.size = p at *
           clear hS0
           have hS0 := HT.out
           refine held_call (i := 23) rfl (by kernel_rfl) (by rfl) (fun K' hK' => ?_)
           go_simp
           refine (HDC.out X5 ad3 cap3 HI3.out (HZI.out.below HT.out)).mono ?_
           rintro e X6 hret
           obtain ⟨ad4, n4, cap4, zd4, zn4, zc4, rfl, hok, hb⟩ := DnOk.of (S := (fun j : Nat => (j = dp ∨ j = lg) ∨ j = p ∨ j = q)) hret HK3.out (fun k (hk : (k = dp ∨ k = lg) ∨ k = p ∨ k = q) => by have h_p := (Array.getElem?_eq_some_iff.1 HPp.out).1; have h_q := (Array.getElem?_eq_some_iff.1 HPq.out).1; have h_b := HLT.out; have h_t := HT.out.size; omega)
           have HOK4 := Lib.hid hok
           clear hret hok HI3 HK3
           replace HPq := Lib.hid (row_next HPq.out hb)
           replace HPp := Lib.hid (row_next HPp.out hb)
           replace HOK2 := Lib.hid (HOK2.out.below hb)
           replace HT := bl HT hb
           refine held_go hK' (HT.out) ?_
           try simp only [Act.put, List.setIfInBounds_toArray, List.set_cons_zero, List.set_cons_succ]
           clear hS0
           have hS0 := HT.out
           clear hb
           refine held_call (i := 26) rfl (by kernel_rfl) (by rfl) (fun K' hK' => ?_)
           refine oper_store_dn (.tmp 12) (.tmp 66) rfl p rfl _ _ _ _ _ _ _ _ _ _ rfl HPp.out ?_
           refine held_go hK' (below_row HT.out HNp.out _) ?_
           try simp only [Act.put, List.setIfInBounds_toArray, List.set_cons_zero, List.set_cons_succ]
           have HSB := Lib.hid (str_fin HPp.out HPq.out HNE.out HOK2.out HOK4.out HNp.out HNq.out HT.out)
           clear hS0
           have hS0 := below_row HT.out HNp.out (dnK r.d r.c ad2 n2 cap2 zd2 zn2 zc2 r.t r.e)
           replace HPq := Lib.hid (str_far HPq.out HNE.out (dnK r.d r.c ad2 n2 cap2 zd2 zn2 zc2 r.t r.e))
           refine held_call (i := 27) rfl (by kernel_rfl) (by rfl) (fun K' hK' => ?_)
           refine oper_store_dn (.tmp 13) (.tmp 78) rfl q rfl _ _ _ _ _ _ _ _ _ _ rfl HPq.out ?_
           refine held_go hK' (HSB.out.b) ?_
           try simp only [Act.put, List.setIfInBounds_toArray, List.set_cons_zero, List.set_cons_succ]
           refine wpAnyH_done (by kernel_rfl) ?_ _
           refine NoPanic.normal ?_
           go_wp2_with fail
           go_meet
           exact ⟨_, _, _, _, _, _, _, _, _, _, _, _, _, _, rfl, rfl, HSB⟩
         ·as_aux_lemma =>
          go_simp
          have HPp := Lib.hid (heap_alloc_new X3 boxDn)
          have HNp := Lib.hid (show wr.heap.size ≤ X3.heap.size from HT.out.size)
          have HNE := Lib.hid (show X3.heap.size ≠ q ∨ q ≠ X3.heap.size by have h1 := (Array.getElem?_eq_some_iff.1 HPq.out).1; omega)
          replace HPq := Lib.hid (row_next HPq.out (below_boxC X3 boxDn))
          replace HOK2 := Lib.hid (HOK2.out.add (T := (fun j : Nat => (j = dp ∨ j = lg) ∨ j = X3.heap.size ∨ j = q)) boxDn (fun k hk => or_mid hk))
          replace HT := bl HT (below_boxC X3 boxDn)
          refine held_go hK' (HT.out) ?_
          try simp only [Act.put, List.setIfInBounds_toArray, List.set_cons_zero, List.set_cons_succ]
          generalize World.alloc X3 _ = X4 at *
          generalize X3.heap.size = p at *
          clear hS0
          have hS0 := HT.out
          refine held_call (i := 18) rfl (by kernel_rfl) (by rfl) (fun K' hK' => ?_)
          go_simp
          refine (HCP.out X4 (HIN.out.below HT.out)).mono ?_
          rintro e X5 ⟨ad3, cap3, rfl, hi, hkf, hb⟩
          have HI3 := Lib.hid hi
          have HK3 := Lib.hid (show KnoS X5 (fun j : Nat => (j = dp ∨ j = lg) ∨ j = p ∨ j = q) ad3 c.l from KnoS.of_fr hkf (fun k (hk : (k = dp ∨ k = lg) ∨ k = p ∨ k = q) => by have h_p := (Array.getElem?_eq_some_iff.1 HPp.out).1; have h_q := (Array.getElem?_eq_some_iff.1 HPq.out).1; have h_b := HLT.out; have h_t := HT.out.size; omega))
          clear hi hkf
          replace HPq := Lib.hid (row_next HPq.out hb)
          replace HPp := Lib.hid (row_next HPp.out hb)
          replace HOK2 := Lib.hid (HOK2.out.below hb)
          replace HT := bl HT hb
          refine held_go hK' (HT.out) ?_
          try simp only [Act.put, List.setIfInBounds_toArray, List.set_cons_zero, List.set_cons_succ]
          clear hS0
          have hS0 := HT.out
          clear hb
          refine held_call (i := 23) rfl (by kernel_rfl) (by rfl) (fun K' hK' => ?_)
          go_simp
          refine (HDC.out X5 ad3 cap3 HI3.out (HZI.out.below HT.out)).mono ?_
          rintro e X6 hret
          obtain ⟨ad4, n4, cap4, zd4, zn4, zc4, rfl, hok, hb⟩ := DnOk.of (S := (fun j : Nat => (j = dp ∨ j = lg) ∨ j = p ∨ j = q)) hret HK3.out (fun k (hk : (k = dp ∨ k = lg) ∨ k = p ∨ k = q) => by have h_p := (Array.getElem?_eq_some_iff.1 HPp.out).1; have h_q := (Array.getElem?_eq_some_iff.1 HPq.out).1; have h_b := HLT.out; have h_t := HT.out.size; omega)
          have HOK4 := Lib.hid hok
          clear hret hok HI3 HK3
          replace HPq := Lib.hid (row_next HPq.out hb)
          replace HPp := Lib.hid (row_next HPp.out hb)
          replace HOK2 := Lib.hid (HOK2.out.below hb)
          replace HT := bl HT hb
          refine held_go hK' (HT.out) ?_
          try simp only [Act.put, List.setIfInBounds_toArray, List.set_cons_zero, List.set_cons_succ]
          clear hS0
          have hS0 := HT.out
          clear hb
          refine held_call (i := 26) rfl (by kernel_rfl) (by rfl) (fun K' hK' => ?_)
          refine oper_store_dn (.tmp 12) (.tmp 66) rfl p rfl _ _ _ _ _ _ _ _ _ _ rfl HPp.out ?_
          refine held_go hK' (below_row HT.out HNp.out _) ?_
          try simp only [Act.put, List.setIfInBounds_toArray, List.set_cons_zero, List.set_cons_succ]
          have HSB := Lib.hid (str_fin HPp.out HPq.out HNE.out HOK2.out HOK4.out HNp.out HNq.out HT.out)
          clear hS0
          have hS0 := below_row HT.out HNp.out (dnK r.d r.c ad2 n2 cap2 zd2 zn2 zc2 r.t r.e)
          replace HPq := Lib.hid (str_far HPq.out HNE.out (dnK r.d r.c ad2 n2 cap2 zd2 zn2 zc2 r.t r.e))
          refine held_call (i := 27) rfl (by kernel_rfl) (by rfl) (fun K' hK' => ?_)
          refine oper_store_dn (.tmp 13) (.tmp 78) rfl q rfl _ _ _ _ _ _ _ _ _ _ rfl HPq.out ?_
          refine held_go hK' (HSB.out.b) ?_
          try simp only [Act.put, List.setIfInBounds_toArray, List.set_cons_zero, List.set_cons_succ]
          refine wpAnyH_done (by kernel_rfl) ?_ _
          refine NoPanic.normal ?_
          go_wp2_with fail
          go_meet
          exact ⟨_, _, _, _, _, _, _, _, _, _, _, _, _, _, rfl, rfl, HSB⟩
       ·as_aux_lemma =>
        go_simp
        have HPp := Lib.hid (heap_alloc_new X1 boxDn)
        have HNp := Lib.hid (show wr.heap.size ≤ X1.heap.size from HT.out.size)
        replace HI1 := Lib.hid (HI1.out.below (below_boxC X1 boxDn))
        replace HK1 := Lib.hid (HK1.out.add (T := (fun j : Nat => (j = dp ∨ j = lg) ∨ j = X1.heap.size)) boxDn (fun k hk => hk))
        replace HT := bl HT (below_boxC X1 boxDn)
        refine held_go hK' (HT.out) ?_
        try simp only [Act.put, List.setIfInBounds_toArray, List.set_cons_zero, List.set_cons_succ]
        generalize World.alloc X1 _ = X2 at *
        generalize X1.heap.size = p at *
        clear hS0
        have hS0 := HT.out
        refine held_two (i := 11) (j := 25) rfl rfl (by kernel_rfl) (by rfl) (by rfl) (fun K' hK' => ?_) (fun K' hK' => ?_)
        ·as_aux_lemma =>
         go_simp
         refine (HPG.out X2 ad1 cap1 HI1.out (HZI.out.below HT.out)).mono ?_
         rintro e X3 hret
         obtain ⟨ad2, n2, cap2, zd2, zn2, zc2, rfl, hok, hb⟩ := DnOk.of (S := (fun j : Nat => (j = dp ∨ j = lg) ∨ j = p)) hret HK1.out (fun k (hk : (k = dp ∨ k = lg) ∨ k = p) => by have h_p := (Array.getElem?_eq_some_iff.1 HPp.out).1; have h_b := HLT.out; have h_t := HT.out.size; omega)
         have HOK2 := Lib.hid hok
         clear hret hok HI1 HK1
         replace HPp := Lib.hid (row_next HPp.out hb)
         replace HT := bl HT hb
         refine held_go hK' (HT.out) ?_
         try simp only [Act.put, List.setIfInBounds_toArray, List.set_cons_zero, List.set_cons_succ]
         clear hS0
         have hS0 := HT.out
         clear hb
         refine held_two (i := 18) (j := 25) rfl rfl (by kernel_rfl) (by rfl) (by rfl) (fun K' hK' => ?_) (fun K' hK' => ?_)
         ·as_aux_lemma =>
          go_simp
          refine (HCP.out X3 (HIN.out.below HT.out)).mono ?_
          rintro e X4 ⟨ad3, cap3, rfl, hi, hkf, hb⟩
          have HI3 := Lib.hid hi
          have HK3 := Lib.hid (show KnoS X4 (fun j : Nat => (j = dp ∨ j = lg) ∨ j = p) ad3 c.l from KnoS.of_fr hkf (fun k (hk : (k = dp ∨ k = lg) ∨ k = p) => by have h_p := (Array.getElem?_eq_some_iff.1 HPp.out).1; have h_b := HLT.out; have h_t := HT.out.size; omega))
          clear hi hkf
          replace HPp := Lib.hid (row_next HPp.out hb)
          replace HOK2 := Lib.hid (HOK2.out.below hb)
          replace HT := bl HT hb
          refine held_go hK' (HT.out) ?_
          try simp only [Act.put, List.setIfInBounds_toArray, List.set_cons_zero, List.set_cons_succ]
          clear hS0
          have hS0 := HT.out
          clear hb
          refine held_two (i := 23) (j := 25) rfl rfl (by kernel_rfl) (by rfl) (by rfl) (fun K' hK' => ?_) (fun K' hK' => ?_)
          ·as_aux_lemma =>
           go_simp
           refine (HDC.out X4 ad3 cap3 HI3.out (HZI.out.below HT.out)).mono ?_
           rintro e X5 hret
           obtain ⟨ad4, n4, cap4, zd4, zn4, zc4, rfl, hok, hb⟩ := DnOk.of (S := (fun j : Nat => (j = dp ∨ j = lg) ∨ j = p)) hret HK3.out (fun k (hk : (k = dp ∨ k = lg) ∨ k = p) => by have h_p := (Array.getElem?_eq_some_iff.1 HPp.out).1; have h_b := HLT.out; have h_t := HT.out.size; omega)
           have HOK4 := Lib.hid hok
           clear hret hok HI3 HK3
           replace HPp := Lib.hid (row_next HPp.out hb)
           replace HOK2 := Lib.hid (HOK2.out.below hb)
           replace HT := bl HT hb
           refine held_go hK' (HT.out) ?_
           try simp only [Act.put, List.setIfInBounds_toArray, List.set_cons_zero, List.set_cons_succ]
           clear hS0
           have hS0 := HT.out
           clear hb
           refine held_call (i := 25) rfl (by kernel_rfl) (by rfl) (fun K' hK' => ?_)
           go_simp
           have HPq := Lib.hid (heap_alloc_new X5 boxDn)
           have HNq := Lib.hid (show wr.heap.size ≤ X5.heap.size from HT.out.size)
           have HNE := Lib.hid (show p ≠ X5.heap.size ∨ X5.heap.size ≠ p by have h1 := (Array.getElem?_eq_some_iff.1 HPp.out).1; omega)
           replace HPp := Lib.hid (row_next HPp.out (below_boxC X5 boxDn))
           replace HOK2 := Lib.hid (HOK2.out.add (T := (fun j : Nat => (j = dp ∨ j = lg) ∨ j = p ∨ j = X5.heap.size)) boxDn (fun k hk => or_last hk))
           replace HOK4 := Lib.hid (HOK4.out.add (T := (fun j : Nat => (j = dp ∨ j = lg) ∨ j = p ∨ j = X5.heap.size)) boxDn (fun k hk => or_last hk))
           replace HT := bl HT (below_boxC X5 boxDn)
           refine held_go hK' (HT.out) ?_
           try simp only [Act.put, List.setIfInBounds_toArray, List.set_cons_zero, List.set_cons_succ]
           generalize World.alloc X5 _ = X6 at *
           generalize X5.heap.size = q at *
           clear hS0
           have hS0 := HT.out
           refine held_call (i := 26) rfl (by kernel_rfl) (by rfl) (fun K' hK' => ?_)
           refine oper_store_dn (.tmp 12) (.tmp 66) rfl p rfl _ _ _ _ _ _ _ _ _ _ rfl HPp.out ?_
           refine held_go hK' (below_row HT.out HNp.out _) ?_
           try simp only [Act.put, List.setIfInBounds_toArray, List.set_cons_zero, List.set_cons_succ]
           have HSB := Lib.hid (str_fin HPp.out HPq.out HNE.out HOK2.out HOK4.out HNp.out HNq.out HT.out)
           clear hS0
           have hS0 := below_row HT.out HNp.out (dnK r.d r.c ad2 n2 cap2 zd2 zn2 zc2 r.t r.e)
           replace HPq := Lib.hid (str_far HPq.out HNE.out (dnK r.d r.c ad2 n2 cap2 zd2 zn2 zc2 r.t r.e))
           refine held_call (i := 27) rfl (by kernel_rfl) (by rfl) (fun K' hK' => ?_)
           refine oper_store_dn (.tmp 13) (.tmp 78) rfl q rfl _ _ _ _ _ _ _ _ _ _ rfl HPq.out ?_
           refine held_go hK' (HSB.out.b) ?_
           try simp only [Act.put, List.setIfInBounds_toArray, List.set_cons_zero, List.set_cons_succ]
           refine wpAnyH_done (by kernel_rfl) ?_ _
           refine NoPanic.normal ?_
           go_wp2_with fail
           go_meet
           exact ⟨_, _, _, _, _, _, _, _, _, _, _, _, _, _, rfl, rfl, HSB⟩
          ·as_aux_lemma =>
           go_simp
           have HPq := Lib.hid (heap_alloc_new X4 boxDn)
           have HNq := Lib.hid (show wr.heap.size ≤ X4.heap.size from HT.out.size)
           have HNE := Lib.hid (show p ≠ X4.heap.size ∨ X4.heap.size ≠ p by have h1 := (Array.getElem?_eq_some_iff.1 HPp.out).1; omega)
           replace HPp := Lib.hid (row_next HPp.out (below_boxC X4 boxDn))
           replace HOK2 := Lib.hid (HOK2.out.add (T := (fun j : Nat => (j = dp ∨ j = lg) ∨ j = p ∨ j = X4.heap.size)) boxDn (fun k hk => or_last hk))
           replace HI3 := Lib.hid (HI3.out.below (below_boxC X4 boxDn))
           replace HK3 := Lib.hid (HK3.out.add (T := (fun j : Nat => (j = dp ∨ j = lg) ∨ j = p ∨ j = X4.heap.size)) boxDn (fun k hk => or_last hk))
           replace HT := bl HT (below_boxC X4 boxDn)
           refine held_go hK' (HT.out) ?_
           try simp only [Act.put, List.setIfInBounds_toArray, List.set_cons_zero, List.set_cons_succ]
           generalize World.alloc X4 _ = X5 at *
           generalize X4.heap.size = q at *
           clear hS0
           have hS0 := HT.out
           refine held_call (i := 23) rfl (by kernel_rfl) (by rfl) (fun K' hK' => ?_)
           go_simp
           refine (HDC.out X5 ad3 cap3 HI3.out (HZI.out.below HT.out)).mono ?_
           rintro e X6 hret
           obtain ⟨ad4, n4, cap4, zd4, zn4, zc4, rfl, hok, hb⟩ := DnOk.of (S := (fun j : Nat => (j = dp ∨ j = lg) ∨ j = p ∨ j = q)) hret HK3.out (fun k (hk : (k = dp ∨ k = lg) ∨ k = p ∨ k = q) => by have h_p := (Array.getElem?_eq_some_iff.1 HPp.out).1; have h_q := (Array.getElem?_eq_some_iff.1 HPq.out).1; have h_b := HLT.out; have h_t := HT.out.size; omega)
           have HOK4 := Lib.hid hok
           clear hret hok HI3 HK3
           replace HPp := Lib.hid (row_next HPp.out hb)
           replace HPq := Lib.hid (row_next HPq.out hb)
           replace HOK2 := Lib.hid (HOK2.out.below hb)
           replace HT := bl HT hb
           refine held_go hK' (HT.out) ?_
           try simp only [Act.put, List.setIfInBounds_toArray, List.set_cons_zero, List.set_cons_succ]
           clear hS0
           have hS0 := HT.out
           clear hb
           refine held_call (i := 26) rfl (by kernel_rfl) (by rfl) (fun K' hK' => ?_)
           refine oper_store_dn (.tmp 12) (.tmp 66) rfl p rfl _ _ _ _ _ _ _ _ _ _ rfl HPp.out ?_
           refine held_go hK' (below_row HT.out HNp.out _) ?_
           try simp only [Act.put, List.setIfInBounds_toArray, List.set_cons_zero, List.set_cons_succ]
           have HSB := Lib.hid (str_fin HPp.out HPq.out HNE.out HOK2.out HOK4.out HNp.out HNq.out HT.out)
           clear hS0
           have hS0 := below_row HT.out HNp.out (dnK r.d r.c ad2 n2 cap2 zd2 zn2 zc2 r.t r.e)
           replace HPq := Lib.hid (str_far HPq.out HNE.out (dnK r.d r.c ad2 n2 cap2 zd2 zn2 zc2 r.t r.e))
           refine held_call (i := 27) rfl (by kernel_rfl) (by rfl) (fun K' hK' => ?_)
           refine oper_store_dn (.tmp 13) (.tmp 78) rfl q rfl _ _ _ _ _ _ _ _ _ _ rfl HPq.out ?_
           refine held_go hK' (HSB.out.b) ?_
           try simp only [Act.put, List.setIfInBounds_toArray, List.set_cons_zero, List.set_cons_succ]
           refine wpAnyH_done (by kernel_rfl) ?_ _
           refine NoPanic.normal ?_
           go_wp2_with fail
           go_meet
           exact ⟨_, _, _, _, _, _, _, _, _, _, _, _, _, _, rfl, rfl, HSB⟩
         ·as_aux_lemma =>
          go_simp
          have HPq := Lib.hid (heap_alloc_new X3 boxDn)
          have HNq := Lib.hid (show wr.heap.size ≤ X3.heap.size from HT.out.size)
          have HNE := Lib.hid (show p ≠ X3.heap.size ∨ X3.heap.size ≠ p by have h1 := (Array.getElem?_eq_some_iff.1 HPp.out).1; omega)
          replace HPp := Lib.hid (row_next HPp.out (below_boxC X3 boxDn))
          replace HOK2 := Lib.hid (HOK2.out.add (T := (fun j : Nat => (j = dp ∨ j = lg) ∨ j = p ∨ j = X3.heap.size)) boxDn (fun k hk => or_last hk))
          replace HT := bl HT (below_boxC X3 boxDn)
          refine held_go hK' (HT.out) ?_
          try simp only [Act.put, List.setIfInBounds_toArray, List.set_cons_zero, List.set_cons_succ]
          generalize World.alloc X3 _ = X4 at *
          generalize X3.heap.size = q at *
          clear hS0
          have hS0 := HT.out
          refine held_call (i := 18) rfl (by kernel_rfl) (by rfl) (fun K' hK' => ?_)
          go_simp
          refine (HCP.out X4 (HIN.out.below HT.out)).mono ?_
          rintro e X5 ⟨ad3, cap3, rfl, hi, hkf, hb⟩
          have HI3 := Lib.hid hi
          have HK3 := Lib.hid (show KnoS X5 (fun j : Nat => (j = dp ∨ j = lg) ∨ j = p ∨ j = q) ad3 c.l from KnoS.of_fr hkf (fun k (hk : (k = dp ∨ k = lg) ∨ k = p ∨ k = q) => by have h_p := (Array.getElem?_eq_some_iff.1 HPp.out).1; have h_q := (Array.getElem?_eq_some_iff.1 HPq.out).1; have h_b := HLT.out; have h_t := HT.out.size; omega))
          clear hi hkf
          replace HPp := Lib.hid (row_next HPp.out hb)
          replace HPq := Lib.hid (row_next HPq.out hb)
          replace HOK2 := Lib.hid (HOK2.out.below hb)
          replace HT := bl HT hb
          refine held_go hK' (HT.out) ?_
          try simp only [Act.put, List.setIfInBounds_toArray, List.set_cons_zero, List.set_cons_succ]
          clear hS0
          have hS0 := HT.out
          clear hb
          refine held_call (i := 23) rfl (by kernel_rfl) (by rfl) (fun K' hK' => ?_)
          go_simp
          refine (HDC.out X5 ad3 cap3 HI3.out (HZI.out.below HT.out)).mono ?_
          rintro e X6 hret
          obtain ⟨ad4, n4, cap4, zd4, zn4, zc4, rfl, hok, hb⟩ := DnOk.of (S := (fun j : Nat => (j = dp ∨ j = lg) ∨ j = p ∨ j = q)) hret HK3.out (fun k (hk : (k = dp ∨ k = lg) ∨ k = p ∨ k = q) => by have h_p := (Array.getElem?_eq_some_iff.1 HPp.out).1; have h_q := (Array.getElem?_eq_some_iff.1 HPq.out).1; have h_b := HLT.out; have h_t := HT.out.size; omega)
          have HOK4 := Lib.hid hok
          clear hret hok HI3 HK3
          replace HPp := Lib.hid (row_next HPp.out hb)
          replace HPq := Lib.hid (row_next HPq.out hb)
          replace HOK2 := Lib.hid (HOK2.out.below hb)
          replace HT := bl HT hb
          refine held_go hK' (HT.out) ?_
          try simp only [Act.put, List.setIfInBounds_toArray, List.set_cons_zero, List.set_cons_succ]
          clear hS0
          have hS0 := HT.out
          clear hb
          refine held_call (i := 26) rfl (by kernel_rfl) (by rfl) (fun K' hK' => ?_)
          refine oper_store_dn (.tmp 12) (.tmp 66) rfl p rfl _ _ _ _ _ _ _ _ _ _ rfl HPp.out ?_
          refine held_go hK' (below_row HT.out HNp.out _) ?_
          try simp only [Act.put, List.setIfInBounds_toArray, List.set_cons_zero, List.set_cons_succ]
          have HSB := Lib.hid (str_fin HPp.out HPq.out HNE.out HOK2.out HOK4.out HNp.out HNq.out HT.out)
          clear hS0
          have hS0 := below_row HT.out HNp.out (dnK r.d r.c ad2 n2 cap2 zd2 zn2 zc2 r.t r.e)
          replace HPq := Lib.hid (str_far HPq.out HNE.out (dnK r.d r.c ad2 n2 cap2 zd2 zn2 zc2 r.t r.e))
          refine held_call (i := 27) rfl (by kernel_rfl) (by rfl) (fun K' hK' => ?_)
          refine oper_store_dn (.tmp 13) (.tmp 78) rfl q rfl _ _ _ _ _ _ _ _ _ _ rfl HPq.out ?_
          refine held_go hK' (HSB.out.b) ?_
          try simp only [Act.put, List.setIfInBounds_toArray, List.set_cons_zero, List.set_cons_succ]
          refine wpAnyH_done (by kernel_rfl) ?_ _
          refine NoPanic.normal ?_
          go_wp2_with fail
          go_meet
          exact ⟨_, _, _, _, _, _, _, _, _, _, _, _, _, _, rfl, rfl, HSB⟩
        ·as_aux_lemma =>
         go_simp
         have HPq := Lib.hid (heap_alloc_new X2 boxDn)
         have HNq := Lib.hid (show wr.heap.size ≤ X2.heap.size from HT.out.size)
         have HNE := Lib.hid (show p ≠ X2.heap.size ∨ X2.heap.size ≠ p by have h1 := (Array.getElem?_eq_some_iff.1 HPp.out).1; omega)
         replace HPp := Lib.hid (row_next HPp.out (below_boxC X2 boxDn))
         replace HI1 := Lib.hid (HI1.out.below (below_boxC X2 boxDn))
         replace HK1 := Lib.hid (HK1.out.add (T := (fun j : Nat => (j = dp ∨ j = lg) ∨ j = p ∨ j = X2.heap.size)) boxDn (fun k hk => or_last hk))
         replace HT := bl HT (below_boxC X2 boxDn)
         refine held_go hK' (HT.out) ?_
         try simp only [Act.put, List.setIfInBounds_toArray, List.set_cons_zero, List.set_cons_succ]
         generalize World.alloc X2 _ = X3 at *
         generalize X2.heap.size = q at *
         clear hS0
         have hS0 := HT.out
         refine held_call (i := 11) rfl (by kernel_rfl) (by rfl) (fun K' hK' => ?_)
         go_simp
         refine (HPG.out X3 ad1 cap1 HI1.out (HZI.out.below HT.out)).mono ?_
         rintro e X4 hret
         obtain ⟨ad2, n2, cap2, zd2, zn2, zc2, rfl, hok, hb⟩ := DnOk.of (S := (fun j : Nat => (j = dp ∨ j = lg) ∨ j = p ∨ j = q)) hret HK1.out (fun k (hk : (k = dp ∨ k = lg) ∨ k = p ∨ k = q) => by have h_p := (Array.getElem?_eq_some_iff.1 HPp.out).1; have h_q := (Array.getElem?_eq_some_iff.1 HPq.out).1; have h_b := HLT.out; have h_t := HT.out.size; omega)
         have HOK2 := Lib.hid hok
         clear hret hok HI1 HK1
         replace HPp := Lib.hid (row_next HPp.out hb)
         replace HPq := Lib.hid (row_next HPq.out hb)
         replace HT := bl HT hb
         refine held_go hK' (HT.out) ?_
         try simp only [Act.put, List.setIfInBounds_toArray, List.set_cons_zero, List.set_cons_succ]
         clear hS0
         have hS0 := HT.out
         clear hb
         refine held_call (i := 18) rfl (by kernel_rfl) (by rfl) (fun K' hK' => ?_)
         go_simp
         refine (HCP.out X4 (HIN.out.below HT.out)).mono ?_
         rintro e X5 ⟨ad3, cap3, rfl, hi, hkf, hb⟩
         have HI3 := Lib.hid hi
         have HK3 := Lib.hid (show KnoS X5 (fun j : Nat => (j = dp ∨ j = lg) ∨ j = p ∨ j = q) ad3 c.l from KnoS.of_fr hkf (fun k (hk : (k = dp ∨ k = lg) ∨ k = p ∨ k = q) => by have h_p := (Array.getElem?_eq_some_iff.1 HPp.out).1; have h_q := (Array.getElem?_eq_some_iff.1 HPq.out).1; have h_b := HLT.out; have h_t := HT.out.size; omega))
         clear hi hkf
         replace HPp := Lib.hid (row_next HPp.out hb)
         replace HPq := Lib.hid (row_next HPq.out hb)
         replace HOK2 := Lib.hid (HOK2.out.below hb)
         replace HT := bl HT hb
         refine held_go hK' (HT.out) ?_
         try simp only [Act.put, List.setIfInBounds_toArray, List.set_cons_zero, List.set_cons_succ]
         clear hS0
         have hS0 := HT.out
         clear hb
         refine held_call (i := 23) rfl (by kernel_rfl) (by rfl) (fun K' hK' => ?_)
         go_simp
         refine (HDC.out X5 ad3 cap3 HI3.out (HZI.out.below HT.out)).mono ?_
         rintro e X6 hret
         obtain ⟨ad4, n4, cap4, zd4, zn4, zc4, rfl, hok, hb⟩ := DnOk.of (S := (fun j : Nat => (j = dp ∨ j = lg) ∨ j = p ∨ j = q)) hret HK3.out (fun k (hk : (k = dp ∨ k = lg) ∨ k = p ∨ k = q) => by have h_p := (Array.getElem?_eq_some_iff.1 HPp.out).1; have h_q := (Array.getElem?_eq_some_iff.1 HPq.out).1; have h_b := HLT.out; have h_t := HT.out.size; omega)
         have HOK4 := Lib.hid hok
         clear hret hok HI3 HK3
         replace HPp := Lib.hid (row_next HPp.out hb)
         replace HPq := Lib.hid (row_next HPq.out hb)
         replace HOK2 := Lib.hid (HOK2.out.below hb)
         replace HT := bl HT hb
         refine held_go hK' (HT.out) ?_
         try simp only [Act.put, List.setIfInBounds_toArray, List.set_cons_zero, List.set_cons_succ]
         clear hS0
         have hS0 := HT.out
         clear hb
         refine held_call (i := 26) rfl (by kernel_rfl) (by rfl) (fun K' hK' => ?_)
         refine oper_store_dn (.tmp 12) (.tmp 66) rfl p rfl _ _ _ _ _ _ _ _ _ _ rfl HPp.out ?_
         refine held_go hK' (below_row HT.out HNp.out _) ?_
         try simp only [Act.put, List.setIfInBounds_toArray, List.set_cons_zero, List.set_cons_succ]
         have HSB := Lib.hid (str_fin HPp.out HPq.out HNE.out HOK2.out HOK4.out HNp.out HNq.out HT.out)
         clear hS0
         have hS0 := below_row HT.out HNp.out (dnK r.d r.c ad2 n2 cap2 zd2 zn2 zc2 r.t r.e)
         replace HPq := Lib.hid (str_far HPq.out HNE.out (dnK r.d r.c ad2 n2 cap2 zd2 zn2 zc2 r.t r.e))
         refine held_call (i := 27) rfl (by kernel_rfl) (by rfl) (fun K' hK' => ?_)
         refine oper_store_dn (.tmp 13) (.tmp 78) rfl q rfl _ _ _ _ _ _ _ _ _ _ rfl HPq.out ?_
         refine held_go hK' (HSB.out.b) ?_
         try simp only [Act.put, List.setIfInBounds_toArray, List.set_cons_zero, List.set_cons_succ]
         refine wpAnyH_done (by kernel_rfl) ?_ _
         refine NoPanic.normal ?_
         go_wp2_with fail
         go_meet
         exact ⟨_, _, _, _, _, _, _, _, _, _, _, _, _, _, rfl, rfl, HSB⟩
       ·as_aux_lemma =>
        go_simp
        have HPq := Lib.hid (heap_alloc_new X1 boxDn)
        have HNq := Lib.hid (show wr.heap.size ≤ X1.heap.size from HT.out.size)
        replace HI1 := Lib.hid (HI1.out.below (below_boxC X1 boxDn))
        replace HK1 := Lib.hid (HK1.out.add (T := (fun j : Nat => (j = dp ∨ j = lg) ∨ j = X1.heap.size)) boxDn (fun k hk => hk))
        replace HT := bl HT (below_boxC X1 boxDn)
        refine held_go hK' (HT.out) ?_
        try simp only [Act.put, List.setIfInBounds_toArray, List.set_cons_zero, List.set_cons_succ]
        generalize World.alloc X1 _ = X2 at *
        generalize X1.heap.size = q at *
        clear hS0
        have hS0 := HT.out
        refine held_two (i := 11) (j := 24) rfl rfl (by kernel_rfl) (by rfl) (by rfl) (fun K' hK' => ?_) (fun K' hK' => ?_)
        ·as_aux_lemma =>
         go_simp
         refine (HPG.out X2 ad1 cap1 HI1.out (HZI.out.below HT.out)).mono ?_
         rintro e X3 hret
         obtain ⟨ad2, n2, cap2, zd2, zn2, zc2, rfl, hok, hb⟩ := DnOk.of (S := (fun j : Nat => (j = dp ∨ j = lg) ∨ j = q)) hret HK1.out (fun k (hk : (k = dp ∨ k = lg) ∨ k = q) => by have h_q := (Array.getElem?_eq_some_iff.1 HPq.out).1; have h_b := HLT.out; have h_t := HT.out.size; omega)
         have HOK2 := Lib.hid hok
         clear hret hok HI1 HK1
         replace HPq := Lib.hid (row_next HPq.out hb)
         replace HT := bl HT hb
         refine held_go hK' (HT.out) ?_
         try simp only [Act.put, List.setIfInBounds_toArray, List.set_cons_zero, List.set_cons_succ]
         clear hS0
         have hS0 := HT.out
         clear hb
         refine held_two (i := 18) (j := 24) rfl rfl (by kernel_rfl) (by rfl) (by rfl) (fun K' hK' => ?_) (fun K' hK' => ?_)
         ·as_aux_lemma =>
          go_simp
          refine (HCP.out X3 (HIN.out.below HT.out)).mono ?_
          rintro e X4 ⟨ad3, cap3, rfl, hi, hkf, hb⟩
          have HI3 := Lib.hid hi
          have HK3 := Lib.hid (show KnoS X4 (fun j : Nat => (j = dp ∨ j = lg) ∨ j = q) ad3 c.l from KnoS.of_fr hkf (fun k (hk : (k = dp ∨ k = lg) ∨ k = q) => by have h_q := (Array.getElem?_eq_some_iff.1 HPq.out).1; have h_b := HLT.out; have h_t := HT.out.size; omega))
          clear hi hkf
          replace HPq := Lib.hid (row_next HPq.out hb)
          replace HOK2 := Lib.hid (HOK2.out.below hb)
          replace HT := bl HT hb
          refine held_go hK' (HT.out) ?_
          try simp only [Act.put, List.setIfInBounds_toArray, List.set_cons_zero, List.set_cons_succ]
          clear hS0
          have hS0 := HT.out
          clear hb
          refine held_two (i := 23) (j := 24) rfl rfl (by kernel_rfl) (by rfl) (by rfl) (fun K' hK' => ?_) (fun K' hK' => ?_)
          ·as_aux_lemma =>
           go_simp
           refine (HDC.out X4 ad3 cap3 HI3.out (HZI.out.below HT.out)).mono ?_
           rintro e X5 hret
           obtain ⟨ad4, n4, cap4, zd4, zn4, zc4, rfl, hok, hb⟩ := DnOk.of (S := (fun j : Nat => (j = dp ∨ j = lg) ∨ j = q)) hret HK3.out (fun k (hk : (k = dp ∨ k = lg) ∨ k = q) => by have h_q := (Array.getElem?_eq_some_iff.1 HPq.out).1; have h_b := HLT.out; have h_t := HT.out.size; omega)
           have HOK4 := Lib.hid hok
           clear hret hok HI3 HK3
           replace HPq := Lib.hid (row_next HPq.out hb)
           replace HOK2 := Lib.hid (HOK2.out.below hb)
           replace HT := bl HT hb
           refine held_go hK' (HT.out) ?_
           try simp only [Act.put, List.setIfInBounds_toArray, List.set_cons_zero, List.set_cons_succ]
           clear hS0
           have hS0 := HT.out
           clear hb
           refine held_call (i := 24) rfl (by kernel_rfl) (by rfl) (fun K' hK' => ?_)
           go_simp
           have HPp := Lib.hid (heap_alloc_new X5 boxDn)
           have HNp := Lib.hid (show wr.heap.size ≤ X5.heap.size from HT.out.size)
           have HNE := Lib.hid (show X5.heap.size ≠ q ∨ q ≠ X5.heap.size by have h1 := (Array.getElem?_eq_some_iff.1 HPq.out).1; omega)
           replace HPq := Lib.hid (row_next HPq.out (below_boxC X5 boxDn))
           replace HOK2 := Lib.hid (HOK2.out.add (T := (fun j : Nat => (j = dp ∨ j = lg) ∨ j = X5.heap.size ∨ j = q)) boxDn (fun k hk => or_mid hk))
           replace HOK4 := Lib.hid (HOK4.out.add (T := (fun j : Nat => (j = dp ∨ j = lg) ∨ j = X5.heap.size ∨ j = q)) boxDn (fun k hk => or_mid hk))
           replace HT := bl HT (below_boxC X5 boxDn)
           refine held_go hK' (HT.out) ?_
           try simp only [Act.put, List.setIfInBounds_toArray, List.set_cons_zero, List.set_cons_succ]
           generalize World.alloc X5 _ = X6 at *
           generalize X5.heap.size = p at *
           clear hS0
           have hS0 := HT.out
           refine held_call (i := 26) rfl (by kernel_rfl) (by rfl) (fun K' hK' => ?_)
           refine oper_store_dn (.tmp 12) (.tmp 66) rfl p rfl _ _ _ _ _ _ _ _ _ _ rfl HPp.out ?_
           refine held_go hK' (below_row HT.out HNp.out _) ?_
           try simp only [Act.put, List.setIfInBounds_toArray, List.set_cons_zero, List.set_cons_succ]
           have HSB := Lib.hid (str_fin HPp.out HPq.out HNE.out HOK2.out HOK4.out HNp.out HNq.out HT.out)
           clear hS0
           have hS0 := below_row HT.out HNp.out (dnK r.d r.c ad2 n2 cap2 zd2 zn2 zc2 r.t r.e)
           replace HPq := Lib.hid (str_far HPq.out HNE.out (dnK r.d r.c ad2 n2 cap2 zd2 zn2 zc2 r.t r.e))
           refine held_call (i := 27) rfl (by kernel_rfl) (by rfl) (fun K' hK' => ?_)
           refine oper_store_dn (.tmp 13) (.tmp 78) rfl q rfl _ _ _ _ _ _ _ _ _ _ rfl HPq.out ?_
           refine held_go hK' (HSB.out.b) ?_
           try simp only [Act.put, List.setIfInBounds_toArray, List.set_cons_zero, List.set_cons_succ]
           refine wpAnyH_done (by kernel_rfl) ?_ _
           refine NoPanic.normal ?_
           go_wp2_with fail
           go_meet
           exact ⟨_, _, _, _, _, _, _, _, _, _, _, _, _, _, rfl, rfl, HSB⟩
          ·as_aux_lemma =>
           go_simp
           have HPp := Lib.hid (heap_alloc_new X4 boxDn)
           have HNp := Lib.hid (show wr.heap.size ≤ X4.heap.size from HT.out.size)
           have HNE := Lib.hid (show X4.heap.size ≠ q ∨ q ≠ X4.heap.size by have h1 := (Array.getElem?_eq_some_iff.1 HPq.out).1; omega)
           replace HPq := Lib.hid (row_next HPq.out (below_boxC X4 boxDn))
           replace HOK2 := Lib.hid (HOK2.out.add (T := (fun j : Nat => (j = dp ∨ j = lg) ∨ j = X4.heap.size ∨ j = q)) boxDn (fun k hk => or_mid hk))
           replace HI3 := Lib.hid (HI3.out.below (below_boxC X4 boxDn))
           replace HK3 := Lib.hid (HK3.out.add (T := (fun j : Nat => (j = dp ∨ j = lg) ∨ j = X4.heap.size ∨ j = q)) boxDn (fun k hk => or_mid hk))
           replace HT := bl HT (below_boxC X4 boxDn)
           refine held_go hK' (HT.out) ?_
           try simp only [Act.put, List.setIfInBounds_toArray, List.set_cons_zero, List.set_cons_succ]
           generalize World.alloc X4 _ = X5 at *
           generalize X4.heap.size = p at *
           clear hS0
           have hS0 := HT.out
           refine held_call (i := 23) rfl (by kernel_rfl) (by rfl) (fun K' hK' => ?_)
           go_simp
           refine (HDC.out X5 ad3 cap3 HI3.out (HZI.out.below HT.out)).mono ?_
           rintro e X6 hret
           obtain ⟨ad4, n4, cap4, zd4, zn4, zc4, rfl, hok, hb⟩ := DnOk.of (S := (fun j : Nat => (j = dp ∨ j = lg) ∨ j = p ∨ j = q)) hret HK3.out (fun k (hk : (k = dp ∨ k = lg) ∨ k = p ∨ k = q) => by have h_p := (Array.getElem?_eq_some_iff.1 HPp.out).1; have h_q := (Array.getElem?_eq_some_iff.1 HPq.out).1; have h_b := HLT.out; have h_t := HT.out.size; omega)
           have HOK4 := Lib.hid hok
           clear hret hok HI3 HK3
           replace HPq := Lib.hid (row_next HPq.out hb)
           replace HPp := Lib.hid (row_next HPp.out hb)
           replace HOK2 := Lib.hid (HOK2.out.below hb)
           replace HT := bl HT hb
           refine held_go hK' (HT.out) ?_
           try simp only [Act.put, List.setIfInBounds_toArray, List.set_cons_zero, List.set_cons_succ]
           clear hS0
           have hS0 := HT.out
           clear hb
           refine held_call (i := 26) rfl (by kernel_rfl) (by rfl) (fun K' hK' => ?_)
           refine oper_store_dn (.tmp 12) (.tmp 66) rfl p rfl _ _ _ _ _ _ _ _ _ _ rfl HPp.out ?_
           refine held_go hK' (below_row HT.out HNp.out _) ?_
           try simp only [Act.put, List.setIfInBounds_toArray, List.set_cons_zero, List.set_cons_succ]
           have HSB := Lib.hid (str_fin HPp.out HPq.out HNE.out HOK2.out HOK4.out HNp.out HNq.out HT.out)
           clear hS0
           have hS0 := below_row HT.out HNp.out (dnK r.d r.c ad2 n2 cap2 zd2 zn2 zc2 r.t r.e)
           replace HPq := Lib.hid (str_far HPq.out HNE.out (dnK r.d r.c ad2 n2 cap2 zd2 zn2 zc2 r.t r.e))
           refine held_call (i := 27) rfl (by kernel_rfl) (by rfl) (fun K' hK' => ?_)
           refine oper_store_dn (.tmp 13) (.tmp 78) rfl q rfl _ _ _ _ _ _ _ _ _ _ rfl HPq.out ?_
           refine held_go hK' (HSB.out.b) ?_
           try simp only [Act.put, List.setIfInBounds_toArray, List.set_cons_zero, List.set_cons_succ]
           refine wpAnyH_done (by kernel_rfl) ?_ _
           refine NoPanic.normal ?_
           go_wp2_with fail
           go_meet
           exact ⟨_, _, _, _, _, _, _, _, _, _, _, _, _, _, rfl, rfl, HSB⟩
         ·as_aux_lemma =>
          go_simp
          have HPp := Lib.hid (heap_alloc_new X3 boxDn)
          have HNp := Lib.hid (show wr.heap.size ≤ X3.heap.size from HT.out.size)
          have HNE := Lib.hid (show X3.heap.size ≠ q ∨ q ≠ X3.heap.size by have h1 := (Array.getElem?_eq_some_iff.1 HPq.out).1; omega)
          replace HPq := Lib.hid (row_next HPq.out (below_boxC X3 boxDn))
          replace HOK2 := Lib.hid (HOK2.out.add (T := (fun j : Nat => (j = dp ∨ j = lg) ∨ j = X3.heap.size ∨ j = q)) boxDn (fun k hk => or_mid hk))
          replace HT := bl HT (below_boxC X3 boxDn)
          refine held_go hK' (HT.out) ?_
          try simp only [Act.put, List.setIfInBounds_toArray, List.set_cons_zero, List.set_cons_succ]
          generalize World.alloc X3 _ = X4 at *
          generalize X3.heap.size = p at *
          clear hS0
          have hS0 := HT.out
          refine held_call (i := 18) rfl (by kernel_rfl) (by rfl) (fun K' hK' => ?_)
          go_simp
          refine (HCP.out X4 (HIN.out.below HT.out)).mono ?_
          rintro e X5 ⟨ad3, cap3, rfl, hi, hkf, hb⟩
          have HI3 := Lib.hid hi
          have HK3 := Lib.hid (show KnoS X5 (fun j : Nat => (j = dp ∨ j = lg) ∨ j = p ∨ j = q) ad3 c.l from KnoS.of_fr hkf (fun k (hk : (k = dp ∨ k = lg) ∨ k = p ∨ k = q) => by have h_p := (Array.getElem?_eq_some_iff.1 HPp.out).1; have h_q := (Array.getElem?_eq_some_iff.1 HPq.out).1; have h_b := HLT.out; have h_t := HT.out.size; omega))
          clear hi hkf
          replace HPq := Lib.hid (row_next HPq.out hb)
          replace HPp := Lib.hid (row_next HPp.out hb)
          replace HOK2 := Lib.hid (HOK2.out.below hb)
          replace HT := bl HT hb
          refine held_go hK' (HT.out) ?_
          try simp only [Act.put, List.setIfInBounds_toArray, List.set_cons_zero, List.set_cons_succ]
          clear hS0
          have hS0 := HT.out
          clear hb
          refine held_call (i := 23) rfl (by kernel_rfl) (by rfl) (fun K' hK' => ?_)
          go_simp
          refine (HDC.out X5 ad3 cap3 HI3.out (HZI.out.below HT.out)).mono ?_
          rintro e X6 hret
          obtain ⟨ad4, n4, cap4, zd4, zn4, zc4, rfl, hok, hb⟩ := DnOk.of (S := (fun j : Nat => (j = dp ∨ j = lg) ∨ j = p ∨ j = q)) hret HK3.out (fun k (hk : (k = dp ∨ k = lg) ∨ k = p ∨ k = q) => by have h_p := (Array.getElem?_eq_some_iff.1 HPp.out).1; have h_q := (Array.getElem?_eq_some_iff.1 HPq.out).1; have h_b := HLT.out; have h_t := HT.out.size; omega)
          have HOK4 := Lib.hid hok
          clear hret hok HI3 HK3
          replace HPq := Lib.hid (row_next HPq.out hb)
          replace HPp := Lib.hid (row_next HPp.out hb)
          replace HOK2 := Lib.hid (HOK2.out.below hb)
          replace HT := bl HT hb
          refine held_go hK' (HT.out) ?_
          try simp only [Act.put, List.setIfInBounds_toArray, List.set_cons_zero, List.set_cons_succ]
          clear hS0
          have hS0 := HT.out
          clear hb
          refine held_call (i := 26) rfl (by kernel_rfl) (by rfl) (fun K' hK' => ?_)
          refine oper_store_dn (.tmp 12) (.tmp 66) rfl p rfl _ _ _ _ _ _ _ _ _ _ rfl HPp.out ?_
          refine held_go hK' (below_row HT.out HNp.out _) ?_
          try simp only [Act.put, List.setIfInBounds_toArray, List.set_cons_zero, List.set_cons_succ]
          have HSB := Lib.hid (str_fin HPp.out HPq.out HNE.out HOK2.out HOK4.out HNp.out HNq.out HT.out)
          clear hS0
          have hS0 := below_row HT.out HNp.out (dnK r.d r.c ad2 n2 cap2 zd2 zn2 zc2 r.t r.e)
          replace HPq := Lib.hid (str_far HPq.out HNE.out (dnK r.d r.c ad2 n2 cap2 zd2 zn2 zc2 r.t r.e))
          refine held_call (i := 27) rfl (by kernel_rfl) (by rfl) (fun K' hK' => ?_)
          refine oper_store_dn (.tmp 13) (.tmp 78) rfl q rfl _ _ _ _ _ _ _ _ _ _ rfl HPq.out ?_
          refine held_go hK' (HSB.out.b) ?_
          try simp only [Act.put, List.setIfInBounds_toArray, List.set_cons_zero, List.set_cons_succ]
          refine wpAnyH_done (by kernel_rfl) ?_ _
          refine NoPanic.normal ?_
          go_wp2_with fail
          go_meet
          exact ⟨_, _, _, _, _, _, _, _, _, _, _, _, _, _, rfl, rfl, HSB⟩
        ·as_aux_lemma =>
         go_simp
         have HPp := Lib.hid (heap_alloc_new X2 boxDn)
         have HNp := Lib.hid (show wr.heap.size ≤ X2.heap.size from HT.out.size)
         have HNE := Lib.hid (show X2.heap.size ≠ q ∨ q ≠ X2.heap.size by have h1 := (Array.getElem?_eq_some_iff.1 HPq.out).1; omega)
         replace HPq := Lib.hid (row_next HPq.out (below_boxC X2 boxDn))
         replace HI1 := Lib.hid (HI1.out.below (below_boxC X2 boxDn))
         replace HK1 := Lib.hid (HK1.out.add (T := (fun j : Nat => (j = dp ∨ j = lg) ∨ j = X2.heap.size ∨ j = q)) boxDn (fun k hk => or_mid hk))
         replace HT := bl HT (below_boxC X2 boxDn)
         refine held_go hK' (HT.out) ?_
         try simp only [Act.put, List.setIfInBounds_toArray, List.set_cons_zero, List.set_cons_succ]
         generalize World.alloc X2 _ = X3 at *
         generalize X2.heap.size = p at *
         clear hS0
         have hS0 := HT.out
         refine held_call (i := 11) rfl (by kernel_rfl) (by rfl) (fun K' hK' => ?_)
         go_simp
         refine (HPG.out X3 ad1 cap1 HI1.out (HZI.out.below HT.out)).mono ?_
         rintro e X4 hret
         obtain ⟨ad2, n2, cap2, zd2, zn2, zc2, rfl, hok, hb⟩ := DnOk.of (S := (fun j : Nat => (j = dp ∨ j = lg) ∨ j = p ∨ j = q)) hret HK1.out (fun k (hk : (k = dp ∨ k = lg) ∨ k = p ∨ k = q) => by have h_p := (Array.getElem?_eq_some_iff.1 HPp.out).1; have h_q := (Array.getElem?_eq_some_iff.1 HPq.out).1; have h_b := HLT.out; have h_t := HT.out.size; omega)
         have HOK2 := Lib.hid hok
         clear hret hok HI1 HK1
         replace HPq := Lib.hid (row_next HPq.out hb)
         replace HPp := Lib.hid (row_next HPp.out hb)
         replace HT := bl HT hb
         refine held_go hK' (HT.out) ?_
         try simp only [Act.put, List.setIfInBounds_toArray, List.set_cons_zero, List.set_cons_succ]
         clear hS0
         have hS0 := HT.out
         clear hb
         refine held_call (i := 18) rfl (by kernel_rfl) (by rfl) (fun K' hK' => ?_)
         go_simp
         refine (HCP.out X4 (HIN.out.below HT.out)).mono ?_
         rintro e X5 ⟨ad3, cap3, rfl, hi, hkf, hb⟩
         have HI3 := Lib.hid hi
         have HK3 := Lib.hid (show KnoS X5 (fun j : Nat => (j = dp ∨ j = lg) ∨ j = p ∨ j = q) ad3 c.l from KnoS.of_fr hkf (fun k (hk : (k = dp ∨ k = lg) ∨ k = p ∨ k = q) => by have h_p := (Array.getElem?_eq_some_iff.1 HPp.out).1; have h_q := (Array.getElem?_eq_some_iff.1 HPq.out).1; have h_b := HLT.out; have h_t := HT.out.size; omega))
         clear hi hkf
         replace HPq := Lib.hid (row_next HPq.out hb)
         replace HPp := Lib.hid (row_next HPp.out hb)
         replace HOK2 := Lib.hid (HOK2.out.below hb)
         replace HT := bl HT hb
         refine held_go hK' (HT.out) ?_
         try simp only [Act.put, List.setIfInBounds_toArray, List.set_cons_zero, List.set_cons_succ]
         clear hS0
         have hS0 := HT.out
         clear hb
         refine held_call (i := 23) rfl (by kernel_rfl) (by rfl) (fun K' hK' => ?_)
         go_simp
         refine (HDC.out X5 ad3 cap3 HI3.out (HZI.out.below HT.out)).mono ?_
         rintro e X6 hret
         obtain ⟨ad4, n4, cap4, zd4, zn4, zc4, rfl, hok, hb⟩ := DnOk.of (S := (fun j : Nat => (j = dp ∨ j = lg) ∨ j = p ∨ j = q)) hret HK3.out (fun k (hk : (k = dp ∨ k = lg) ∨ k = p ∨ k = q) => by have h_p := (Array.getElem?_eq_some_iff.1 HPp.out).1; have h_q := (Array.getElem?_eq_some_iff.1 HPq.out).1; have h_b := HLT.out; have h_t := HT.out.size; omega)
         have HOK4 := Lib.hid hok
         clear hret hok HI3 HK3
         replace HPq := Lib.hid (row_next HPq.out hb)
         replace HPp := Lib.hid (row_next HPp.out hb)
         replace HOK2 := Lib.hid (HOK2.out.below hb)
         replace HT := bl HT hb
         refine held_go hK' (HT.out) ?_
         try simp only [Act.put, List.setIfInBounds_toArray, List.set_cons_zero, List.set_cons_succ]
         clear hS0
         have hS0 := HT.out
         clear hb
         refine held_call (i := 26) rfl (by kernel_rfl) (by rfl) (fun K' hK' => ?_)
         refine oper_store_dn (.tmp 12) (.tmp 66) rfl p rfl _ _ _ _ _ _ _ _ _ _ rfl HPp.out ?_
         refine held_go hK' (below_row HT.out HNp.out _) ?_
         try simp only [Act.put, List.setIfInBounds_toArray, List.set_cons_zero, List.set_cons_succ]
         have HSB := Lib.hid (str_fin HPp.out HPq.out HNE.out HOK2.out HOK4.out HNp.out HNq.out HT.out)
         clear hS0
         have hS0 := below_row HT.out HNp.out (dnK r.d r.c ad2 n2 cap2 zd2 zn2 zc2 r.t r.e)
         replace HPq := Lib.hid (str_far HPq.out HNE.out (dnK r.d r.c ad2 n2 cap2 zd2 zn2 zc2 r.t r.e))
         refine held_call (i := 27) rfl (by kernel_rfl) (by rfl) (fun K' hK' => ?_)
         refine oper_store_dn (.tmp 13) (.tmp 78) rfl q rfl _ _ _ _ _ _ _ _ _ _ rfl HPq.out ?_
         refine held_go hK' (HSB.out.b) ?_
         try simp only [Act.put, List.setIfInBounds_toArray, List.set_cons_zero, List.set_cons_succ]
         refine wpAnyH_done (by kernel_rfl) ?_ _
         refine NoPanic.normal ?_
         go_wp2_with fail
         go_meet
         exact ⟨_, _, _, _, _, _, _, _, _, _, _, _, _, _, rfl, rfl, HSB⟩
      ·as_aux_lemma =>
       go_simp
       have HPp := Lib.hid (heap_alloc_new X0 boxDn)
       have HNp := Lib.hid (show wr.heap.size ≤ X0.heap.size from HT.out.size)
       replace HT := bl HT (below_boxC X0 boxDn)
       refine held_go hK' (HT.out) ?_
       try simp only [Act.put, List.setIfInBounds_toArray, List.set_cons_zero, List.set_cons_succ]
       generalize World.alloc X0 _ = X1 at *
       generalize X0.heap.size = p at *
       clear hS0
       have hS0 := HT.out
       refine held_two (i := 6) (j := 25) rfl rfl (by kernel_rfl) (by rfl) (by rfl) (fun K' hK' => ?_) (fun K' hK' => ?_)
       ·as_aux_lemma =>
        go_simp
        refine (HCP.out X1 (HIN.out.below HT.out)).mono ?_
        rintro e X2 ⟨ad1, cap1, rfl, hi, hkf, hb⟩
        have HI1 := Lib.hid hi
        have HK1 := Lib.hid (show KnoS X2 (fun j : Nat => (j = dp ∨ j = lg) ∨ j = p) ad1 c.l from KnoS.of_fr hkf (fun k (hk : (k = dp ∨ k = lg) ∨ k = p) => by have h_p := (Array.getElem?_eq_some_iff.1 HPp.out).1; have h_b := HLT.out; have h_t := HT.out.size; omega))
        clear hi hkf
        replace HPp := Lib.hid (row_next HPp.out hb)
        replace HT := bl HT hb
        refine held_go hK' (HT.out) ?_
        try simp only [Act.put, List.setIfInBounds_toArray, List.set_cons_zero, List.set_cons_succ]
        clear hS0
        have hS0 := HT.out
        clear hb
        refine held_two (i := 11) (j := 25) rfl rfl (by kernel_rfl) (by rfl) (by rfl) (fun K' hK' => ?_) (fun K' hK' => ?_)
        ·as_aux_lemma =>
         go_simp
         refine (HPG.out X2 ad1 cap1 HI1.out (HZI.out.below HT.out)).mono ?_
         rintro e X3 hret
         obtain ⟨ad2, n2, cap2, zd2, zn2, zc2, rfl, hok, hb⟩ := DnOk.of (S := (fun j : Nat => (j = dp ∨ j = lg) ∨ j = p)) hret HK1.out (fun k (hk : (k = dp ∨ k = lg) ∨ k = p) => by have h_p := (Array.getElem?_eq_some_iff.1 HPp.out).1; have h_b := HLT.out; have h_t := HT.out.size; omega)
         have HOK2 := Lib.hid hok
         clear hret hok HI1 HK1
         replace HPp := Lib.hid (row_next HPp.out hb)
         replace HT := bl HT hb
         refine held_go hK' (HT.out) ?_
         try simp only [Act.put, List.setIfInBounds_toArray, List.set_cons_zero, List.set_cons_succ]
         clear hS0
         have hS0 := HT.out
         clear hb
         refine held_two (i := 18) (j := 25) rfl rfl (by kernel_rfl) (by rfl) (by rfl) (fun K' hK' => ?_) (fun K' hK' => ?_)
         ·as_aux_lemma =>
          go_simp
          refine (HCP.out X3 (HIN.out.below HT.out)).mono ?_
          rintro e X4 ⟨ad3, cap3, rfl, hi, hkf, hb⟩
          have HI3 := Lib.hid hi
          have HK3 := Lib.hid (show KnoS X4 (fun j : Nat => (j = dp ∨ j = lg) ∨ j = p) ad3 c.l from KnoS.of_fr hkf (fun k (hk : (k = dp ∨ k = lg) ∨ k = p) => by have h_p := (Array.getElem?_eq_some_iff.1 HPp.out).1; have h_b := HLT.out; have h_t := HT.out.size; omega))
          clear hi hkf
          replace HPp := Lib.hid (row_next HPp.out hb)
          replace HOK2 := Lib.hid (HOK2.out.below hb)
          replace HT := bl HT hb
          refine held_go hK' (HT.out) ?_
          try simp only [Act.put, List.setIfInBounds_toArray, List.set_cons_zero, List.set_cons_succ]
          clear hS0
          have hS0 := HT.out
          clear hb
          refine held_two (i := 23) (j := 25) rfl rfl (by kernel_rfl) (by rfl) (by rfl) (fun K' hK' => ?_) (fun K' hK' => ?_)
          ·as_aux_lemma =>
           go_simp
           refine (HDC.out X4 ad3 cap3 HI3.out (HZI.out.below HT.out)).mono ?_
           rintro e X5 hret
           obtain ⟨ad4, n4, cap4, zd4, zn4, zc4, rfl, hok, hb⟩ := DnOk.of (S := (fun j : Nat => (j = dp ∨ j = lg) ∨ j = p)) hret HK3.out (fun k (hk : (k = dp ∨ k = lg) ∨ k = p) => by have h_p := (Array.getElem?_eq_some_iff.1 HPp.out).1; have h_b := HLT.out; have h_t := HT.out.size; omega)
           have HOK4 := Lib.hid hok
           clear hret hok HI3 HK3
           replace HPp := Lib.hid (row_next HPp.out hb)
           replace HOK2 := Lib.hid (HOK2.out.below hb)
           replace HT := bl HT hb
           refine held_go hK' (HT.out) ?_
           try simp only [Act.put, List.setIfInBounds_toArray, List.set_cons_zero, List.set_cons_succ]
           clear hS0
           have hS0 := HT.out
           clear hb
           refine held_call (i := 25) rfl (by kernel_rfl) (by rfl) (fun K' hK' => ?_)
           go_simp
           have HPq := Lib.hid (heap_alloc_new X5 boxDn)
           have HNq := Lib.hid (show wr.heap.size ≤ X5.heap.size from HT.out.size)
           have HNE := Lib.hid (show p ≠ X5.heap.size ∨ X5.heap.size ≠ p by have h1 := (Array.getElem?_eq_some_iff.1 HPp.out).1; omega)
           replace HPp := Lib.hid (row_next HPp.out (below_boxC X5 boxDn))
           replace HOK2 := Lib.hid (HOK2.out.add (T := (fun j : Nat => (j = dp ∨ j = lg) ∨ j = p ∨ j = X5.heap.size)) boxDn (fun k hk => or_last hk))
           replace HOK4 := Lib.hid (HOK4.out.add (T := (fun j : Nat => (j = dp ∨ j = lg) ∨ j = p ∨ j = X5.heap.size)) boxDn (fun k hk => or_last hk))
           replace HT := bl HT (below_boxC X5 boxDn)
           refine held_go hK' (HT.out) ?_
           try simp only [Act.put, List.setIfInBounds_toArray, List.set_cons_zero, List.set_cons_succ]
           generalize World.alloc X5 _ = X6 at *
           generalize X5.heap.size = q at *
           clear hS0
           have hS0 := HT.out
           refine held_call (i := 26) rfl (by kernel_rfl) (by rfl) (fun K' hK' => ?_)
           refine oper_store_dn (.tmp 12) (.tmp 66) rfl p rfl _ _ _ _ _ _ _ _ _ _ rfl HPp.out ?_
           refine held_go hK' (below_row HT.out HNp.out _) ?_
           try simp only [Act.put, List.setIfInBounds_toArray, List.set_cons_zero, List.set_cons_succ]
           have HSB := Lib.hid (str_fin HPp.out HPq.out HNE.out HOK2.out HOK4.out HNp.out HNq.out HT.out)
           clear hS0
           have hS0 := below_row HT.out HNp.out (dnK r.d r.c ad2 n2 cap2 zd2 zn2 zc2 r.t r.e)
           replace HPq := Lib.hid (str_far HPq.out HNE.out (dnK r.d r.c ad2 n2 cap2 zd2 zn2 zc2 r.t r.e))
           refine held_call (i := 27) rfl (by kernel_rfl) (by rfl) (fun K' hK' => ?_)
           refine oper_store_dn (.tmp 13) (.tmp 78) rfl q rfl _ _ _ _ _ _ _ _ _ _ rfl HPq.out ?_
           refine held_go hK' (HSB.out.b) ?_
           try simp only [Act.put, List.setIfInBounds_toArray, List.set_cons_zero, List.set_cons_succ]
           refine wpAnyH_done (by kernel_rfl) ?_ _
           refine NoPanic.normal ?_
           go_wp2_with fail
           go_meet
           exact ⟨_, _, _, _, _, _, _, _, _, _, _, _, _, _, rfl, rfl, HSB⟩
          ·as_aux_lemma =>
           go_simp
           have HPq := Lib.hid (heap_alloc_new X4 boxDn)
           have HNq := Lib.hid (show wr.heap.size ≤ X4.heap.size from HT.out.size)
           have HNE := Lib.hid (show p ≠ X4.heap.size ∨ X4.heap.size ≠ p by have h1 := (Array.getElem?_eq_some_iff.1 HPp.out).1; omega)
           replace HPp := Lib.hid (row_next HPp.out (below_boxC X4 boxDn))
           replace HOK2 := Lib.hid (HOK2.out.add (T := (fun j : Nat => (j = dp ∨ j = lg) ∨ j = p ∨ j = X4.heap.size)) boxDn (fun k hk => or_last hk))
           replace HI3 := Lib.hid (HI3.out.below (below_boxC X4 boxDn))
           replace HK3 := Lib.hid (HK3.out.add (T := (fun j : Nat => (j = dp ∨ j = lg) ∨ j = p ∨ j = X4.heap.size)) boxDn (fun k hk => or_last hk))
           replace HT := bl HT (below_boxC X4 boxDn)
           refine held_go hK' (HT.out) ?_
           try simp only [Act.put, List.setIfInBounds_toArray, List.set_cons_zero, List.set_cons_succ]
           generalize World.alloc X4 _ = X5 at *
           generalize X4.heap.size = q at *
           clear hS0
           have hS0 := HT.out
           refine held_call (i := 23) rfl (by kernel_rfl) (by rfl) (fun K' hK' => ?_)
           go_simp
           refine (HDC.out X5 ad3 cap3 HI3.out (HZI.out.below HT.out)).mono ?_
           rintro e X6 hret
           obtain ⟨ad4, n4, cap4, zd4, zn4, zc4, rfl, hok, hb⟩ := DnOk.of (S := (fun j : Nat => (j = dp ∨ j = lg) ∨ j = p ∨ j = q)) hret HK3.out (fun k (hk : (k = dp ∨ k = lg) ∨ k = p ∨ k = q) => by have h_p := (Array.getElem?_eq_some_iff.1 HPp.out).1; have h_q := (Array.getElem?_eq_some_iff.1 HPq.out).1; have h_b := HLT.out; have h_t := HT.out.size; omega)
           have HOK4 := Lib.hid hok
           clear hret hok HI3 HK3
           replace HPp := Lib.hid (row_next HPp.out hb)
           replace HPq := Lib.hid (row_next HPq.out hb)
           replace HOK2 := Lib.hid (HOK2.out.below hb)
           replace HT := bl HT hb
           refine held_go hK' (HT.out) ?_
           try simp only [Act.put, List.setIfInBounds_toArray, List.set_cons_zero, List.set_cons_succ]
           clear hS0
           have hS0 := HT.out
           clear hb
           refine held_call (i := 26) rfl (by kernel_rfl) (by rfl) (fun K' hK' => ?_)
           refine oper_store_dn (.tmp 12) (.tmp 66) rfl p rfl _ _ _ _ _ _ _ _ _ _ rfl HPp.out ?_
           refine held_go hK' (below_row HT.out HNp.out _) ?_
           try simp only [Act.put, List.setIfInBounds_toArray, List.set_cons_zero, List.set_cons_succ]
           have HSB := Lib.hid (str_fin HPp.out HPq.out HNE.out HOK2.out HOK4.out HNp.out HNq.out HT.out)
           clear hS0
           have hS0 := below_row HT.out HNp.out (dnK r.d r.c ad2 n2 cap2 zd2 zn2 zc2 r.t r.e)
           replace HPq := Lib.hid (str_far HPq.out HNE.out (dnK r.d r.c ad2 n2 cap2 zd2 zn2 zc2 r.t r.e))
           refine held_call (i := 27) rfl (by kernel_rfl) (by rfl) (fun K' hK' => ?_)
           refine oper_store_dn (.tmp 13) (.tmp 78) rfl q rfl _ _ _ _ _ _ _ _ _ _ rfl HPq.out ?_
           refine held_go hK' (HSB.out.b) ?_
           try simp only [Act.put, List.setIfInBounds_toArray, List.set_cons_zero, List.set_cons_succ]
           refine wpAnyH_done (by kernel_rfl) ?_ _
           refine NoPanic.normal ?_
           go_wp2_with fail
           go_meet
           exact ⟨_, _, _, _, _, _, _, _, _, _, _, _, _, _, rfl, rfl, HSB⟩
         ·as_aux_lemma =>
          go_simp
          have HPq := Lib.hid (heap_alloc_new X3 boxDn)
          have HNq := Lib.hid (show wr.heap.size ≤ X3.heap.size from HT.out.size)
          have HNE := Lib.hid (show p ≠ X3.heap.size ∨ X3.heap.size ≠ p by have h1 := (Array.getElem?_eq_some_iff.1 HPp.out).1; omega)
          replace HPp := Lib.hid (row_next HPp.out (below_boxC X3 boxDn))
          replace HOK2 := Lib.hid (HOK2.out.add (T := (fun j : Nat => (j = dp ∨ j = lg) ∨ j = p ∨ j = X3.heap.size)) boxDn (fun k hk => or_last hk))
          replace HT := bl HT (below_boxC X3 boxDn)
          refine held_go hK' (HT.out) ?_
          try simp only [Act.put, List.setIfInBounds_toArray, List.set_cons_zero, List.set_cons_succ]
          generalize World.alloc X3 _ = X4 at *
          generalize X3.heap.size = q at *
          clear hS0
          have hS0 := HT.out
          refine held_call (i := 18) rfl (by kernel_rfl) (by rfl) (fun K' hK' => ?_)
          go_simp
          refine (HCP.out X4 (HIN.out.below HT.out)).mono ?_
          rintro e X5 ⟨ad3, cap3, rfl, hi, hkf, hb⟩
          have HI3 := Lib.hid hi
          have HK3 := Lib.hid (show KnoS X5 (fun j : Nat => (j = dp ∨ j = lg) ∨ j = p ∨ j = q) ad3 c.l from KnoS.of_fr hkf (fun k (hk : (k = dp ∨ k = lg) ∨ k = p ∨ k = q) => by have h_p := (Array.getElem?_eq_some_iff.1 HPp.out).1; have h_q := (Array.getElem?_eq_some_iff.1 HPq.out).1; have h_b := HLT.out; have h_t := HT.out.size; omega))
          clear hi hkf
          replace HPp := Lib.hid (row_next HPp.out hb)
          replace HPq := Lib.hid (row_next HPq.out hb)
          replace HOK2 := Lib.hid (HOK2.out.below hb)
          replace HT := bl HT hb
          refine held_go hK' (HT.out) ?_
          try simp only [Act.put, List.setIfInBounds_toArray, List.set_cons_zero, List.set_cons_succ]
          clear hS0
          have hS0 := HT.out
          clear hb
          refine held_call (i := 23) rfl (by kernel_rfl) (by rfl) (fun K' hK' => ?_)
          go_simp
          refine (HDC.out X5 ad3 cap3 HI3.out (HZI.out.below HT.out)).mono ?_
          rintro e X6 hret
          obtain ⟨ad4, n4, cap4, zd4, zn4, zc4, rfl, hok, hb⟩ := DnOk.of (S := (fun j : Nat => (j = dp ∨ j = lg) ∨ j = p ∨ j = q)) hret HK3.out (fun k (hk : (k = dp ∨ k = lg) ∨ k = p ∨ k = q) => by have h_p := (Array.getElem?_eq_some_iff.1 HPp.out).1; have h_q := (Array.getElem?_eq_some_iff.1 HPq.out).1; have h_b := HLT.out; have h_t := HT.out.size; omega)
          have HOK4 := Lib.hid hok
          clear hret hok HI3 HK3
          replace HPp := Lib.hid (row_next HPp.out hb)
          replace HPq := Lib.hid (row_next HPq.out hb)
          replace HOK2 := Lib.hid (HOK2.out.below hb)
          replace HT := bl HT hb
          refine held_go hK' (HT.out) ?_
          try simp only [Act.put, List.setIfInBounds_toArray, List.set_cons_zero, List.set_cons_succ]
          clear hS0
          have hS0 := HT.out
          clear hb
          refine held_call (i := 26) rfl (by kernel_rfl) (by rfl) (fun K' hK' => ?_)
          refine oper_store_dn (.tmp 12) (.tmp 66) rfl p rfl _ _ _ _ _ _ _ _ _ _ rfl HPp.out ?_
          refine held_go hK' (below_row HT.out HNp.out _) ?_
          try simp only [Act.put, List.setIfInBounds_toArray, List.set_cons_zero, List.set_cons_succ]
          have HSB := Lib.hid (str_fin HPp.out HPq.out HNE.out HOK2.out HOK4.out HNp.out HNq.out HT.out)
          clear hS0
          have hS0 := below_row HT.out HNp.out (dnK r.d r.c ad2 n2 cap2 zd2 zn2 zc2 r.t r.e)
          replace HPq := Lib.hid (str_far HPq.out HNE.out (dnK r.d r.c ad2 n2 cap2 zd2 zn2 zc2 r.t r.e))
          refine held_call (i := 27) rfl (by kernel_rfl) (by rfl) (fun K' hK' => ?_)
          refine oper_store_dn (.tmp 13) (.tmp 78) rfl q rfl _ _ _ _ _ _ _ _ _ _ rfl HPq.out ?_
          refine held_go hK' (HSB.out.b) ?_
          try simp only [Act.put, List.setIfInBounds_toArray, List.set_cons_zero, List.set_cons_succ]
          refine wpAnyH_done (by kernel_rfl) ?_ _
          refine NoPanic.normal ?_
          go_wp2_with fail
          go_meet
          exact ⟨_, _, _, _, _, _, _, _, _, _, _, _, _, _, rfl, rfl, HSB⟩
        ·as_aux_lemma =>
         go_simp
         have HPq := Lib.hid (heap_alloc_new X2 boxDn)
         have HNq := Lib.hid (show wr.heap.size ≤ X2.heap.size from HT.out.size)
         have HNE := Lib.hid (show p ≠ X2.heap.size ∨ X2.heap.size ≠ p by have h1 := (Array.getElem?_eq_some_iff.1 HPp.out).1; omega)
         replace HPp := Lib.hid (row_next HPp.out (below_boxC X2 boxDn))
         replace HI1 := Lib.hid (HI1.out.below (below_boxC X2 boxDn))
         replace HK1 := Lib.hid (HK1.out.add (T := (fun j : Nat => (j = dp ∨ j = lg) ∨ j = p ∨ j = X2.heap.size)) boxDn (fun k hk => or_last hk))
         replace HT := bl HT (below_boxC X2 boxDn)
         refine held_go hK' (HT.out) ?_
         try simp only [Act.put, List.setIfInBounds_toArray, List.set_cons_zero, List.set_cons_succ]
         generalize World.alloc X2 _ = X3 at *
         generalize X2.heap.size = q at *
         clear hS0
         have hS0 := HT.out
         refine held_call (i := 11) rfl (by kernel_rfl) (by rfl) (fun K' hK' => ?_)
         go_simp
         refine (HPG.out X3 ad1 cap1 HI1.out (HZI.out.below HT.out)).mono ?_
         rintro e X4 hret
         obtain ⟨ad2, n2, cap2, zd2, zn2, zc2, rfl, hok, hb⟩ := DnOk.of (S := (fun j : Nat => (j = dp ∨ j = lg) ∨ j = p ∨ j = q)) hret HK1.out (fun k (hk : (k = dp ∨ k = lg) ∨ k = p ∨ k = q) => by have h_p := (Array.getElem?_eq_some_iff.1 HPp.out).1; have h_q := (Array.getElem?_eq_some_iff.1 HPq.out).1; have h_b := HLT.out; have h_t := HT.out.size; omega)
         have HOK2 := Lib.hid hok
         clear hret hok HI1 HK1
         replace HPp := Lib.hid (row_next HPp.out hb)
         replace HPq := Lib.hid (row_next HPq.out hb)
         replace HT := bl HT hb
         refine held_go hK' (HT.out) ?_
         try simp only [Act.put, List.setIfInBounds_toArray, List.set_cons_zero, List.set_cons_succ]
         clear hS0
         have hS0 := HT.out
         clear hb
         refine held_call (i := 18) rfl (by kernel_rfl) (by rfl) (fun K' hK' => ?_)
         go_simp
         refine (HCP.out X4 (HIN.out.below HT.out)).mono ?_
         rintro e X5 ⟨ad3, cap3, rfl, hi, hkf, hb⟩
         have HI3 := Lib.hid hi
         have HK3 := Lib.hid (show KnoS X5 (fun j : Nat => (j = dp ∨ j = lg) ∨ j = p ∨ j = q) ad3 c.l from KnoS.of_fr hkf (fun k (hk : (k = dp ∨ k = lg) ∨ k = p ∨ k = q) => by have h_p := (Array.getElem?_eq_some_iff.1 HPp.out).1; have h_q := (Array.getElem?_eq_some_iff.1 HPq.out).1; have h_b := HLT.out; have h_t := HT.out.size; omega))
         clear hi hkf
         replace HPp := Lib.hid (row_next HPp.out hb)
         replace HPq := Lib.hid (row_next HPq.out hb)
         replace HOK2 := Lib.hid (HOK2.out.below hb)
         replace HT := bl HT hb
         refine held_go hK' (HT.out) ?_
         try simp only [Act.put, List.setIfInBounds_toArray, List.set_cons_zero, List.set_cons_succ]
         clear hS0
         have hS0 := HT.out
         clear hb
         refine held_call (i := 23) rfl (by kernel_rfl) (by rfl) (fun K' hK' => ?_)
         go_simp
         refine (HDC.out X5 ad3 cap3 HI3.out (HZI.out.below HT.out)).mono ?_
         rintro e X6 hret
         obtain ⟨ad4, n4, cap4, zd4, zn4, zc4, rfl, hok, hb⟩ := DnOk.of (S := (fun j : Nat => (j = dp ∨ j = lg) ∨ j = p ∨ j = q)) hret HK3.out (fun k (hk : (k = dp ∨ k = lg) ∨ k = p ∨ k = q) => by have h_p := (Array.getElem?_eq_some_iff.1 HPp.out).1; have h_q := (Array.getElem?_eq_some_iff.1 HPq.out).1; have h_b := HLT.out; have h_t := HT.out.size; omega)
         have HOK4 := Lib.hid hok
         clear hret hok HI3 HK3
         replace HPp := Lib.hid (row_next HPp.out hb)
         replace HPq := Lib.hid (row_next HPq.out hb)
         replace HOK2 := Lib.hid (HOK2.out.below hb)
         replace HT := bl HT hb
         refine held_go hK' (HT.out) ?_
         try simp only [Act.put, List.setIfInBounds_toArray, List.set_cons_zero, List.set_cons_succ]
         clear hS0
         have hS0 := HT.out
         clear hb
         refine held_call (i := 26) rfl (by kernel_rfl) (by rfl) (fun K' hK' => ?_)
         refine oper_store_dn (.tmp 12) (.tmp 66) rfl p rfl _ _ _ _ _ _ _ _ _ _ rfl HPp.out ?_
         refine held_go hK' (below_row HT.out HNp.out _) ?_
         try simp only [Act.put, List.setIfInBounds_toArray, List.set_cons_zero, List.set_cons_succ]
         have HSB := Lib.hid (str_fin HPp.out HPq.out HNE.out HOK2.out HOK4.out HNp.out HNq.out HT.out)
         clear hS0
         have hS0 := below_row HT.out HNp.out (dnK r.d r.c ad2 n2 cap2 zd2 zn2 zc2 r.t r.e)
         replace HPq := Lib.hid (str_far HPq.out HNE.out (dnK r.d r.c ad2 n2 cap2 zd2 zn2 zc2 r.t r.e))
         refine held_call (i := 27) rfl (by kernel_rfl) (by rfl) (fun K' hK' => ?_)
         refine oper_store_dn (.tmp 13) (.tmp 78) rfl q rfl _ _ _ _ _ _ _ _ _ _ rfl HPq.out ?_
         refine held_go hK' (HSB.out.b) ?_
         try simp only [Act.put, List.setIfInBounds_toArray, List.set_cons_zero, List.set_cons_succ]
         refine wpAnyH_done (by kernel_rfl) ?_ _
         refine NoPanic.normal ?_
         go_wp2_with fail
         go_meet
         exact ⟨_, _, _, _, _, _, _, _, _, _, _, _, _, _, rfl, rfl, HSB⟩
       ·as_aux_lemma =>
        go_simp
        have HPq := Lib.hid (heap_alloc_new X1 boxDn)
        have HNq := Lib.hid (show wr.heap.size ≤ X1.heap.size from HT.out.size)
        have HNE := Lib.hid (show p ≠ X1.heap.size ∨ X1.heap.size ≠ p by have h1 := (Array.getElem?_eq_some_iff.1 HPp.out).1; omega)
        replace HPp := Lib.hid (row_next HPp.out (below_boxC X1 boxDn))
        replace HT := bl HT (below_boxC X1 boxDn)
        refine held_go hK' (HT.out) ?_
        try simp only [Act.put, List.setIfInBounds_toArray, List.set_cons_zero, List.set_cons_succ]
        generalize World.alloc X1 _ = X2 at *
        generalize X1.heap.size = q at *
        clear hS0
        have hS0 := HT.out
        refine held_call (i := 6) rfl (by kernel_rfl) (by rfl) (fun K' hK' => ?_)
        go_simp
        refine (HCP.out X2 (HIN.out.below HT.out)).mono ?_
        rintro e X3 ⟨ad1, cap1, rfl, hi, hkf, hb⟩
        have HI1 := Lib.hid hi
        have HK1 := Lib.hid (show KnoS X3 (fun j : Nat => (j = dp ∨ j = lg) ∨ j = p ∨ j = q) ad1 c.l from KnoS.of_fr hkf (fun k (hk : (k = dp ∨ k = lg) ∨ k = p ∨ k = q) => by have h_p := (Array.getElem?_eq_some_iff.1 HPp.out).1; have h_q := (Array.getElem?_eq_some_iff.1 HPq.out).1; have h_b := HLT.out; have h_t := HT.out.size; omega))
        clear hi hkf
        replace HPp := Lib.hid (row_next HPp.out hb)
        replace HPq := Lib.hid (row_next HPq.out hb)
        replace HT := bl HT hb
        refine held_go hK' (HT.out) ?_
        try simp only [Act.put, List.setIfInBounds_toArray, List.set_cons_zero, List.set_cons_succ]
        clear hS0
        have hS0 := HT.out
        clear hb
        refine held_call (i := 11) rfl (by kernel_rfl) (by rfl) (fun K' hK' => ?_)
        go_simp
        refine (HPG.out X3 ad1 cap1 HI1.out (HZI.out.below HT.out)).mono ?_
        rintro e X4 hret
        obtain ⟨ad2, n2, cap2, zd2, zn2, zc2, rfl, hok, hb⟩ := DnOk.of (S := (fun j : Nat => (j = dp ∨ j = lg) ∨ j = p ∨ j = q)) hret HK1.out (fun k (hk : (k = dp ∨ k = lg) ∨ k = p ∨ k = q) => by have h_p := (Array.getElem?_eq_some_iff.1 HPp.out).1; have h_q := (Array.getElem?_eq_some_iff.1 HPq.out).1; have h_b := HLT.out; have h_t := HT.out.size; omega)
        have HOK2 := Lib.hid hok
        clear hret hok HI1 HK1
        replace HPp := Lib.hid (row_next HPp.out hb)
        replace HPq := Lib.hid (row_next HPq.out hb)
        replace HT := bl HT hb
        refine held_go hK' (HT.out) ?_
        try simp only [Act.put, List.setIfInBounds_toArray, List.set_cons_zero, List.set_cons_succ]
        clear hS0
        have hS0 := HT.out
        clear hb
        refine held_call (i := 18) rfl (by kernel_rfl) (by rfl) (fun K' hK' => ?_)
        go_simp
        refine (HCP.out X4 (HIN.out.below HT.out)).mono ?_
        rintro e X5 ⟨ad3, cap3, rfl, hi, hkf, hb⟩
        have HI3 := Lib.hid hi
        have HK3 := Lib.hid (show KnoS X5 (fun j : Nat => (j = dp ∨ j = lg) ∨ j = p ∨ j = q) ad3 c.l from KnoS.of_fr hkf (fun k (hk : (k = dp ∨ k = lg) ∨ k = p ∨ k = q) => by have h_p := (Array.getElem?_eq_some_iff.1 HPp.out).1; have h_q := (Array.getElem?_eq_some_iff.1 HPq.out).1; have h_b := HLT.out; have h_t := HT.out.size; omega))
        clear hi hkf
        replace HPp := Lib.hid (row_next HPp.out hb)
        replace HPq := Lib.hid (row_next HPq.out hb)
        replace HOK2 := Lib.hid (HOK2.out.below hb)
        replace HT := bl HT hb
        refine held_go hK' (HT.out) ?_
        try simp only [Act.put, List.setIfInBounds_toArray, List.set_cons_zero, List.set_cons_succ]
        clear hS0
        have hS0 := HT.out
        clear hb
        refine held_call (i := 23) rfl (by kernel_rfl) (by rfl) (fun K' hK' => ?_)
        go_simp
        refine (HDC.out X5 ad3 cap3 HI3.out (HZI.out.below HT.out)).mono ?_
        rintro e X6 hret
        obtain ⟨ad4, n4, cap4, zd4, zn4, zc4, rfl, hok, hb⟩ := DnOk.of (S := (fun j : Nat => (j = dp ∨ j = lg) ∨ j = p ∨ j = q)) hret HK3.out (fun k (hk : (k = dp ∨ k = lg) ∨ k = p ∨ k = q) => by have h_p := (Array.getElem?_eq_some_iff.1 HPp.out).1; have h_q := (Array.getElem?_eq_some_iff.1 HPq.out).1; have h_b := HLT.out; have h_t := HT.out.size; omega)
        have HOK4 := Lib.hid hok
        clear hret hok HI3 HK3
        replace HPp := Lib.hid (row_next HPp.out hb)
        replace HPq := Lib.hid (row_next HPq.out hb)
        replace HOK2 := Lib.hid (HOK2.out.below hb)
        replace HT := bl HT hb
        refine held_go hK' (HT.out) ?_
        try simp only [Act.put, List.setIfInBounds_toArray, List.set_cons_zero, List.set_cons_succ]
        clear hS0
        have hS0 := HT.out
        clear hb
        refine held_call (i := 26) rfl (by kernel_rfl) (by rfl) (fun K' hK' => ?_)
        refine oper_store_dn (.tmp 12) (.tmp 66) rfl p rfl _ _ _ _ _ _ _ _ _ _ rfl HPp.out ?_
        refine held_go hK' (below_row HT.out HNp.out _) ?_
        try simp only [Act.put, List.setIfInBounds_toArray, List.set_cons_zero, List.set_cons_succ]
        have HSB := Lib.hid (str_fin HPp.out HPq.out HNE.out HOK2.out HOK4.out HNp.out HNq.out HT.out)
        clear hS0
        have hS0 := below_row HT.out HNp.out (dnK r.d r.c ad2 n2 cap2 zd2 zn2 zc2 r.t r.e)
        replace HPq := Lib.hid (str_far HPq.out HNE.out (dnK r.d r.c ad2 n2 cap2 zd2 zn2 zc2 r.t r.e))
        refine held_call (i := 27) rfl (by kernel_rfl) (by rfl) (fun K' hK' => ?_)
        refine oper_store_dn (.tmp 13) (.tmp 78) rfl q rfl _ _ _ _ _ _ _ _ _ _ rfl HPq.out ?_
        refine held_go hK' (HSB.out.b) ?_
        try simp only [Act.put, List.setIfInBounds_toArray, List.set_cons_zero, List.set_cons_succ]
        refine wpAnyH_done (by kernel_rfl) ?_ _
        refine NoPanic.normal ?_
        go_wp2_with fail
        go_meet
        exact ⟨_, _, _, _, _, _, _, _, _, _, _, _, _, _, rfl, rfl, HSB⟩
      ·as_aux_lemma =>
       go_simp
       have HPq := Lib.hid (heap_alloc_new X0 boxDn)
       have HNq := Lib.hid (show wr.heap.size ≤ X0.heap.size from HT.out.size)
       replace HT := bl HT (below_boxC X0 boxDn)
       refine held_go hK' (HT.out) ?_
       try simp only [Act.put, List.setIfInBounds_toArray, List.set_cons_zero, List.set_cons_succ]
       generalize World.alloc X0 _ = X1 at *
       generalize X0.heap.size = q at *
       clear hS0
       have hS0 := HT.out
       refine held_two (i := 6) (j := 24) rfl rfl (by kernel_rfl) (by rfl) (by rfl) (fun K' hK' => ?_) (fun K' hK' => ?_)
       ·as_aux_lemma =>
        go_simp
        refine (HCP.out X1 (HIN.out.below HT.out)).mono ?_
        rintro e X2 ⟨ad1, cap1, rfl, hi, hkf, hb⟩
        have HI1 := Lib.hid hi
        have HK1 := Lib.hid (show KnoS X2 (fun j : Nat => (j = dp ∨ j = lg) ∨ j = q) ad1 c.l from KnoS.of_fr hkf (fun k (hk : (k = dp ∨ k = lg) ∨ k = q) => by have h_q := (Array.getElem?_eq_some_iff.1 HPq.out).1; have h_b := HLT.out; have h_t := HT.out.size; omega))
        clear hi hkf
        replace HPq := Lib.hid (row_next HPq.out hb)
        replace HT := bl HT hb
        refine held_go hK' (HT.out) ?_
        try simp only [Act.put, List.setIfInBounds_toArray, List.set_cons_zero, List.set_cons_succ]
        clear hS0
        have hS0 := HT.out
        clear hb
        refine held_two (i := 11) (j := 24) rfl rfl (by kernel_rfl) (by rfl) (by rfl) (fun K' hK' => ?_) (fun K' hK' => ?_)
        ·as_aux_lemma =>
         go_simp
         refine (HPG.out X2 ad1 cap1 HI1.out (HZI.out.below HT.out)).mono ?_
         rintro e X3 hret
         obtain ⟨ad2, n2, cap2, zd2, zn2, zc2, rfl, hok, hb⟩ := DnOk.of (S := (fun j : Nat => (j = dp ∨ j = lg) ∨ j = q)) hret HK1.out (fun k (hk : (k = dp ∨ k = lg) ∨ k = q) => by have h_q := (Array.getElem?_eq_some_iff.1 HPq.out).1; have h_b := HLT.out; have h_t := HT.out.size; omega)
         have HOK2 := Lib.hid hok
         clear hret hok HI1 HK1
         replace HPq := Lib.hid (row_next HPq.out hb)
         replace HT := bl HT hb
         refine held_go hK' (HT.out) ?_
         try simp only [Act.put, List.setIfInBounds_toArray, List.set_cons_zero, List.set_cons_succ]
         clear hS0
         have hS0 := HT.out
         clear hb
         refine held_two (i := 18) (j := 24) rfl rfl (by kernel_rfl) (by rfl) (by rfl) (fun K' hK' => ?_) (fun K' hK' => ?_)
         ·as_aux_lemma =>
          go_simp
          refine (HCP.out X3 (HIN.out.below HT.out)).mono ?_
          rintro e X4 ⟨ad3, cap3, rfl, hi, hkf, hb⟩
          have HI3 := Lib.hid hi
          have HK3 := Lib.hid (show KnoS X4 (fun j : Nat => (j = dp ∨ j = lg) ∨ j = q) ad3 c.l from KnoS.of_fr hkf (fun k (hk : (k = dp ∨ k = lg) ∨ k = q) => by have h_q := (Array.getElem?_eq_some_iff.1 HPq.out).1; have h_b := HLT.out; have h_t := HT.out.size; omega))
          clear hi hkf
          replace HPq := Lib.hid (row_next HPq.out hb)
          replace HOK2 := Lib.hid (HOK2.out.below hb)
          replace HT := bl HT hb
          refine held_go hK' (HT.out) ?_
          try simp only [Act.put, List.setIfInBounds_toArray, List.set_cons_zero, List.set_cons_succ]
          clear hS0
          have hS0 := HT.out
          clear hb
          refine held_two (i := 23) (j := 24) rfl rfl (by kernel_rfl) (by rfl) (by rfl) (fun K' hK' => ?_) (fun K' hK' => ?_)
          ·as_aux_lemma =>
           go_simp
           refine (HDC.out X4 ad3 cap3 HI3.out (HZI.out.below HT.out)).mono ?_
           rintro e X5 hret
           obtain ⟨ad4, n4, cap4, zd4, zn4, zc4, rfl, hok, hb⟩ := DnOk.of (S := (fun j : Nat => (j = dp ∨ j = lg) ∨ j = q)) hret HK3.out (fun k (hk : (k = dp ∨ k = lg) ∨ k = q) => by have h_q := (Array.getElem?_eq_some_iff.1 HPq.out).1; have h_b := HLT.out; have h_t := HT.out.size; omega)
           have HOK4 := Lib.hid hok
           clear hret hok HI3 HK3
           replace HPq := Lib.hid (row_next HPq.out hb)
           replace HOK2 := Lib.hid (HOK2.out.below hb)
           replace HT := bl HT hb
           refine held_go hK' (HT.out) ?_
           try simp only [Act.put, List.setIfInBounds_toArray, List.set_cons_zero, List.set_cons_succ]
           clear hS0
           have hS0 := HT.out
           clear hb
           refine held_call (i := 24) rfl (by kernel_rfl) (by rfl) (fun K' hK' => ?_)
           go_simp
           have HPp := Lib.hid (heap_alloc_new X5 boxDn)
           have HNp := Lib.hid (show wr.heap.size ≤ X5.heap.size from HT.out.size)
           have HNE := Lib.hid (show X5.heap.size ≠ q ∨ q ≠ X5.heap.size by have h1 := (Array.getElem?_eq_some_iff.1 HPq.out).1; omega)
           replace HPq := Lib.hid (row_next HPq.out (below_boxC X5 boxDn))
           replace HOK2 := Lib.hid (HOK2.out.add (T := (fun j : Nat => (j = dp ∨ j = lg) ∨ j = X5.heap.size ∨ j = q)) boxDn (fun k hk => or_mid hk))
           replace HOK4 := Lib.hid (HOK4.out.add (T := (fun j : Nat => (j = dp ∨ j = lg) ∨ j = X5.heap.size ∨ j = q)) boxDn (fun k hk => or_mid hk))
           replace HT := bl HT (below_boxC X5 boxDn)
           refine held_go hK' (HT.out) ?_
           try simp only [Act.put, List.setIfInBounds_toArray, List.set_cons_zero, List.set_cons_succ]
           generalize World.alloc X5 _ = X6 at *
           generalize X5.heap.size = p at *
           clear hS0
           have hS0 := HT.out
           refine held_call (i := 26) rfl (by kernel_rfl) (by rfl) (fun K' hK' => ?_)
           refine oper_store_dn (.tmp 12) (.tmp 66) rfl p rfl _ _ _ _ _ _ _ _ _ _ rfl HPp.out ?_
           refine held_go hK' (below_row HT.out HNp.out _) ?_
           try simp only [Act.put, List.setIfInBounds_toArray, List.set_cons_zero, List.set_cons_succ]
           have HSB := Lib.hid (str_fin HPp.out HPq.out HNE.out HOK2.out HOK4.out HNp.out HNq.out HT.out)
           clear hS0
           have hS0 := below_row HT.out HNp.out (dnK r.d r.c ad2 n2 cap2 zd2 zn2 zc2 r.t r.e)
           replace HPq := Lib.hid (str_far HPq.out HNE.out (dnK r.d r.c ad2 n2 cap2 zd2 zn2 zc2 r.t r.e))
           refine held_call (i := 27) rfl (by kernel_rfl) (by rfl) (fun K' hK' => ?_)
           refine oper_store_dn (.tmp 13) (.tmp 78) rfl q rfl _ _ _ _ _ _ _ _ _ _ rfl HPq.out ?_
           refine held_go hK' (HSB.out.b) ?_
           try simp only [Act.put, List.setIfInBounds_toArray, List.set_cons_zero, List.set_cons_succ]
           refine wpAnyH_done (by kernel_rfl) ?_ _
           refine NoPanic.normal ?_
           go_wp2_with fail
           go_meet
           exact ⟨_, _, _, _, _, _, _, _, _, _, _, _, _, _, rfl, rfl, HSB⟩
          ·as_aux_lemma =>
           go_simp
           have HPp := Lib.hid (heap_alloc_new X4 boxDn)
           have HNp := Lib.hid (show wr.heap.size ≤ X4.heap.size from HT.out.size)
           have HNE := Lib.hid (show X4.heap.size ≠ q ∨ q ≠ X4.heap.size by have h1 := (Array.getElem?_eq_some_iff.1 HPq.out).1; omega)
           replace HPq := Lib.hid (row_next HPq.out (below_boxC X4 boxDn))
           replace HOK2 := Lib.hid (HOK2.out.add (T := (fun j : Nat => (j = dp ∨ j = lg) ∨ j = X4.heap.size ∨ j = q)) boxDn (fun k hk => or_mid hk))
           replace HI3 := Lib.hid (HI3.out.below (below_boxC X4 boxDn))
           replace HK3 := Lib.hid (HK3.out.add (T := (fun j : Nat => (j = dp ∨ j = lg) ∨ j = X4.heap.size ∨ j = q)) boxDn (fun k hk => or_mid hk))
           replace HT := bl HT (below_boxC X4 boxDn)
           refine held_go hK' (HT.out) ?_
           try simp only [Act.put, List.setIfInBounds_toArray, List.set_cons_zero, List.set_cons_succ]
           generalize World.alloc X4 _ = X5 at *
           generalize X4.heap.size = p at *
           clear hS0
           have hS0 := HT.out
           refine held_call (i := 23) rfl (by kernel_rfl) (by rfl) (fun K' hK' => ?_)
           go_simp
           refine (HDC.out X5 ad3 cap3 HI3.out (HZI.out.below HT.out)).mono ?_
           rintro e X6 hret
           obtain ⟨ad4, n4, cap4, zd4, zn4, zc4, rfl, hok, hb⟩ := DnOk.of (S := (fun j : Nat => (j = dp ∨ j = lg) ∨ j = p ∨ j = q)) hret HK3.out (fun k (hk : (k = dp ∨ k = lg) ∨ k = p ∨ k = q) => by have h_p := (Array.getElem?_eq_some_iff.1 HPp.out).1; have h_q := (Array.getElem?_eq_some_iff.1 HPq.out).1; have h_b := HLT.out; have h_t := HT.out.size; omega)
           have HOK4 := Lib.hid hok
           clear hret hok HI3 HK3
           replace HPq := Lib.hid (row_next HPq.out hb)
           replace HPp := Lib.hid (row_next HPp.out hb)
           replace HOK2 := Lib.hid (HOK2.out.below hb)
           replace HT := bl HT hb
           refine held_go hK' (HT.out) ?_
           try simp only [Act.put, List.setIfInBounds_toArray, List.set_cons_zero, List.set_cons_succ]
           clear hS0
           have hS0 := HT.out
           clear hb
           refine held_call (i := 26) rfl (by kernel_rfl) (by rfl) (fun K' hK' => ?_)
           refine oper_store_dn (.tmp 12) (.tmp 66) rfl p rfl _ _ _ _ _ _ _ _ _ _ rfl HPp.out ?_
           refine held_go hK' (below_row HT.out HNp.out _) ?_
           try simp only [Act.put, List.setIfInBounds_toArray, List.set_cons_zero, List.set_cons_succ]
           have HSB := Lib.hid (str_fin HPp.out HPq.out HNE.out HOK2.out HOK4.out HNp.out HNq.out HT.out)
           clear hS0
           have hS0 := below_row HT.out HNp.out (dnK r.d r.c ad2 n2 cap2 zd2 zn2 zc2 r.t r.e)
           replace HPq := Lib.hid (str_far HPq.out HNE.out (dnK r.d r.c ad2 n2 cap2 zd2 zn2 zc2 r.t r.e))
           refine held_call (i := 27) rfl (by kernel_rfl) (by rfl) (fun K' hK' => ?_)
           refine oper_store_dn (.tmp 13) (.tmp 78) rfl q rfl _ _ _ _ _ _ _ _ _ _ rfl HPq.out ?_
           refine held_go hK' (HSB.out.b) ?_
           try simp only [Act.put, List.setIfInBounds_toArray, List.set_cons_zero, List.set_cons_succ]
           refine wpAnyH_done (by kernel_rfl) ?_ _
           refine NoPanic.normal ?_
           go_wp2_with fail
           go_meet
           exact ⟨_, _, _, _, _, _, _, _, _, _, _, _, _, _, rfl, rfl, HSB⟩
         ·as_aux_lemma =>
          go_simp
          have HPp := Lib.hid (heap_alloc_new X3 boxDn)
          have HNp := Lib.hid (show wr.heap.size ≤ X3.heap.size from HT.out.size)
          have HNE := Lib.hid (show X3.heap.size ≠ q ∨ q ≠ X3.heap.size by have h1 := (Array.getElem?_eq_some_iff.1 HPq.out).1; omega)
          replace HPq := Lib.hid (row_next HPq.out (below_boxC X3 boxDn))
          replace HOK2 := Lib.hid (HOK2.out.add (T := (fun j : Nat => (j = dp ∨ j = lg) ∨ j = X3.heap.size ∨ j = q)) boxDn (fun k hk => or_mid hk))
          replace HT := bl HT (below_boxC X3 boxDn)
          refine held_go hK' (HT.out) ?_
          try simp only [Act.put, List.setIfInBounds_toArray, List.set_cons_zero, List.set_cons_succ]
          generalize World.alloc X3 _ = X4 at *
          generalize X3.heap.size = p at *
          clear hS0
          have hS0 := HT.out
          refine held_call (i := 18) rfl (by kernel_rfl) (by rfl) (fun K' hK' => ?_)
          go_simp
          refine (HCP.out X4 (HIN.out.below HT.out)).mono ?_
          rintro e X5 ⟨ad3, cap3, rfl, hi, hkf, hb⟩
          have HI3 := Lib.hid hi
          have HK3 := Lib.hid (show KnoS X5 (fun j : Nat => (j = dp ∨ j = lg) ∨ j = p ∨ j = q) ad3 c.l from KnoS.of_fr hkf (fun k (hk : (k = dp ∨ k = lg) ∨ k = p ∨ k = q) => by have h_p := (Array.getElem?_eq_some_iff.1 HPp.out).1; have h_q := (Array.getElem?_eq_some_iff.1 HPq.out).1; have h_b := HLT.out; have h_t := HT.out.size; omega))
          clear hi hkf
          replace HPq := Lib.hid (row_next HPq.out hb)
          replace HPp := Lib.hid (row_next HPp.out hb)
          replace HOK2 := Lib.hid (HOK2.out.below hb)
          replace HT := bl HT hb
          refine held_go hK' (HT.out) ?_
          try simp only [Act.put, List.setIfInBounds_toArray, List.set_cons_zero, List.set_cons_succ]
          clear hS0
          have hS0 := HT.out
          clear hb
          refine held_call (i := 23) rfl (by kernel_rfl) (by rfl) (fun K' hK' => ?_)
          go_simp
          refine (HDC.out X5 ad3 cap3 HI3.out (HZI.out.below HT.out)).mono ?_
          rintro e X6 hret
          obtain ⟨ad4, n4, cap4, zd4, zn4, zc4, rfl, hok, hb⟩ := DnOk.of (S := (fun j : Nat => (j = dp ∨ j = lg) ∨ j = p ∨ j = q)) hret HK3.out (fun k (hk : (k = dp ∨ k = lg) ∨ k = p ∨ k = q) => by have h_p := (Array.getElem?_eq_some_iff.1 HPp.out).1; have h_q := (Array.getElem?_eq_some_iff.1 HPq.out).1; have h_b := HLT.out; have h_t := HT.out.size; omega)
          have HOK4 := Lib.hid hok
          clear hret hok HI3 HK3
          replace HPq := Lib.hid (row_next HPq.out hb)
          replace HPp := Lib.hid (row_next HPp.out hb)
          replace HOK2 := Lib.hid (HOK2.out.below hb)
          replace HT := bl HT hb
          refine held_go hK' (HT.out) ?_
          try simp only [Act.put, List.setIfInBounds_toArray, List.set_cons_zero, List.set_cons_succ]
          clear hS0
          have hS0 := HT.out
          clear hb
          refine held_call (i := 26) rfl (by kernel_rfl) (by rfl) (fun K' hK' => ?_)
          refine oper_store_dn (.tmp 12) (.tmp 66) rfl p rfl _ _ _ _ _ _ _ _ _ _ rfl HPp.out ?_
          refine held_go hK' (below_row HT.out HNp.out _) ?_
          try simp only [Act.put, List.setIfInBounds_toArray, List.set_cons_zero, List.set_cons_succ]
          have HSB := Lib.hid (str_fin HPp.out HPq.out HNE.out HOK2.out HOK4.out HNp.out HNq.out HT.out)
          clear hS0
          have hS0 := below_row HT.out HNp.out (dnK r.d r.c ad2 n2 cap2 zd2 zn2 zc2 r.t r.e)
          replace HPq := Lib.hid (str_far HPq.out HNE.out (dnK r.d r.c ad2 n2 cap2 zd2 zn2 zc2 r.t r.e))
          refine held_call (i := 27) rfl (by kernel_rfl) (by rfl) (fun K' hK' => ?_)
          refine oper_store_dn (.tmp 13) (.tmp 78) rfl q rfl _ _ _ _ _ _ _ _ _ _ rfl HPq.out ?_
          refine held_go hK' (HSB.out.b) ?_
          try simp only [Act.put, List.setIfInBounds_toArray, List.set_cons_zero, List.set_cons_succ]
          refine wpAnyH_done (by kernel_rfl) ?_ _
          refine NoPanic.normal ?_
          go_wp2_with fail
          go_meet
          exact ⟨_, _, _, _, _, _, _, _, _, _, _, _, _, _, rfl, rfl, HSB⟩
        ·as_aux_lemma =>
         go_simp
         have HPp := Lib.hid (heap_alloc_new X2 boxDn)
         have HNp := Lib.hid (show wr.heap.size ≤ X2.heap.size from HT.out.size)
         have HNE := Lib.hid (show X2.heap.size ≠ q ∨ q ≠ X2.heap.size by have h1 := (Array.getElem?_eq_some_iff.1 HPq.out).1; omega)
         replace HPq := Lib.hid (row_next HPq.out (below_boxC X2 boxDn))
         replace HI1 := Lib.hid (HI1.out.below (below_boxC X2 boxDn))
         replace HK1 := Lib.hid (HK1.out.add (T := (fun j : Nat => (j = dp ∨ j = lg) ∨ j = X2.heap.size ∨ j = q)) boxDn (fun k hk => or_mid hk))
         replace HT := bl HT (below_boxC X2 boxDn)
         refine held_go hK' (HT.out) ?_
         try simp only [Act.put, List.setIfInBounds_toArray, List.set_cons_zero, List.set_cons_succ]
         generalize World.alloc X2 _ = X3 at *
         generalize X2.heap.size = p at *
         clear hS0
         have hS0 := HT.out
         refine held_call (i := 11) rfl (by kernel_rfl) (by rfl) (fun K' hK' => ?_)
         go_simp
         refine (HPG.out X3 ad1 cap1 HI1.out (HZI.out.below HT.out)).mono ?_
         rintro e X4 hret
         obtain ⟨ad2, n2, cap2, zd2, zn2, zc2, rfl, hok, hb⟩ := DnOk.of (S := (fun j : Nat => (j = dp ∨ j = lg) ∨ j = p ∨ j = q)) hret HK1.out (fun k (hk : (k = dp ∨ k = lg) ∨ k = p ∨ k = q) => by have h_p := (Array.getElem?_eq_some_iff.1 HPp.out).1; have h_q := (Array.getElem?_eq_some_iff.1 HPq.out).1; have h_b := HLT.out; have h_t := HT.out.size; omega)
         have HOK2 := Lib.hid hok
         clear hret hok HI1 HK1
         replace HPq := Lib.hid (row_next HPq.out hb)
         replace HPp := Lib.hid (row_next HPp.out hb)
         replace HT := bl HT hb
         refine held_go hK' (HT.out) ?_
         try simp only [Act.put, List.setIfInBounds_toArray, List.set_cons_zero, List.set_cons_succ]
         clear hS0
         have hS0 := HT.out
         clear hb
         refine held_call (i := 18) rfl (by kernel_rfl) (by rfl) (fun K' hK' => ?_)
         go_simp
         refine (HCP.out X4 (HIN.out.below HT.out)).mono ?_
         rintro e X5 ⟨ad3, cap3, rfl, hi, hkf, hb⟩
         have HI3 := Lib.hid hi
         have HK3 := Lib.hid (show KnoS X5 (fun j : Nat => (j = dp ∨ j = lg) ∨ j = p ∨ j = q) ad3 c.l from KnoS.of_fr hkf (fun k (hk : (k = dp ∨ k = lg) ∨ k = p ∨ k = q) => by have h_p := (Array.getElem?_eq_some_iff.1 HPp.out).1; have h_q := (Array.getElem?_eq_some_iff.1 HPq.out).1; have h_b := HLT.out; have h_t := HT.out.size; omega))
         clear hi hkf
         replace HPq := Lib.hid (row_next HPq.out hb)
         replace HPp := Lib.hid (row_next HPp.out hb)
         replace HOK2 := Lib.hid (HOK2.out.below hb)
         replace HT := bl HT hb
         refine held_go hK' (HT.out) ?_
         try simp only [Act.put, List.setIfInBounds_toArray, List.set_cons_zero, List.set_cons_succ]
         clear hS0
         have hS0 := HT.out
         clear hb
         refine held_call (i := 23) rfl (by kernel_rfl) (by rfl) (fun K' hK' => ?_)
         go_simp
         refine (HDC.out X5 ad3 cap3 HI3.out (HZI.out.below HT.out)).mono ?_
         rintro e X6 hret
         obtain ⟨ad4, n4, cap4, zd4, zn4, zc4, rfl, hok, hb⟩ := DnOk.of (S := (fun j : Nat => (j = dp ∨ j = lg) ∨ j = p ∨ j = q)) hret HK3.out (fun k (hk : (k = dp ∨ k = lg) ∨ k = p ∨ k = q) => by have h_p := (Array.getElem?_eq_some_iff.1 HPp.out).1; have h_q := (Array.getElem?_eq_some_iff.1 HPq.out).1; have h_b := HLT.out; have h_t := HT.out.size; omega)
         have HOK4 := Lib.hid hok
         clear hret hok HI3 HK3
         replace HPq := Lib.hid (row_next HPq.out hb)
         replace HPp := Lib.hid (row_next HPp.out hb)
         replace HOK2 := Lib.hid (HOK2.out.below hb)
         replace HT := bl HT hb
         refine held_go hK' (HT.out) ?_
         try simp only [Act.put, List.setIfInBounds_toArray, List.set_cons_zero, List.set_cons_succ]
         clear hS0
         have hS0 := HT.out
         clear hb
         refine held_call (i := 26) rfl (by kernel_rfl) (by rfl) (fun K' hK' => ?_)
         refine oper_store_dn (.tmp 12) (.tmp 66) rfl p rfl _ _ _ _ _ _ _ _ _ _ rfl HPp.out ?_
         refine held_go hK' (below_row HT.out HNp.out _) ?_
         try simp only [Act.put, List.setIfInBounds_toArray, List.set_cons_zero, List.set_cons_succ]
         have HSB := Lib.hid (str_fin HPp.out HPq.out HNE.out HOK2.out HOK4.out HNp.out HNq.out HT.out)
         clear hS0
         have hS0 := below_row HT.out HNp.out (dnK r.d r.c ad2 n2 cap2 zd2 zn2 zc2 r.t r.e)
         replace HPq := Lib.hid (str_far HPq.out HNE.out (dnK r.d r.c ad2 n2 cap2 zd2 zn2 zc2 r.t r.e))
         refine held_call (i := 27) rfl (by kernel_rfl) (by rfl) (fun K' hK' => ?_)
         refine oper_store_dn (.tmp 13) (.tmp 78) rfl q rfl _ _ _ _ _ _ _ _ _ _ rfl HPq.out ?_
         refine held_go hK' (HSB.out.b) ?_
         try simp only [Act.put, List.setIfInBounds_toArray, List.set_cons_zero, List.set_cons_succ]
         refine wpAnyH_done (by kernel_rfl) ?_ _
         refine NoPanic.normal ?_
         go_wp2_with fail
         go_meet
         exact ⟨_, _, _, _, _, _, _, _, _, _, _, _, _, _, rfl, rfl, HSB⟩
       ·as_aux_lemma =>
        go_simp
        have HPp := Lib.hid (heap_alloc_new X1 boxDn)
        have HNp := Lib.hid (show wr.heap.size ≤ X1.heap.size from HT.out.size)
        have HNE := Lib.hid (show X1.heap.size ≠ q ∨ q ≠ X1.heap.size by have h1 := (Array.getElem?_eq_some_iff.1 HPq.out).1; omega)
        replace HPq := Lib.hid (row_next HPq.out (below_boxC X1 boxDn))
        replace HT := bl HT (below_boxC X1 boxDn)
        refine held_go hK' (HT.out) ?_
        try simp only [Act.put, List.setIfInBounds_toArray, List.set_cons_zero, List.set_cons_succ]
        generalize World.alloc X1 _ = X2 at *
        generalize X1.heap.size = p at *
        clear hS0
        have hS0 := HT.out
        refine held_call (i := 6) rfl (by kernel_rfl) (by rfl) (fun K' hK' => ?_)
        go_simp
        refine (HCP.out X2 (HIN.out.below HT.out)).mono ?_
        rintro e X3 ⟨ad1, cap1, rfl, hi, hkf, hb⟩
        have HI1 := Lib.hid hi
        have HK1 := Lib.hid (show KnoS X3 (fun j : Nat => (j = dp ∨ j = lg) ∨ j = p ∨ j = q) ad1 c.l from KnoS.of_fr hkf (fun k (hk : (k = dp ∨ k = lg) ∨ k = p ∨ k = q) => by have h_p := (Array.getElem?_eq_some_iff.1 HPp.out).1; have h_q := (Array.getElem?_eq_some_iff.1 HPq.out).1; have h_b := HLT.out; have h_t := HT.out.size; omega))
        clear hi hkf
        replace HPq := Lib.hid (row_next HPq.out hb)
        replace HPp := Lib.hid (row_next HPp.out hb)
        replace HT := bl HT hb
        refine held_go hK' (HT.out) ?_
        try simp only [Act.put, List.setIfInBounds_toArray, List.set_cons_zero, List.set_cons_succ]
        clear hS0
        have hS0 := HT.out
        clear hb
        refine held_call (i := 11) rfl (by kernel_rfl) (by rfl) (fun K' hK' => ?_)
        go_simp
        refine (HPG.out X3 ad1 cap1 HI1.out (HZI.out.below HT.out)).mono ?_
        rintro e X4 hret
        obtain ⟨ad2, n2, cap2, zd2, zn2, zc2, rfl, hok, hb⟩ := DnOk.of (S := (fun j : Nat => (j = dp ∨ j = lg) ∨ j = p ∨ j = q)) hret HK1.out (fun k (hk : (k = dp ∨ k = lg) ∨ k = p ∨ k = q) => by have h_p := (Array.getElem?_eq_some_iff.1 HPp.out).1; have h_q := (Array.getElem?_eq_some_iff.1 HPq.out).1; have h_b := HLT.out; have h_t := HT.out.size; omega)
        have HOK2 := Lib.hid hok
        clear hret hok HI1 HK1
        replace HPq := Lib.hid (row_next HPq.out hb)
        replace HPp := Lib.hid (row_next HPp.out hb)
        replace HT := bl HT hb
        refine held_go hK' (HT.out) ?_
        try simp only [Act.put, List.setIfInBounds_toArray, List.set_cons_zero, List.set_cons_succ]
        clear hS0
        have hS0 := HT.out
        clear hb
        refine held_call (i := 18) rfl (by kernel_rfl) (by rfl) (fun K' hK' => ?_)
        go_simp
        refine (HCP.out X4 (HIN.out.below HT.out)).mono ?_
        rintro e X5 ⟨ad3, cap3, rfl, hi, hkf, hb⟩
        have HI3 := Lib.hid hi
        have HK3 := Lib.hid (show KnoS X5 (fun j : Nat => (j = dp ∨ j = lg) ∨ j = p ∨ j = q) ad3 c.l from KnoS.of_fr hkf (fun k (hk : (k = dp ∨ k = lg) ∨ k = p ∨ k = q) => by have h_p := (Array.getElem?_eq_some_iff.1 HPp.out).1; have h_q := (Array.getElem?_eq_some_iff.1 HPq.out).1; have h_b := HLT.out; have h_t := HT.out.size; omega))
        clear hi hkf
        replace HPq := Lib.hid (row_next HPq.out hb)
        replace HPp := Lib.hid (row_next HPp.out hb)
        replace HOK2 := Lib.hid (HOK2.out.below hb)
        replace HT := bl HT hb
        refine held_go hK' (HT.out) ?_
        try simp only [Act.put, List.setIfInBounds_toArray, List.set_cons_zero, List.set_cons_succ]
        clear hS0
        have hS0 := HT.out
        clear hb
        refine held_call (i := 23) rfl (by kernel_rfl) (by rfl) (fun K' hK' => ?_)
        go_simp
        refine (HDC.out X5 ad3 cap3 HI3.out (HZI.out.below HT.out)).mono ?_
        rintro e X6 hret
        obtain ⟨ad4, n4, cap4, zd4, zn4, zc4, rfl, hok, hb⟩ := DnOk.of (S := (fun j : Nat => (j = dp ∨ j = lg) ∨ j = p ∨ j = q)) hret HK3.out (fun k (hk : (k = dp ∨ k = lg) ∨ k = p ∨ k = q) => by have h_p := (Array.getElem?_eq_some_iff.1 HPp.out).1; have h_q := (Array.getElem?_eq_some_iff.1 HPq.out).1; have h_b := HLT.out; have h_t := HT.out.size; omega)
        have HOK4 := Lib.hid hok
        clear hret hok HI3 HK3
        replace HPq := Lib.hid (row_next HPq.out hb)
        replace HPp := Lib.hid (row_next HPp.out hb)
        replace HOK2 := Lib.hid (HOK2.out.below hb)
        replace HT := bl HT hb
        refine held_go hK' (HT.out) ?_
        try simp only [Act.put, List.setIfInBounds_toArray, List.set_cons_zero, List.set_cons_succ]
        clear hS0
        have hS0 := HT.out
        clear hb
        refine held_call (i := 26) rfl (by kernel_rfl) (by rfl) (fun K' hK' => ?_)
        refine oper_store_dn (.tmp 12) (.tmp 66) rfl p rfl _ _ _ _ _ _ _ _ _ _ rfl HPp.out ?_
        refine held_go hK' (below_row HT.out HNp.out _) ?_
        try simp only [Act.put, List.setIfInBounds_toArray, List.set_cons_zero, List.set_cons_succ]
        have HSB := Lib.hid (str_fin HPp.out HPq.out HNE.out HOK2.out HOK4.out HNp.out HNq.out HT.out)
        clear hS0
        have hS0 := below_row HT.out HNp.out (dnK r.d r.c ad2 n2 cap2 zd2 zn2 zc2 r.t r.e)
        replace HPq := Lib.hid (str_far HPq.out HNE.out (dnK r.d r.c ad2 n2 cap2 zd2 zn2 zc2 r.t r.e))
        refine held_call (i := 27) rfl (by kernel_rfl) (by rfl) (fun K' hK' => ?_)
        refine oper_store_dn (.tmp 13) (.tmp 78) rfl q rfl _ _ _ _ _ _ _ _ _ _ rfl HPq.out ?_
        refine held_go hK' (HSB.out.b) ?_
        try simp only [Act.put, List.setIfInBounds_toArray, List.set_cons_zero, List.set_cons_succ]
        refine wpAnyH_done (by kernel_rfl) ?_ _
        refine NoPanic.normal ?_
        go_wp2_with fail
        go_meet
        exact ⟨_, _, _, _, _, _, _, _, _, _, _, _, _, _, rfl, rfl, HSB⟩
     case rest =>
      obtain ⟨p, q, ad2, n2, cap2, zd2, zn2, zc2, ad4, n4, cap4, zd4, zn4, zc4, rfl, rfl, hst⟩ := hcut
      have HS := Lib.hid hst.out
      have hn2 := HS.out.okx.nl
      clear hst HCP HPG HDC HIN HZI HZL HC HCE
      subst hn2
      have HND := Lib.hid hne
      clear hne
      have HSC := Lib.hid (fun X (h : Below wc.heap.size wc X) => same_n (cap := cap2) (cap2 := cap4) rfl HS.out.oky.nl X (HS.out.okx.k.below h).ki (HS.out.oky.k.below h).ki (by have h1 := HLN.out.1; omega))
      have HSL := Lib.hid (fun X (h : Below wc.heap.size wc X) => same_l (cap := zc2) (cap2 := zc4) HS.out.okx.zl HS.out.oky.zl X (HS.out.okx.z.below h).ki (HS.out.oky.z.below h).ki (by rw [HS.out.okx.zl]; have h1 := HLN.out.2; omega))
      obtain ⟨_, x0, x1, x2, x3, x4, x5, x6, x7, x8, x9, x10, x11, x12, x13, x14, x15, x16, x17, x18, x19, x20, x21⟩ := DnAt.of HS.out.x
      obtain ⟨_, y0, y1, y2, y3, y4, y5, y6, y7, y8, y9, y10, y11, y12, y13, y14, y15, y16, y17, y18, y19, y20, y21⟩ := DnAt.of HS.out.y
      go_wp2_with fail
      clear x0 y0 x1 y1 x2 y2 x3 y3 x4 y4 x5 y5 x6 y6 x7 y7 x8 y8 x9 y9 x10 y10 x11 y11 x12 y12 x13 y13 x14 y14 x15 y15 x16 y16 x17 y17 x18 y18 x19 y19 x20 y20 x21 y21
      refine (HSC.out wc (Below.refl _ _)).mono ?_
      rintro e X1 ⟨rfl, hb⟩
      have HB1 := Lib.hid hb
      have HS1 := Lib.hid (HS.out.next hb)
      clear hb HSC
      obtain ⟨_, x0, x1, x2, x3, x4, x5, x6, x7, x8, x9, x10, x11, x12, x13, x14, x15, x16, x17, x18, x19, x20, x21⟩ := DnAt.of HS1.out.x
      obtain ⟨_, y0, y1, y2, y3, y4, y5, y6, y7, y8, y9, y10, y11, y12, y13, y14, y15, y16, y17, y18, y19, y20, y21⟩ := DnAt.of HS1.out.y
      go_wp2_with fail
      clear x0 y0 x1 y1 x2 y2 x3 y3 x4 y4 x5 y5 x6 y6 x7 y7 x8 y8 x9 y9 x10 y10 x11 y11 x12 y12 x13 y13 x14 y14 x15 y15 x16 y16 x17 y17 x18 y18 x19 y19 x20 y20 x21 y21
      refine (HSL.out X1 HB1.out).mono ?_
      rintro e X2 ⟨rfl, hb⟩
      have HS2 := Lib.hid (HS1.out.next hb)
      clear hb HSL HB1 HS1 HS
      obtain ⟨_, x0, x1, x2, x3, x4, x5, x6, x7, x8, x9, x10, x11, x12, x13, x14, x15, x16, x17, x18, x19, x20, x21⟩ := DnAt.of HS2.out.x
      by_cases he : r.e = 0 ∨ r.e = 15
      ·have hpart : r.e = 0 ∨ (¬ r.e = 0 ∧ r.e = 15) := by omega
       clear he
       rcases hpart with h0 | ⟨h0, h15⟩
       ·have q0 : (r.e == 0) = true := by rw [h0]; rfl
        clear h0
        go_wp2_with fail
        clear q0 x0 x1 x2 x3 x4 x5 x6 x7 x8 x9 x10 x11 x12 x13 x14 x15 x16 x17 x18 x19 x20 x21
        have HB := Lib.hid (Below.refl X2.heap.size X2).drew
        have HS3 := Lib.hid (HS2.out.next HB.out)
        have HR3 := Lib.hid (HR.out.next HS3.out.b)
        refine wp_region_noPanic ?_
        refine wp_region_held_drew (S := (fun X => X.heap[p]? = some (.cells (dnK r.d r.c ad2 r.c.l.length cap2 zd2 zn2 zc2 r.t r.e) 39 (0, 0)))) (by kernel_rfl) (HS3.out.x) (fun hS0 => ?_)
        generalize World.drew X2 = X3 at *
        have HPT := Lib.hid (HPUT.out X3 HS3.out.b r.d ⟨r.c, ad2, cap2⟩ ⟨HS3.out.okx.k.less (fun j hj => .inl hj), HS3.out.okx.le, HS3.out.okx.mx, HS3.out.okx.nn, HS3.out.okx.bs⟩)
        have HNE := Lib.hid (show (dp ≠ p ∨ p ≠ dp) ∧ (lg ≠ p ∨ p ≠ lg) ∧ lg ≠ dp by have h1 := HS3.out.np; have h2 := HLT.out; have h3 := HND.out; exact ⟨.inl (by omega), .inl (by omega), h3⟩)
        have HG3 := Lib.hid (row_next HG.out HS3.out.b)
        refine held_take (i := 0) (v := ?_) rfl (by kernel_rfl) (by kernel_rfl) (by kernel_rfl) (fun _ _ _ h => h) (by rfl) ?_ (by assumption) ?_
        rotate_left
        ·intro X hSX
         try dsimp only at hSX
         go_simp <;> with_reducible rfl
        simp only [Act.put, List.setIfInBounds_toArray, List.set_cons_zero, List.set_cons_succ]
        refine held_take (i := 1) (v := ?_) rfl (by kernel_rfl) (by kernel_rfl) (by kernel_rfl) (fun _ _ _ h => h) (by rfl) ?_ (by assumption) ?_
        rotate_left
        ·intro X hSX
         try dsimp only at hSX
         go_simp <;> with_reducible rfl
        simp only [Act.put, List.setIfInBounds_toArray, List.set_cons_zero, List.set_cons_succ]
        refine held_take (i := 2) (v := ?_) rfl (by kernel_rfl) (by kernel_rfl) (by kernel_rfl) (fun _ _ _ h => h) (by rfl) ?_ (by assumption) ?_
        rotate_left
        ·intro X hSX
         try dsimp only at hSX
         go_simp <;> with_reducible rfl
        simp only [Act.put, List.setIfInBounds_toArray, List.set_cons_zero, List.set_cons_succ]
        refine held_take (i := 3) (v := ?_) rfl (by kernel_rfl) (by kernel_rfl) (by kernel_rfl) (fun _ _ _ h => h) (by rfl) ?_ (by assumption) ?_
        rotate_left
        ·intro X hSX
         try dsimp only at hSX
         obtain ⟨_, x0, x1, x2, x3, x4, x5, -, -, -, -, -, -, -, -, -, -, -, -, -, -, -, -⟩ := DnAt.of hSX
         go_simp <;> with_reducible rfl
        simp only [Act.put, List.setIfInBounds_toArray, List.set_cons_zero, List.set_cons_succ]
        refine held_take (i := 4) (v := ?_) rfl (by kernel_rfl) (by kernel_rfl) (by kernel_rfl) (fun _ _ _ h => h) (by rfl) ?_ (by assumption) ?_
        rotate_left
        ·intro X hSX
         try dsimp only at hSX
         go_simp <;> with_reducible rfl
        simp only [Act.put, List.setIfInBounds_toArray, List.set_cons_zero, List.set_cons_succ]
        refine held_take (i := 5) (v := ?_) rfl (by kernel_rfl) (by kernel_rfl) (by kernel_rfl) (fun _ _ _ h => h) (by rfl) ?_ (by assumption) ?_
        rotate_left
        ·intro X hSX
         try dsimp only at hSX
         obtain ⟨_, -, -, -, -, -, -, x6, x7, x8, x9, x10, x11, x12, x13, x14, x15, x16, x17, x18, -, -, -⟩ := DnAt.of hSX
         go_simp <;> with_reducible rfl
        simp only [Act.put, List.setIfInBounds_toArray, List.set_cons_zero, List.set_cons_succ]
        refine held_call (i := 6) rfl (by kernel_rfl) (by rfl) (fun K' hK' => ?_)
        refine oper_store_dr (.tmp 9) (.tmp 125) rfl dp rfl r.d rfl d HR3.out.x ?_
        refine held_go hK' (str_far hS0 HNE.out.1 _) ?_
        try simp only [Act.put, List.setIfInBounds_toArray, List.set_cons_zero, List.set_cons_succ]
        have hS1 := str_far hS0 HNE.out.1 (drK r.d)
        clear hS0
        have hS0 := hS1
        clear hS1
        refine held_take (i := 7) (v := ?_) rfl (by kernel_rfl) (by kernel_rfl) (by kernel_rfl) (fun _ _ _ h => h) (by rfl) ?_ (by assumption) ?_
        rotate_left
        ·intro X hSX
         try dsimp only at hSX
         go_simp <;> with_reducible rfl
        simp only [Act.put, List.setIfInBounds_toArray, List.set_cons_zero, List.set_cons_succ]
        refine held_call (i := 8) rfl (by kernel_rfl) (by rfl) (fun K' hK' => ?_)
        refine oper_store_el (.tmp 128) (.tmp 127) rfl lg (W * 13) rfl (crQ r.c ad2 cap2) rfl C (str_far HG3.out (.inl (fun e => HNE.out.2.2 e.symm)) _) rfl HCC.out (by simp [Value.oneCell']) ?_
        refine held_go hK' (str_far hS0 HNE.out.2.1 _) ?_
        try simp only [Act.put, List.setIfInBounds_toArray, List.set_cons_zero, List.set_cons_succ]
        refine wpAnyH_done (by kernel_rfl) ?_ _
        refine NoPanic.normal ?_
        have HRN := Lib.hid HPT.out.1
        clear HPT HR3 HG3 hS0
        go_wp2_with fail
        go_roundg gk0
        case rel => exact ⟨k + 1, r.d, es.set W r.c, by go_num, by omega, HRN, Lib.hid (HE.out.set HLN.out.1 HDT.out)⟩
        case measure => omega
       ·have q0 : (r.e == 0) = false := by simp [h0]
        have q15 : (r.e == 15) = true := by rw [h15]; rfl
        clear h0 h15
        go_wp2_with fail
        clear q0 q15 x0 x1 x2 x3 x4 x5 x6 x7 x8 x9 x10 x11 x12 x13 x14 x15 x16 x17 x18 x19 x20 x21
        have HB := Lib.hid (Below.refl X2.heap.size X2).drew
        have HS3 := Lib.hid (HS2.out.next HB.out)
        have HR3 := Lib.hid (HR.out.next HS3.out.b)
        refine wp_region_noPanic ?_
        refine wp_region_held_drew (S := (fun X => X.heap[p]? = some (.cells (dnK r.d r.c ad2 r.c.l.length cap2 zd2 zn2 zc2 r.t r.e) 39 (0, 0)))) (by kernel_rfl) (HS3.out.x) (fun hS0 => ?_)
        generalize World.drew X2 = X3 at *
        have HPT := Lib.hid (HPUT.out X3 HS3.out.b r.d ⟨r.c, ad2, cap2⟩ ⟨HS3.out.okx.k.less (fun j hj => .inl hj), HS3.out.okx.le, HS3.out.okx.mx, HS3.out.okx.nn, HS3.out.okx.bs⟩)
        have HNE := Lib.hid (show (dp ≠ p ∨ p ≠ dp) ∧ (lg ≠ p ∨ p ≠ lg) ∧ lg ≠ dp by have h1 := HS3.out.np; have h2 := HLT.out; have h3 := HND.out; exact ⟨.inl (by omega), .inl (by omega), h3⟩)
        have HG3 := Lib.hid (row_next HG.out HS3.out.b)
        refine held_take (i := 0) (v := ?_) rfl (by kernel_rfl) (by kernel_rfl) (by kernel_rfl) (fun _ _ _ h => h) (by rfl) ?_ (by assumption) ?_
        rotate_left
        ·intro X hSX
         try dsimp only at hSX
         go_simp <;> with_reducible rfl
        simp only [Act.put, List.setIfInBounds_toArray, List.set_cons_zero, List.set_cons_succ]
        refine held_take (i := 1) (v := ?_) rfl (by kernel_rfl) (by kernel_rfl) (by kernel_rfl) (fun _ _ _ h => h) (by rfl) ?_ (by assumption) ?_
        rotate_left
        ·intro X hSX
         try dsimp only at hSX
         go_simp <;> with_reducible rfl
        simp only [Act.put, List.setIfInBounds_toArray, List.set_cons_zero, List.set_cons_succ]
        refine held_take (i := 2) (v := ?_) rfl (by kernel_rfl) (by kernel_rfl) (by kernel_rfl) (fun _ _ _ h => h) (by rfl) ?_ (by assumption) ?_
        rotate_left
        ·intro X hSX
         try dsimp only at hSX
         go_simp <;> with_reducible rfl
        simp only [Act.put, List.setIfInBounds_toArray, List.set_cons_zero, List.set_cons_succ]
        refine held_take (i := 3) (v := ?_) rfl (by kernel_rfl) (by kernel_rfl) (by kernel_rfl) (fun _ _ _ h => h) (by rfl) ?_ (by assumption) ?_
        rotate_left
        ·intro X hSX
         try dsimp only at hSX
         obtain ⟨_, x0, x1, x2, x3, x4, x5, -, -, -, -, -, -, -, -, -, -, -, -, -, -, -, -⟩ := DnAt.of hSX
         go_simp <;> with_reducible rfl
        simp only [Act.put, List.setIfInBounds_toArray, List.set_cons_zero, List.set_cons_succ]
        refine held_take (i := 4) (v := ?_) rfl (by kernel_rfl) (by kernel_rfl) (by kernel_rfl) (fun _ _ _ h => h) (by rfl) ?_ (by assumption) ?_
        rotate_left
        ·intro X hSX
         try dsimp only at hSX
         go_simp <;> with_reducible rfl
        simp only [Act.put, List.setIfInBounds_toArray, List.set_cons_zero, List.set_cons_succ]
        refine held_take (i := 5) (v := ?_) rfl (by kernel_rfl) (by kernel_rfl) (by kernel_rfl) (fun _ _ _ h => h) (by rfl) ?_ (by assumption) ?_
        rotate_left
        ·intro X hSX
         try dsimp only at hSX
         obtain ⟨_, -, -, -, -, -, -, x6, x7, x8, x9, x10, x11, x12, x13, x14, x15, x16, x17, x18, -, -, -⟩ := DnAt.of hSX
         go_simp <;> with_reducible rfl
        simp only [Act.put, List.setIfInBounds_toArray, List.set_cons_zero, List.set_cons_succ]
        refine held_call (i := 6) rfl (by kernel_rfl) (by rfl) (fun K' hK' => ?_)
        refine oper_store_dr (.tmp 9) (.tmp 125) rfl dp rfl r.d rfl d HR3.out.x ?_
        refine held_go hK' (str_far hS0 HNE.out.1 _) ?_
        try simp only [Act.put, List.setIfInBounds_toArray, List.set_cons_zero, List.set_cons_succ]
        have hS1 := str_far hS0 HNE.out.1 (drK r.d)
        clear hS0
        have hS0 := hS1
        clear hS1
        refine held_take (i := 7) (v := ?_) rfl (by kernel_rfl) (by kernel_rfl) (by kernel_rfl) (fun _ _ _ h => h) (by rfl) ?_ (by assumption) ?_
        rotate_left
        ·intro X hSX
         try dsimp only at hSX
         go_simp <;> with_reducible rfl
        simp only [Act.put, List.setIfInBounds_toArray, List.set_cons_zero, List.set_cons_succ]
        refine held_call (i := 8) rfl (by kernel_rfl) (by rfl) (fun K' hK' => ?_)
        refine oper_store_el (.tmp 128) (.tmp 127) rfl lg (W * 13) rfl (crQ r.c ad2 cap2) rfl C (str_far HG3.out (.inl (fun e => HNE.out.2.2 e.symm)) _) rfl HCC.out (by simp [Value.oneCell']) ?_
        refine held_go hK' (str_far hS0 HNE.out.2.1 _) ?_
        try simp only [Act.put, List.setIfInBounds_toArray, List.set_cons_zero, List.set_cons_succ]
        refine wpAnyH_done (by kernel_rfl) ?_ _
        refine NoPanic.normal ?_
        have HRN := Lib.hid HPT.out.1
        clear HPT HR3 HG3 hS0
        go_wp2_with fail
        go_roundg gk0
        case rel => exact ⟨k + 1, r.d, es.set W r.c, by go_num, by omega, HRN, Lib.hid (HE.out.set HLN.out.1 HDT.out)⟩
        case measure => omega
      ·have q0 : (r.e == 0) = false := by simp; omega
       have q15 : (r.e == 15) = false := by simp; omega
       clear he
       go_wp2_with fail
       go_roundg gk0
       case rel => exact ⟨k + 1, d, es, by go_num, by omega, Lib.hid (HR.out.next HS2.out.b), Lib.hid HE.out.up⟩
       case measure => omega
end Go.Proofs.Ytogeenihpcbbcaa
