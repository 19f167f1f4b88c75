/-
  The program's Salvage.
-/
import Derived.Test.YtbbdkghkdmaolaaDoorFSalv
namespace Go.Proofs.YtbbdkghkdmaolaaDoor
open Go.RowKit Go.Shelf
set_option linter.unusedVariables false
set_option linter.unusedSimpArgs false
attribute [local go_sem] Oper.semAt_some

theorem lt_by {x y p q : Nat} (h1 : x = p) (h2 : y = q) (h : p < q) : x < y := by omega

set_option maxRecDepth 100000 in
set_option maxHeartbeats 4000000 in
theorem salvage_any (ad : Option Addr) (n cap : Nat) (xs : List UInt8) (w : World) (hl : Lie w ad xs) (hn : n = xs.length) (hs : xs.length ≤ 100000) (hc : n ≤ cap) (hcm : cap ≤ maxLen) (had : ad = none → cap = 0) (hm : Mag w) :
    Calls Tryd.prog 22 #[.slice ad n cap] w (SvP w xs) := by
  refine (callsIn_wide (n := 3)).1 ?_
  refine callsIn_of_wp_marks Tryd.func22 rfl trivial ?_ rfl
  simp only [Tryd.ntmps22, List.size_toArray, List.length_cons, List.length_nil, Nat.reduceAdd, Nat.reduceSub, Array.replicate_succ, Array.replicate_zero, List.push_toArray, List.append_toArray, List.nil_append, List.cons_append]
  have hnb : n ≤ 100000 := by omega
  have HN := Lib.hid hn
  have HL := Lib.hid hl
  have HM := Lib.hid hm
  have HHAD := Lib.hid had
  have hrh := fun (k : Nat) (hk : k ≤ n) W h1 h2 => resync_from ad n cap k xs (k : Int) W h1 hn (by omega) hc hcm had h2 (by omega)
  have HRH := Lib.hid hrh
  clear hn hl hm had hs hrh
  gi_wp2_with fail
  have bO := (Boxed.new w 33 (.slice none 0 0)).alloc (.cells #[.int .i64 0] 3)
  have bE := Boxed.new (w.alloc (.cells #[.slice none 0 0] 33)) 3 (.int .i64 0)
  rw [World.size_alloc] at bE
  have hB0 : Below w.heap.size w ((w.alloc (.cells #[.slice none 0 0] 33)).alloc (.cells #[.int .i64 0] 3)) :=
    ((Below.refl _ w).alloc (Nat.le_refl _) _).alloc (by simp) _
  refine wpIn_loop (fun a W => ∃ (found : Bool) (k B2 : Nat) (ls : List (List UInt8)) (v : Value) (Ds : List Nat) (j6 j7 j8 j9 j10 j11 j12 j13 j14 j15 j16 j17 j18 j19 j20 j21 j22 j23 j24 j25 j26 : Value),
      a = { tmps := #[.slice ad n cap, undef, .slice none 0 0, .pointer (some ⟨w.heap.size, 0, none⟩), .pointer (some ⟨B2, 0, none⟩), .bool found, j6, j7, j8, j9, j10, j11, j12, j13, j14, j15, j16, j17, j18, j19, j20, j21, j22, j23, j24, j25, j26], defers := Ds.map mark } ∧
      Hid (SvO w xs w.heap.size B2 found k ls v Ds W)) (svMu n) ?start ?round
  case start =>
    exact ⟨true, 0, w.heap.size + 1, [], .slice none 0 0, [], undef, undef, undef, undef, undef, undef, undef, undef, undef, undef, undef, undef, undef, undef, undef, undef, undef, undef, undef, undef, undef, rfl,
      Lib.hid ⟨0, rfl, fun _ => ⟨Nat.zero_le _, .inl rfl⟩, (fun h => by cases h), bO, Lz.nil _ _, fun _ => rfl, bE, Nat.le_refl _, by omega, by omega, hB0, ⟨List.nodup_nil, fun D hD => (List.not_mem_nil hD).elim⟩, fun D hD => (List.not_mem_nil hD).elim⟩⟩
  clear bO bE hB0
  rintro _ W ⟨found, k, B2, ls, v, Ds, j6, j7, j8, j9, j10, j11, j12, j13, j14, j15, j16, j17, j18, j19, j20, j21, j22, j23, j24, j25, j26, rfl, HI⟩
  obtain ⟨e, hsal, hft, hff, bO, hz, hnil, bE, hn1, hn2, h12, hB, hMk, hDs⟩ := HI.out
  have hWs := hB.size
  have hc1 := bO.cell
  have hc2 := bE.cell
  cases found with
  | false =>
    have hnone := hff rfl
    have HS := Lib.hid hsal
    have HZ := Lib.hid hz
    have HB := Lib.hid hB
    have HMK := Lib.hid hMk
    have HDS := Lib.hid hDs
    have HNN := Lib.hid hnone
    clear HI hsal hft hff bO hz hnil bE hn1 hn2 h12 hB hMk hDs hnone hc2
    gi_wp2_with fail
    exact leaves_marks (n₀ := w.heap.size) (v := v) (fun _ => results_tmp (fn := Tryd.f22) (t := 2) rfl _ _ _) (fun X => Lz X w.heap.size v ls ∧ Below w.heap.size w X)
      (fun X D hD h hg => ⟨h.1.kept (grownBy_putObj' X D _) (fun r e => by cases e; exact .inr fun cur t fr hh => by rw [hg] at hh; cases hh), h.2.grown (grownBy_putObj' X D _) h.2.size (fun k e => by cases e; exact hD)⟩)
      (fun X h => ⟨v, ls, e, rfl, HS.out, HNN.out, h.1.ls (Nat.le_refl _), h.2⟩) Ds W HMK.out HDS.out ⟨HZ.out, HB.out⟩
  | true =>
    obtain ⟨hkn, hka⟩ := hft rfl
    have hkn' : k ≤ n := by rw [HN.out]; exact hkn
    have HS := Lib.hid hsal
    have HKA := Lib.hid hka
    have HO := Lib.hid bO
    have HZ := Lib.hid hz
    have HNIL := Lib.hid hnil
    have HE := Lib.hid bE
    have HB := Lib.hid hB
    have HMK := Lib.hid hMk
    have HDS := Lib.hid hDs
    clear HI hsal hft hff bO hz hnil bE hB hMk hDs hka hkn
    gi_wp2_with fail
    refine ⟨trivial, ?_⟩
    refine (frames_any _ ad n cap k W).mono ?_
    rintro en W1 ⟨rfl, hW1⟩
    have bB : Boxed W1 W.heap.size 22 (.slice ad n cap) := by rw [hW1]; exact (Boxed.new W 22 (.slice ad n cap)).alloc _
    have bA : Boxed W1 (W.heap.size + 1) 3 (.int .i64 k) := by
      have h := Boxed.new (W.alloc (.cells #[.slice ad n cap] 22)) 3 (.int .i64 k)
      rw [World.size_alloc] at h
      rw [hW1]
      exact h
    have hB1 : Below W.heap.size W W1 := by rw [hW1]; exact ((Below.refl _ W).alloc (Nat.le_refl _) _).alloc (by simp) _
    have hsz1 : W1.heap.size = W.heap.size + 1 + 1 := by rw [hW1]; simp
    clear hW1 hc1 hc2
    have hBw : Below w.heap.size w W1 := HB.out.trans (hB1.mono hWs)
    have hg1 := grown_of_below hB1
    have bO1 := HO.out.kept hg1 (by simp)
    have bE1 := HE.out.kept hg1 (by simp)
    have hZ1 : Lz W1 w.heap.size v ls := HZ.out.below hB1
    have hM1 : Marks W1 Ds := HMK.out.below hB1
    have hvo : v.ownBlock ≠ some W.heap.size := fun h => by have := (HZ.out.own _ h).2.1; omega
    have hDlt : ∀ D ∈ Ds, D < W.heap.size := fun D hD => (Array.getElem?_eq_some_iff.1 (HMK.out.2 D hD)).1
    gi_wp2
    have hD0 : w.heap.size ≤ W1.heap.size := by omega
    refine wpIn_seqKn rfl (by decide) (gf := 37) (lb := #[.pointer (some ⟨W.heap.size, 0, none⟩), .pointer (some ⟨W.heap.size + 1, 0, none⟩)]) rfl trivial (enters_of Tryd.func37 (by kernel_rfl) rfl)
      (frames1_kn 2 ad n cap k W.heap.size (W.heap.size + 1) xs w W1 HL.out HN.out (by have := HN.out; omega) hc hcm HHAD.out HM.out hBw bB bA.cell (by omega) hkn')
      (fun h k => ⟨h.1.trans k.1, fun hb => k.2 (h.2 hb)⟩) (frKp_put hD0) (fun _ => rfl)
      (SvI w w.heap.size W1.heap.size w.heap.size B2 W.heap.size (.slice ad n cap) ls k (fun X => Marks X Ds))
      (svI_own _ _ _ _ _ _ _ _ _ _ hD0 (Nat.le_refl _) (by
        rintro _ X Y row h hg hr
        exact h.grown hg (fun r e hr2 => by have h1 := (hr r e).1; have h2 := hDlt r hr2; omega)))
      (fun x => frKn_own _ x)
      ⟨v, bO1, by simpa using hZ1, hvo, by simpa using HNIL.out, bE1, bB, hBw, Nat.le_refl _, hM1⟩
      (fun x => { tmps := #[.slice ad n cap, undef, .slice none 0 0, .pointer (some ⟨w.heap.size, 0, none⟩), .pointer (some ⟨B2, 0, none⟩), .bool true, x.val, .int .i64 x.e, .bool true, j9, j10, j11, j12, j13, j14, .slice ad n cap, .int .i64 k, .func (.func 37) #[] #[.pointer (some ⟨W.heap.size, 0, none⟩), .pointer (some ⟨W.heap.size + 1, 0, none⟩)], x.val, .int .i64 x.e, j20, j21, j22, j23, j24, j25, j26], defers := [] }) ?assign ?body ?done
    case assign =>
      intro l x X K hK
      gi_wp2
      exact hK
    case body =>
      rintro l pre x X ⟨v2, hv, hz, hnb2, hnil2, hbe, hbb, hB2, hXD, hMX⟩ hkn hlen
      obtain ⟨xad, xN, xcap, xl, xe⟩ := x
      have hle : ls.length ≤ 100000 := by
        have h1 := HS.out.le
        have h2 := HN.out
        by_cases h0 : ls = []
        · rw [h0]; simp
        · have := h1.2 h0; have := h1.1; omega
      have hLl : (ls ++ pre.map (fun x : Fr => x.l)).length = ls.length + pre.length := by simp
      generalize hLs : (ls ++ pre.map (fun x : Fr => x.l)) = Ls0 at hz hLl hnil2
      have HLS := Lib.hid hLs
      have hc1 := hv.cell
      have hXs := hB2.size
      have hLb : Ls0.length ≤ 200000 := by omega
      have HV := Lib.hid hv
      have HZ2 := Lib.hid hz
      have HBE := Lib.hid hbe
      have HBB := Lib.hid hbb
      have HNB := Lib.hid hnb2
      have HNL := Lib.hid hnil2
      have HB2 := Lib.hid hB2
      have HMX := Lib.hid hMX
      have HK := Lib.hid hkn
      clear hv hz hbe hbb hnb2 hnil2 hB2 hMX hkn hLs hLl hlen hle bB bA hB1 hBw hg1 bO1 bE1 hZ1 hM1 hvo
      gi_wp2_with (gi_at_builtin; refine wpListIn_append_y rfl (.tmp 20) (.tmp 22) rfl w.heap.size _ (.slice xad xN xcap) _ xl rfl (HZ2.out.alloc _) ⟨X.heap.size, 0, none⟩ rfl (cell_one_new _ _ _) (HoldS.alloc HK.out _) hLb (by simp; omega) W.heap.size (.slice ad n cap) (HBB.out.alloc _) HNB.out HNL.out ?_; intro v' w1 hz' hg hnb'; obtain ⟨g', cap', rfl⟩ := hz'.cons; have hr := round_collects2 (n₀ := w.heap.size) (new := .int .i64 xe) HV.out HZ2.out HBE.out (Nat.le_refl _) hn2 h12 hXs HBB.out HNB.out hz' hg; have hc2 := hr.1.1.cell; have hf2 := hr.1.1.frozen; have hc3 := hr.1.2.cell; have hf3 := hr.1.2.frozen; have HR := Lib.hid hr; have HNB' := Lib.hid hnb'; clear hz' hg hr hnb')
      obtain ⟨_, ⟨hk1, hk2⟩, hb1, hb2, hz2, hbb2⟩ := HR.out
      refine ⟨hk1.from _, hk2, _, hb1, ?_, HNB'.out, ?_, by simpa using hb2, hbb2, HB2.out.trans hk2.1, Nat.le_trans hXD hk1.size, HMX.out.kept hk1⟩
      · rw [List.map_append, ← List.append_assoc, HLS.out]
        exact hz2
      · intro h
        simp at h
    case done =>
      rintro ys X ⟨f, hp, hne⟩ ⟨v2, hv, hz, hnb2, hnil2, hbe, hbb, hB2, hXD, hMX⟩ hK
      have hlast := part_last ys k f hp
      rw [hlast] at hbe
      have hc2 := hbe.cell
      have HP := Lib.hid hp
      have HNE := Lib.hid hne
      have HV := Lib.hid hv
      have HZ2 := Lib.hid hz
      have HBE := Lib.hid hbe
      have HNL := Lib.hid hnil2
      have HB2 := Lib.hid hB2
      have HMX := Lib.hid hMX
      have HK := Lib.hid hK
      have HSZ1 := Lib.hid hsz1
      clear hsz1 hv hz hbe hbb hnb2 hnil2 hB2 hMX hK hp hne hlast bB bA hB1 hBw hg1 bO1 bE1 hZ1 hM1 hvo
      gi_wp2_with fail
      refine ⟨trivial, ?_⟩
      have hfn : k ≤ f ∧ f ≤ n := by
        have h1 := HP.out.le
        have h2 := HN.out
        by_cases h0 : ys = []
        · subst h0
          have h3 : f = k := HP.out
          omega
        · have := h1.2 (by simpa using h0); omega
      have hXs := HB2.out.size
      have hBX : Below w.heap.size w (X.alloc (.cells #[.int .i64 f] 3)) := HB2.out.alloc hXs _
      have bN := Boxed.new X 3 (.int .i64 f)
      have hsv := Salv.chain HS.out HKA.out HP.out HNE.out
      rw [fr_fst] at hsv
      refine (callsIn_wide.2 (HRH.out f hfn.2 _ (HL.out.below hBX rfl) (HM.out.step hBX))).mono ?_
      rintro en Y ⟨hre, hbY⟩
      have hgY := grown_of_below hbY
      have bO2 := (HV.out.alloc (.cells #[.int .i64 f] 3)).kept hgY (by simp)
      have bN2 := bN.kept hgY (by simp)
      have hZ3 : Lz Y w.heap.size v2 (ls ++ ys.map (·.l)) := (HZ2.out.alloc _).below hbY
      have hBY : Below w.heap.size w Y := hBX.trans (hbY.mono hBX.size)
      have hMY : Marks Y (W1.heap.size :: Ds) := by
        have h1 : Marks X (W1.heap.size :: Ds) := HMX.out.cons HK.out (fun h => by have := hDlt _ h; have := HSZ1.out; omega)
        exact (h1.below ((Below.refl _ _).alloc (Nat.le_refl _) _)).below hbY
      have hDs2 : ∀ D ∈ W1.heap.size :: Ds, w.heap.size ≤ D := fun D hD => by
        rcases List.mem_cons.1 hD with rfl | hD
        · omega
        · exact HDS.out D hD
      have hBX2 : W1.heap.size ≤ X.heap.size := hXD
      have hne2 : w.heap.size ≠ X.heap.size := by have := HSZ1.out; omega
      have hcW := HE.out.cell
      have hSV := Lib.hid hsv
      -- what holds when a number has been stored
      have hend : ∀ (i : Nat) (fd : Bool), (fd = true → i ≤ xs.length ∧ (i = f ∨ rs xs f = some i)) → (fd = false → rs xs f = none) →
          SvO w xs w.heap.size X.heap.size fd i (ls ++ ys.map (·.l)) v2 (W1.heap.size :: Ds) (Y.setCell ⟨X.heap.size, 0, none⟩ (.int .i64 i)) ∧ Boxed (Y.setCell ⟨X.heap.size, 0, none⟩ (.int .i64 i)) X.heap.size 3 (.int .i64 i) := by
        intro i fd h1 h2
        have g1 := grownBy_setCell' Y X.heap.size (.int .i64 i)
        refine ⟨⟨f, hSV.out, h1, h2, bO2.kept g1 (fun e => hne2 (by injection e)), hZ3.kept g1 (fun r e => by cases e; exact .inl (boxed_tag bN2 (by decide) (by decide))), HNL.out, bN2.set _, Nat.le_refl _, hXs, hne2, hBY.setCell (p := ⟨X.heap.size, 0, none⟩) hXs _, hMY.kept (KeepsOthers.setCell _ _ _), hDs2⟩, bN2.set _⟩
      have HEND := Lib.hid hend
      have hcN := bN2.cell
      have hfz := bN2.frozen
      rcases rs_cases xs f with ⟨i, hri, hfi, hin, hci, _⟩ | ⟨hri, _⟩
      · rw [hri] at hre
        dsimp only at hre
        subst hre
        have hfi2 : f ≠ i := fun e => HNE.out (by rw [e]; exact hci)
        have HRI := Lib.hid hri
        have hin2 := Nat.le_of_lt hin
        clear hsv bN bO2 hZ3 hMY hDs2 hend bN2 hci hri
        gi_wp2_with fail
        refine ⟨⟨true, i, X.heap.size, ls ++ ys.map (·.l), v2, W1.heap.size :: Ds, _, _, _, _, _, _, _, _, _, _, _, _, _, _, _, _, _, _, _, _, _, rfl, Lib.hid (HEND.out i true (fun _ => ⟨hin2, .inr HRI.out⟩) (fun h => by cases h)).1⟩, ?_⟩
        refine lt_by (svMu_true (k := i) rfl rfl (HEND.out i true (fun _ => ⟨hin2, .inr HRI.out⟩) (fun h => by cases h)).2.cell) (svMu_true (k := k) rfl rfl hcW) ?_
        have := HN.out
        omega
      · rw [hri] at hre
        dsimp only at hre
        subst hre
        have HRI := Lib.hid hri
        clear hsv bN bO2 hZ3 hMY hDs2 hend bN2 hri
        gi_wp2_with fail
        refine ⟨⟨false, 0, X.heap.size, ls ++ ys.map (·.l), v2, W1.heap.size :: Ds, _, _, _, _, _, _, _, _, _, _, _, _, _, _, _, _, _, _, _, _, _, rfl, Lib.hid (HEND.out 0 false (fun h => by cases h) (fun _ => HRI.out)).1⟩, ?_⟩
        refine lt_by (svMu_false rfl) (svMu_true (k := k) rfl rfl hcW) ?_
        omega
end Go.Proofs.YtbbdkghkdmaolaaDoor
