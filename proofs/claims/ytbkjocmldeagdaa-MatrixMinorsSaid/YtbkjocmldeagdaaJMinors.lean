/-
  MatrixMinors: the walk.
-/
import Derived.Test.YtbkjocmldeagdaaJInts
import Derived.Test.YtbkjocmldeagdaaJComposes
import Derived.Test.YtbkjocmldeagdaaJInverts
import Derived.Deep.RegionWith
import Derived.Test.YtbkjocmldeagdaaHeld
namespace Go.Proofs.Ytbkjocmldeagdaa
open Go.RowKit
theorem wp_append_one {w : World} {o : Oper} {a : Act} {K : Act → World → Prop} {Q : Exit → Act → World → Prop} (s x : Operand)
    (ho : o.op = .call { callee := .builtin .append, args := #[s, x], argTypes := #[23, 23] })
    (B : Nat) (v : Value) (ys : List UInt8) (hs : a.eval s = v) (hown : Own w B v ys) (y : UInt8) (ad : Addr) (hx : a.eval x = .slice (some ad) 1 1) (hcell : ∀ j u, [Value.int .u8 (ev y)][j]? = some u → w.cell? (ad.add j) = some u) (hlen : ys.length ≤ 1000000) (hbase : B ≤ w.heap.size)
    (h : ∀ v' w', Own w' B v' (ys ++ [y]) → w.grownBy w' v.ownBlock → K (a.put o.dst v') w') : o.wp Try.prog a w K Q := by
  obtain ⟨i, hi, hz0, hz1, hz2⟩ := info_u
  refine wp_append_own w s x 23 ho B 5 i (.int .u8 0) 1 1 Try.underlying23 hi hz0 hz1 hz2 rfl (by decide) v ys.length (cellsU ys) hs hown.row ad 1 1 [Value.int .u8 (ev y)] hx rfl hcell (by simp [Value.oneCell']) (by unfold maxLen; omega) (by omega) hbase (fun v' w' h2 h3 _ => h v' w' ?_ h3)
  unfold Own
  rw [List.length_append, List.length_singleton]
  rw [show cellsU ys ++ [Value.int .u8 (ev y)] = cellsU (ys ++ [y]) by simp [cellsU, ev_nat]] at h2
  exact h2
/-- one operation that may come up has been carried out -/
theorem held_go {P : Program} {md : Region.Mode} {ops : Array Oper} {Q : Exit → Act → World → Prop} {S : World → Prop} {fuel : Nat} {listed : Array Bool} {K' : Act → World → Prop} {a : Act} {w : World}
    (hK : Shut (∀ a w, S w → (S w → wpAnyH P md ops Q S fuel listed a w) → K' a w)) (hS : S w) (h : wpAnyH P md ops Q S fuel listed a w) : K' a w := hK.out a w hS (fun _ => h)
/-- some different rows and columns -/
structure Chosen (R L : List Nat) (n m : Nat) : Prop where
  len : R.length = L.length
  rows : R.Nodup
  cols : L.Nodup
  rlt : ∀ x ∈ R, x < n
  clt : ∀ x ∈ L, x < m
theorem Chosen.nil (n m : Nat) : Chosen [] [] n m := ⟨rfl, List.nodup_nil, List.nodup_nil, fun _ h => by simp at h, fun _ h => by simp at h⟩
theorem Chosen.more {R L : List Nat} {n m : Nat} (h : Chosen R L n m) (x y : Nat) (hx : x < n) (hy : y < m) (hxR : x ∉ R) (hyL : y ∉ L) : Chosen (R ++ [x]) (L ++ [y]) n m := by
  refine ⟨by simp [h.len], ?_, ?_, fun z hz => ?_, fun z hz => ?_⟩
  · rw [List.nodup_append]
    exact ⟨h.rows, by simp, fun a ha b hb => by rw [List.mem_singleton] at hb; intro e; exact hxR (by rw [← hb, ← e]; exact ha)⟩
  · rw [List.nodup_append]
    exact ⟨h.cols, by simp, fun a ha b hb => by rw [List.mem_singleton] at hb; intro e; exact hyL (by rw [← hb, ← e]; exact ha)⟩
  · rcases List.mem_append.1 hz with h' | h'
    · exact h.rlt z h'
    · rw [List.mem_singleton.1 h']; exact hx
  · rcases List.mem_append.1 hz with h' | h'
    · exact h.clt z h'
    · rw [List.mem_singleton.1 h']; exact hy
theorem nodup_getD {l : List Nat} (h : l.Nodup) (i j : Nat) (hij : i < j) (hj : j < l.length) : l.getD i 0 ≠ l.getD j 0 := by
  have hi : i < l.length := by omega
  rw [show l.getD i 0 = l[i] by simp [hi], show l.getD j 0 = l[j] by simp [hj]]
  exact List.pairwise_iff_getElem.1 h i j hi hj hij
theorem getD_mem {l : List Nat} (i : Nat) (hi : i < l.length) : l.getD i 0 ∈ l := by
  rw [show l.getD i 0 = l[i] by simp [hi]]
  exact List.getElem_mem hi
/-- the chosen minor has an inverse, and its rank is full -/
theorem minor_has {R L : List Nat} {n m : Nat} (h : Chosen R L n m) (hs : n + m ≤ 64) (hp : 0 < R.length) (h64 : R.length ≤ 64) :
    Has (matL R.length R.length fun i k => ent (cauL n m) (R.getD i 0) (L.getD k 0)) := by
  obtain ⟨A, hA⟩ := minor_inv R.length n m (fun i => R.getD i 0) (fun k => L.getD k 0) (fun i hi => h.rlt _ (getD_mem i hi)) (fun i hi => h.clt _ (getD_mem i (by rw [← h.len]; exact hi))) hs
    (fun i j hij hj => nodup_getD h.rows i j hij hj) (fun i j hij hj => nodup_getD h.cols i j hij (by rw [← h.len]; exact hj))
  refine ⟨matL_valid _ _ _ hp h64 hp h64, by rw [matL_cols _ _ _ hp, matL_length], A, ?_⟩
  rw [matL_length]
  exact hA.congr (fun _ _ _ _ => rfl) fun i hi k hk => (matL_ent R.length R.length i k (fun i k => ent (cauL n m) (R.getD i 0) (L.getD k 0)) hi hk).symm

/-- the first loop's state -/
def Sel (wx : World) (B n m q : Nat) (vr vl : Value) : Prop := ∃ R L, Chosen R L n m ∧ R.length ≤ q ∧ Two wx B vr vl R L
set_option maxRecDepth 100000 in
set_option maxHeartbeats 2000000 in
theorem law_minors (r c : Int) (vd : Option Addr) (kk vc : Nat) (v : List UInt8) (w : World) (hr : -9223372036854775808 ≤ r ∧ r ≤ 9223372036854775807) (hc : -9223372036854775808 ≤ c ∧ c ≤ 9223372036854775807) (hv : Lie w vd v) (hk : kk = v.length) (hkm : kk ≤ maxLen) :
    Calls Try.prog 7 #[.int .i64 r, .int .i64 c, .slice vd kk vc] w fun e w' => e = .returned (.bool true) ∧ Below w.heap.size w w' := by
  have HV := Lib.hid hv
  have HK := Lib.hid hk
  unfold maxLen at hkm
  clear hv hk
  go_enter Try.func7, Try.ntmps7
  go_wp2_with fail
  refine (lives_any _).mono ?_
  rintro e w1 ⟨rfl, hb1⟩
  have HB1 := Lib.hid hb1
  clear hb1
  go_wp2_with fail
  refine (cauchy_any r c w1 hr.1 hr.2 hc.1 hc.2).mono ?_
  rintro e w2 ⟨h2, h2'⟩
  by_cases hC : CauB r c
  rotate_left
  · obtain ⟨rfl, rfl⟩ := h2 (by unfold CauB at hC; omega)
    clear h2 h2'
    go_wp2
    go_ret
    exact ⟨rfl, HB1.out⟩
  obtain ⟨g, rfl, hO, hb2⟩ := h2' hC
  obtain ⟨hC1, hC2, hC3⟩ := hC
  have HB2 := Lib.hid (HB1.out.trans (hb2.mono HB1.out.size))
  have HO := Lib.hid hO
  clear h2 h2' hO hb2
  obtain ⟨n, rfl⟩ := Int.eq_ofNat_of_zero_le (show 0 ≤ r by omega)
  obtain ⟨m, rfl⟩ := Int.eq_ofNat_of_zero_le (show 0 ≤ c by omega)
  rw [Int.toNat_natCast, Int.toNat_natCast] at HO
  rw [Int.toNat_natCast]
  by_cases hk128 : 128 < kk
  · go_wp2
    go_ret
    exact ⟨rfl, HB2.out⟩
  have HS0 : Hid (Sel ((w2.alloc (.cells #[] 3)).alloc (.cells #[] 3)) w2.heap.size n m 0 (.slice (some ⟨w2.heap.size, 0, none⟩) 0 0) (.slice (some ⟨w2.heap.size + 1, 0, none⟩) 0 0)) := Lib.hid (by
    have h1 := (OwnI.made w2).below ((Below.refl _ _).alloc (Nat.le_refl _) (.cells #[] 3))
    have h2 := (OwnI.made (w2.alloc (.cells #[] 3))).mono (B' := w2.heap.size) (by simp)
    rw [show (w2.alloc (.cells #[] 3)).heap.size = w2.heap.size + 1 by simp] at h2
    exact ⟨[], [], Chosen.nil n m, Nat.le_refl _, h1, h2, fun k hk e => by
      have e1 : some w2.heap.size = some k := hk
      have e2 : some (w2.heap.size + 1) = some k := e
      rw [← e1] at e2
      have := Option.some.inj e2
      omega⟩)
  have HB3 : Hid (Below w2.heap.size w2 ((w2.alloc (.cells #[] 3)).alloc (.cells #[] 3))) := Lib.hid (((Below.refl _ _).alloc (Nat.le_refl _) _).alloc (by simp) _)
  go_wp2_with fail
  go_loopg [9, 10, 11] 65 (fun gk vr vl vi wx => ∃ t q : Nat, vi = .int .i64 t ∧ Hid (t = 2 * q) ∧ q + gk = 65 ∧ t ≤ 128 ∧ Hid (Sel wx w2.heap.size n m q vr vl) ∧ Hid (Below w2.heap.size w2 wx))
  case atStart => exact ⟨0, 0, rfl, Lib.hid rfl, by omega, by omega, HS0, HB3⟩
  case round =>
    obtain ⟨t, q, rfl, HT, hq, ht, HS, HB⟩ := hrel
    clear HS0 HB3
    by_cases hlt : t + 1 < kk
    · have hlt1 : (t : Int) + 1 < (kk : Int) := by omega
      have hlt2 : (t : Int) < (kk : Int) := by omega
      obtain ⟨bc, oc, rfl, -, hcc⟩ := ((HV.out.below HB2.out rfl).below HB.out rfl).ev (by have := HK.out; omega)
      have f1 := hcc t (by have := HK.out; omega)
      have f2 := hcc (t + 1) (by have := HK.out; omega)
      obtain ⟨x, hx⟩ : ∃ x : Nat, ev (v[t]'(by have := HK.out; omega)) = (x : Int) := ⟨_, ev_nat _⟩
      obtain ⟨y, hy⟩ : ∃ y : Nat, ev (v[t + 1]'(by have := HK.out; omega)) = (y : Int) := ⟨_, ev_nat _⟩
      have hx1 := ev_hi (v[t]'(by have := HK.out; omega))
      have hy1 := ev_hi (v[t + 1]'(by have := HK.out; omega))
      rw [hx] at f1 hx1
      rw [hy] at f2 hy1
      have hn0 : n ≠ 0 := by omega
      have hm0 : m ≠ 0 := by omega
      obtain ⟨X, hX⟩ : ∃ X : Nat, X = x % n := ⟨_, rfl⟩
      obtain ⟨Y, hY⟩ : ∃ Y : Nat, Y = y % m := ⟨_, rfl⟩
      have hXe : (x : Int) % (n : Int) = (X : Int) := by rw [hX, Int.natCast_emod]
      have hYe : (y : Int) % (m : Int) = (Y : Int) := by rw [hY, Int.natCast_emod]
      have hXn : X < n := by rw [hX]; exact Nat.mod_lt _ (by omega)
      have hYm : Y < m := by rw [hY]; exact Nat.mod_lt _ (by omega)
      clear hcc hx hy hX hY
      have HQ := Lib.hid (show q ≤ 63 by have := HT.out; omega)
      go_wp2_with fail
      go_quiet (fail)
      rename_i nq
      try rw [hXe]
      try rw [hYe]
      have hdq : Below wr.heap.size wr (wr.drewN nq) := below_drewN (.refl _ _) nq
      have HBW : Hid (Below w2.heap.size w2 (wr.drewN nq)) := Lib.hid (below_drewN HB.out nq)
      obtain ⟨R, L, hCh, hRq, hTw⟩ := HS.out
      have HTW := Lib.hid (hTw.below hdq)
      have HCH := Lib.hid hCh
      clear f1 f2 hXe hYe hx1 hy1 hdq hTw hCh HS HB
      generalize wr.drewN nq = W at HBW HTW ⊢
      go_wp2_with fail
      refine (has_any w2.heap.size u9 R X W HTW.out.first).mono ?_
      rintro e w' ⟨rfl, rfl⟩
      by_cases hXR : X ∈ R
      · rw [decide_eq_true hXR]
        have HS2 : Hid (Sel W w2.heap.size n m (q + 1) u9 u10) := Lib.hid ⟨R, L, HCH.out, by omega, HTW.out⟩
        clear hXR
        go_wp2
        go_roundg (gk - 1)
        case rel => exact ⟨t + 2, q + 1, by go_num, Lib.hid (by have := HT.out; omega), by have := HQ.out; omega, by omega, HS2, HBW⟩
        case measure => have := HQ.out; omega
      rw [decide_eq_false hXR]
      go_wp2_with fail
      refine (has_any w2.heap.size u10 L Y W HTW.out.second).mono ?_
      rintro e w' ⟨rfl, rfl⟩
      by_cases hYL : Y ∈ L
      · rw [decide_eq_true hYL]
        have HS2 : Hid (Sel W w2.heap.size n m (q + 1) u9 u10) := Lib.hid ⟨R, L, HCH.out, by omega, HTW.out⟩
        clear hYL hXR
        go_wp2
        go_roundg (gk - 1)
        case rel => exact ⟨t + 2, q + 1, by go_num, Lib.hid (by have := HT.out; omega), by have := HQ.out; omega, by omega, HS2, HBW⟩
        case measure => have := HQ.out; omega
      rw [decide_eq_false hYL]
      have HMORE := Lib.hid (HCH.out.more X Y hXn hYm hXR hYL)
      have hL64 : L.length ≤ 100 := by have := HCH.out.len; have := HQ.out; omega
      have hR64 : R.length ≤ 100 := by have := HQ.out; omega
      clear hXR hYL
      have HA1 := Lib.hid ((Below.refl W.heap.size W).alloc (Nat.le_refl _) (.cells #[.int .i64 (X : Int)] 3))
      have HT1 := Lib.hid (HTW.out.below HA1.out)
      have HB1' := Lib.hid (HBW.out.trans (HA1.out.mono HBW.out.size))
      go_wp2_with (first
        | (at_builtin; refine wpList_append_i rfl (.tmp 69) (.tmp 71) rfl w2.heap.size u9 R rfl HT1.out.first X _ rfl (cell_one_at _ _ _ _ (by simp)) (by omega) HB1'.out.size ?_; intro v3 w3 ho3 hg3 hf3; have HB2' := Lib.hid (HB1'.out.grown hg3 HB1'.out.size (fun z hz => (HT1.out.first.lt z hz).1)); have HT2 := Lib.hid (HT1.out.addFirst ho3 hg3 hf3); have HA2 := Lib.hid ((Below.refl w3.heap.size w3).alloc (Nat.le_refl _) (.cells #[.int .i64 (Y : Int)] 3)); have HT3 := Lib.hid (HT2.out.below HA2.out); have HB3' := Lib.hid (HB2'.out.trans (HA2.out.mono HB2'.out.size)); clear ho3 hg3 hf3)
        | (at_builtin; refine wpList_append_i rfl (.tmp 73) (.tmp 75) rfl w2.heap.size u10 L rfl HT3.out.second Y _ rfl (cell_one_at _ _ _ _ (by simp)) (by omega) HB3'.out.size ?_; intro v4 w4 ho4 hg4 hf4; have HB4' := Lib.hid (HB3'.out.grown hg4 HB3'.out.size (fun z hz => (HT3.out.second.lt z hz).1)); have HT4 := Lib.hid (HT3.out.addSecond ho4 hg4 hf4); clear ho4 hg4 hf4))
      go_roundg (gk - 1)
      case rel => exact ⟨t + 2, q + 1, by go_num, Lib.hid (by have := HT.out; omega), by have := HQ.out; omega, by omega, Lib.hid ⟨R ++ [X], L ++ [Y], HMORE.out, by rw [List.length_append, List.length_singleton]; omega, HT4.out⟩, HB4'⟩
      case measure => have := HQ.out; omega
    · have hlt1 : ¬ (t : Int) + 1 < (kk : Int) := by omega
      obtain ⟨R, L, hCh, hRq, hTw⟩ := HS.out
      obtain ⟨ad, cap, rfl, hcl, hcm, hcc⟩ := hTw.first.slice
      obtain ⟨ad2, cap2, rfl, hcl2, hcm2, hcc2⟩ := hTw.second.slice
      obtain ⟨N, hN⟩ : ∃ N, R.length = N := ⟨_, rfl⟩
      have hN2 : L.length = N := by rw [← hCh.len]; exact hN
      have HCH := Lib.hid hCh
      have HN := Lib.hid hN
      have HN2 := Lib.hid hN2
      have HRD := Lib.hid hcc
      have HRD2 := Lib.hid hcc2
      rw [hN] at hcl ⊢
      rw [hN2] at hcl2 ⊢
      have hN64 : N ≤ 65 := by omega
      unfold maxLen at hcm hcm2
      clear hCh hTw hcc hcc2 hN hN2 HS
      by_cases hN0 : N = 0
      · have hN1 : ((N : Int) == 0) = true := by rw [hN0]; rfl
        go_wp2
        go_ret
        exact ⟨rfl, HB2.out.trans (HB.out.mono HB2.out.size)⟩
      have hN1 : ((N : Int) == 0) = false := by rw [beq_eq_false_iff_ne]; omega
      obtain ⟨W, HW⟩ : ∃ W : World, Hid (W = wr) := ⟨_, Lib.hid rfl⟩
      obtain ⟨ga, rfl, -, -⟩ := HRD.out 0 (by have := HN.out; omega)
      obtain ⟨gb, rfl, -, -⟩ := HRD2.out 0 (by have := HN2.out; omega)
      have HRW : Hid (∀ X, Below W.heap.size W X → ∀ j, j < N → X.cell? ⟨ga, j, none⟩ = some (.int .i64 ((R.getD j 0 : Nat) : Int))) := Lib.hid fun X hX j hj => by
        obtain ⟨g', e1, e2, e3⟩ := HRD.out j (by have := HN.out; omega)
        cases e1
        rw [← HW.out] at e2 e3
        rw [hX.cell (p := ⟨ga, j, none⟩) e2, e3]
        simp [show j < R.length by have := HN.out; omega]
      have HLW : Hid (∀ X, Below W.heap.size W X → ∀ j, j < N → X.cell? ⟨gb, j, none⟩ = some (.int .i64 ((L.getD j 0 : Nat) : Int))) := Lib.hid fun X hX j hj => by
        obtain ⟨g', e1, e2, e3⟩ := HRD2.out j (by have := HN2.out; omega)
        cases e1
        rw [← HW.out] at e2 e3
        rw [hX.cell (p := ⟨gb, j, none⟩) e2, e3]
        simp [show j < L.length by have := HN2.out; omega]
      have HBWW : Hid (Below w.heap.size w W) := Lib.hid (by rw [HW.out]; exact HB2.out.trans (HB.out.mono HB2.out.size))
      have HBW2 : Hid (Below w2.heap.size w2 W) := Lib.hid (by rw [HW.out]; exact HB.out)
      have HM1 : Hid (OMv (wr.alloc (.cells #[] 23)) W.heap.size (wr.alloc (.cells #[] 23)).heap.size (.slice (some ⟨wr.heap.size, 0, none⟩) 0 0) 0 N (fun i k => cauF m (R.getD i 0) (L.getD k 0))) := Lib.hid (by rw [HW.out]; exact OMv.made wr _ N _)
      have HM2 : Hid (Below W.heap.size W (wr.alloc (.cells #[] 23))) := Lib.hid (by rw [HW.out]; exact (Below.refl _ _).alloc (Nat.le_refl _) _)
      have hN64' : N ≤ 64 := by have := hRq; have := HT.out; have := HN.out; omega
      clear HRD HRD2 HB
      go_wp2_with fail
      go_loopg [14, 15] N (fun gk vm vi wx => ∃ i : Nat, vi = .int .i64 i ∧ i + gk = N ∧ Hid (OMv wx W.heap.size wx.heap.size vm i N (fun i k => cauF m (R.getD i 0) (L.getD k 0))) ∧ Hid (Below W.heap.size W wx))
      case atStart => exact ⟨0, rfl, by omega, HM1, HM2⟩
      case round =>
        obtain ⟨i, rfl, hi, hM, hB⟩ := hrel
        clear HM1 HM2
        cases gk with
        | zero =>
          have hiN : ¬ (i : Int) < (N : Int) := by omega
          obtain rfl : i = N := by omega
          obtain ⟨am, cm, em, hlm, hm1, hm2⟩ := hM.out.lr (by omega)
          have hPE : matL i i (fun i k => cauF m (R.getD i 0) (L.getD k 0)) = matL i i fun i k => ent (cauL n m) (R.getD i 0) (L.getD k 0) := matL_congr i i _ _ fun a ha k hk => by
            rw [show ent (cauL n m) (R.getD a 0) (L.getD k 0) = cauF m (R.getD a 0) (L.getD k 0) from matL_ent n m _ _ _ (HCH.out.rlt _ (getD_mem a (by have := HN.out; omega))) (HCH.out.clt _ (getD_mem k (by have := HN2.out; omega)))]
          have hHas : Has (matL i i (fun i k => cauF m (R.getD i 0) (L.getD k 0))) := by
            rw [hPE]
            have h := minor_has HCH.out (by omega) (by have := HN.out; omega) (by have := HN.out; omega)
            rw [HN.out] at h
            exact h
          obtain ⟨P, hP⟩ : ∃ P, matL i i (fun i k => cauF m (R.getD i 0) (L.getD k 0)) = P := ⟨_, rfl⟩
          have hPl : P.length = i := by rw [← hP, matL_length]
          rw [hP] at hHas hlm
          have HHAS := Lib.hid hHas
          have HLM := Lib.hid hlm
          have HPL := Lib.hid hPl.symm
          have HIM : Hid (i ≤ maxLen) := Lib.hid (Nat.le_trans hm1 hm2)
          have hrk : (rk P : Int) = (i : Int) := by
            have := (has_rank hHas.1 hHas.2.1).1 hHas
            omega
          have hrb : ((rk P : Int) == (i : Int)) = true := by rw [beq_iff_eq]; exact hrk
          subst em
          clear hM hPE hHas hP hPl hlm hm1 hm2
          go_wp2_with fail
          refine (invert_any am i cm P wr HLM.out HPL.out HIM.out).mono ?_
          rintro e w5 h5
          have h5' := h5.gives
          rw [okI_yes HHAS.out] at h5'
          obtain ⟨a5, c5, rfl, -, -, -, hb5⟩ := h5'
          have HB5 := Lib.hid (hB.out.trans (hb5.mono hB.out.size))
          have HLM5 := Lib.hid (HLM.out.below hb5)
          clear h5 hb5
          go_wp2_with fail
          refine (rank_any am i cm P w5 HLM5.out HPL.out HIM.out).mono ?_
          rintro e w6 ⟨rfl, hb6⟩
          have HB6 := Lib.hid (HB5.out.trans (hb6.mono HB5.out.size))
          clear hb6
          go_wp2
          go_ret
          exact ⟨rfl, HBWW.out.trans (HB6.out.mono HBWW.out.size)⟩
        | succ gi0 =>
          have hiN : (i : Int) < (N : Int) := by omega
          obtain ⟨W0, HW0⟩ : ∃ W0 : World, Hid (W0 = wr) := ⟨_, Lib.hid rfl⟩
          have HM0 : Hid (OMv W0 W.heap.size W0.heap.size u14 i N (fun i k => cauF m (R.getD i 0) (L.getD k 0))) := Lib.hid (by rw [HW0.out]; exact hM.out)
          have HB0 : Hid (Below W.heap.size W W0) := Lib.hid (by rw [HW0.out]; exact hB.out)
          have HR1 : Hid (Own (wr.alloc (.cells #[] 5)) W0.heap.size (.slice (some ⟨wr.heap.size, 0, none⟩) 0 0) ((List.range 0).map fun k => cauF m (R.getD i 0) (L.getD k 0))) := Lib.hid (by rw [HW0.out]; exact Own.made wr)
          have HR2 : Hid (Below W0.heap.size W0 (wr.alloc (.cells #[] 5))) := Lib.hid (by rw [HW0.out]; exact (Below.refl _ _).alloc (Nat.le_refl _) _)
          have hRi : R.getD i 0 < n := HCH.out.rlt _ (getD_mem i (by have := HN.out; omega))
          go_wp2_with fail
          go_loopg [16, 17] N (fun gk vr vk wx => ∃ k : Nat, vk = .int .i64 k ∧ k + gk = N ∧ Hid (Own wx W0.heap.size vr ((List.range k).map fun k => cauF m (R.getD i 0) (L.getD k 0))) ∧ Hid (Below W0.heap.size W0 wx))
          case atStart => exact ⟨0, rfl, by omega, HR1, HR2⟩
          case round =>
            obtain ⟨k, rfl, hk, hO, hB1⟩ := hrel
            clear HR1 HR2
            cases gk with
            | zero =>
              have hkN : ¬ (k : Int) < (N : Int) := by omega
              obtain rfl : k = N := by omega
              obtain ⟨a6, c6, e6, -⟩ := hO.out.slice
              rw [List.length_map, List.length_range] at e6
              subst e6
              have HB5 : Hid (Below W0.heap.size W0 (wr.alloc (.cells #[.slice a6 k c6] 23))) := Lib.hid (hB1.out.alloc hB1.out.size _)
              have HRO : Hid (Own (wr.alloc (.cells #[.slice a6 k c6] 23)) W0.heap.size (.slice a6 k c6) ((List.range k).map ((fun i k => cauF m (R.getD i 0) (L.getD k 0)) i))) := Lib.hid (hO.out.below ((Below.refl _ _).alloc (Nat.le_refl _) _))
              go_wp2_with (at_builtin; refine wpList_append_row rfl (.tmp 110) (.tmp 112) rfl W.heap.size u14 (.slice a6 k c6) i k (fun i k => cauF m (R.getD i 0) (L.getD k 0)) W0.heap.size rfl (HM0.out.below HB5.out) _ rfl (cell_one_at _ _ _ _ (by simp)) HRO.out (by omega) HB0.out.size (by omega) (Nat.le_trans HB0.out.size HB5.out.size) ?_; intro v3 w3 ho3 hg3; have HO3 := Lib.hid ho3; have HB6 := Lib.hid ((HM0.out.below HB5.out).below_lt (HB0.out.trans (HB5.out.mono HB0.out.size)) (Nat.le_trans HB0.out.size HB5.out.size) hg3); clear ho3 hg3)
              go_roundg gi0
              case rel => exact ⟨i + 1, by go_num, by omega, HO3, HB6⟩
              case measure => omega
            | succ gz0 =>
              have hkN : (k : Int) < (N : Int) := by omega
              have hLk : L.getD k 0 < m := HCH.out.clt _ (getD_mem k (by have := HN2.out; omega))
              obtain ⟨b1, o1, c1, e1, e2, -, q1, q2⟩ : ∃ b1 o1 c1, W0.cell? ⟨g, R.getD i 0, none⟩ = some (.slice (some ⟨b1, o1, none⟩) m c1) ∧ W0.cell? ⟨b1, o1 + L.getD k 0, none⟩ = some (.int .u8 (ev (cauF m (R.getD i 0) (L.getD k 0)))) ∧ True ∧ m ≤ c1 ∧ c1 ≤ maxLen := by
                have h := HO.out.below (HBW2.out.trans (HB0.out.mono HBW2.out.size))
                rw [cauL_eq] at h
                obtain ⟨b1, o1, c1, e1, e2, _, e3, e4⟩ := h.elem (R.getD i 0) (L.getD k 0) hRi hLk
                exact ⟨b1, o1, c1, e1, e2, trivial, e3, e4⟩
              unfold maxLen at q2
              have HC2 : Hid (∀ X, Below W0.heap.size W0 X → X.cell? ⟨g, R.getD i 0, none⟩ = some (.slice (some ⟨b1, o1, none⟩) m c1)) := Lib.hid fun X hX => (hX.cell (p := ⟨g, R.getD i 0, none⟩) (World.block_lt_of_cell? W0 _ e1)).trans e1
              have HC4 : Hid (∀ X, Below W0.heap.size W0 X → X.cell? ⟨b1, o1 + L.getD k 0, none⟩ = some (.int .u8 (ev (cauF m (R.getD i 0) (L.getD k 0))))) := Lib.hid fun X hX => (hX.cell (p := ⟨b1, o1 + L.getD k 0, none⟩) (World.block_lt_of_cell? W0 _ e2)).trans e2
              have HC1 : Hid (∀ X, Below W0.heap.size W0 X → X.cell? ⟨ga, i, none⟩ = some (.int .i64 ((R.getD i 0 : Nat) : Int))) := Lib.hid fun X hX => HRW.out X (HB0.out.trans (hX.mono HB0.out.size)) i (by omega)
              have HC3 : Hid (∀ X, Below W0.heap.size W0 X → X.cell? ⟨gb, k, none⟩ = some (.int .i64 ((L.getD k 0 : Nat) : Int))) := Lib.hid fun X hX => HLW.out X (HB0.out.trans (hX.mono HB0.out.size)) k (by omega)
              have hyv : (List.range (k + 1)).map (fun k => cauF m (R.getD i 0) (L.getD k 0)) = (List.range k).map (fun k => cauF m (R.getD i 0) (L.getD k 0)) ++ [cauF m (R.getD i 0) (L.getD k 0)] := by
                rw [List.range_succ, List.map_append]; rfl
              have HYV := Lib.hid hyv
              clear e1 e2 hyv
              generalize cauF m (R.getD i 0) (L.getD k 0) = y at HC4 HYV
              have hri : ((R.getD i 0 : Nat) : Int) < (n : Int) := by omega
              have hli : ((L.getD k 0 : Nat) : Int) < (m : Int) := by omega
              generalize R.getD i 0 = ri at HC1 HC2 hri hRi
              generalize L.getD k 0 = li at HC3 HC4 hli hLk
              go_wp2_with fail
              refine wp_region_noPanic ?_
              refine wp_region_held_drew (S := fun X => Below W0.heap.size W0 X) (by kernel_rfl) (hB1.out.drew) (fun hS0 => ?_)
              refine held_take (i := 0) (v := ?_) rfl (by kernel_rfl) (by kernel_rfl) (by kernel_rfl) (fun _ _ _ h => h) (by rfl) ?_ (by assumption) ?_
              rotate_left
              · intro X hSX
                try dsimp only at hSX
                go_simp <;> with_reducible rfl
              simp only [Act.put, List.setIfInBounds_toArray, List.set_cons_zero, List.set_cons_succ]
              refine held_take (i := 1) (v := ?_) rfl (by kernel_rfl) (by kernel_rfl) (by kernel_rfl) (fun _ _ _ h => h) (by rfl) ?_ (by assumption) ?_
              rotate_left
              · intro X hSX
                try dsimp only at hSX
                go_simp <;> with_reducible rfl
              simp only [Act.put, List.setIfInBounds_toArray, List.set_cons_zero, List.set_cons_succ]
              refine held_take (i := 2) (v := ?_) rfl (by kernel_rfl) (by kernel_rfl) (by kernel_rfl) (fun _ _ _ h => h) (by rfl) ?_ (by assumption) ?_
              rotate_left
              · intro X hSX
                try dsimp only at hSX
                go_simp <;> with_reducible rfl
              simp only [Act.put, List.setIfInBounds_toArray, List.set_cons_zero, List.set_cons_succ]
              refine held_take (i := 3) (v := ?_) rfl (by kernel_rfl) (by kernel_rfl) (by kernel_rfl) (fun _ _ _ h => h) (by rfl) ?_ (by assumption) ?_
              rotate_left
              · intro X hSX
                try dsimp only at hSX
                go_simp <;> with_reducible rfl
              simp only [Act.put, List.setIfInBounds_toArray, List.set_cons_zero, List.set_cons_succ]
              refine held_take (i := 4) (v := ?_) rfl (by kernel_rfl) (by kernel_rfl) (by kernel_rfl) (fun _ _ _ h => h) (by rfl) ?_ (by assumption) ?_
              rotate_left
              · intro X hSX
                try dsimp only at hSX
                go_simp <;> with_reducible rfl
              simp only [Act.put, List.setIfInBounds_toArray, List.set_cons_zero, List.set_cons_succ]
              refine held_take (i := 5) (v := ?_) rfl (by kernel_rfl) (by kernel_rfl) (by kernel_rfl) (fun _ _ _ h => h) (by rfl) ?_ (by assumption) ?_
              rotate_left
              · intro X hSX
                try dsimp only at hSX
                have hcell := HC1.out X hSX
                go_simp <;> with_reducible rfl
              simp only [Act.put, List.setIfInBounds_toArray, List.set_cons_zero, List.set_cons_succ]
              refine held_take (i := 6) (v := ?_) rfl (by kernel_rfl) (by kernel_rfl) (by kernel_rfl) (fun _ _ _ h => h) (by rfl) ?_ (by assumption) ?_
              rotate_left
              · intro X hSX
                try dsimp only at hSX
                go_simp <;> with_reducible rfl
              simp only [Act.put, List.setIfInBounds_toArray, List.set_cons_zero, List.set_cons_succ]
              refine held_take (i := 7) (v := ?_) rfl (by kernel_rfl) (by kernel_rfl) (by kernel_rfl) (fun _ _ _ h => h) (by rfl) ?_ (by assumption) ?_
              rotate_left
              · intro X hSX
                try dsimp only at hSX
                have hcell := HC2.out X hSX
                go_simp <;> with_reducible rfl
              simp only [Act.put, List.setIfInBounds_toArray, List.set_cons_zero, List.set_cons_succ]
              refine held_take (i := 8) (v := ?_) rfl (by kernel_rfl) (by kernel_rfl) (by kernel_rfl) (fun _ _ _ h => h) (by rfl) ?_ (by assumption) ?_
              rotate_left
              · intro X hSX
                try dsimp only at hSX
                go_simp <;> with_reducible rfl
              simp only [Act.put, List.setIfInBounds_toArray, List.set_cons_zero, List.set_cons_succ]
              refine held_take (i := 9) (v := ?_) rfl (by kernel_rfl) (by kernel_rfl) (by kernel_rfl) (fun _ _ _ h => h) (by rfl) ?_ (by assumption) ?_
              rotate_left
              · intro X hSX
                try dsimp only at hSX
                go_simp <;> with_reducible rfl
              simp only [Act.put, List.setIfInBounds_toArray, List.set_cons_zero, List.set_cons_succ]
              refine held_take (i := 10) (v := ?_) rfl (by kernel_rfl) (by kernel_rfl) (by kernel_rfl) (fun _ _ _ h => h) (by rfl) ?_ (by assumption) ?_
              rotate_left
              · intro X hSX
                try dsimp only at hSX
                go_simp <;> with_reducible rfl
              simp only [Act.put, List.setIfInBounds_toArray, List.set_cons_zero, List.set_cons_succ]
              refine held_take (i := 11) (v := ?_) rfl (by kernel_rfl) (by kernel_rfl) (by kernel_rfl) (fun _ _ _ h => h) (by rfl) ?_ (by assumption) ?_
              rotate_left
              · intro X hSX
                try dsimp only at hSX
                have hcell := HC3.out X hSX
                go_simp <;> with_reducible rfl
              simp only [Act.put, List.setIfInBounds_toArray, List.set_cons_zero, List.set_cons_succ]
              refine held_take (i := 12) (v := ?_) rfl (by kernel_rfl) (by kernel_rfl) (by kernel_rfl) (fun _ _ _ h => h) (by rfl) ?_ (by assumption) ?_
              rotate_left
              · intro X hSX
                try dsimp only at hSX
                go_simp <;> with_reducible rfl
              simp only [Act.put, List.setIfInBounds_toArray, List.set_cons_zero, List.set_cons_succ]
              refine held_take (i := 13) (v := ?_) rfl (by kernel_rfl) (by kernel_rfl) (by kernel_rfl) (fun _ _ _ h => h) (by rfl) ?_ (by assumption) ?_
              rotate_left
              · intro X hSX
                try dsimp only at hSX
                have hcell := HC4.out X hSX
                go_simp <;> with_reducible rfl
              simp only [Act.put, List.setIfInBounds_toArray, List.set_cons_zero, List.set_cons_succ]
              have HA1 : Hid (Below W0.heap.size W0 (wr.alloc (.cells #[.int .u8 (ev y)] 5)).drew) := Lib.hid (hB1.out.alloc hB1.out.size _).drew
              have HO1 : Hid (Own (wr.alloc (.cells #[.int .u8 (ev y)] 5)).drew W0.heap.size u16 ((List.range k).map fun k => cauF m (R.getD i 0) (L.getD k 0))) := Lib.hid (hO.out.below ((Below.refl _ _).alloc (Nat.le_refl _) _).drew)
              have HCE : Hid (∀ s, s = wr.heap.size → ∀ j u, [Value.int .u8 (ev y)][j]? = some u → (wr.alloc (.cells #[.int .u8 (ev y)] 5)).drew.cell? ((⟨s, 0, none⟩ : Addr).add j) = some u) := Lib.hid fun s hs j u hu => (cell_one_at wr _ _ s hs) j u hu
              refine held_call (i := 14) rfl (by kernel_rfl) (by rfl) (fun K' hK' => ?_)
              go_simp
              refine held_go hK' HA1.out ?_
              try simp only [Act.put, List.setIfInBounds_toArray, List.set_cons_zero, List.set_cons_succ]
              refine held_call (i := 15) rfl (by kernel_rfl) (by rfl) (fun K' hK' => ?_)
              refine wp_append_one (.tmp 94) (.tmp 108) rfl W0.heap.size u16 _ rfl HO1.out y _ rfl (HCE.out _ (by simp)) (by simp; omega) HA1.out.size ?_
              intro v3 w3 ho3 hg3
              have HB3 := Lib.hid (HA1.out.grown hg3 HA1.out.size (fun z hz => (HO1.out.lt z hz).1))
              have HO3 := Lib.hid ho3
              clear ho3 hg3
              refine held_go hK' HB3.out ?_
              try simp only [Act.put, List.setIfInBounds_toArray, List.set_cons_zero, List.set_cons_succ]
              refine held_call (i := 16) rfl (by kernel_rfl) (by rfl) (fun K' hK' => ?_)
              try go_simp
              refine held_go hK' HB3.out ?_
              refine wpAnyH_done (by kernel_rfl) ?_ _
              refine NoPanic.normal ?_
              go_wp2
              go_roundg gz0
              case rel => exact ⟨k + 1, by go_num, by omega, Lib.hid (by rw [HYV.out]; exact HO3.out), HB3⟩
              case measure => omega
end Go.Proofs.Ytbkjocmldeagdaa
