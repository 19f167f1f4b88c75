/-
  Read of the specification of drives.
-/
import Derived.Test.YtepmmlnopdjjdaaDrSeek
import Derived.Test.YtepmmlnopdjjdaaDrCopied
import Derived.Test.YtepmmlnopdjjdaaQCrd
import Derived.Test.YtepmmlnopdjjdaaQRd
namespace Go.Proofs.Ytepmmlnopdjjdaa
open Go.RowKit
set_option linter.unusedVariables false
set_option linter.unusedSimpArgs false
theorem Kfr.st {w w' : World} {C C' : Nat} {ad : Option Addr} {l : List Blk} (h : Kfr w C ad l) (hb : ∀ k, C ≤ k → k < w.heap.size → w'.heap[k]? = w.heap[k]?) (hs : w.heap.size ≤ w'.heap.size) (hC : C' ≤ C) : Kfr w' C' ad l :=
  fun X hX hX2 => h X (fun k hk hlt => (hX k (by omega) (Nat.lt_of_lt_of_le hlt hs)).trans (hb k hk hlt)) (Nat.le_trans hs hX2)
theorem Kq.fr {w : World} {D : Nat} {ad : Option Addr} {n cap : Nat} {l : List Blk} (h : Kq w D D (.slice ad n cap) l) : Kfr w D ad l := fun X hX hs => by
  obtain ⟨ad7, cap7, e7, hx7, _⟩ := (h.keep (w' := X) hX hs).read
  cases e7
  exact hx7.ki
/-- the blocks that are read, and the error -/
def rdR (d : Drv) (c : Crt) (n : Int) : List Blk × Int := rdk (c.l.drop d.hd.toNat) n.toNat
noncomputable def rdU (m : Mdl) (d : Drv) (c : Crt) (n : Int) : Drv × Crt × List Blk × Int × Int :=
  if fstU m d c = 0 then (if n < 1 ∨ (c.l.length : Int) - d.hd < n then (drZ, crZ, [], 0, 7) else
    (mvD d c (d.hd + ((rdR d c n).1.length : Int)), mvC d c (d.hd + ((rdR d c n).1.length : Int)), (rdR d c n).1, rd c.W c.L c.S c.T c.J c.R d.hd ((rdR d c n).1.length : Int), (rdR d c n).2)) else (drZ, crZ, [], 0, fstU m d c)
/-- a call hands back a drive, a cartridge, new blocks, a time and an error -/
def RetDK (w : World) (ad0 : Option Addr) (l0 : List Blk) (r : Drv × Crt × List Blk × Int × Int) (e : Ending) (w' : World) : Prop :=
  ∃ ad cap zd zn zc, e = .returned (.tuple #[drV r.1, crV r.2.1 ad cap, .slice zd zn zc, .int .i64 r.2.2.2.1, .int .i64 r.2.2.2.2]) ∧ zn = r.2.2.1.length ∧ CrIn w' r.2.1 ad cap ∧ KpS w ad0 l0 w' ad r.2.1.l ∧ Kfr w' w.heap.size zd r.2.2.1 ∧ zn ≤ zc ∧ zc ≤ maxLen ∧ (zd = none → zc = 0) ∧ Below w.heap.size w w'
theorem ret_dkZ {w w' : World} {ad0 : Option Addr} {l0 : List Blk} {x : Int} (h : Below w.heap.size w w') : RetDK w ad0 l0 (drZ, crZ, [], 0, x) (.returned (.tuple #[.agg (drK drZ), .agg (crQ crZ none 0), .slice none 0 0, .int .i64 0, .int .i64 x])) w' :=
  ⟨none, 0, none, 0, 0, rfl, rfl, ⟨Ki.nil _ _, Nat.le_refl _, Nat.zero_le _, fun _ => rfl, Nat.zero_le _⟩, KpS.nil, fun _ _ _ => Ki.nil _ _, Nat.le_refl _, Nat.zero_le _, fun _ => rfl, h⟩
attribute [local irreducible] tim vld bar cnt okB capU allB vldC mdlU drvU due inc pas loc fstU mvD mvC rd rdR rdk
set_option maxRecDepth 100000 in
set_option maxHeartbeats 8000000 in
theorem rdread_any (m : Mdl) (d : Drv) (c : Crt) (ad : Option Addr) (cap : Nat) (n : Int) (w : World) (hin : CrIn w c ad cap) :
    Calls Try.prog 30 #[mdV m, drV d, crV c ad cap, .int .i64 n] w fun e w' => RetDK w ad c.l (rdU m d c n) e w' := by
  have HF := Lib.hid (show rdU m d c n = if fstU m d c = 0 then (if n < 1 ∨ (c.l.length : Int) - d.hd < n then (drZ, crZ, [], 0, 7) else (mvD d c (d.hd + ((rdR d c n).1.length : Int)), mvC d c (d.hd + ((rdR d c n).1.length : Int)), (rdR d c n).1, rd c.W c.L c.S c.T c.J c.R d.hd ((rdR d c n).1.length : Int), (rdR d c n).2)) else (drZ, crZ, [], 0, fstU m d c) from rfl)
  have HRD := Lib.hid (show rdR d c n = rdk (c.l.drop d.hd.toNat) n.toNat by unfold rdR; rfl)
  have HPT := Lib.hid (fun h => fst_ok (m := m) (d := d) (c := c) h)
  have HFI := Lib.hid (fun X (h : CrIn X c ad cap) => rfirst_any m d c ad cap X h)
  generalize rdU m d c n = res at *
  generalize fstU m d c = f at *
  obtain ⟨W1, hb1, hm1, hs1, hf1⟩ := Fo.five w m d c ad cap
  have HB1 := Lib.hid hb1
  have HM1 := Lib.hid hm1
  have HS1 := Lib.hid hs1
  have HT := Lib.hid hf1
  have HIN := Lib.hid hin
  have hcap : (c.l.length : Int) ≤ 9223372036854775807 := by have := hin.le; have := hin.mx; unfold maxLen at this; omega
  clear hin hb1 hm1 hs1 hf1
  go_enter Try.func30, Try.ntmps30
  go_wp2_with fail
  generalize World.alloc _ _ = X0 at *
  obtain ⟨_, m0, m1, m2, m3, m4⟩ := HM1.out.on HT.out.b
  obtain ⟨_, d0, d1, d2, d3, d4, d5⟩ := HT.out.dat
  obtain ⟨_, k0, k1, k2, k3, k4, k5, k6, k7, k8, k9, k10, k11, k12⟩ := HT.out.cat
  go_wp2_with fail
  refine (HFI.out X0 (HIN.out.below (HB1.out.trans (HT.out.b.mono HB1.out.size)))).mono ?_
  rintro e w1 ⟨rfl, hb⟩
  replace HT := Lib.hid (HT.out.next hb)
  clear hb HFI m0 m1 m2 m3 m4 d0 d1 d2 d3 d4 d5 k0 k1 k2 k3 k4 k5 k6 k7 k8 k9 k10 k11 k12
  obtain ⟨_, d0, d1, d2, d3, d4, d5⟩ := HT.out.dat
  obtain ⟨_, k0, k1, k2, k3, k4, k5, k6, k7, k8, k9, k10, k11, k12⟩ := HT.out.cat
  by_cases hf : f = 0
  rotate_left
  · have HR := Lib.hid (show res = (drZ, crZ, [], 0, f) by rw [HF.out, if_neg hf])
    go_wp2_with (first
      | (with_reducible refine wpList_store_dr rfl (.tmp 8) (.tmp 39) rfl (w.heap.size + 1 + 2) rfl _ _ _ _ _ _ rfl drZ HT.out.x ?_)
      | (with_reducible refine wpList_store_cr rfl (.tmp 9) (.tmp 40) rfl (w.heap.size + 1 + 3) rfl _ _ _ _ _ _ _ _ _ _ _ _ _ _ _ rfl _ _ _ _ _ _ _ _ _ _ _ _ _ _ _ (HT.out.rowx drZ).y ?_))
    refine post_cells3 rfl rfl ((HT.out.rowx drZ).rowy crZ none 0).x Try.underlying25 rfl infoD rfl ((HT.out.rowx drZ).rowy crZ none 0).y Try.underlying30 rfl infoC rfl rfl rfl rfl ?_
    rw [HR.out]
    exact ret_dkZ (HB1.out.trans (((HT.out.rowx drZ).rowy crZ none 0).b.mono HB1.out.size))
  obtain ⟨-, hdv, hcv, -, -, -, hhd⟩ := HPT.out hf
  subst hf
  obtain ⟨-, hpa, hsi, hhd0⟩ := drvU_cnt hdv
  have hcp := (vldC_cnt hcv).2
  have HSM := Lib.hid (allB_small (vldC_parts hcv).2.2.1)
  have hM2 : c.l.length ≤ 4096 := by have h1 := (vldC_parts hcv).1.c1; have h2 := (vldC_parts hcv).2.1; omega
  have hw0 : IntKind.i64.wrap ((c.l.length : Int) - d.hd) = (c.l.length : Int) - d.hd := by rw [IntKind.wrap_i64]; omega
  clear hdv hcv HPT
  by_cases hn1 : n < 1
  · have HR := Lib.hid (show res = (drZ, crZ, [], 0, 7) by rw [HF.out, if_pos rfl, if_pos (.inl hn1)])
    go_wp2_with (first
      | (with_reducible refine wpList_store_dr rfl (.tmp 8) (.tmp 39) rfl (w.heap.size + 1 + 2) rfl _ _ _ _ _ _ rfl drZ HT.out.x ?_)
      | (with_reducible refine wpList_store_cr rfl (.tmp 9) (.tmp 40) rfl (w.heap.size + 1 + 3) rfl _ _ _ _ _ _ _ _ _ _ _ _ _ _ _ rfl _ _ _ _ _ _ _ _ _ _ _ _ _ _ _ (HT.out.rowx drZ).y ?_))
    refine post_cells3 rfl rfl ((HT.out.rowx drZ).rowy crZ none 0).x Try.underlying25 rfl infoD rfl ((HT.out.rowx drZ).rowy crZ none 0).y Try.underlying30 rfl infoC rfl rfl rfl rfl ?_
    rw [HR.out]
    exact ret_dkZ (HB1.out.trans (((HT.out.rowx drZ).rowy crZ none 0).b.mono HB1.out.size))
  by_cases hn2 : (c.l.length : Int) - d.hd < n
  · have HR := Lib.hid (show res = (drZ, crZ, [], 0, 7) by rw [HF.out, if_pos rfl, if_pos (.inr hn2)])
    go_wp2_with (first
      | (with_reducible refine wpList_store_dr rfl (.tmp 8) (.tmp 39) rfl (w.heap.size + 1 + 2) rfl _ _ _ _ _ _ rfl drZ HT.out.x ?_)
      | (with_reducible refine wpList_store_cr rfl (.tmp 9) (.tmp 40) rfl (w.heap.size + 1 + 3) rfl _ _ _ _ _ _ _ _ _ _ _ _ _ _ _ rfl _ _ _ _ _ _ _ _ _ _ _ _ _ _ _ (HT.out.rowx drZ).y ?_))
    refine post_cells3 rfl rfl ((HT.out.rowx drZ).rowy crZ none 0).x Try.underlying25 rfl infoD rfl ((HT.out.rowx drZ).rowy crZ none 0).y Try.underlying30 rfl infoC rfl rfl rfl rfl ?_
    rw [HR.out]
    exact ret_dkZ (HB1.out.trans (((HT.out.rowx drZ).rowy crZ none 0).b.mono HB1.out.size))
  obtain ⟨N, rfl⟩ : ∃ N : Nat, n = N := ⟨n.toNat, by omega⟩
  obtain ⟨H, hH⟩ : ∃ H : Nat, d.hd = H := ⟨d.hd.toNat, by omega⟩
  have HH := Lib.hid hH
  have hHN : H + N ≤ c.l.length := by omega
  have HR0 := Lib.hid (show res = (mvD d c (d.hd + ((rdR d c N).1.length : Int)), mvC d c (d.hd + ((rdR d c N).1.length : Int)), (rdR d c N).1, rd c.W c.L c.S c.T c.J c.R d.hd ((rdR d c N).1.length : Int), (rdR d c N).2) by rw [HF.out, if_pos rfl, if_neg (by omega)])
  have HRD2 := Lib.hid (show rdR d c N = rdk (c.l.drop H) N by rw [HRD.out, hH]; rfl)
  have HL3 := Lib.hid (show w.heap.size + 1 + 3 < w1.heap.size from (Array.getElem?_eq_some_iff.1 HT.out.y).1)
  have HW1 := Lib.hid (show w.heap.size ≤ w1.heap.size by omega)
  have HKE := Lib.hid (Kq.empty w1 w1.heap.size rfl w1.heap.size (Nat.le_refl _) w1.heap.size)
  have HBE := Lib.hid (below_boxC w1 (.cells #[] 61))
  have hN1 : 1 ≤ N := by omega
  clear hH HF HRD
  go_wp2
  clear d0 d1 d2 d3 d4 d5 k0 k1 k2 k3 k4 k5 k6 k7 k8 k9 k10 k11 k12
  go_loopg [14] N (fun gk v14 wx => ∃ k : Nat, k + gk = N ∧ (∃ o : List Blk, Hid (Kq wx w1.heap.size w1.heap.size v14 o ∧ o.length = k ∧ rdk (c.l.drop H) N = (o ++ (rdk (c.l.drop (H + k)) (N - k)).1, (rdk (c.l.drop (H + k)) (N - k)).2))) ∧ Hid (Below w1.heap.size w1 wx))
  case atStart => exact ⟨0, by omega, ⟨[], Lib.hid ⟨HKE.out, rfl, by simp⟩⟩, HBE⟩
  case round =>
    obtain ⟨k, hk, ⟨o, ho⟩, hB⟩ := hrel
    have HTr := Lib.hid (HT.out.next hB.out)
    obtain ⟨hko, ho1, ho3⟩ := ho.out
    obtain ⟨zd, zc, hv14, -, hz1, hz2, hz3, -⟩ := hko.read
    rw [ho1] at hv14 hz1
    subst hv14
    have HKO := Lib.hid hko
    have HO1 := Lib.hid ho1
    have HO3 := Lib.hid ho3
    have HZC := Lib.hid (show k ≤ zc ∧ zc ≤ maxLen ∧ (zd = none → zc = 0) from ⟨hz1, hz2, hz3⟩)
    obtain ⟨_, d0, d1, d2, d3, d4, d5⟩ := HTr.out.dat
    obtain ⟨_, k0, k1, k2, k3, k4, k5, k6, k7, k8, k9, k10, k11, k12⟩ := HTr.out.cat
    clear ho hko ho1 ho3 hz1 hz2 hz3
    by_cases hlt : k < N
    rotate_left
    · obtain rfl : k = N := by omega
      have HRR := Lib.hid (show rdR d c k = (o, 0) by rw [HRD2.out, HO3.out, Nat.sub_self, rdk_zero, List.append_nil])
      obtain ⟨A, hA⟩ : ∃ A : Nat, A = H + k := ⟨_, rfl⟩
      have hAd : d.hd + (k : Int) = (A : Int) := by have := HH.out; omega
      have hAw : IntKind.i64.wrap (d.hd + (k : Int)) = (A : Int) := by rw [IntKind.wrap_i64]; omega
      have HRW := Lib.hid (HO1.out)
      have HKF := Lib.hid HKO.out.fr
      have HAd := Lib.hid hAd
      have HR := Lib.hid (show res = (mvD d c (A : Int), mvC d c (A : Int), o, rd c.W c.L c.S c.T c.J c.R d.hd (k : Int), 0) by rw [HR0.out, HRR.out]; simp only; rw [HO1.out, hAd])
      clear hA hAd
      go_wp2_with fail
      refine (rread_any c.W c.L c.S c.T c.J c.R d.hd (k : Int) wr (by omega) (by omega)).mono ?_
      rintro e w4 ⟨rfl, hb⟩
      replace HTr := Lib.hid (HTr.out.next hb)
      replace HKF := Lib.hid (HKF.out.st (fun k _ hk => hb.block k hk) hb.size (Nat.le_refl _))
      clear hb d0 d1 d2 d3 d4 d5 k0 k1 k2 k3 k4 k5 k6 k7 k8 k9 k10 k11 k12
      obtain ⟨_, d0, d1, d2, d3, d4, d5⟩ := HTr.out.dat
      obtain ⟨_, k0, k1, k2, k3, k4, k5, k6, k7, k8, k9, k10, k11, k12⟩ := HTr.out.cat
      go_wp2_with fail
      refine (rmove_any d c ad cap (A : Int) w4 hpa hsi hcp).mono ?_
      rintro e w5 ⟨rfl, hb⟩
      replace HTr := Lib.hid (HTr.out.next hb)
      replace HKF := Lib.hid (HKF.out.st (fun k _ hk => hb.block k hk) hb.size (Nat.le_refl _))
      clear hb d0 d1 d2 d3 d4 d5 k0 k1 k2 k3 k4 k5 k6 k7 k8 k9 k10 k11 k12
      go_wp2_with (first
        | (with_reducible refine wpList_store_dr rfl (.tmp 5) (.tmp 99) rfl (w.heap.size + 1) rfl _ _ _ _ _ _ rfl d HTr.out.d ?_)
        | (with_reducible refine wpList_store_cr rfl (.tmp 6) (.tmp 100) rfl (w.heap.size + 1 + 1) rfl _ _ _ _ _ _ _ _ _ _ _ _ _ _ _ rfl _ _ _ _ _ _ _ _ _ _ _ _ _ _ _ (HTr.out.rowd (mvD d c (A : Int))).c ?_))
      replace HTr := Lib.hid ((HTr.out.rowd (mvD d c (A : Int))).rowc (mvC d c (A : Int)) ad cap)
      replace HKF : Hid (Kfr ((w5.setRow (w.heap.size + 1) (drK (mvD d c (A : Int)))).setRow (w.heap.size + 1 + 1) (crQ (mvC d c (A : Int)) ad cap)) w1.heap.size zd o) := Lib.hid (HKF.out.st (fun k hk _ => by
        have := HL3.out
        rw [setRow_other _ _ _ _ (by omega), setRow_other _ _ _ _ (by omega)]) (by simp [World.setRow]) (Nat.le_refl _))
      generalize World.setRow (World.setRow w5 _ _) _ _ = Y0 at *
      replace HTr := Lib.hid (HTr.out.next (Below.refl Y0.heap.size Y0).drew)
      replace HKF : Hid (Kfr Y0.drew w1.heap.size zd o) := Lib.hid (HKF.out.st (fun _ _ _ => rfl) (Nat.le_refl _) (Nat.le_refl _))
      refine wp_region_noPanic ?_
      refine wp_region_held_drew (S := fun X => DrAt X (w.heap.size + 1) (mvD d c (A : Int)).st (mvD d c (A : Int)).bc (mvD d c (A : Int)).hd (mvD d c (A : Int)).lo (mvD d c (A : Int)).pa (mvD d c (A : Int)).si ∧ CrAt X (w.heap.size + 1 + 1) (mvC d c (A : Int)).bc (mvC d c (A : Int)).W (mvC d c (A : Int)).L (mvC d c (A : Int)).S (mvC d c (A : Int)).T (mvC d c (A : Int)).J (mvC d c (A : Int)).R (mvC d c (A : Int)).wo (mvC d c (A : Int)).lk ad (mvC d c (A : Int)).l.length cap (mvC d c (A : Int)).ep (mvC d c (A : Int)).lo (mvC d c (A : Int)).pa) (by kernel_rfl) (⟨HTr.out.dat, HTr.out.cat⟩) (fun hS0 => ?_)
      generalize World.drew Y0 = X9 at *
      refine held_take (i := 0) (v := ?_) rfl (by kernel_rfl) (by kernel_rfl) (by kernel_rfl) (fun _ _ _ h => h) (by rfl) ?_ (by assumption) ?_
      rotate_left
      · intro X hSX
        try dsimp only at hSX
        obtain ⟨⟨_, d0, d1, d2, d3, d4, d5⟩, -⟩ := hSX
        go_simp <;> with_reducible rfl
      simp only [Act.put, List.setIfInBounds_toArray, List.set_cons_zero, List.set_cons_succ]
      refine held_take (i := 1) (v := ?_) rfl (by kernel_rfl) (by kernel_rfl) (by kernel_rfl) (fun _ _ _ h => h) (by rfl) ?_ (by assumption) ?_
      rotate_left
      · intro X hSX
        try dsimp only at hSX
        obtain ⟨-, ⟨_, k0, k1, k2, k3, k4, k5, k6, k7, k8, k9, k10, k11, k12⟩⟩ := hSX
        go_simp <;> with_reducible rfl
      simp only [Act.put, List.setIfInBounds_toArray, List.set_cons_zero, List.set_cons_succ]
      refine held_take (i := 2) (v := ?_) rfl (by kernel_rfl) (by kernel_rfl) (by kernel_rfl) (fun _ _ _ h => h) (by rfl) ?_ (by assumption) ?_
      rotate_left
      · intro X hSX
        try dsimp only at hSX
        go_simp <;> with_reducible rfl
      simp only [Act.put, List.setIfInBounds_toArray, List.set_cons_zero, List.set_cons_succ]
      refine held_take (i := 3) (v := ?_) rfl (by kernel_rfl) (by kernel_rfl) (by kernel_rfl) (fun _ _ _ h => h) (by rfl) ?_ (by assumption) ?_
      rotate_left
      · intro X hSX
        try dsimp only at hSX
        go_simp <;> with_reducible rfl
      simp only [Act.put, List.setIfInBounds_toArray, List.set_cons_zero, List.set_cons_succ]
      refine held_take (i := 4) (v := ?_) rfl (by kernel_rfl) (by kernel_rfl) (by kernel_rfl) (fun _ _ _ h => h) (by rfl) ?_ (by assumption) ?_
      rotate_left
      · intro X hSX
        try dsimp only at hSX
        go_simp <;> with_reducible rfl
      simp only [Act.put, List.setIfInBounds_toArray, List.set_cons_zero, List.set_cons_succ]
      refine held_call (i := 5) rfl (by kernel_rfl) (by rfl) (fun K' hK' => ?_)
      refine oper_store_dr (.tmp 8) (.tmp 101) rfl (w.heap.size + 1 + 2) rfl (mvD d c (A : Int)) rfl drZ HTr.out.x ?_
      replace HTr := Lib.hid (HTr.out.rowx (mvD d c (A : Int)))
      replace HKF : Hid (Kfr (X9.setRow (w.heap.size + 1 + 2) (drK (mvD d c (A : Int)))) w1.heap.size zd o) := Lib.hid (HKF.out.st (fun k hk _ => by
        have := HL3.out
        rw [setRow_other _ _ _ _ (by omega)]) (by simp [World.setRow]) (Nat.le_refl _))
      refine held_go hK' (⟨HTr.out.dat, HTr.out.cat⟩) ?_
      try simp only [Act.put, List.setIfInBounds_toArray, List.set_cons_zero, List.set_cons_succ]
      generalize World.setRow X9 _ _ = X10 at *
      refine held_call (i := 6) rfl (by kernel_rfl) (by rfl) (fun K' hK' => ?_)
      refine oper_store_cq (.tmp 9) (.tmp 102) rfl (w.heap.size + 1 + 3) rfl (mvC d c (A : Int)) ad cap rfl crZ none 0 HTr.out.y ?_
      replace HTr := Lib.hid (HTr.out.rowy (mvC d c (A : Int)) ad cap)
      replace HKF : Hid (Kfr (X10.setRow (w.heap.size + 1 + 3) (crQ (mvC d c (A : Int)) ad cap)) w1.heap.size zd o) := Lib.hid (HKF.out.st (fun k hk _ => by
        have := HL3.out
        rw [setRow_other _ _ _ _ (by omega)]) (by simp [World.setRow]) (Nat.le_refl _))
      refine held_go hK' (⟨HTr.out.dat, HTr.out.cat⟩) ?_
      try simp only [Act.put, List.setIfInBounds_toArray, List.set_cons_zero, List.set_cons_succ]
      generalize World.setRow X10 _ _ = X11 at *
      clear hS0
      have hS0 := (⟨HTr.out.dat, HTr.out.cat⟩ : DrAt X11 (w.heap.size + 1) (mvD d c (A : Int)).st (mvD d c (A : Int)).bc (mvD d c (A : Int)).hd (mvD d c (A : Int)).lo (mvD d c (A : Int)).pa (mvD d c (A : Int)).si ∧ CrAt X11 (w.heap.size + 1 + 1) (mvC d c (A : Int)).bc (mvC d c (A : Int)).W (mvC d c (A : Int)).L (mvC d c (A : Int)).S (mvC d c (A : Int)).T (mvC d c (A : Int)).J (mvC d c (A : Int)).R (mvC d c (A : Int)).wo (mvC d c (A : Int)).lk ad (mvC d c (A : Int)).l.length cap (mvC d c (A : Int)).ep (mvC d c (A : Int)).lo (mvC d c (A : Int)).pa)
      refine held_take (i := 7) (v := ?_) rfl (by kernel_rfl) (by kernel_rfl) (by kernel_rfl) (fun _ _ _ h => h) (by rfl) ?_ (by assumption) ?_
      rotate_left
      · intro X hSX
        try dsimp only at hSX
        go_simp <;> with_reducible rfl
      simp only [Act.put, List.setIfInBounds_toArray, List.set_cons_zero, List.set_cons_succ]
      refine held_take (i := 8) (v := ?_) rfl (by kernel_rfl) (by kernel_rfl) (by kernel_rfl) (fun _ _ _ h => h) (by rfl) ?_ (by assumption) ?_
      rotate_left
      · intro X hSX
        try dsimp only at hSX
        go_simp <;> with_reducible rfl
      simp only [Act.put, List.setIfInBounds_toArray, List.set_cons_zero, List.set_cons_succ]
      refine held_take (i := 9) (v := ?_) rfl (by kernel_rfl) (by kernel_rfl) (by kernel_rfl) (fun _ _ _ h => h) (by rfl) ?_ (by assumption) ?_
      rotate_left
      · intro X hSX
        try dsimp only at hSX
        go_simp <;> with_reducible rfl
      simp only [Act.put, List.setIfInBounds_toArray, List.set_cons_zero, List.set_cons_succ]
      refine wpAnyH_done (by kernel_rfl) ?_ _
      refine NoPanic.normal ?_
      have HBX := Lib.hid (HB1.out.trans (HTr.out.b.mono HB1.out.size))
      have HI2 := Lib.hid (HIN.out.below HBX.out)
      go_wp2_with fail
      refine post_cells3 rfl rfl HTr.out.x Try.underlying25 rfl infoD rfl HTr.out.y Try.underlying30 rfl infoC rfl rfl rfl rfl ?_
      rw [HR.out]
      exact ⟨ad, cap, zd, k, zc, rfl, HO1.out.symm, mvC_in HI2.out, mvC_kp HBX.out, HKF.out.st (fun _ _ _ => rfl) (Nat.le_refl _) HW1.out, HZC.out.1, HZC.out.2.1, HZC.out.2.2, HBX.out⟩
    obtain ⟨gk0, rfl⟩ : ∃ g, gk = g + 1 := ⟨gk - 1, by omega⟩
    obtain ⟨q, hq⟩ : ∃ q, N - k = q + 1 := ⟨N - k - 1, by omega⟩
    have hal : H + k < c.l.length := by omega
    obtain ⟨A, hA⟩ : ∃ A : Nat, A = H + k := ⟨_, rfl⟩
    have hAd : d.hd + (k : Int) = (A : Int) := by have := HH.out; omega
    have hAw : IntKind.i64.wrap (d.hd + (k : Int)) = (A : Int) := by rw [IntKind.wrap_i64]; omega
    have haM : A < c.l.length := by omega
    have hST := rdk_step c.l (H + k) q hal
    obtain ⟨b, off, ad', cap', hadr, hblt, q0, q1, q2, hqx, hq2, hq3, hq4⟩ := (HIN.out.ki.below (HB1.out.trans (HTr.out.b.mono HB1.out.size))).get hal
    have hdl : c.l[H + k].d.length ≤ 10000 := HSM.out _ (List.getElem_mem hal)
    subst hadr
    obtain ⟨x, hx⟩ : ∃ x, x = c.l[H + k] := ⟨_, rfl⟩
    rw [← hx] at q0 q1 q2 hqx hq2 hST hdl
    rw [← hA] at q0 q1 q2
    cases hbad : x.bad
    rotate_left
    · have HRR := Lib.hid (show rdR d c N = (o, 15) by rw [HRD2.out, HO3.out, hq, hST, if_pos hbad, List.append_nil])
      rw [hbad] at q1
      clear hq hal hST hqx hq2 hq3 hq4 hdl hx hbad q0 q2
      have HRW := Lib.hid (HO1.out)
      have HKF := Lib.hid HKO.out.fr
      have HAd := Lib.hid hAd
      have HR := Lib.hid (show res = (mvD d c (A : Int), mvC d c (A : Int), o, rd c.W c.L c.S c.T c.J c.R d.hd (k : Int), 15) by rw [HR0.out, HRR.out]; simp only; rw [HO1.out, hAd])
      clear hA hAd
      go_wp2_with fail
      refine (rread_any c.W c.L c.S c.T c.J c.R d.hd (k : Int) wr (by omega) (by omega)).mono ?_
      rintro e w4 ⟨rfl, hb⟩
      replace HTr := Lib.hid (HTr.out.next hb)
      replace HKF := Lib.hid (HKF.out.st (fun k _ hk => hb.block k hk) hb.size (Nat.le_refl _))
      clear hb d0 d1 d2 d3 d4 d5 k0 k1 k2 k3 k4 k5 k6 k7 k8 k9 k10 k11 k12
      obtain ⟨_, d0, d1, d2, d3, d4, d5⟩ := HTr.out.dat
      obtain ⟨_, k0, k1, k2, k3, k4, k5, k6, k7, k8, k9, k10, k11, k12⟩ := HTr.out.cat
      go_wp2_with fail
      refine (rmove_any d c (some ⟨b, off, none⟩) cap (A : Int) w4 hpa hsi hcp).mono ?_
      rintro e w5 ⟨rfl, hb⟩
      replace HTr := Lib.hid (HTr.out.next hb)
      replace HKF := Lib.hid (HKF.out.st (fun k _ hk => hb.block k hk) hb.size (Nat.le_refl _))
      clear hb d0 d1 d2 d3 d4 d5 k0 k1 k2 k3 k4 k5 k6 k7 k8 k9 k10 k11 k12
      go_wp2_with (first
        | (with_reducible refine wpList_store_dr rfl (.tmp 5) (.tmp 99) rfl (w.heap.size + 1) rfl _ _ _ _ _ _ rfl d HTr.out.d ?_)
        | (with_reducible refine wpList_store_cr rfl (.tmp 6) (.tmp 100) rfl (w.heap.size + 1 + 1) rfl _ _ _ _ _ _ _ _ _ _ _ _ _ _ _ rfl _ _ _ _ _ _ _ _ _ _ _ _ _ _ _ (HTr.out.rowd (mvD d c (A : Int))).c ?_))
      replace HTr := Lib.hid ((HTr.out.rowd (mvD d c (A : Int))).rowc (mvC d c (A : Int)) (some ⟨b, off, none⟩) cap)
      replace HKF : Hid (Kfr ((w5.setRow (w.heap.size + 1) (drK (mvD d c (A : Int)))).setRow (w.heap.size + 1 + 1) (crQ (mvC d c (A : Int)) (some ⟨b, off, none⟩) cap)) w1.heap.size zd o) := Lib.hid (HKF.out.st (fun k hk _ => by
        have := HL3.out
        rw [setRow_other _ _ _ _ (by omega), setRow_other _ _ _ _ (by omega)]) (by simp [World.setRow]) (Nat.le_refl _))
      generalize World.setRow (World.setRow w5 _ _) _ _ = Y0 at *
      replace HTr := Lib.hid (HTr.out.next (Below.refl Y0.heap.size Y0).drew)
      replace HKF : Hid (Kfr Y0.drew w1.heap.size zd o) := Lib.hid (HKF.out.st (fun _ _ _ => rfl) (Nat.le_refl _) (Nat.le_refl _))
      refine wp_region_noPanic ?_
      refine wp_region_held_drew (S := fun X => DrAt X (w.heap.size + 1) (mvD d c (A : Int)).st (mvD d c (A : Int)).bc (mvD d c (A : Int)).hd (mvD d c (A : Int)).lo (mvD d c (A : Int)).pa (mvD d c (A : Int)).si ∧ CrAt X (w.heap.size + 1 + 1) (mvC d c (A : Int)).bc (mvC d c (A : Int)).W (mvC d c (A : Int)).L (mvC d c (A : Int)).S (mvC d c (A : Int)).T (mvC d c (A : Int)).J (mvC d c (A : Int)).R (mvC d c (A : Int)).wo (mvC d c (A : Int)).lk (some ⟨b, off, none⟩) (mvC d c (A : Int)).l.length cap (mvC d c (A : Int)).ep (mvC d c (A : Int)).lo (mvC d c (A : Int)).pa) (by kernel_rfl) (⟨HTr.out.dat, HTr.out.cat⟩) (fun hS0 => ?_)
      generalize World.drew Y0 = X9 at *
      refine held_take (i := 0) (v := ?_) rfl (by kernel_rfl) (by kernel_rfl) (by kernel_rfl) (fun _ _ _ h => h) (by rfl) ?_ (by assumption) ?_
      rotate_left
      · intro X hSX
        try dsimp only at hSX
        obtain ⟨⟨_, d0, d1, d2, d3, d4, d5⟩, -⟩ := hSX
        go_simp <;> with_reducible rfl
      simp only [Act.put, List.setIfInBounds_toArray, List.set_cons_zero, List.set_cons_succ]
      refine held_take (i := 1) (v := ?_) rfl (by kernel_rfl) (by kernel_rfl) (by kernel_rfl) (fun _ _ _ h => h) (by rfl) ?_ (by assumption) ?_
      rotate_left
      · intro X hSX
        try dsimp only at hSX
        obtain ⟨-, ⟨_, k0, k1, k2, k3, k4, k5, k6, k7, k8, k9, k10, k11, k12⟩⟩ := hSX
        go_simp <;> with_reducible rfl
      simp only [Act.put, List.setIfInBounds_toArray, List.set_cons_zero, List.set_cons_succ]
      refine held_take (i := 2) (v := ?_) rfl (by kernel_rfl) (by kernel_rfl) (by kernel_rfl) (fun _ _ _ h => h) (by rfl) ?_ (by assumption) ?_
      rotate_left
      · intro X hSX
        try dsimp only at hSX
        go_simp <;> with_reducible rfl
      simp only [Act.put, List.setIfInBounds_toArray, List.set_cons_zero, List.set_cons_succ]
      refine held_take (i := 3) (v := ?_) rfl (by kernel_rfl) (by kernel_rfl) (by kernel_rfl) (fun _ _ _ h => h) (by rfl) ?_ (by assumption) ?_
      rotate_left
      · intro X hSX
        try dsimp only at hSX
        go_simp <;> with_reducible rfl
      simp only [Act.put, List.setIfInBounds_toArray, List.set_cons_zero, List.set_cons_succ]
      refine held_take (i := 4) (v := ?_) rfl (by kernel_rfl) (by kernel_rfl) (by kernel_rfl) (fun _ _ _ h => h) (by rfl) ?_ (by assumption) ?_
      rotate_left
      · intro X hSX
        try dsimp only at hSX
        go_simp <;> with_reducible rfl
      simp only [Act.put, List.setIfInBounds_toArray, List.set_cons_zero, List.set_cons_succ]
      refine held_call (i := 5) rfl (by kernel_rfl) (by rfl) (fun K' hK' => ?_)
      refine oper_store_dr (.tmp 8) (.tmp 101) rfl (w.heap.size + 1 + 2) rfl (mvD d c (A : Int)) rfl drZ HTr.out.x ?_
      replace HTr := Lib.hid (HTr.out.rowx (mvD d c (A : Int)))
      replace HKF : Hid (Kfr (X9.setRow (w.heap.size + 1 + 2) (drK (mvD d c (A : Int)))) w1.heap.size zd o) := Lib.hid (HKF.out.st (fun k hk _ => by
        have := HL3.out
        rw [setRow_other _ _ _ _ (by omega)]) (by simp [World.setRow]) (Nat.le_refl _))
      refine held_go hK' (⟨HTr.out.dat, HTr.out.cat⟩) ?_
      try simp only [Act.put, List.setIfInBounds_toArray, List.set_cons_zero, List.set_cons_succ]
      generalize World.setRow X9 _ _ = X10 at *
      refine held_call (i := 6) rfl (by kernel_rfl) (by rfl) (fun K' hK' => ?_)
      refine oper_store_cq (.tmp 9) (.tmp 102) rfl (w.heap.size + 1 + 3) rfl (mvC d c (A : Int)) (some ⟨b, off, none⟩) cap rfl crZ none 0 HTr.out.y ?_
      replace HTr := Lib.hid (HTr.out.rowy (mvC d c (A : Int)) (some ⟨b, off, none⟩) cap)
      replace HKF : Hid (Kfr (X10.setRow (w.heap.size + 1 + 3) (crQ (mvC d c (A : Int)) (some ⟨b, off, none⟩) cap)) w1.heap.size zd o) := Lib.hid (HKF.out.st (fun k hk _ => by
        have := HL3.out
        rw [setRow_other _ _ _ _ (by omega)]) (by simp [World.setRow]) (Nat.le_refl _))
      refine held_go hK' (⟨HTr.out.dat, HTr.out.cat⟩) ?_
      try simp only [Act.put, List.setIfInBounds_toArray, List.set_cons_zero, List.set_cons_succ]
      generalize World.setRow X10 _ _ = X11 at *
      clear hS0
      have hS0 := (⟨HTr.out.dat, HTr.out.cat⟩ : DrAt X11 (w.heap.size + 1) (mvD d c (A : Int)).st (mvD d c (A : Int)).bc (mvD d c (A : Int)).hd (mvD d c (A : Int)).lo (mvD d c (A : Int)).pa (mvD d c (A : Int)).si ∧ CrAt X11 (w.heap.size + 1 + 1) (mvC d c (A : Int)).bc (mvC d c (A : Int)).W (mvC d c (A : Int)).L (mvC d c (A : Int)).S (mvC d c (A : Int)).T (mvC d c (A : Int)).J (mvC d c (A : Int)).R (mvC d c (A : Int)).wo (mvC d c (A : Int)).lk (some ⟨b, off, none⟩) (mvC d c (A : Int)).l.length cap (mvC d c (A : Int)).ep (mvC d c (A : Int)).lo (mvC d c (A : Int)).pa)
      refine held_take (i := 7) (v := ?_) rfl (by kernel_rfl) (by kernel_rfl) (by kernel_rfl) (fun _ _ _ h => h) (by rfl) ?_ (by assumption) ?_
      rotate_left
      · intro X hSX
        try dsimp only at hSX
        go_simp <;> with_reducible rfl
      simp only [Act.put, List.setIfInBounds_toArray, List.set_cons_zero, List.set_cons_succ]
      refine held_take (i := 8) (v := ?_) rfl (by kernel_rfl) (by kernel_rfl) (by kernel_rfl) (fun _ _ _ h => h) (by rfl) ?_ (by assumption) ?_
      rotate_left
      · intro X hSX
        try dsimp only at hSX
        go_simp <;> with_reducible rfl
      simp only [Act.put, List.setIfInBounds_toArray, List.set_cons_zero, List.set_cons_succ]
      refine held_take (i := 9) (v := ?_) rfl (by kernel_rfl) (by kernel_rfl) (by kernel_rfl) (fun _ _ _ h => h) (by rfl) ?_ (by assumption) ?_
      rotate_left
      · intro X hSX
        try dsimp only at hSX
        go_simp <;> with_reducible rfl
      simp only [Act.put, List.setIfInBounds_toArray, List.set_cons_zero, List.set_cons_succ]
      refine wpAnyH_done (by kernel_rfl) ?_ _
      refine NoPanic.normal ?_
      have HBX := Lib.hid (HB1.out.trans (HTr.out.b.mono HB1.out.size))
      have HI2 := Lib.hid (HIN.out.below HBX.out)
      go_wp2_with fail
      refine post_cells3 rfl rfl HTr.out.x Try.underlying25 rfl infoD rfl HTr.out.y Try.underlying30 rfl infoC rfl rfl rfl rfl ?_
      rw [HR.out]
      exact ⟨(some ⟨b, off, none⟩), cap, zd, k, zc, rfl, HO1.out.symm, mvC_in HI2.out, mvC_kp HBX.out, HKF.out.st (fun _ _ _ => rfl) (Nat.le_refl _) HW1.out, HZC.out.1, HZC.out.2.1, HZC.out.2.2, HBX.out⟩
    rw [hbad] at q1
    have HNX := Lib.hid (show rdk (c.l.drop H) N = ((o ++ [⟨x.m, false, x.d⟩]) ++ (rdk (c.l.drop (H + (k + 1))) (N - (k + 1))).1, (rdk (c.l.drop (H + (k + 1))) (N - (k + 1))).2) by
      have e1 : (⟨x.m, false, x.d⟩ : Blk) = x := by rw [← hbad]
      rw [HO3.out, hq, hST, if_neg (by rw [hbad]; simp), show N - (k + 1) = q by omega, e1, List.append_assoc]
      rfl)
    have HLI := Lib.hid hqx
    have HQN := Lib.hid hq4
    have HOL := Lib.hid (show o.length + 1 ≤ 100000 by rw [HO1.out]; omega)
    generalize x.m = xm at *
    generalize x.d = xd at *
    have HLI2 := Lib.hid (HLI.out.below (below_box2 wr (.cells #[.bool xm, .bool false, .slice ad' xd.length cap'] 61) (.cells #[] 5)) rfl)
    have HO := Lib.hid (Own.empty (wr.alloc (.cells #[.bool xm, .bool false, .slice ad' xd.length cap'] 61)) (wr.heap.size + 1) (by simp) (wr.heap.size + 1) (Nat.le_refl _))
    have HSZ : Hid (wr.heap.size + 1 ≤ ((wr.alloc (.cells #[.bool xm, .bool false, .slice ad' xd.length cap'] 61)).alloc (.cells #[] 5)).heap.size) := Lib.hid (by simp)
    have hlen1 : ([] : List UInt8).length + xd.length ≤ 10000000 := by simp; omega
    have HW := Lib.hid (show w1.heap.size ≤ wr.heap.size + 1 by have := hB.out.size; omega)
    have hkc : (k : Int) + 1 ≤ 100000 := by omega
    clear hq hal hST hqx hq2 hq3 hq4 hdl hx hbad hA hAd
    go_wp2_with (first
      | (at_builtin; refine wpList_append_u rfl (.tmp 69) (.tmp 71) rfl (wr.heap.size + 1) _ [] rfl HO.out _ _ _ xd HQN.out HLI2.out rfl rfl hlen1 HSZ.out ?_; intro v1 w9 ho1 hg1; rw [List.nil_append] at ho1; obtain ⟨ad1, cap1, rfl, c0, c1, c2, cf, clt, HK4, HZ4, HB4⟩ := copy_step hB.out HKO.out hg1 ho1; clear ho1 hg1)
      | (at_builtin; refine wpList_append_k rfl (.tmp 74) (.tmp 76) rfl w1.heap.size w1.heap.size (wr.heap.size + 1) w1.heap.size _ o rfl HK4.out _ 1 1 [⟨xm, false, xd⟩] (fun h => by cases h) HZ4.out rfl rfl HOL.out HB4.out.size (Nat.le_refl _) HW.out ?_; intro v5 w5 ho5 hg5 _; have HK5 := Lib.hid ho5; have HB5 := Lib.hid (HK4.out.grow HB4.out (Nat.le_refl _) hg5); clear ho5 hg5))
    go_roundg gk0
    case rel => exact ⟨k + 1, by omega, ⟨o ++ [⟨xm, false, xd⟩], Lib.hid ⟨HK5.out, by rw [List.length_append, HO1.out]; rfl, HNX.out⟩⟩, HB5⟩
    case measure => omega
end Go.Proofs.Ytepmmlnopdjjdaa
