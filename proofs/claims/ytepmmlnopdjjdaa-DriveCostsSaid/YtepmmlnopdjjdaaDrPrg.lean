/-
  The law package's program.
-/
import Derived.Test.YtepmmlnopdjjdaaDrPut
namespace Go.Proofs.Ytepmmlnopdjjdaa
open Go.RowKit
set_option linter.unusedVariables false
set_option linter.unusedSimpArgs false
attribute [local irreducible] stU ldU ulU skU rdU wrU clU put1 put2 put3 put4 put5
set_option maxRecDepth 100000 in
set_option maxHeartbeats 8000000 in
theorem program_any (H : DrSide 20 25 21 23 22 24) (m : Mdl) (d : Drv) (c : Crt) (ad : Option Addr) (cap : Nat) (kind which n : Int) (zd : Option Addr) (zn zc : Nat) (z : List Blk) (w : World) (hin : CrIn w c ad cap) (hz : Ki w zd z) (hzn : zn = z.length) (hzs : zn ≤ 100000) (hznil : zd = none → zc = 0) (hn : -9223372036854775808 ≤ n ∧ n ≤ 9223372036854775807) :
    Calls Try.prog 10 #[mdV m, drV d, crV c ad cap, .agg #[.int .i64 kind, .int .i64 which, .int .i64 n, .slice zd zn zc]] w fun e w' => RetDn w ad c.l (stU m d c kind n z) e w' := by
  have HIN := Lib.hid hin
  have HZI := Lib.hid hz
  have HZN := Lib.hid hzn
  have HZL := Lib.hid hznil
  have HN := Lib.hid hn
  have hlc : c.l.length ≤ cap := hin.le
  clear hin hz hzn hznil hn
  have HO := Lib.hid (Ob.start w m d c ad c.l.length cap kind which n zd zn zc)
  have HH := Lib.hid H
  clear H
  have HSZ0 : Hid (dnZ.size = 22) := Lib.hid (by rfl)
  by_cases h0 : kind = 0
  · subst h0
    have HR := Lib.hid (show stU m d c 0 n z = ⟨(ldU m d c).1, (ldU m d c).2.1, [], (ldU m d c).2.2.1, (ldU m d c).2.2.2⟩ by unfold stU; rw [if_pos rfl])
    have HCALL := Lib.hid (fun X h => HH.out.load m d c ad cap X (HIN.out.below h))
    generalize ldU m d c = r at *
    obtain ⟨d1, c1, t1, e1⟩ := r
    simp only at HR HCALL
    go_enter Try.func10, Try.ntmps10
    go_wp2_with (with_reducible refine st_z rfl (.tmp 9) (.tmp 10) rfl (w.heap.size + 5) rfl rfl HO.out.y ?_)
    generalize World.alloc _ _ = X0 at *
    obtain ⟨_, m0, m1, m2, m3, m4⟩ := HO.out.m
    obtain ⟨_, d0, d1, d2, d3, d4, d5⟩ := HO.out.d
    obtain ⟨_, k0, k1, k2, k3, k4, k5, k6, k7, k8, k9, k10, k11, k12⟩ := HO.out.c
    have s0 := HO.out.s0
    have s2 := HO.out.s2
    have s3 := HO.out.s3
    go_wp2_with fail
    clear m0 m1 m2 m3 m4 d0 d1 d2 d3 d4 d5 k0 k1 k2 k3 k4 k5 k6 k7 k8 k9 k10 k11 k12 s0 s2 s3
    refine (HCALL.out X0 HO.out.b).mono ?_
    rintro e w1 ⟨ad1, cap1, rfl, hin1, hkp, hb⟩
    have HP := Lib.hid (HO.out.next hb)
    have HKP := Lib.hid hkp
    have HI1 := Lib.hid hin1
    have HXS := Lib.hid HO.out.s
    have HXB := Lib.hid HO.out.b
    have HX1 := Lib.hid hb
    clear hb hkp hin1 HO
    have H0 := Lib.hid (show w1.heap[w.heap.size + 5]? = _ from HP.out.y)
    have H1 := Lib.hid (setRow_heap (w1) (w.heap.size + 5) _ (put1 dnZ d1) _ _ H0.out)
    have HZA : Hid ((put1 dnZ d1).size = 22) := Lib.hid ((put1_size _ _).trans HSZ0.out)
    have H2 := Lib.hid (setRow_heap ((w1).setRow (w.heap.size + 5) (put1 dnZ d1)) (w.heap.size + 5) _ (put2 (put1 dnZ d1) c1 ad1 c1.l.length cap1) _ _ H1.out)
    have HZB : Hid ((put2 (put1 dnZ d1) c1 ad1 c1.l.length cap1).size = 22) := Lib.hid ((put2_size _ _ _ _ _).trans HZA.out)
    have H3 := Lib.hid (setRow_heap (((w1).setRow (w.heap.size + 5) (put1 dnZ d1)).setRow (w.heap.size + 5) (put2 (put1 dnZ d1) c1 ad1 c1.l.length cap1)) (w.heap.size + 5) _ (put4 (put2 (put1 dnZ d1) c1 ad1 c1.l.length cap1) t1) _ _ H2.out)
    have HZC : Hid ((put4 (put2 (put1 dnZ d1) c1 ad1 c1.l.length cap1) t1).size = 22) := Lib.hid ((put4_size _ _).trans HZB.out)
    have H4 := Lib.hid (setRow_heap ((((w1).setRow (w.heap.size + 5) (put1 dnZ d1)).setRow (w.heap.size + 5) (put2 (put1 dnZ d1) c1 ad1 c1.l.length cap1)).setRow (w.heap.size + 5) (put4 (put2 (put1 dnZ d1) c1 ad1 c1.l.length cap1) t1)) (w.heap.size + 5) _ (put5 (put4 (put2 (put1 dnZ d1) c1 ad1 c1.l.length cap1) t1) e1) _ _ H3.out)
    have HZD : Hid ((put5 (put4 (put2 (put1 dnZ d1) c1 ad1 c1.l.length cap1) t1) e1).size = 22) := Lib.hid ((put5_size _ _).trans HZC.out)
    have HROW := Lib.hid (show (((((w1).setRow (w.heap.size + 5) (put1 dnZ d1)).setRow (w.heap.size + 5) (put2 (put1 dnZ d1) c1 ad1 c1.l.length cap1)).setRow (w.heap.size + 5) (put4 (put2 (put1 dnZ d1) c1 ad1 c1.l.length cap1) t1)).setRow (w.heap.size + 5) (put5 (put4 (put2 (put1 dnZ d1) c1 ad1 c1.l.length cap1) t1) e1)).heap[w.heap.size + 5]? = some (.cells (dnK d1 c1 ad1 c1.l.length cap1 none 0 0 t1 e1) 39 (0, 0)) by rw [← dn_all]; exact H4.out)
    have HX8 := Lib.hid (show (((((w1).setRow (w.heap.size + 5) (put1 dnZ d1)).setRow (w.heap.size + 5) (put2 (put1 dnZ d1) c1 ad1 c1.l.length cap1)).setRow (w.heap.size + 5) (put4 (put2 (put1 dnZ d1) c1 ad1 c1.l.length cap1) t1)).setRow (w.heap.size + 5) (put5 (put4 (put2 (put1 dnZ d1) c1 ad1 c1.l.length cap1) t1) e1)).heap[w.heap.size + 4]? = some (.cells dnZ 39 (0, 0)) by rw [setRow_other _ _ _ _ (by omega), setRow_other _ _ _ _ (by omega), setRow_other _ _ _ _ (by omega), setRow_other _ _ _ _ (by omega)]; exact HP.out.x)
    go_wp2_with (first
      | (with_reducible refine st_d rfl (.tmp 36) (.tmp 32) (w.heap.size + 5) H0.out HSZ0.out rfl rfl d1 rfl ?_)
      | (with_reducible refine st_c rfl (.tmp 37) (.tmp 33) (w.heap.size + 5) H1.out HZA.out rfl rfl _ _ _ _ _ _ _ _ _ _ _ _ _ _ _ rfl c1 ⟨rfl, rfl, rfl, rfl, rfl, rfl, rfl, rfl, rfl, rfl, rfl, rfl⟩ ?_)
      | (with_reducible refine st_t rfl (.tmp 38) (.tmp 34) (w.heap.size + 5) H2.out HZB.out rfl rfl _ rfl ?_)
      | (with_reducible refine st_e rfl (.tmp 39) (.tmp 35) (w.heap.size + 5) H3.out HZC.out rfl rfl _ rfl ?_)
      | (with_reducible refine ld_dn rfl (.tmp 9) rfl (w.heap.size + 5) rfl d1 c1 ad1 c1.l.length cap1 none 0 0 t1 e1 HROW.out ?_)
      | (with_reducible refine st_dn rfl (.tmp 8) (.tmp 108) rfl (w.heap.size + 4) rfl d1 c1 ad1 c1.l.length cap1 none 0 0 t1 e1 rfl HX8.out ?_))
    refine post_cellD rfl rfl (setRow_heap _ _ _ (dnK d1 c1 ad1 c1.l.length cap1 none 0 0 t1 e1) _ _ HX8.out) Try.underlying39 rfl infoDn rfl ?_
    rw [HR.out]
    have hag : ∀ k, k ≠ w.heap.size + 4 → k ≠ w.heap.size + 5 → ((((((w1).setRow (w.heap.size + 5) (put1 dnZ d1)).setRow (w.heap.size + 5) (put2 (put1 dnZ d1) c1 ad1 c1.l.length cap1)).setRow (w.heap.size + 5) (put4 (put2 (put1 dnZ d1) c1 ad1 c1.l.length cap1) t1)).setRow (w.heap.size + 5) (put5 (put4 (put2 (put1 dnZ d1) c1 ad1 c1.l.length cap1) t1) e1)).setRow (w.heap.size + 4) (dnK d1 c1 ad1 c1.l.length cap1 none 0 0 t1 e1)).heap[k]? = w1.heap[k]? := fun k h1 h2 => by rw [setRow_other _ _ _ _ (by omega), setRow_other _ _ _ _ (by omega), setRow_other _ _ _ _ (by omega), setRow_other _ _ _ _ (by omega), setRow_other _ _ _ _ (by omega)]
    have hsz : w1.heap.size ≤ ((((((w1).setRow (w.heap.size + 5) (put1 dnZ d1)).setRow (w.heap.size + 5) (put2 (put1 dnZ d1) c1 ad1 c1.l.length cap1)).setRow (w.heap.size + 5) (put4 (put2 (put1 dnZ d1) c1 ad1 c1.l.length cap1) t1)).setRow (w.heap.size + 5) (put5 (put4 (put2 (put1 dnZ d1) c1 ad1 c1.l.length cap1) t1) e1)).setRow (w.heap.size + 4) (dnK d1 c1 ad1 c1.l.length cap1 none 0 0 t1 e1)).heap.size := by simp [World.setRow]
    have hbw : Below w.heap.size w ((((((w1).setRow (w.heap.size + 5) (put1 dnZ d1)).setRow (w.heap.size + 5) (put2 (put1 dnZ d1) c1 ad1 c1.l.length cap1)).setRow (w.heap.size + 5) (put4 (put2 (put1 dnZ d1) c1 ad1 c1.l.length cap1) t1)).setRow (w.heap.size + 5) (put5 (put4 (put2 (put1 dnZ d1) c1 ad1 c1.l.length cap1) t1) e1)).setRow (w.heap.size + 4) (dnK d1 c1 ad1 c1.l.length cap1 none 0 0 t1 e1)) := below_set (below_set (below_set (below_set (below_set ((HXB.out.trans (HX1.out.mono HXB.out.size))) (by omega) _) (by omega) _) (by omega) _) (by omega) _) (by omega) _
    have hkp := kp_end HXB.out HKP.out (fun k h1 h2 => hag k (by have := HXS.out; omega) (by have := HXS.out; omega)) hsz
    exact ⟨ad1, c1.l.length, cap1, none, 0, 0, rfl, rfl, rfl, ⟨hkp.ki HIN.out.ki, HI1.out.le, HI1.out.mx, HI1.out.nn, HI1.out.bs⟩, hkp, fun _ _ _ => Ki.nil _ _, Nat.le_refl _, Nat.zero_le _, fun _ => rfl, hbw⟩
  by_cases h1 : kind = 1
  · subst h1
    have HR := Lib.hid (show stU m d c 1 n z = ⟨(ulU m d c).1, (ulU m d c).2.1, [], (ulU m d c).2.2.1, (ulU m d c).2.2.2⟩ by unfold stU; rw [if_neg (by decide)]; rw [if_pos rfl])
    have HCALL := Lib.hid (fun X h => HH.out.unload m d c ad cap X (HIN.out.below h))
    generalize ulU m d c = r at *
    obtain ⟨d1, c1, t1, e1⟩ := r
    simp only at HR HCALL
    go_enter Try.func10, Try.ntmps10
    go_wp2_with (with_reducible refine st_z rfl (.tmp 9) (.tmp 10) rfl (w.heap.size + 5) rfl rfl HO.out.y ?_)
    generalize World.alloc _ _ = X0 at *
    obtain ⟨_, m0, m1, m2, m3, m4⟩ := HO.out.m
    obtain ⟨_, d0, d1, d2, d3, d4, d5⟩ := HO.out.d
    obtain ⟨_, k0, k1, k2, k3, k4, k5, k6, k7, k8, k9, k10, k11, k12⟩ := HO.out.c
    have s0 := HO.out.s0
    have s2 := HO.out.s2
    have s3 := HO.out.s3
    go_wp2_with fail
    clear m0 m1 m2 m3 m4 d0 d1 d2 d3 d4 d5 k0 k1 k2 k3 k4 k5 k6 k7 k8 k9 k10 k11 k12 s0 s2 s3
    refine (HCALL.out X0 HO.out.b).mono ?_
    rintro e w1 ⟨ad1, cap1, rfl, hin1, hkp, hb⟩
    have HP := Lib.hid (HO.out.next hb)
    have HKP := Lib.hid hkp
    have HI1 := Lib.hid hin1
    have HXS := Lib.hid HO.out.s
    have HXB := Lib.hid HO.out.b
    have HX1 := Lib.hid hb
    clear hb hkp hin1 HO
    have H0 := Lib.hid (show w1.heap[w.heap.size + 5]? = _ from HP.out.y)
    have H1 := Lib.hid (setRow_heap (w1) (w.heap.size + 5) _ (put1 dnZ d1) _ _ H0.out)
    have HZA : Hid ((put1 dnZ d1).size = 22) := Lib.hid ((put1_size _ _).trans HSZ0.out)
    have H2 := Lib.hid (setRow_heap ((w1).setRow (w.heap.size + 5) (put1 dnZ d1)) (w.heap.size + 5) _ (put2 (put1 dnZ d1) c1 ad1 c1.l.length cap1) _ _ H1.out)
    have HZB : Hid ((put2 (put1 dnZ d1) c1 ad1 c1.l.length cap1).size = 22) := Lib.hid ((put2_size _ _ _ _ _).trans HZA.out)
    have H3 := Lib.hid (setRow_heap (((w1).setRow (w.heap.size + 5) (put1 dnZ d1)).setRow (w.heap.size + 5) (put2 (put1 dnZ d1) c1 ad1 c1.l.length cap1)) (w.heap.size + 5) _ (put4 (put2 (put1 dnZ d1) c1 ad1 c1.l.length cap1) t1) _ _ H2.out)
    have HZC : Hid ((put4 (put2 (put1 dnZ d1) c1 ad1 c1.l.length cap1) t1).size = 22) := Lib.hid ((put4_size _ _).trans HZB.out)
    have H4 := Lib.hid (setRow_heap ((((w1).setRow (w.heap.size + 5) (put1 dnZ d1)).setRow (w.heap.size + 5) (put2 (put1 dnZ d1) c1 ad1 c1.l.length cap1)).setRow (w.heap.size + 5) (put4 (put2 (put1 dnZ d1) c1 ad1 c1.l.length cap1) t1)) (w.heap.size + 5) _ (put5 (put4 (put2 (put1 dnZ d1) c1 ad1 c1.l.length cap1) t1) e1) _ _ H3.out)
    have HZD : Hid ((put5 (put4 (put2 (put1 dnZ d1) c1 ad1 c1.l.length cap1) t1) e1).size = 22) := Lib.hid ((put5_size _ _).trans HZC.out)
    have HROW := Lib.hid (show (((((w1).setRow (w.heap.size + 5) (put1 dnZ d1)).setRow (w.heap.size + 5) (put2 (put1 dnZ d1) c1 ad1 c1.l.length cap1)).setRow (w.heap.size + 5) (put4 (put2 (put1 dnZ d1) c1 ad1 c1.l.length cap1) t1)).setRow (w.heap.size + 5) (put5 (put4 (put2 (put1 dnZ d1) c1 ad1 c1.l.length cap1) t1) e1)).heap[w.heap.size + 5]? = some (.cells (dnK d1 c1 ad1 c1.l.length cap1 none 0 0 t1 e1) 39 (0, 0)) by rw [← dn_all]; exact H4.out)
    have HX8 := Lib.hid (show (((((w1).setRow (w.heap.size + 5) (put1 dnZ d1)).setRow (w.heap.size + 5) (put2 (put1 dnZ d1) c1 ad1 c1.l.length cap1)).setRow (w.heap.size + 5) (put4 (put2 (put1 dnZ d1) c1 ad1 c1.l.length cap1) t1)).setRow (w.heap.size + 5) (put5 (put4 (put2 (put1 dnZ d1) c1 ad1 c1.l.length cap1) t1) e1)).heap[w.heap.size + 4]? = some (.cells dnZ 39 (0, 0)) by rw [setRow_other _ _ _ _ (by omega), setRow_other _ _ _ _ (by omega), setRow_other _ _ _ _ (by omega), setRow_other _ _ _ _ (by omega)]; exact HP.out.x)
    go_wp2_with (first
      | (with_reducible refine st_d rfl (.tmp 51) (.tmp 47) (w.heap.size + 5) H0.out HSZ0.out rfl rfl d1 rfl ?_)
      | (with_reducible refine st_c rfl (.tmp 52) (.tmp 48) (w.heap.size + 5) H1.out HZA.out rfl rfl _ _ _ _ _ _ _ _ _ _ _ _ _ _ _ rfl c1 ⟨rfl, rfl, rfl, rfl, rfl, rfl, rfl, rfl, rfl, rfl, rfl, rfl⟩ ?_)
      | (with_reducible refine st_t rfl (.tmp 53) (.tmp 49) (w.heap.size + 5) H2.out HZB.out rfl rfl _ rfl ?_)
      | (with_reducible refine st_e rfl (.tmp 54) (.tmp 50) (w.heap.size + 5) H3.out HZC.out rfl rfl _ rfl ?_)
      | (with_reducible refine ld_dn rfl (.tmp 9) rfl (w.heap.size + 5) rfl d1 c1 ad1 c1.l.length cap1 none 0 0 t1 e1 HROW.out ?_)
      | (with_reducible refine st_dn rfl (.tmp 8) (.tmp 108) rfl (w.heap.size + 4) rfl d1 c1 ad1 c1.l.length cap1 none 0 0 t1 e1 rfl HX8.out ?_))
    refine post_cellD rfl rfl (setRow_heap _ _ _ (dnK d1 c1 ad1 c1.l.length cap1 none 0 0 t1 e1) _ _ HX8.out) Try.underlying39 rfl infoDn rfl ?_
    rw [HR.out]
    have hag : ∀ k, k ≠ w.heap.size + 4 → k ≠ w.heap.size + 5 → ((((((w1).setRow (w.heap.size + 5) (put1 dnZ d1)).setRow (w.heap.size + 5) (put2 (put1 dnZ d1) c1 ad1 c1.l.length cap1)).setRow (w.heap.size + 5) (put4 (put2 (put1 dnZ d1) c1 ad1 c1.l.length cap1) t1)).setRow (w.heap.size + 5) (put5 (put4 (put2 (put1 dnZ d1) c1 ad1 c1.l.length cap1) t1) e1)).setRow (w.heap.size + 4) (dnK d1 c1 ad1 c1.l.length cap1 none 0 0 t1 e1)).heap[k]? = w1.heap[k]? := fun k h1 h2 => by rw [setRow_other _ _ _ _ (by omega), setRow_other _ _ _ _ (by omega), setRow_other _ _ _ _ (by omega), setRow_other _ _ _ _ (by omega), setRow_other _ _ _ _ (by omega)]
    have hsz : w1.heap.size ≤ ((((((w1).setRow (w.heap.size + 5) (put1 dnZ d1)).setRow (w.heap.size + 5) (put2 (put1 dnZ d1) c1 ad1 c1.l.length cap1)).setRow (w.heap.size + 5) (put4 (put2 (put1 dnZ d1) c1 ad1 c1.l.length cap1) t1)).setRow (w.heap.size + 5) (put5 (put4 (put2 (put1 dnZ d1) c1 ad1 c1.l.length cap1) t1) e1)).setRow (w.heap.size + 4) (dnK d1 c1 ad1 c1.l.length cap1 none 0 0 t1 e1)).heap.size := by simp [World.setRow]
    have hbw : Below w.heap.size w ((((((w1).setRow (w.heap.size + 5) (put1 dnZ d1)).setRow (w.heap.size + 5) (put2 (put1 dnZ d1) c1 ad1 c1.l.length cap1)).setRow (w.heap.size + 5) (put4 (put2 (put1 dnZ d1) c1 ad1 c1.l.length cap1) t1)).setRow (w.heap.size + 5) (put5 (put4 (put2 (put1 dnZ d1) c1 ad1 c1.l.length cap1) t1) e1)).setRow (w.heap.size + 4) (dnK d1 c1 ad1 c1.l.length cap1 none 0 0 t1 e1)) := below_set (below_set (below_set (below_set (below_set ((HXB.out.trans (HX1.out.mono HXB.out.size))) (by omega) _) (by omega) _) (by omega) _) (by omega) _) (by omega) _
    have hkp := kp_end HXB.out HKP.out (fun k h1 h2 => hag k (by have := HXS.out; omega) (by have := HXS.out; omega)) hsz
    exact ⟨ad1, c1.l.length, cap1, none, 0, 0, rfl, rfl, rfl, ⟨hkp.ki HIN.out.ki, HI1.out.le, HI1.out.mx, HI1.out.nn, HI1.out.bs⟩, hkp, fun _ _ _ => Ki.nil _ _, Nat.le_refl _, Nat.zero_le _, fun _ => rfl, hbw⟩
  by_cases h2 : kind = 2
  · subst h2
    have HR := Lib.hid (show stU m d c 2 n z = ⟨(skU m d c n).1, (skU m d c n).2.1, [], (skU m d c n).2.2.1, (skU m d c n).2.2.2⟩ by unfold stU; rw [if_neg (by decide)]; rw [if_neg (by decide)]; rw [if_pos rfl])
    have HCALL := Lib.hid (fun X h => HH.out.seek m d c ad cap n X (HIN.out.below h) HN.out)
    generalize skU m d c n = r at *
    obtain ⟨d1, c1, t1, e1⟩ := r
    simp only at HR HCALL
    go_enter Try.func10, Try.ntmps10
    go_wp2_with (with_reducible refine st_z rfl (.tmp 9) (.tmp 10) rfl (w.heap.size + 5) rfl rfl HO.out.y ?_)
    generalize World.alloc _ _ = X0 at *
    obtain ⟨_, m0, m1, m2, m3, m4⟩ := HO.out.m
    obtain ⟨_, d0, d1, d2, d3, d4, d5⟩ := HO.out.d
    obtain ⟨_, k0, k1, k2, k3, k4, k5, k6, k7, k8, k9, k10, k11, k12⟩ := HO.out.c
    have s0 := HO.out.s0
    have s2 := HO.out.s2
    have s3 := HO.out.s3
    go_wp2_with fail
    clear m0 m1 m2 m3 m4 d0 d1 d2 d3 d4 d5 k0 k1 k2 k3 k4 k5 k6 k7 k8 k9 k10 k11 k12 s0 s2 s3
    refine (HCALL.out X0 HO.out.b).mono ?_
    rintro e w1 ⟨ad1, cap1, rfl, hin1, hkp, hb⟩
    have HP := Lib.hid (HO.out.next hb)
    have HKP := Lib.hid hkp
    have HI1 := Lib.hid hin1
    have HXS := Lib.hid HO.out.s
    have HXB := Lib.hid HO.out.b
    have HX1 := Lib.hid hb
    clear hb hkp hin1 HO
    have H0 := Lib.hid (show w1.heap[w.heap.size + 5]? = _ from HP.out.y)
    have H1 := Lib.hid (setRow_heap (w1) (w.heap.size + 5) _ (put1 dnZ d1) _ _ H0.out)
    have HZA : Hid ((put1 dnZ d1).size = 22) := Lib.hid ((put1_size _ _).trans HSZ0.out)
    have H2 := Lib.hid (setRow_heap ((w1).setRow (w.heap.size + 5) (put1 dnZ d1)) (w.heap.size + 5) _ (put2 (put1 dnZ d1) c1 ad1 c1.l.length cap1) _ _ H1.out)
    have HZB : Hid ((put2 (put1 dnZ d1) c1 ad1 c1.l.length cap1).size = 22) := Lib.hid ((put2_size _ _ _ _ _).trans HZA.out)
    have H3 := Lib.hid (setRow_heap (((w1).setRow (w.heap.size + 5) (put1 dnZ d1)).setRow (w.heap.size + 5) (put2 (put1 dnZ d1) c1 ad1 c1.l.length cap1)) (w.heap.size + 5) _ (put4 (put2 (put1 dnZ d1) c1 ad1 c1.l.length cap1) t1) _ _ H2.out)
    have HZC : Hid ((put4 (put2 (put1 dnZ d1) c1 ad1 c1.l.length cap1) t1).size = 22) := Lib.hid ((put4_size _ _).trans HZB.out)
    have H4 := Lib.hid (setRow_heap ((((w1).setRow (w.heap.size + 5) (put1 dnZ d1)).setRow (w.heap.size + 5) (put2 (put1 dnZ d1) c1 ad1 c1.l.length cap1)).setRow (w.heap.size + 5) (put4 (put2 (put1 dnZ d1) c1 ad1 c1.l.length cap1) t1)) (w.heap.size + 5) _ (put5 (put4 (put2 (put1 dnZ d1) c1 ad1 c1.l.length cap1) t1) e1) _ _ H3.out)
    have HZD : Hid ((put5 (put4 (put2 (put1 dnZ d1) c1 ad1 c1.l.length cap1) t1) e1).size = 22) := Lib.hid ((put5_size _ _).trans HZC.out)
    have HROW := Lib.hid (show (((((w1).setRow (w.heap.size + 5) (put1 dnZ d1)).setRow (w.heap.size + 5) (put2 (put1 dnZ d1) c1 ad1 c1.l.length cap1)).setRow (w.heap.size + 5) (put4 (put2 (put1 dnZ d1) c1 ad1 c1.l.length cap1) t1)).setRow (w.heap.size + 5) (put5 (put4 (put2 (put1 dnZ d1) c1 ad1 c1.l.length cap1) t1) e1)).heap[w.heap.size + 5]? = some (.cells (dnK d1 c1 ad1 c1.l.length cap1 none 0 0 t1 e1) 39 (0, 0)) by rw [← dn_all]; exact H4.out)
    have HX8 := Lib.hid (show (((((w1).setRow (w.heap.size + 5) (put1 dnZ d1)).setRow (w.heap.size + 5) (put2 (put1 dnZ d1) c1 ad1 c1.l.length cap1)).setRow (w.heap.size + 5) (put4 (put2 (put1 dnZ d1) c1 ad1 c1.l.length cap1) t1)).setRow (w.heap.size + 5) (put5 (put4 (put2 (put1 dnZ d1) c1 ad1 c1.l.length cap1) t1) e1)).heap[w.heap.size + 4]? = some (.cells dnZ 39 (0, 0)) by rw [setRow_other _ _ _ _ (by omega), setRow_other _ _ _ _ (by omega), setRow_other _ _ _ _ (by omega), setRow_other _ _ _ _ (by omega)]; exact HP.out.x)
    go_wp2_with (first
      | (with_reducible refine st_d rfl (.tmp 68) (.tmp 64) (w.heap.size + 5) H0.out HSZ0.out rfl rfl d1 rfl ?_)
      | (with_reducible refine st_c rfl (.tmp 69) (.tmp 65) (w.heap.size + 5) H1.out HZA.out rfl rfl _ _ _ _ _ _ _ _ _ _ _ _ _ _ _ rfl c1 ⟨rfl, rfl, rfl, rfl, rfl, rfl, rfl, rfl, rfl, rfl, rfl, rfl⟩ ?_)
      | (with_reducible refine st_t rfl (.tmp 70) (.tmp 66) (w.heap.size + 5) H2.out HZB.out rfl rfl _ rfl ?_)
      | (with_reducible refine st_e rfl (.tmp 71) (.tmp 67) (w.heap.size + 5) H3.out HZC.out rfl rfl _ rfl ?_)
      | (with_reducible refine ld_dn rfl (.tmp 9) rfl (w.heap.size + 5) rfl d1 c1 ad1 c1.l.length cap1 none 0 0 t1 e1 HROW.out ?_)
      | (with_reducible refine st_dn rfl (.tmp 8) (.tmp 108) rfl (w.heap.size + 4) rfl d1 c1 ad1 c1.l.length cap1 none 0 0 t1 e1 rfl HX8.out ?_))
    refine post_cellD rfl rfl (setRow_heap _ _ _ (dnK d1 c1 ad1 c1.l.length cap1 none 0 0 t1 e1) _ _ HX8.out) Try.underlying39 rfl infoDn rfl ?_
    rw [HR.out]
    have hag : ∀ k, k ≠ w.heap.size + 4 → k ≠ w.heap.size + 5 → ((((((w1).setRow (w.heap.size + 5) (put1 dnZ d1)).setRow (w.heap.size + 5) (put2 (put1 dnZ d1) c1 ad1 c1.l.length cap1)).setRow (w.heap.size + 5) (put4 (put2 (put1 dnZ d1) c1 ad1 c1.l.length cap1) t1)).setRow (w.heap.size + 5) (put5 (put4 (put2 (put1 dnZ d1) c1 ad1 c1.l.length cap1) t1) e1)).setRow (w.heap.size + 4) (dnK d1 c1 ad1 c1.l.length cap1 none 0 0 t1 e1)).heap[k]? = w1.heap[k]? := fun k h1 h2 => by rw [setRow_other _ _ _ _ (by omega), setRow_other _ _ _ _ (by omega), setRow_other _ _ _ _ (by omega), setRow_other _ _ _ _ (by omega), setRow_other _ _ _ _ (by omega)]
    have hsz : w1.heap.size ≤ ((((((w1).setRow (w.heap.size + 5) (put1 dnZ d1)).setRow (w.heap.size + 5) (put2 (put1 dnZ d1) c1 ad1 c1.l.length cap1)).setRow (w.heap.size + 5) (put4 (put2 (put1 dnZ d1) c1 ad1 c1.l.length cap1) t1)).setRow (w.heap.size + 5) (put5 (put4 (put2 (put1 dnZ d1) c1 ad1 c1.l.length cap1) t1) e1)).setRow (w.heap.size + 4) (dnK d1 c1 ad1 c1.l.length cap1 none 0 0 t1 e1)).heap.size := by simp [World.setRow]
    have hbw : Below w.heap.size w ((((((w1).setRow (w.heap.size + 5) (put1 dnZ d1)).setRow (w.heap.size + 5) (put2 (put1 dnZ d1) c1 ad1 c1.l.length cap1)).setRow (w.heap.size + 5) (put4 (put2 (put1 dnZ d1) c1 ad1 c1.l.length cap1) t1)).setRow (w.heap.size + 5) (put5 (put4 (put2 (put1 dnZ d1) c1 ad1 c1.l.length cap1) t1) e1)).setRow (w.heap.size + 4) (dnK d1 c1 ad1 c1.l.length cap1 none 0 0 t1 e1)) := below_set (below_set (below_set (below_set (below_set ((HXB.out.trans (HX1.out.mono HXB.out.size))) (by omega) _) (by omega) _) (by omega) _) (by omega) _) (by omega) _
    have hkp := kp_end HXB.out HKP.out (fun k h1 h2 => hag k (by have := HXS.out; omega) (by have := HXS.out; omega)) hsz
    exact ⟨ad1, c1.l.length, cap1, none, 0, 0, rfl, rfl, rfl, ⟨hkp.ki HIN.out.ki, HI1.out.le, HI1.out.mx, HI1.out.nn, HI1.out.bs⟩, hkp, fun _ _ _ => Ki.nil _ _, Nat.le_refl _, Nat.zero_le _, fun _ => rfl, hbw⟩
  by_cases h3 : kind = 3
  · subst h3
    have HR := Lib.hid (show stU m d c 3 n z = ⟨(rdU m d c n).1, (rdU m d c n).2.1, (rdU m d c n).2.2.1, (rdU m d c n).2.2.2.1, (rdU m d c n).2.2.2.2⟩ by unfold stU; rw [if_neg (by decide)]; rw [if_neg (by decide)]; rw [if_neg (by decide)]; rw [if_pos rfl])
    have HCALL := Lib.hid (fun X h => HH.out.read m d c ad cap n X (HIN.out.below h) HN.out)
    generalize rdU m d c n = r at *
    obtain ⟨d1, c1, l1, t1, e1⟩ := r
    simp only at HR HCALL
    go_enter Try.func10, Try.ntmps10
    go_wp2_with (with_reducible refine st_z rfl (.tmp 9) (.tmp 10) rfl (w.heap.size + 5) rfl rfl HO.out.y ?_)
    generalize World.alloc _ _ = X0 at *
    obtain ⟨_, m0, m1, m2, m3, m4⟩ := HO.out.m
    obtain ⟨_, d0, d1, d2, d3, d4, d5⟩ := HO.out.d
    obtain ⟨_, k0, k1, k2, k3, k4, k5, k6, k7, k8, k9, k10, k11, k12⟩ := HO.out.c
    have s0 := HO.out.s0
    have s2 := HO.out.s2
    have s3 := HO.out.s3
    go_wp2_with fail
    clear m0 m1 m2 m3 m4 d0 d1 d2 d3 d4 d5 k0 k1 k2 k3 k4 k5 k6 k7 k8 k9 k10 k11 k12 s0 s2 s3
    refine (HCALL.out X0 HO.out.b).mono ?_
    rintro e w1 ⟨ad1, cap1, zd1, zn1, zc1, rfl, hzn1, hin1, hkp, hfr, hzc1, hzc2, hzc3, hb⟩
    have HP := Lib.hid (HO.out.next hb)
    have HKP := Lib.hid hkp
    have HI1 := Lib.hid hin1
    have HXS := Lib.hid HO.out.s
    have HXB := Lib.hid HO.out.b
    have HX1 := Lib.hid hb
    have HFR := Lib.hid hfr
    have HZ1 := Lib.hid (show zn1 = l1.length ∧ zn1 ≤ zc1 ∧ zc1 ≤ maxLen ∧ (zd1 = none → zc1 = 0) from ⟨hzn1, hzc1, hzc2, hzc3⟩)
    clear hfr hzn1 hzc1 hzc2 hzc3
    clear hb hkp hin1 HO
    have H0 := Lib.hid (show w1.heap[w.heap.size + 5]? = _ from HP.out.y)
    have H1 := Lib.hid (setRow_heap (w1) (w.heap.size + 5) _ (put1 dnZ d1) _ _ H0.out)
    have HZA : Hid ((put1 dnZ d1).size = 22) := Lib.hid ((put1_size _ _).trans HSZ0.out)
    have H2 := Lib.hid (setRow_heap ((w1).setRow (w.heap.size + 5) (put1 dnZ d1)) (w.heap.size + 5) _ (put2 (put1 dnZ d1) c1 ad1 c1.l.length cap1) _ _ H1.out)
    have HZB : Hid ((put2 (put1 dnZ d1) c1 ad1 c1.l.length cap1).size = 22) := Lib.hid ((put2_size _ _ _ _ _).trans HZA.out)
    have H3 := Lib.hid (setRow_heap (((w1).setRow (w.heap.size + 5) (put1 dnZ d1)).setRow (w.heap.size + 5) (put2 (put1 dnZ d1) c1 ad1 c1.l.length cap1)) (w.heap.size + 5) _ (put3 (put2 (put1 dnZ d1) c1 ad1 c1.l.length cap1) zd1 zn1 zc1) _ _ H2.out)
    have HZC : Hid ((put3 (put2 (put1 dnZ d1) c1 ad1 c1.l.length cap1) zd1 zn1 zc1).size = 22) := Lib.hid ((put3_size _ _ _ _).trans HZB.out)
    have H4 := Lib.hid (setRow_heap ((((w1).setRow (w.heap.size + 5) (put1 dnZ d1)).setRow (w.heap.size + 5) (put2 (put1 dnZ d1) c1 ad1 c1.l.length cap1)).setRow (w.heap.size + 5) (put3 (put2 (put1 dnZ d1) c1 ad1 c1.l.length cap1) zd1 zn1 zc1)) (w.heap.size + 5) _ (put4 (put3 (put2 (put1 dnZ d1) c1 ad1 c1.l.length cap1) zd1 zn1 zc1) t1) _ _ H3.out)
    have HZD : Hid ((put4 (put3 (put2 (put1 dnZ d1) c1 ad1 c1.l.length cap1) zd1 zn1 zc1) t1).size = 22) := Lib.hid ((put4_size _ _).trans HZC.out)
    have H5 := Lib.hid (setRow_heap (((((w1).setRow (w.heap.size + 5) (put1 dnZ d1)).setRow (w.heap.size + 5) (put2 (put1 dnZ d1) c1 ad1 c1.l.length cap1)).setRow (w.heap.size + 5) (put3 (put2 (put1 dnZ d1) c1 ad1 c1.l.length cap1) zd1 zn1 zc1)).setRow (w.heap.size + 5) (put4 (put3 (put2 (put1 dnZ d1) c1 ad1 c1.l.length cap1) zd1 zn1 zc1) t1)) (w.heap.size + 5) _ (put5 (put4 (put3 (put2 (put1 dnZ d1) c1 ad1 c1.l.length cap1) zd1 zn1 zc1) t1) e1) _ _ H4.out)
    have HZE : Hid ((put5 (put4 (put3 (put2 (put1 dnZ d1) c1 ad1 c1.l.length cap1) zd1 zn1 zc1) t1) e1).size = 22) := Lib.hid ((put5_size _ _).trans HZD.out)
    have HROW := Lib.hid (show ((((((w1).setRow (w.heap.size + 5) (put1 dnZ d1)).setRow (w.heap.size + 5) (put2 (put1 dnZ d1) c1 ad1 c1.l.length cap1)).setRow (w.heap.size + 5) (put3 (put2 (put1 dnZ d1) c1 ad1 c1.l.length cap1) zd1 zn1 zc1)).setRow (w.heap.size + 5) (put4 (put3 (put2 (put1 dnZ d1) c1 ad1 c1.l.length cap1) zd1 zn1 zc1) t1)).setRow (w.heap.size + 5) (put5 (put4 (put3 (put2 (put1 dnZ d1) c1 ad1 c1.l.length cap1) zd1 zn1 zc1) t1) e1)).heap[w.heap.size + 5]? = some (.cells (dnK d1 c1 ad1 c1.l.length cap1 zd1 zn1 zc1 t1 e1) 39 (0, 0)) by rw [← dn_all3]; exact H5.out)
    have HX8 := Lib.hid (show ((((((w1).setRow (w.heap.size + 5) (put1 dnZ d1)).setRow (w.heap.size + 5) (put2 (put1 dnZ d1) c1 ad1 c1.l.length cap1)).setRow (w.heap.size + 5) (put3 (put2 (put1 dnZ d1) c1 ad1 c1.l.length cap1) zd1 zn1 zc1)).setRow (w.heap.size + 5) (put4 (put3 (put2 (put1 dnZ d1) c1 ad1 c1.l.length cap1) zd1 zn1 zc1) t1)).setRow (w.heap.size + 5) (put5 (put4 (put3 (put2 (put1 dnZ d1) c1 ad1 c1.l.length cap1) zd1 zn1 zc1) t1) e1)).heap[w.heap.size + 4]? = some (.cells dnZ 39 (0, 0)) by rw [setRow_other _ _ _ _ (by omega), setRow_other _ _ _ _ (by omega), setRow_other _ _ _ _ (by omega), setRow_other _ _ _ _ (by omega), setRow_other _ _ _ _ (by omega)]; exact HP.out.x)
    go_wp2_with (first
      | (with_reducible refine st_d rfl (.tmp 86) (.tmp 81) (w.heap.size + 5) H0.out HSZ0.out rfl rfl d1 rfl ?_)
      | (with_reducible refine st_c rfl (.tmp 87) (.tmp 82) (w.heap.size + 5) H1.out HZA.out rfl rfl _ _ _ _ _ _ _ _ _ _ _ _ _ _ _ rfl c1 ⟨rfl, rfl, rfl, rfl, rfl, rfl, rfl, rfl, rfl, rfl, rfl, rfl⟩ ?_)
      | (with_reducible refine st_l rfl (.tmp 88) (.tmp 83) (w.heap.size + 5) H2.out HZB.out rfl rfl _ _ _ rfl ?_)
      | (with_reducible refine st_t rfl (.tmp 89) (.tmp 84) (w.heap.size + 5) H3.out HZC.out rfl rfl _ rfl ?_)
      | (with_reducible refine st_e rfl (.tmp 90) (.tmp 85) (w.heap.size + 5) H4.out HZD.out rfl rfl _ rfl ?_)
      | (with_reducible refine ld_dn rfl (.tmp 9) rfl (w.heap.size + 5) rfl d1 c1 ad1 c1.l.length cap1 zd1 zn1 zc1 t1 e1 HROW.out ?_)
      | (with_reducible refine st_dn rfl (.tmp 8) (.tmp 108) rfl (w.heap.size + 4) rfl d1 c1 ad1 c1.l.length cap1 zd1 zn1 zc1 t1 e1 rfl HX8.out ?_))
    refine post_cellD rfl rfl (setRow_heap _ _ _ (dnK d1 c1 ad1 c1.l.length cap1 zd1 zn1 zc1 t1 e1) _ _ HX8.out) Try.underlying39 rfl infoDn rfl ?_
    rw [HR.out]
    have hag : ∀ k, k ≠ w.heap.size + 4 → k ≠ w.heap.size + 5 → (((((((w1).setRow (w.heap.size + 5) (put1 dnZ d1)).setRow (w.heap.size + 5) (put2 (put1 dnZ d1) c1 ad1 c1.l.length cap1)).setRow (w.heap.size + 5) (put3 (put2 (put1 dnZ d1) c1 ad1 c1.l.length cap1) zd1 zn1 zc1)).setRow (w.heap.size + 5) (put4 (put3 (put2 (put1 dnZ d1) c1 ad1 c1.l.length cap1) zd1 zn1 zc1) t1)).setRow (w.heap.size + 5) (put5 (put4 (put3 (put2 (put1 dnZ d1) c1 ad1 c1.l.length cap1) zd1 zn1 zc1) t1) e1)).setRow (w.heap.size + 4) (dnK d1 c1 ad1 c1.l.length cap1 zd1 zn1 zc1 t1 e1)).heap[k]? = w1.heap[k]? := fun k h1 h2 => by rw [setRow_other _ _ _ _ (by omega), setRow_other _ _ _ _ (by omega), setRow_other _ _ _ _ (by omega), setRow_other _ _ _ _ (by omega), setRow_other _ _ _ _ (by omega), setRow_other _ _ _ _ (by omega)]
    have hsz : w1.heap.size ≤ (((((((w1).setRow (w.heap.size + 5) (put1 dnZ d1)).setRow (w.heap.size + 5) (put2 (put1 dnZ d1) c1 ad1 c1.l.length cap1)).setRow (w.heap.size + 5) (put3 (put2 (put1 dnZ d1) c1 ad1 c1.l.length cap1) zd1 zn1 zc1)).setRow (w.heap.size + 5) (put4 (put3 (put2 (put1 dnZ d1) c1 ad1 c1.l.length cap1) zd1 zn1 zc1) t1)).setRow (w.heap.size + 5) (put5 (put4 (put3 (put2 (put1 dnZ d1) c1 ad1 c1.l.length cap1) zd1 zn1 zc1) t1) e1)).setRow (w.heap.size + 4) (dnK d1 c1 ad1 c1.l.length cap1 zd1 zn1 zc1 t1 e1)).heap.size := by simp [World.setRow]
    have hbw : Below w.heap.size w (((((((w1).setRow (w.heap.size + 5) (put1 dnZ d1)).setRow (w.heap.size + 5) (put2 (put1 dnZ d1) c1 ad1 c1.l.length cap1)).setRow (w.heap.size + 5) (put3 (put2 (put1 dnZ d1) c1 ad1 c1.l.length cap1) zd1 zn1 zc1)).setRow (w.heap.size + 5) (put4 (put3 (put2 (put1 dnZ d1) c1 ad1 c1.l.length cap1) zd1 zn1 zc1) t1)).setRow (w.heap.size + 5) (put5 (put4 (put3 (put2 (put1 dnZ d1) c1 ad1 c1.l.length cap1) zd1 zn1 zc1) t1) e1)).setRow (w.heap.size + 4) (dnK d1 c1 ad1 c1.l.length cap1 zd1 zn1 zc1 t1 e1)) := below_set (below_set (below_set (below_set (below_set (below_set ((HXB.out.trans (HX1.out.mono HXB.out.size))) (by omega) _) (by omega) _) (by omega) _) (by omega) _) (by omega) _) (by omega) _
    have hkp := kp_end HXB.out HKP.out (fun k h1 h2 => hag k (by have := HXS.out; omega) (by have := HXS.out; omega)) hsz
    exact ⟨ad1, c1.l.length, cap1, zd1, zn1, zc1, rfl, rfl, HZ1.out.1, ⟨hkp.ki HIN.out.ki, HI1.out.le, HI1.out.mx, HI1.out.nn, HI1.out.bs⟩, hkp, HFR.out.st (fun k hk _ => hag k (by have := HXS.out; omega) (by have := HXS.out; omega)) hsz HXB.out.size, HZ1.out.2.1, HZ1.out.2.2.1, HZ1.out.2.2.2, hbw⟩
  by_cases h4 : kind = 4
  · subst h4
    have HR := Lib.hid (show stU m d c 4 n z = ⟨(wrU m d c z).1, (wrU m d c z).2.1, [], (wrU m d c z).2.2.1, (wrU m d c z).2.2.2⟩ by unfold stU; rw [if_neg (by decide)]; rw [if_neg (by decide)]; rw [if_neg (by decide)]; rw [if_neg (by decide)]; rw [if_pos rfl])
    have HCALL := Lib.hid (fun X h => HH.out.write m d c ad cap zd zn zc z X (HIN.out.below h) (HZI.out.below h) HZN.out hzs HZL.out)
    generalize wrU m d c z = r at *
    obtain ⟨d1, c1, t1, e1⟩ := r
    simp only at HR HCALL
    go_enter Try.func10, Try.ntmps10
    go_wp2_with (with_reducible refine st_z rfl (.tmp 9) (.tmp 10) rfl (w.heap.size + 5) rfl rfl HO.out.y ?_)
    generalize World.alloc _ _ = X0 at *
    obtain ⟨_, m0, m1, m2, m3, m4⟩ := HO.out.m
    obtain ⟨_, d0, d1, d2, d3, d4, d5⟩ := HO.out.d
    obtain ⟨_, k0, k1, k2, k3, k4, k5, k6, k7, k8, k9, k10, k11, k12⟩ := HO.out.c
    have s0 := HO.out.s0
    have s2 := HO.out.s2
    have s3 := HO.out.s3
    go_wp2_with fail
    clear m0 m1 m2 m3 m4 d0 d1 d2 d3 d4 d5 k0 k1 k2 k3 k4 k5 k6 k7 k8 k9 k10 k11 k12 s0 s2 s3
    refine (HCALL.out X0 HO.out.b).mono ?_
    rintro e w1 ⟨ad1, cap1, rfl, hin1, hkp, hb⟩
    have HP := Lib.hid (HO.out.next hb)
    have HKP := Lib.hid hkp
    have HI1 := Lib.hid hin1
    have HXS := Lib.hid HO.out.s
    have HXB := Lib.hid HO.out.b
    have HX1 := Lib.hid hb
    clear hb hkp hin1 HO
    have H0 := Lib.hid (show w1.heap[w.heap.size + 5]? = _ from HP.out.y)
    have H1 := Lib.hid (setRow_heap (w1) (w.heap.size + 5) _ (put1 dnZ d1) _ _ H0.out)
    have HZA : Hid ((put1 dnZ d1).size = 22) := Lib.hid ((put1_size _ _).trans HSZ0.out)
    have H2 := Lib.hid (setRow_heap ((w1).setRow (w.heap.size + 5) (put1 dnZ d1)) (w.heap.size + 5) _ (put2 (put1 dnZ d1) c1 ad1 c1.l.length cap1) _ _ H1.out)
    have HZB : Hid ((put2 (put1 dnZ d1) c1 ad1 c1.l.length cap1).size = 22) := Lib.hid ((put2_size _ _ _ _ _).trans HZA.out)
    have H3 := Lib.hid (setRow_heap (((w1).setRow (w.heap.size + 5) (put1 dnZ d1)).setRow (w.heap.size + 5) (put2 (put1 dnZ d1) c1 ad1 c1.l.length cap1)) (w.heap.size + 5) _ (put4 (put2 (put1 dnZ d1) c1 ad1 c1.l.length cap1) t1) _ _ H2.out)
    have HZC : Hid ((put4 (put2 (put1 dnZ d1) c1 ad1 c1.l.length cap1) t1).size = 22) := Lib.hid ((put4_size _ _).trans HZB.out)
    have H4 := Lib.hid (setRow_heap ((((w1).setRow (w.heap.size + 5) (put1 dnZ d1)).setRow (w.heap.size + 5) (put2 (put1 dnZ d1) c1 ad1 c1.l.length cap1)).setRow (w.heap.size + 5) (put4 (put2 (put1 dnZ d1) c1 ad1 c1.l.length cap1) t1)) (w.heap.size + 5) _ (put5 (put4 (put2 (put1 dnZ d1) c1 ad1 c1.l.length cap1) t1) e1) _ _ H3.out)
    have HZD : Hid ((put5 (put4 (put2 (put1 dnZ d1) c1 ad1 c1.l.length cap1) t1) e1).size = 22) := Lib.hid ((put5_size _ _).trans HZC.out)
    have HROW := Lib.hid (show (((((w1).setRow (w.heap.size + 5) (put1 dnZ d1)).setRow (w.heap.size + 5) (put2 (put1 dnZ d1) c1 ad1 c1.l.length cap1)).setRow (w.heap.size + 5) (put4 (put2 (put1 dnZ d1) c1 ad1 c1.l.length cap1) t1)).setRow (w.heap.size + 5) (put5 (put4 (put2 (put1 dnZ d1) c1 ad1 c1.l.length cap1) t1) e1)).heap[w.heap.size + 5]? = some (.cells (dnK d1 c1 ad1 c1.l.length cap1 none 0 0 t1 e1) 39 (0, 0)) by rw [← dn_all]; exact H4.out)
    have HX8 := Lib.hid (show (((((w1).setRow (w.heap.size + 5) (put1 dnZ d1)).setRow (w.heap.size + 5) (put2 (put1 dnZ d1) c1 ad1 c1.l.length cap1)).setRow (w.heap.size + 5) (put4 (put2 (put1 dnZ d1) c1 ad1 c1.l.length cap1) t1)).setRow (w.heap.size + 5) (put5 (put4 (put2 (put1 dnZ d1) c1 ad1 c1.l.length cap1) t1) e1)).heap[w.heap.size + 4]? = some (.cells dnZ 39 (0, 0)) by rw [setRow_other _ _ _ _ (by omega), setRow_other _ _ _ _ (by omega), setRow_other _ _ _ _ (by omega), setRow_other _ _ _ _ (by omega)]; exact HP.out.x)
    go_wp2_with (first
      | (with_reducible refine st_d rfl (.tmp 104) (.tmp 100) (w.heap.size + 5) H0.out HSZ0.out rfl rfl d1 rfl ?_)
      | (with_reducible refine st_c rfl (.tmp 105) (.tmp 101) (w.heap.size + 5) H1.out HZA.out rfl rfl _ _ _ _ _ _ _ _ _ _ _ _ _ _ _ rfl c1 ⟨rfl, rfl, rfl, rfl, rfl, rfl, rfl, rfl, rfl, rfl, rfl, rfl⟩ ?_)
      | (with_reducible refine st_t rfl (.tmp 106) (.tmp 102) (w.heap.size + 5) H2.out HZB.out rfl rfl _ rfl ?_)
      | (with_reducible refine st_e rfl (.tmp 107) (.tmp 103) (w.heap.size + 5) H3.out HZC.out rfl rfl _ rfl ?_)
      | (with_reducible refine ld_dn rfl (.tmp 9) rfl (w.heap.size + 5) rfl d1 c1 ad1 c1.l.length cap1 none 0 0 t1 e1 HROW.out ?_)
      | (with_reducible refine st_dn rfl (.tmp 8) (.tmp 108) rfl (w.heap.size + 4) rfl d1 c1 ad1 c1.l.length cap1 none 0 0 t1 e1 rfl HX8.out ?_))
    refine post_cellD rfl rfl (setRow_heap _ _ _ (dnK d1 c1 ad1 c1.l.length cap1 none 0 0 t1 e1) _ _ HX8.out) Try.underlying39 rfl infoDn rfl ?_
    rw [HR.out]
    have hag : ∀ k, k ≠ w.heap.size + 4 → k ≠ w.heap.size + 5 → ((((((w1).setRow (w.heap.size + 5) (put1 dnZ d1)).setRow (w.heap.size + 5) (put2 (put1 dnZ d1) c1 ad1 c1.l.length cap1)).setRow (w.heap.size + 5) (put4 (put2 (put1 dnZ d1) c1 ad1 c1.l.length cap1) t1)).setRow (w.heap.size + 5) (put5 (put4 (put2 (put1 dnZ d1) c1 ad1 c1.l.length cap1) t1) e1)).setRow (w.heap.size + 4) (dnK d1 c1 ad1 c1.l.length cap1 none 0 0 t1 e1)).heap[k]? = w1.heap[k]? := fun k h1 h2 => by rw [setRow_other _ _ _ _ (by omega), setRow_other _ _ _ _ (by omega), setRow_other _ _ _ _ (by omega), setRow_other _ _ _ _ (by omega), setRow_other _ _ _ _ (by omega)]
    have hsz : w1.heap.size ≤ ((((((w1).setRow (w.heap.size + 5) (put1 dnZ d1)).setRow (w.heap.size + 5) (put2 (put1 dnZ d1) c1 ad1 c1.l.length cap1)).setRow (w.heap.size + 5) (put4 (put2 (put1 dnZ d1) c1 ad1 c1.l.length cap1) t1)).setRow (w.heap.size + 5) (put5 (put4 (put2 (put1 dnZ d1) c1 ad1 c1.l.length cap1) t1) e1)).setRow (w.heap.size + 4) (dnK d1 c1 ad1 c1.l.length cap1 none 0 0 t1 e1)).heap.size := by simp [World.setRow]
    have hbw : Below w.heap.size w ((((((w1).setRow (w.heap.size + 5) (put1 dnZ d1)).setRow (w.heap.size + 5) (put2 (put1 dnZ d1) c1 ad1 c1.l.length cap1)).setRow (w.heap.size + 5) (put4 (put2 (put1 dnZ d1) c1 ad1 c1.l.length cap1) t1)).setRow (w.heap.size + 5) (put5 (put4 (put2 (put1 dnZ d1) c1 ad1 c1.l.length cap1) t1) e1)).setRow (w.heap.size + 4) (dnK d1 c1 ad1 c1.l.length cap1 none 0 0 t1 e1)) := below_set (below_set (below_set (below_set (below_set ((HXB.out.trans (HX1.out.mono HXB.out.size))) (by omega) _) (by omega) _) (by omega) _) (by omega) _) (by omega) _
    have hkp := kp_end HXB.out HKP.out (fun k h1 h2 => hag k (by have := HXS.out; omega) (by have := HXS.out; omega)) hsz
    exact ⟨ad1, c1.l.length, cap1, none, 0, 0, rfl, rfl, rfl, ⟨hkp.ki HIN.out.ki, HI1.out.le, HI1.out.mx, HI1.out.nn, HI1.out.bs⟩, hkp, fun _ _ _ => Ki.nil _ _, Nat.le_refl _, Nat.zero_le _, fun _ => rfl, hbw⟩
  have HR := Lib.hid (show stU m d c kind n z = ⟨(clU m d).1, c, [], (clU m d).2.1, (clU m d).2.2⟩ by unfold stU; rw [if_neg h0, if_neg h1, if_neg h2, if_neg h3, if_neg h4])
  have HCALL := Lib.hid (fun X => HH.out.clean m d X)
  generalize clU m d = r at *
  obtain ⟨d1, t1, e1⟩ := r
  simp only at HR HCALL
  go_enter Try.func10, Try.ntmps10
  go_wp2_with (with_reducible refine st_z rfl (.tmp 9) (.tmp 10) rfl (w.heap.size + 5) rfl rfl HO.out.y ?_)
  generalize World.alloc _ _ = X0 at *
  obtain ⟨_, m0, m1, m2, m3, m4⟩ := HO.out.m
  obtain ⟨_, d0, d1, d2, d3, d4, d5⟩ := HO.out.d
  obtain ⟨_, k0, k1, k2, k3, k4, k5, k6, k7, k8, k9, k10, k11, k12⟩ := HO.out.c
  have s0 := HO.out.s0
  have s2 := HO.out.s2
  have s3 := HO.out.s3
  go_wp2_with fail
  clear m0 m1 m2 m3 m4 d0 d1 d2 d3 d4 d5 k0 k1 k2 k3 k4 k5 k6 k7 k8 k9 k10 k11 k12 s0 s2 s3
  refine (HCALL.out X0).mono ?_
  rintro e w1 ⟨rfl, hb⟩
  have HP := Lib.hid (HO.out.next hb)
  have HXS := Lib.hid HO.out.s
  have HXB := Lib.hid HO.out.b
  have HX1 := Lib.hid hb
  clear hb HO
  have H0 := Lib.hid (show w1.heap[w.heap.size + 5]? = _ from HP.out.y)
  have H1 := Lib.hid (setRow_heap (w1) (w.heap.size + 5) _ (put1 dnZ d1) _ _ H0.out)
  have HZA : Hid ((put1 dnZ d1).size = 22) := Lib.hid ((put1_size _ _).trans HSZ0.out)
  have H2 := Lib.hid (setRow_heap ((w1).setRow (w.heap.size + 5) (put1 dnZ d1)) (w.heap.size + 5) _ (put4 (put1 dnZ d1) t1) _ _ H1.out)
  have HZB : Hid ((put4 (put1 dnZ d1) t1).size = 22) := Lib.hid ((put4_size _ _).trans HZA.out)
  have H3 := Lib.hid (setRow_heap (((w1).setRow (w.heap.size + 5) (put1 dnZ d1)).setRow (w.heap.size + 5) (put4 (put1 dnZ d1) t1)) (w.heap.size + 5) _ (put5 (put4 (put1 dnZ d1) t1) e1) _ _ H2.out)
  have HZC : Hid ((put5 (put4 (put1 dnZ d1) t1) e1).size = 22) := Lib.hid ((put5_size _ _).trans HZB.out)
  have H4 := Lib.hid (setRow_heap ((((w1).setRow (w.heap.size + 5) (put1 dnZ d1)).setRow (w.heap.size + 5) (put4 (put1 dnZ d1) t1)).setRow (w.heap.size + 5) (put5 (put4 (put1 dnZ d1) t1) e1)) (w.heap.size + 5) _ (put2 (put5 (put4 (put1 dnZ d1) t1) e1) c ad c.l.length cap) _ _ H3.out)
  have HZD : Hid ((put2 (put5 (put4 (put1 dnZ d1) t1) e1) c ad c.l.length cap).size = 22) := Lib.hid ((put2_size _ _ _ _ _).trans HZC.out)
  have HROW := Lib.hid (show (((((w1).setRow (w.heap.size + 5) (put1 dnZ d1)).setRow (w.heap.size + 5) (put4 (put1 dnZ d1) t1)).setRow (w.heap.size + 5) (put5 (put4 (put1 dnZ d1) t1) e1)).setRow (w.heap.size + 5) (put2 (put5 (put4 (put1 dnZ d1) t1) e1) c ad c.l.length cap)).heap[w.heap.size + 5]? = some (.cells (dnK d1 c ad c.l.length cap none 0 0 t1 e1) 39 (0, 0)) by rw [← dn_allc]; exact H4.out)
  have HX8 := Lib.hid (show (((((w1).setRow (w.heap.size + 5) (put1 dnZ d1)).setRow (w.heap.size + 5) (put4 (put1 dnZ d1) t1)).setRow (w.heap.size + 5) (put5 (put4 (put1 dnZ d1) t1) e1)).setRow (w.heap.size + 5) (put2 (put5 (put4 (put1 dnZ d1) t1) e1) c ad c.l.length cap)).heap[w.heap.size + 4]? = some (.cells dnZ 39 (0, 0)) by rw [setRow_other _ _ _ _ (by omega), setRow_other _ _ _ _ (by omega), setRow_other _ _ _ _ (by omega), setRow_other _ _ _ _ (by omega)]; exact HP.out.x)
  have HCR := Lib.hid (show ((((w1).setRow (w.heap.size + 5) (put1 dnZ d1)).setRow (w.heap.size + 5) (put4 (put1 dnZ d1) t1)).setRow (w.heap.size + 5) (put5 (put4 (put1 dnZ d1) t1) e1)).heap[w.heap.size + 2]? = some (.cells (crK c.bc c.W c.L c.S c.T c.J c.R c.wo c.lk ad c.l.length cap c.ep c.lo c.pa) 30 (0, 0)) by rw [setRow_other _ _ _ _ (by omega), setRow_other _ _ _ _ (by omega), setRow_other _ _ _ _ (by omega)]; exact HP.out.cr)
  go_wp2_with (first
    | (with_reducible refine st_d rfl (.tmp 20) (.tmp 17) (w.heap.size + 5) H0.out HSZ0.out rfl rfl d1 rfl ?_)
    | (with_reducible refine st_t rfl (.tmp 21) (.tmp 18) (w.heap.size + 5) H1.out HZA.out rfl rfl _ rfl ?_)
    | (with_reducible refine st_e rfl (.tmp 22) (.tmp 19) (w.heap.size + 5) H2.out HZB.out rfl rfl _ rfl ?_)
    | (with_reducible refine ld_c rfl (.tmp 6) rfl (w.heap.size + 2) rfl _ _ _ _ _ _ _ _ _ _ _ _ _ _ _ HCR.out ?_)
    | (with_reducible refine st_c rfl (.tmp 24) (.tmp 23) (w.heap.size + 5) H3.out HZC.out rfl rfl _ _ _ _ _ _ _ _ _ _ _ _ _ _ _ rfl c ⟨rfl, rfl, rfl, rfl, rfl, rfl, rfl, rfl, rfl, rfl, rfl, rfl⟩ ?_)
    | (with_reducible refine ld_dn rfl (.tmp 9) rfl (w.heap.size + 5) rfl d1 c ad c.l.length cap none 0 0 t1 e1 HROW.out ?_)
    | (with_reducible refine st_dn rfl (.tmp 8) (.tmp 108) rfl (w.heap.size + 4) rfl d1 c ad c.l.length cap none 0 0 t1 e1 rfl HX8.out ?_))
  refine post_cellD rfl rfl (setRow_heap _ _ _ (dnK d1 c ad c.l.length cap none 0 0 t1 e1) _ _ HX8.out) Try.underlying39 rfl infoDn rfl ?_
  rw [HR.out]
  have hag : ∀ k, k ≠ w.heap.size + 4 → k ≠ w.heap.size + 5 → ((((((w1).setRow (w.heap.size + 5) (put1 dnZ d1)).setRow (w.heap.size + 5) (put4 (put1 dnZ d1) t1)).setRow (w.heap.size + 5) (put5 (put4 (put1 dnZ d1) t1) e1)).setRow (w.heap.size + 5) (put2 (put5 (put4 (put1 dnZ d1) t1) e1) c ad c.l.length cap)).setRow (w.heap.size + 4) (dnK d1 c ad c.l.length cap none 0 0 t1 e1)).heap[k]? = w1.heap[k]? := fun k h1 h2 => by rw [setRow_other _ _ _ _ (by omega), setRow_other _ _ _ _ (by omega), setRow_other _ _ _ _ (by omega), setRow_other _ _ _ _ (by omega), setRow_other _ _ _ _ (by omega)]
  have hsz : w1.heap.size ≤ ((((((w1).setRow (w.heap.size + 5) (put1 dnZ d1)).setRow (w.heap.size + 5) (put4 (put1 dnZ d1) t1)).setRow (w.heap.size + 5) (put5 (put4 (put1 dnZ d1) t1) e1)).setRow (w.heap.size + 5) (put2 (put5 (put4 (put1 dnZ d1) t1) e1) c ad c.l.length cap)).setRow (w.heap.size + 4) (dnK d1 c ad c.l.length cap none 0 0 t1 e1)).heap.size := by simp [World.setRow]
  have hbw : Below w.heap.size w ((((((w1).setRow (w.heap.size + 5) (put1 dnZ d1)).setRow (w.heap.size + 5) (put4 (put1 dnZ d1) t1)).setRow (w.heap.size + 5) (put5 (put4 (put1 dnZ d1) t1) e1)).setRow (w.heap.size + 5) (put2 (put5 (put4 (put1 dnZ d1) t1) e1) c ad c.l.length cap)).setRow (w.heap.size + 4) (dnK d1 c ad c.l.length cap none 0 0 t1 e1)) := below_set (below_set (below_set (below_set (below_set ((HXB.out.trans (HX1.out.mono HXB.out.size))) (by omega) _) (by omega) _) (by omega) _) (by omega) _) (by omega) _
  exact ⟨ad, c.l.length, cap, none, 0, 0, rfl, rfl, rfl, HIN.out.below hbw, KpS.same hbw, fun _ _ _ => Ki.nil _ _, Nat.le_refl _, Nat.zero_le _, fun _ => rfl, hbw⟩
end Go.Proofs.Ytepmmlnopdjjdaa
