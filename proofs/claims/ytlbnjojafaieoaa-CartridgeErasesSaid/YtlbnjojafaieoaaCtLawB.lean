/-
  The laws Writes and Reads.
-/
import Derived.Test.YtlbnjojafaieoaaCtForms
import Derived.Test.YtlbnjojafaieoaaCtSame
namespace Go.Proofs.Ytlbnjojafaieoaa
open Go.RowKit
set_option linter.unusedVariables false
attribute [local irreducible] tim vld bar cnt okB capU allB vldC eqK newC eraC dmgC wriC freeC marksC readC liC liB dmN
set_option maxRecDepth 100000 in
set_option maxHeartbeats 8000000 in
theorem law_writes (c : Crt) (ad : Option Addr) (cap : Nat) (a : Int) (zd : Option Addr) (zc : Nat) (z : List Blk) (w : World) (hin : CrIn w c ad cap) (hz : Ki w zd z) (hzm : z.length ≤ zc ∧ zc ≤ maxLen) (hznil : zd = none → zc = 0) (a0 : -9223372036854775808 ≤ a) (a1 : a ≤ 9223372036854775807) :
    Calls Try.prog 4 #[crV c ad cap, .int .i64 a, .slice zd z.length zc] w fun e w' => e = .returned (.bool true) ∧ Below w.heap.size w w' := by
  have HIN := Lib.hid hin
  have HZI := Lib.hid hz
  have HZL := Lib.hid hznil
  clear hin hz hznil hzm
  obtain ⟨M, hM⟩ : ∃ M, M = c.l.length := ⟨_, rfl⟩
  obtain ⟨zn, hzn⟩ : ∃ zn, zn = z.length := ⟨_, rfl⟩
  show Calls Try.prog 4 #[crW c.bc c.W c.L c.S c.T c.J c.R c.wo c.lk ad c.l.length cap c.ep c.lo c.pa, .int .i64 a, .slice zd z.length zc] w _
  have HM := Lib.hid hM
  have HZN := Lib.hid hzn
  rw [← hM, ← hzn]
  clear hM hzn
  obtain ⟨res, hres⟩ : ∃ res, res = wriC (vldC c) c a z := ⟨_, rfl⟩
  obtain ⟨d, er⟩ := res
  have hdl : d.l.length ≤ c.l.length + z.length := by rw [show d = (wriC (vldC c) c a z).1 by rw [← hres]]; exact wriC_len _ _ _ _
  obtain ⟨D, hD⟩ : ∃ D, D = d.l.length := ⟨_, rfl⟩
  have HDL := Lib.hid hdl
  have HRES := Lib.hid hres
  have HD := Lib.hid hD
  clear hres hdl hD
  have HB0 := Lib.hid (below_box1 w (boxX c ad M cap))
  have HC := Lib.hid (AtX.new w c ad M cap)
  go_enter Try.func4, Try.ntmps4
  go_wp2_with fail
  generalize World.alloc _ _ = X0 at *
  replace HIN := Lib.hid (HIN.out.below HB0.out)
  replace HZI := Lib.hid (HZI.out.below HB0.out)
  refine (light_m HM.out X0 HIN.out).mono ?_
  have HLI := Lib.hid (@liC_iff c)
  generalize liC c = li at *
  rintro e w1 ⟨rfl, hb⟩
  have HB1 := Lib.hid (HB0.out.trans (hb.mono HB0.out.size))
  have HC1 := Lib.hid (HC.out.below hb HC.out.lt)
  have HI1 := Lib.hid (HIN.out.below hb)
  have HZ1 := Lib.hid (HZI.out.below hb)
  clear hb HB0 HC HIN HZI
  cases li
  · go_wp2_with fail
    refine (awake_any _).mono ?_
    rintro e w3 ⟨rfl, hb⟩
    have HB3 := Lib.hid (HB1.out.trans (hb.mono HB1.out.size))
    clear hb
    go_wp2
    go_ret
    exact ⟨rfl, HB3.out⟩
  go_wp2_with fail
  refine (lib_any zd zn zc z w1 HZ1.out HZN.out).mono ?_
  have HLB := Lib.hid (fun h => (@liB_iff z).1 h)
  generalize liB z = lb at *
  rintro e w2 ⟨rfl, hb⟩
  replace HB1 := Lib.hid (HB1.out.trans (hb.mono HB1.out.size))
  replace HC1 := Lib.hid (HC1.out.below hb HC1.out.lt)
  replace HI1 := Lib.hid (HI1.out.below hb)
  replace HZ1 := Lib.hid (HZ1.out.below hb)
  clear hb
  cases lb
  · go_wp2_with fail
    refine (awake_any _).mono ?_
    rintro e w3 ⟨rfl, hb⟩
    have HB3 := Lib.hid (HB1.out.trans (hb.mono HB1.out.size))
    clear hb
    go_wp2
    go_ret
    exact ⟨rfl, HB3.out⟩
  have HMS := Lib.hid (show M ≤ 4096 by have := (HLI.out (by simp)).1; have := HM.out; omega)
  have HSM := Lib.hid (show ∀ b ∈ c.l, b.d.length ≤ 10000 from fun b hb => by have := (HLI.out (by simp)).2.1 b hb; omega)
  have HZS := Lib.hid (show zn ≤ 100000 by have := (HLB.out (by simp)).1; have := HZN.out; omega)
  have HDS := Lib.hid (show D ≤ 100000 by have := (HLB.out (by simp)).1; have := HD.out; have := (HLI.out (by simp)).1; have := HDL.out; omega)
  obtain ⟨_, k0, k1, k2, k3, k4, k5, k6, k7, k8, k9, k10, k11, k12⟩ := HC1.out
  go_wp2_with fail
  clear k0 k1 k2 k3 k4 k5 k6 k7 k8 k9 k10 k11 k12
  refine (rcopied_any ad M cap c.l w2 HI1.out.ki HM.out HMS.out HSM.out).mono ?_
  rintro e w3 ⟨v7, rfl, hk7, hb⟩
  obtain ⟨ad7, cap7, rfl, hx7, -⟩ := hk7.read
  rw [← HM.out]
  have HK7 := Lib.hid hx7.ki
  have HB3 := Lib.hid (HB1.out.trans (hb.mono HB1.out.size))
  have HC3 := Lib.hid (HC1.out.below hb HC1.out.lt)
  have HI3 := Lib.hid (HI1.out.below hb)
  have HZ3 := Lib.hid (HZ1.out.below hb)
  clear hb hk7 hx7 HB1 HC1 HI1 HZ1
  obtain ⟨_, k0, k1, k2, k3, k4, k5, k6, k7, k8, k9, k10, k11, k12⟩ := HC3.out
  go_wp2_with fail
  clear k0 k1 k2 k3 k4 k5 k6 k7 k8 k9 k10 k11 k12
  refine (write_m HM.out w3 HI3.out HD.out HZ3.out HZN.out HZS.out HZL.out a0 a1 HRES.out).mono ?_
  rintro e w4 ⟨ad5, cap5, rfl, hin5, hb⟩
  have hb2 := hb.alloc hb.size (boxX d ad5 D cap5)
  have HI5 := Lib.hid (hin5.below (below_boxC w4 (boxX d ad5 D cap5)))
  have HE5 := Lib.hid (AtX.new w4 d ad5 D cap5)
  have HC4 := Lib.hid (HC3.out.below hb2 HC3.out.lt)
  have HI4 := Lib.hid (HI3.out.below hb2)
  have HZ4 := Lib.hid (HZ3.out.below hb2)
  have HK4 := Lib.hid (HK7.out.below hb2)
  have HB4 := Lib.hid (HB3.out.trans (hb2.mono HB3.out.size))
  clear hb hb2 hin5 HB3 HC3 HI3 HZ3 HK7
  obtain ⟨_, k0, k1, k2, k3, k4, k5, k6, k7, k8, k9, k10, k11, k12⟩ := HC4.out
  go_wp2_with fail
  clear k0 k1 k2 k3 k4 k5 k6 k7 k8 k9 k10 k11 k12
  generalize World.alloc w4 _ = X4 at HI5 HE5 HC4 HI4 HZ4 HK4 HB4 ⊢
  refine (rwrite_m HM.out X4 HI4.out HD.out HZ4.out HZN.out HZS.out a0 a1 HRES.out).mono ?_
  rintro e w5 ⟨ad6, cap6, rfl, hin6, hb⟩
  have hb2 := hb.alloc hb.size (boxX d ad6 D cap6)
  have HI6 := Lib.hid (hin6.below (below_boxC w5 (boxX d ad6 D cap6)))
  have HE6 := Lib.hid (AtX.new w5 d ad6 D cap6)
  have HC5 := Lib.hid (HC4.out.below hb2 HC4.out.lt)
  have HIC5 := Lib.hid (HI4.out.below hb2)
  have HI55 := Lib.hid (HI5.out.below hb2)
  have HE55 := Lib.hid (HE5.out.below hb2 HE5.out.lt)
  have HK5 := Lib.hid (HK4.out.below hb2)
  have HB5 := Lib.hid (HB4.out.trans (hb2.mono HB4.out.size))
  clear hb hb2 hin6 HB4 HC4 HI4 HI5 HE5 HZ4 HK4
  have hee : (er == er) = true := by simp
  obtain ⟨_, k0, k1, k2, k3, k4, k5, k6, k7, k8, k9, k10, k11, k12⟩ := HE55.out
  go_wp2_with fail
  clear k0 k1 k2 k3 k4 k5 k6 k7 k8 k9 k10 k11 k12
  generalize World.alloc w5 _ = X5 at HI6 HE6 HC5 HIC5 HI55 HE55 HK5 HB5 ⊢
  refine (same_m HD.out X5 HI55.out HI6.out HDS.out).mono ?_
  rintro e w6 ⟨rfl, hb⟩
  have HB6 := Lib.hid (HB5.out.trans (hb.mono HB5.out.size))
  have HK6 := Lib.hid (HK5.out.below hb)
  have HIC6 := Lib.hid (HIC5.out.below hb)
  obtain ⟨_, k0, k1, k2, k3, k4, k5, k6, k7, k8, k9, k10, k11, k12⟩ := HC5.out.below hb HC5.out.lt
  clear hb
  have HE := Lib.hid (eqK_yes (rfl : c.l = c.l))
  go_wp2_with fail
  clear k0 k1 k2 k3 k4 k5 k6 k7 k8 k9 k10 k11 k12
  refine (rsame_any ad ad7 M M cap cap7 c.l c.l w6 HIC6.out.ki HK6.out HM.out HM.out (by have := HMS.out; omega)).mono ?_
  rw [HE.out]
  rintro e w7 ⟨rfl, hb⟩
  have HB7 := Lib.hid (HB6.out.trans (hb.mono HB6.out.size))
  clear hb
  go_wp2_with fail
  refine (awake_any _).mono ?_
  rintro e w8 ⟨rfl, hb⟩
  have HB8 := Lib.hid (HB7.out.trans (hb.mono HB7.out.size))
  clear hb
  go_wp2
  go_ret
  exact ⟨rfl, HB8.out⟩
theorem sp_start (w : World) (o : Obj) (f n : Int) : SpAt ((w.alloc o).alloc (.cells #[.int .i64 f, .int .i64 n] 40)) (w.heap.size + 1) f n := by
  have := SpAt.new (w.alloc o) f n 40
  rwa [World.size_alloc] at this
set_option maxRecDepth 100000 in
set_option maxHeartbeats 8000000 in
theorem law_reads (c : Crt) (ad : Option Addr) (cap : Nat) (f n m : Int) (w : World) (hin : CrIn w c ad cap) (f1 : f ≤ 9223372036854775807) (n1 : n ≤ 9223372036854775807) (m1 : m ≤ 9223372036854775807) :
    Calls Try.prog 5 #[crV c ad cap, .agg #[.int .i64 f, .int .i64 n], .int .i64 m] w fun e w' => e = .returned (.bool true) ∧ Below w.heap.size w w' := by
  have HIN := Lib.hid hin
  clear hin
  obtain ⟨M, hM⟩ : ∃ M, M = c.l.length := ⟨_, rfl⟩
  show Calls Try.prog 5 #[crW c.bc c.W c.L c.S c.T c.J c.R c.wo c.lk ad c.l.length cap c.ep c.lo c.pa, .agg #[.int .i64 f, .int .i64 n], .int .i64 m] w _
  have HM := Lib.hid hM
  rw [← hM]
  clear hM
  have HB0 := Lib.hid (below_box2 w (boxX c ad M cap) (.cells #[.int .i64 f, .int .i64 n] 40))
  have HC := Lib.hid ((AtX.new w c ad M cap).alloc (.cells #[.int .i64 f, .int .i64 n] 40))
  have HP := Lib.hid (sp_start w (boxX c ad M cap) f n)
  go_enter Try.func5, Try.ntmps5
  go_wp2_with fail
  generalize World.alloc _ _ = X0 at *
  replace HIN := Lib.hid (HIN.out.below HB0.out)
  refine (light_m HM.out X0 HIN.out).mono ?_
  have HLI := Lib.hid (@liC_iff c)
  generalize liC c = li at *
  rintro e w1 ⟨rfl, hb⟩
  have HB1 := Lib.hid (HB0.out.trans (hb.mono HB0.out.size))
  have HC1 := Lib.hid (HC.out.below hb HC.out.lt)
  have HP1 := Lib.hid (HP.out.below hb HP.out.lt)
  have HI1 := Lib.hid (HIN.out.below hb)
  clear hb HB0 HC HIN HP
  cases li
  · go_wp2_with fail
    refine (awake_any _).mono ?_
    rintro e w3 ⟨rfl, hb⟩
    have HB3 := Lib.hid (HB1.out.trans (hb.mono HB1.out.size))
    clear hb
    go_wp2
    go_ret
    exact ⟨rfl, HB3.out⟩
  have HMS := Lib.hid (show M ≤ 300 by have := (HLI.out (by simp)).1; have := HM.out; omega)
  have HRL : Hid ((readC (vldC c) c.l f n).1.length ≤ 100000) := Lib.hid (by
    have h1 : c.l.length ≤ 300 := by have := HMS.out; have := HM.out; omega
    unfold readC
    split
    · split
      · exact Nat.zero_le _
      · have := rdk_len (c.l.drop f.toNat) n.toNat
        rw [List.length_drop] at this
        omega
    · exact Nat.zero_le _)
  have HX1 := Lib.hid (fun X (h : CrIn X c ad cap) => read_m HM.out X h f1 n1)
  have HX2 := Lib.hid (fun X (h : CrIn X c ad cap) => rread_m HM.out X h f1 n1)
  have HX3 := Lib.hid (fun X (h : CrIn X c ad cap) => marks_m (a := f) (n := m) HM.out X h (by have := HMS.out; omega) m1)
  have HX4 := Lib.hid (fun X (h : CrIn X c ad cap) => rmarks_m (a := f) (n := m) HM.out X h (by have := HMS.out; omega) m1)
  generalize readC (vldC c) c.l f n = res at *
  obtain ⟨o, er⟩ := res
  generalize marksC (vldC c) c.l f m = res2 at *
  obtain ⟨mk, er2⟩ := res2
  obtain ⟨O, hO⟩ : ∃ O, O = o.length := ⟨_, rfl⟩
  have HO := Lib.hid hO
  have HE := Lib.hid (eqK_yes (rfl : o = o))
  have hee : (er == er) = true := by simp
  have hee2 : (er2 == er2) = true := by simp
  have hmm : (mk == mk) = true := by simp
  simp only at HRL HX3 HX4
  clear hO
  obtain ⟨_, k0, k1, k2, k3, k4, k5, k6, k7, k8, k9, k10, k11, k12⟩ := HC1.out
  obtain ⟨_, p0, p1⟩ := HP1.out
  go_wp2_with fail
  clear k0 k1 k2 k3 k4 k5 k6 k7 k8 k9 k10 k11 k12 p0 p1
  refine (HX1.out w1 HI1.out).mono ?_
  rintro e w2 ⟨v7, rfl, hk7, hb⟩
  obtain ⟨ad7, cap7, rfl, hx7, -⟩ := hk7.read
  rw [← HO.out]
  have HK2 := Lib.hid hx7.ki
  have HB2 := Lib.hid (HB1.out.trans (hb.mono HB1.out.size))
  have HC2 := Lib.hid (HC1.out.below hb HC1.out.lt)
  have HP2 := Lib.hid (HP1.out.below hb HP1.out.lt)
  have HI2 := Lib.hid (HI1.out.below hb)
  clear hb hk7 hx7 HB1 HC1 HP1 HI1
  obtain ⟨_, k0, k1, k2, k3, k4, k5, k6, k7, k8, k9, k10, k11, k12⟩ := HC2.out
  obtain ⟨_, p0, p1⟩ := HP2.out
  go_wp2_with fail
  clear k0 k1 k2 k3 k4 k5 k6 k7 k8 k9 k10 k11 k12 p0 p1
  refine (HX2.out w2 HI2.out).mono ?_
  rintro e w3 ⟨v9, rfl, hk9, hb⟩
  obtain ⟨ad9, cap9, rfl, hx9, -⟩ := hk9.read
  rw [← HO.out]
  have HK9 := Lib.hid hx9.ki
  have HK3 := Lib.hid (HK2.out.below hb)
  have HB3 := Lib.hid (HB2.out.trans (hb.mono HB2.out.size))
  have HC3 := Lib.hid (HC2.out.below hb HC2.out.lt)
  have HP3 := Lib.hid (HP2.out.below hb HP2.out.lt)
  have HI3 := Lib.hid (HI2.out.below hb)
  clear hb hk9 hx9 HB2 HC2 HP2 HI2 HK2
  obtain ⟨_, k0, k1, k2, k3, k4, k5, k6, k7, k8, k9, k10, k11, k12⟩ := HC3.out
  obtain ⟨_, p0, p1⟩ := HP3.out
  go_wp2_with fail
  clear k0 k1 k2 k3 k4 k5 k6 k7 k8 k9 k10 k11 k12 p0 p1
  refine (HX3.out w3 HI3.out).mono ?_
  rintro e w4 ⟨rfl, hb⟩
  have HK4 := Lib.hid (HK3.out.below hb)
  have HK94 := Lib.hid (HK9.out.below hb)
  have HB4 := Lib.hid (HB3.out.trans (hb.mono HB3.out.size))
  have HC4 := Lib.hid (HC3.out.below hb HC3.out.lt)
  have HP4 := Lib.hid (HP3.out.below hb HP3.out.lt)
  have HI4 := Lib.hid (HI3.out.below hb)
  clear hb HB3 HC3 HP3 HI3 HK3 HK9
  obtain ⟨_, k0, k1, k2, k3, k4, k5, k6, k7, k8, k9, k10, k11, k12⟩ := HC4.out
  obtain ⟨_, p0, p1⟩ := HP4.out
  go_wp2_with fail
  clear k0 k1 k2 k3 k4 k5 k6 k7 k8 k9 k10 k11 k12 p0 p1
  refine (HX4.out w4 HI4.out).mono ?_
  rintro e w5 ⟨rfl, hb⟩
  have HK5 := Lib.hid (HK4.out.below hb)
  have HK95 := Lib.hid (HK94.out.below hb)
  have HB5 := Lib.hid (HB4.out.trans (hb.mono HB4.out.size))
  clear hb HB4 HC4 HP4 HI4 HK4 HK94
  go_wp2_with fail
  refine (rsame_any ad7 ad9 O O cap7 cap9 o o w5 HK5.out HK95.out HO.out HO.out (by have := HRL.out; have := HO.out; omega)).mono ?_
  rw [HE.out]
  rintro e w6 ⟨rfl, hb⟩
  have HB6 := Lib.hid (HB5.out.trans (hb.mono HB5.out.size))
  clear hb
  go_wp2_with fail
  refine (awake_any _).mono ?_
  rintro e w8 ⟨rfl, hb⟩
  have HB8 := Lib.hid (HB6.out.trans (hb.mono HB6.out.size))
  clear hb
  go_wp2
  go_ret
  exact ⟨rfl, HB8.out⟩
end Go.Proofs.Ytlbnjojafaieoaa
