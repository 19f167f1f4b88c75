/-
  The program's checkWrite: the error of Write.
  The program's withBlocks: a cartridge with copies of given blocks.
  The program's Write.
-/
import Derived.Test.YtepmmlnopdjjdaaCtWrite
import Derived.Test.YtepmmlnopdjjdaaQVld
import Derived.Test.YtepmmlnopdjjdaaQCop
namespace Go.Proofs.Ytepmmlnopdjjdaa
open Go.RowKit
set_option linter.unusedVariables false
set_option maxRecDepth 100000
theorem unfit_math (z : List Blk) : z.all okW = !anyI pUnfit z := by
  rw [anyI_eq, List.not_any_eq_all_not]
  congr 1
  funext b
  unfold okW pUnfit
  cases okB b.m b.d.length <;> cases b.bad <;> rfl
attribute [local irreducible] tim vld bar cnt okB capU allB vldC eqK okW anyI fixI
set_option maxRecDepth 100000 in
set_option maxHeartbeats 8000000 in
theorem checkw_any (c : Crt) (ad : Option Addr) (cap : Nat) (a : Int) (zd : Option Addr) (zn zc : Nat) (z : List Blk) (w : World) (hin : CrIn w c ad cap) (hz : Ki w zd z) (hzn : zn = z.length) (hzs : zn ≤ 100000) (a0 : -9223372036854775808 ≤ a) (a1 : a ≤ 9223372036854775807) :
    Calls Try.prog 74 #[crV c ad cap, .int .i64 a, .slice zd zn zc] w fun e w' => e = .returned (.int .i64 (wriC (vldC c) c a z).2) ∧ Below w.heap.size w w' := by
  have HVX := Lib.hid (fun X (h : Below w.heap.size w X) => valc_any c ad cap X (hin.below h))
  have HCO := Lib.hid (fun X (h : Below w.heap.size w X) => contains_any _ pUnfit says_unfit zd zn zc z X (hz.below h) hzn (by omega))
  have HU := Lib.hid (unfit_math z)
  have HZN := Lib.hid hzn
  have hlm : c.l.length ≤ 9223372036854775807 := Nat.le_trans hin.le hin.mx
  clear hin hz hzn
  have HW1 := Lib.hid (show (wriC false c a z).2 = 8 from rfl)
  have HW2 : Hid (z.all okW = false → (wriC true c a z).2 = 8) := Lib.hid fun h => by unfold wriC; rw [if_pos rfl, if_neg (by rw [h]; simp)]
  have HW3 : Hid (z.all okW = true → c.lk = true → (wriC true c a z).2 = 17) := Lib.hid fun h h2 => by unfold wriC; rw [if_pos rfl, if_pos h, if_pos h2]
  have HW4 : Hid (z.all okW = true → c.lk = false → (a < 0 ∨ (c.l.length : Int) < a) → (wriC true c a z).2 = 7) := Lib.hid fun h h2 h3 => by unfold wriC; rw [if_pos rfl, if_pos h, if_neg (by rw [h2]; simp), if_pos h3]
  have HW5 : Hid (z.all okW = true → c.lk = false → ¬ (a < 0 ∨ (c.l.length : Int) < a) → c.wo = true → a < (c.l.length : Int) → (wriC true c a z).2 = 17) := Lib.hid fun h h2 h3 h4 h5 => by unfold wriC; rw [if_pos rfl, if_pos h, if_neg (by rw [h2]; simp), if_neg h3, if_pos ⟨h4, h5⟩]
  have HW6 : Hid (z.all okW = true → c.lk = false → ¬ (a < 0 ∨ (c.l.length : Int) < a) → ¬ (c.wo = true ∧ a < (c.l.length : Int)) → capU c.W c.L c.S c.T c.J c.R - a < (z.length : Int) → (wriC true c a z).2 = 12) := Lib.hid fun h h2 h3 h4 h5 => by unfold wriC; rw [if_pos rfl, if_pos h, if_neg (by rw [h2]; simp), if_neg h3, if_neg h4, if_pos h5]
  have HW7 : Hid (z.all okW = true → c.lk = false → ¬ (a < 0 ∨ (c.l.length : Int) < a) → ¬ (c.wo = true ∧ a < (c.l.length : Int)) → ¬ capU c.W c.L c.S c.T c.J c.R - a < (z.length : Int) → (wriC true c a z).2 = 0) := Lib.hid fun h h2 h3 h4 h5 => by unfold wriC; rw [if_pos rfl, if_pos h, if_neg (by rw [h2]; simp), if_neg h3, if_neg h4, if_neg h5]
  obtain ⟨bc, W, L, S, T, J, R, wo, lk, l, ep, lo, pa⟩ := c
  simp only at HW3 HW4 HW5 HW6 HW7 hlm
  generalize vldC ⟨bc, W, L, S, T, J, R, wo, lk, l, ep, lo, pa⟩ = vv at *
  obtain ⟨M, hM⟩ : ∃ M, M = l.length := ⟨_, rfl⟩
  show Calls Try.prog 74 #[crW bc W L S T J R wo lk ad l.length cap ep lo pa, .int .i64 a, .slice zd zn zc] w _
  have HX2 : Hid (∀ X, Below w.heap.size w X → Calls Try.prog 38 #[crW bc W L S T J R wo lk ad M cap ep lo pa] X fun e w' => e = .returned (.bool vv) ∧ Below X.heap.size X w') := Lib.hid (by rw [hM]; exact HVX.out)
  clear HVX
  rw [← hM] at hlm HW4 HW5 HW6 HW7 ⊢
  rw [← HZN.out] at HW6 HW7
  rw [HU.out] at HW2 HW3 HW4 HW5 HW6 HW7
  generalize anyI pUnfit z = uf at *
  clear hM HU HZN
  obtain ⟨c0, c1⟩ := capU_bd W L S T J R
  have HB0 := Lib.hid (below_box1 w (boxK bc W L S T J R wo lk ad M cap ep lo pa))
  have HC := Lib.hid (CrAt.new w bc W L S T J R wo lk ad M cap ep lo pa 30)
  go_enter Try.func74, Try.ntmps74
  go_wp2_with fail
  generalize World.alloc _ _ = X0 at *
  obtain ⟨_, k0, k1, k2, k3, k4, k5, k6, k7, k8, k9, k10, k11, k12⟩ := HC.out
  go_wp2_with fail
  clear k0 k1 k2 k3 k4 k5 k6 k7 k8 k9 k10 k11 k12
  refine (HX2.out X0 HB0.out).mono ?_
  rintro e w1 ⟨rfl, hb⟩
  have HB1 := Lib.hid (HB0.out.trans (hb.mono HB0.out.size))
  replace HC := Lib.hid (HC.out.below hb HC.out.lt)
  clear hb
  cases vv
  · go_wp2
    go_ret
    exact ⟨by rw [HW1.out]; rfl, HB1.out⟩
  go_wp2_with fail
  refine (HCO.out w1 HB1.out).mono ?_
  rintro e w2 ⟨rfl, hb⟩
  replace HB1 := Lib.hid (HB1.out.trans (hb.mono HB1.out.size))
  replace HC := Lib.hid (HC.out.below hb HC.out.lt)
  clear hb
  obtain ⟨_, k0, k1, k2, k3, k4, k5, k6, k7, k8, k9, k10, k11, k12⟩ := HC.out
  cases uf
  rotate_left
  · go_wp2
    go_ret
    exact ⟨by rw [HW2.out rfl]; rfl, HB1.out⟩
  cases lk
  rotate_left
  · go_wp2
    go_ret
    exact ⟨by rw [HW3.out (by simp) (by simp)]; rfl, HB1.out⟩
  by_cases h1 : a < 0
  · have HR := Lib.hid (HW4.out rfl rfl (.inl h1))
    go_wp2
    go_ret
    exact ⟨by rw [HR.out]; rfl, HB1.out⟩
  by_cases h2 : (M : Int) < a
  · have HR := Lib.hid (HW4.out rfl rfl (.inr h2))
    go_wp2
    go_ret
    exact ⟨by rw [HR.out]; rfl, HB1.out⟩
  have hnr : ¬ (a < 0 ∨ (M : Int) < a) := by omega
  have h3 : 0 ≤ a := by omega
  have h4 : a ≤ (M : Int) := by omega
  have hfull : ∀ HWO : Hid (¬ (wo = true ∧ a < (M : Int))), Hid (capU W L S T J R - a < (zn : Int) → (wriC true ⟨bc, W, L, S, T, J, R, wo, false, l, ep, lo, pa⟩ a z).2 = 12) ∧ Hid (¬ capU W L S T J R - a < (zn : Int) → (wriC true ⟨bc, W, L, S, T, J, R, wo, false, l, ep, lo, pa⟩ a z).2 = 0) :=
    fun HWO => ⟨Lib.hid (HW6.out rfl rfl hnr HWO.out), Lib.hid (fun h => HW7.out rfl rfl hnr HWO.out (by omega))⟩
  have hprot : wo = true → a < (M : Int) → Hid ((wriC true ⟨bc, W, L, S, T, J, R, wo, false, l, ep, lo, pa⟩ a z).2 = 17) := fun g1 g2 => Lib.hid (HW5.out rfl rfl hnr g1 g2)
  clear HW1 HW2 HW3 HW4 HW5 HW6 HW7 hnr h1 h2
  by_cases hcap : capU W L S T J R - a < (zn : Int)
  all_goals
    cases wo
    · obtain ⟨HF, HO⟩ := hfull (Lib.hid (by simp))
      clear hfull hprot
      go_wp2_with fail
      refine (capacity_any W L S T J R _).mono ?_
      rintro e w3 ⟨rfl, hb⟩
      replace HB1 := Lib.hid (HB1.out.trans (hb.mono HB1.out.size))
      clear hb k0 k1 k2 k3 k4 k5 k6 k7 k8 k9 k10 k11 k12
      go_wp2
      go_ret
      exact ⟨by first | (rw [HF.out hcap]; rfl) | (rw [HO.out hcap]; rfl), HB1.out⟩
    · by_cases h5 : a < (M : Int)
      · have HR := hprot rfl h5
        clear hfull hprot
        go_wp2
        go_ret
        exact ⟨by rw [HR.out]; rfl, HB1.out⟩
      · obtain ⟨HF, HO⟩ := hfull (Lib.hid (fun h => h5 h.2))
        clear hfull hprot
        go_wp2_with fail
        refine (capacity_any W L S T J R _).mono ?_
        rintro e w3 ⟨rfl, hb⟩
        replace HB1 := Lib.hid (HB1.out.trans (hb.mono HB1.out.size))
        clear hb k0 k1 k2 k3 k4 k5 k6 k7 k8 k9 k10 k11 k12
        go_wp2
        go_ret
        exact ⟨by first | (rw [HF.out hcap]; rfl) | (rw [HO.out hcap]; rfl), HB1.out⟩
end Go.Proofs.Ytepmmlnopdjjdaa
namespace Go.Proofs.Ytepmmlnopdjjdaa
open Go.RowKit
set_option linter.unusedVariables false
/-- a call hands back a cartridge whose blocks are of the call's own -/
def RetW (w : World) (bc : ByteArray) (W L S T J R : Int) (wo lk : Bool) (l : List Blk) (ep lo pa : Int) (e : Ending) (w' : World) : Prop :=
  ∃ ad n cap, e = .returned (crW bc W L S T J R wo lk ad n cap ep lo pa) ∧ n = l.length ∧ Kq w' w.heap.size w.heap.size (.slice ad n cap) l ∧ Below w.heap.size w w'
theorem with_end {w wr w3 : World} {bc : ByteArray} {W L S T J R : Int} {wo lk : Bool} {ad : Option Addr} {n cap : Nat} {ep lo pa : Int} (HW : Way w wr bc W L S T J R wo lk ad n cap ep lo pa) (h3 : w.heap.size + 2 ≤ w3.heap.size)
    {ad5 : Option Addr} {m cap5 : Nat} {l : List Blk} (hK : Kq wr w3.heap.size w3.heap.size (.slice ad5 m cap5) l) (hm : m = l.length) :
    RetW w bc W L S T J R wo lk l ep lo pa (.returned (.agg (crK bc W L S T J R wo lk ad5 m cap5 ep lo pa))) ((wr.setCell ⟨w.heap.size, 9, none⟩ (.slice ad5 m cap5)).setRow (w.heap.size + 1) (crK bc W L S T J R wo lk ad5 m cap5 ep lo pa)) := by
  have hk2 := hK.keep (w' := (wr.setCell ⟨w.heap.size, 9, none⟩ (.slice ad5 m cap5)).setRow (w.heap.size + 1) (crK bc W L S T J R wo lk ad5 m cap5 ep lo pa)) (fun k hk _ => by
    rw [setRow_other _ _ _ _ (by omega), Below.heap_setCell _ _ _ _ (by show k ≠ w.heap.size; omega)]) (by simp [World.setRow, World.setCell])
  exact ⟨ad5, m, cap5, rfl, hm, hk2.mono (by omega) (by omega), below_set (HW.b.setCell (Nat.le_refl _) _) (by omega) _⟩
set_option maxRecDepth 100000 in
set_option maxHeartbeats 4000000 in
theorem with_any (bc : ByteArray) (W L S T J R : Int) (wo lk : Bool) (ad : Option Addr) (n cap : Nat) (ep lo pa : Int) (zd : Option Addr) (zn zc : Nat) (z : List Blk) (w : World) (hz : Ki w zd z) (hzn : zn = z.length) (hs : zn ≤ 4096) (hd : ∀ b ∈ z, b.d.length ≤ 10000) (hnil : zd = none → zc = 0) :
    Calls Try.prog 75 #[crW bc W L S T J R wo lk ad n cap ep lo pa, .slice zd zn zc] w fun e w' => RetW w bc W L S T J R wo lk z ep lo pa e w' := by
  have HX := Lib.hid (fun X (h : Below w.heap.size w X) => copied_any zd zn zc z X (hz.below h) hzn hs hd hnil)
  have HZN := Lib.hid hzn
  clear hz hzn hd hnil
  have HW := Lib.hid (Way.start w bc W L S T J R wo lk ad n cap ep lo pa)
  go_enter Try.func75, Try.ntmps75
  go_wp2_with fail
  generalize World.alloc _ _ = X0 at *
  refine (HX.out X0 HW.out.b).mono ?_
  rintro e w3 ⟨v5, rfl, hk5, hb⟩
  have HS := Lib.hid HW.out.s
  replace HW := Lib.hid (HW.out.next hb)
  obtain ⟨ad5, cap5, rfl, -, -, -, -, -⟩ := hk5.read
  rw [← HZN.out] at hk5 ⊢
  have HK5 := Lib.hid hk5
  obtain ⟨_, k0, k1, k2, k3, k4, k5, k6, k7, k8, k9, k10, k11, k12⟩ := HW.out.c.at_
  have f9 := HW.out.c.frozen 9
  have HZ : Hid ((w3.setCell ⟨w.heap.size, 9, none⟩ (.slice ad5 zn cap5)).heap[w.heap.size + 1]? = some (.cells (crK ⟨#[]⟩ 0 0 0 0 0 0 false false none 0 0 0 0 0) 30 (0, 0))) := Lib.hid (by
    rw [Below.heap_setCell _ _ _ _ (by show w.heap.size + 1 ≠ w.heap.size; omega)]
    exact HW.out.z)
  clear hk5 hb
  go_wp2_with (with_reducible refine wpList_store_cr rfl (.tmp 4) (.tmp 8) rfl (w.heap.size + 1) rfl _ _ _ _ _ _ _ _ _ _ _ _ _ _ _ rfl _ _ _ _ _ _ _ _ _ _ _ _ _ _ _ HZ.out ?_)
  refine post_cellD rfl rfl (setRow_heap _ _ _ _ _ _ HZ.out) Try.underlying30 rfl infoC rfl ?_
  exact with_end HW.out HS.out HK5.out HZN.out
end Go.Proofs.Ytepmmlnopdjjdaa
namespace Go.Proofs.Ytepmmlnopdjjdaa
open Go.RowKit
set_option linter.unusedVariables false
set_option maxRecDepth 100000
theorem Ki.take {w : World} {ad : Option Addr} {l : List Blk} (h : Ki w ad l) (n : Nat) : Ki w ad (l.take n) := by
  obtain ⟨E, rfl, h1, h2⟩ := h
  refine ⟨E.take n, by rw [List.map_take], ?_, fun k hk => h2 k (List.mem_of_mem_take hk)⟩
  rcases h1 with h0 | ⟨b, off, e, hlt, hc⟩
  · left
    have hE : E = [] := List.eq_nil_of_length_eq_zero (by have := cellsB_length E; rw [h0] at this; simp at this; omega)
    subst hE
    simp [cellsB]
  · refine .inr ⟨b, off, e, hlt, fun j u hu => hc j u ?_⟩
    rw [← cellsB_take] at hu
    have hj : j < n * 3 := by
      rcases Nat.lt_or_ge j (n * 3) with h | h
      · exact h
      · rw [List.getElem?_eq_none (by rw [List.length_take]; omega)] at hu; cases hu
    rwa [List.getElem?_take_of_lt hj] at hu
/-- the result of a write that fails -/
theorem wri_bad {v : Bool} {c : Crt} {a : Int} {z : List Blk} (h : (wriC v c a z).2 ≠ 0) : wriC v c a z = (crZ, (wriC v c a z).2) := by
  unfold wriC at h ⊢
  split <;> try rfl
  split <;> try rfl
  split <;> try rfl
  split <;> try rfl
  split <;> try rfl
  split <;> try rfl
  rename_i h1 h2 h3 h4 h5 h6
  rw [if_pos h1, if_pos h2, if_neg h3, if_neg h4, if_neg h5, if_neg h6] at h
  exact absurd rfl h
theorem wri_good {v : Bool} {c : Crt} {a : Int} {z : List Blk} (h : (wriC v c a z).2 = 0) : wriC v c a z = ({c with l := if z = [] then c.l else c.l.take a.toNat ++ z}, 0) ∧ v = true ∧ z.all okW = true ∧ 0 ≤ a ∧ a ≤ (c.l.length : Int) ∧ (z.length : Int) ≤ capU c.W c.L c.S c.T c.J c.R - a := by
  unfold wriC at h ⊢
  by_cases h1 : v = true
  · rw [if_pos h1] at h ⊢
    by_cases h2 : z.all okW = true
    · rw [if_pos h2] at h ⊢
      by_cases h3 : c.lk = true
      · rw [if_pos h3] at h; exact absurd h (by simp)
      · rw [if_neg h3] at h ⊢
        by_cases h4 : a < 0 ∨ (c.l.length : Int) < a
        · rw [if_pos h4] at h; exact absurd h (by simp)
        · rw [if_neg h4] at h ⊢
          by_cases h5 : c.wo = true ∧ a < (c.l.length : Int)
          · rw [if_pos h5] at h; exact absurd h (by simp)
          · rw [if_neg h5] at h ⊢
            by_cases h6 : capU c.W c.L c.S c.T c.J c.R - a < (z.length : Int)
            · rw [if_pos h6] at h; exact absurd h (by simp)
            · rw [if_neg h6]
              exact ⟨rfl, h1, h2, by omega, by omega, by omega⟩
    · rw [if_neg h2] at h; exact absurd h (by simp)
  · rw [if_neg h1] at h; exact absurd h (by simp)
/-- the end: what withBlocks handed back, in the result's box -/
theorem store_end {w X w3 : World} {bc : ByteArray} {W L S T J R : Int} {wo lk : Bool} {ep lo pa : Int} (hB : Below w.heap.size w w3) (hs : w.heap.size + 2 ≤ X.heap.size)
    {ad5 : Option Addr} {m cap5 : Nat} {l : List Blk} (hK : Kq w3 X.heap.size X.heap.size (.slice ad5 m cap5) l) (hm : m = l.length) (hbs : bc.size ≤ maxLen) :
    RetF w (⟨bc, W, L, S, T, J, R, wo, lk, l, ep, lo, pa⟩, 0) (.returned (.tuple #[.agg (crK bc W L S T J R wo lk ad5 m cap5 ep lo pa), .int .i64 0])) (w3.setRow (w.heap.size + 1) (crK bc W L S T J R wo lk ad5 m cap5 ep lo pa)) := by
  subst hm
  have hk2 := hK.keep (w' := w3.setRow (w.heap.size + 1) (crK bc W L S T J R wo lk ad5 l.length cap5 ep lo pa)) (fun k hk _ => by
    rw [setRow_other _ _ _ _ (by omega)]) (by simp [World.setRow])
  obtain ⟨ad6, cap6, e6, hx6, h61, h62, h63, _⟩ := hk2.read
  cases e6
  refine ⟨ad5, cap5, rfl, ⟨hx6.ki, h61, h62, h63, hbs⟩, fun Y hX hs => ?_, below_set hB (by omega) _⟩
  obtain ⟨ad7, cap7, e7, hx7, _⟩ := (hk2.keep (w' := Y) (fun k hk hlt => hX k (by omega) hlt) hs).read
  cases e7
  exact hx7.ki
attribute [local irreducible] tim vld bar cnt okB capU allB vldC eqK okW anyI fixI wriC
set_option maxRecDepth 100000 in
set_option maxHeartbeats 8000000 in
theorem write_any (c : Crt) (ad : Option Addr) (cap : Nat) (a : Int) (zd : Option Addr) (zn zc : Nat) (z : List Blk) (w : World) (hin : CrIn w c ad cap) (hz : Ki w zd z) (hzn : zn = z.length) (hzs : zn ≤ 100000) (hznil : zd = none → zc = 0) (a0 : -9223372036854775808 ≤ a) (a1 : a ≤ 9223372036854775807) :
    Calls Try.prog 46 #[crV c ad cap, .int .i64 a, .slice zd zn zc] w fun e w' => RetF w (wriC (vldC c) c a z) e w' := by
  have HCX := Lib.hid (fun X (h : Below w.heap.size w X) => checkw_any c ad cap a zd zn zc z X (hin.below h) (hz.below h) hzn hzs a0 a1)
  have HKI := Lib.hid hin.ki
  have hbs := hin.bs
  have hle := hin.le
  have hmx : cap ≤ 9223372036854775807 := hin.mx
  have HNN := Lib.hid hin.nn
  have HPT := Lib.hid (fun h => vldC_parts (c := c) h)
  have HZI := Lib.hid hz
  have HZN := Lib.hid hzn
  have HZL := Lib.hid hznil
  have HBAD := Lib.hid (fun h => wri_bad (v := vldC c) (c := c) (a := a) (z := z) h)
  have HGOOD := Lib.hid (fun h => wri_good (v := vldC c) (c := c) (a := a) (z := z) h)
  clear hin hz hzn hznil
  obtain ⟨bc, W, L, S, T, J, R, wo, lk, l, ep, lo, pa⟩ := c
  simp only at HKI HPT hbs hle HGOOD
  generalize wriC (vldC ⟨bc, W, L, S, T, J, R, wo, lk, l, ep, lo, pa⟩) ⟨bc, W, L, S, T, J, R, wo, lk, l, ep, lo, pa⟩ a z = res at *
  obtain ⟨r1, er⟩ := res
  simp only at HCX HBAD HGOOD
  generalize vldC ⟨bc, W, L, S, T, J, R, wo, lk, l, ep, lo, pa⟩ = vv at *
  obtain ⟨M, hM⟩ : ∃ M, M = l.length := ⟨_, rfl⟩
  show Calls Try.prog 46 #[crW bc W L S T J R wo lk ad l.length cap ep lo pa, .int .i64 a, .slice zd zn zc] w _
  have HX2 : Hid (∀ X, Below w.heap.size w X → Calls Try.prog 74 #[crW bc W L S T J R wo lk ad M cap ep lo pa, .int .i64 a, .slice zd zn zc] X fun e w' => e = .returned (.int .i64 er) ∧ Below X.heap.size X w') := Lib.hid (by rw [hM]; exact HCX.out)
  clear HCX
  have HM := Lib.hid hM
  rw [← hM] at hle ⊢
  clear hM
  have HW := Lib.hid (Way.start w bc W L S T J R wo lk ad M cap ep lo pa)
  go_enter Try.func46, Try.ntmps46
  go_wp2_with fail
  generalize World.alloc _ _ = X0 at *
  refine (HX2.out X0 HW.out.b).mono ?_
  rintro e w1 ⟨rfl, hb⟩
  replace HW := Lib.hid (HW.out.next hb)
  clear hb HX2
  by_cases her : er = 0
  rotate_left
  · have HR := Lib.hid (HBAD.out her)
    have hne : (er == 0) = false := by rw [beq_eq_false_iff_ne]; exact her
    clear HGOOD HBAD
    go_wp2_with (with_reducible refine wpList_store_cr rfl (.tmp 6) (.tmp 16) rfl (w.heap.size + 1) rfl _ _ _ _ _ _ _ _ _ _ _ _ _ _ _ rfl _ _ _ _ _ _ _ _ _ _ _ _ _ _ _ HW.out.z ?_)
    refine post_cellC rfl rfl (setRow_heap _ _ _ _ _ _ HW.out.z) Try.underlying30 rfl infoC rfl rfl ?_
    rw [HR.out]
    exact retZF (below_set HW.out.b (by omega) _)
  subst her
  obtain ⟨hres, hvv, hok, ha0, haM, hcp⟩ := HGOOD.out rfl
  obtain ⟨hv, hlen, hall, _⟩ := HPT.out hvv
  have hM2 : M ≤ 4096 := by have := HM.out; have := hv.c1; omega
  have HSM := Lib.hid (allB_small hall)
  have HSZ := Lib.hid (okW_small hok)
  have HRES := Lib.hid hres
  obtain ⟨c0, c1⟩ := capU_bd W L S T J R
  obtain ⟨A, rfl⟩ : ∃ A : Nat, a = A := ⟨a.toNat, by omega⟩
  have hAM : A ≤ M := by have := HM.out; omega
  have hAz : A + zn ≤ 4096 := by have := HZN.out; omega
  clear hv hlen hall HPT hvv hok hres HBAD HGOOD ha0 haM hcp c0 c1
  obtain ⟨_, k0, k1, k2, k3, k4, k5, k6, k7, k8, k9, k10, k11, k12⟩ := HW.out.c.at_
  by_cases hz0 : zn = 0
  · subst hz0
    have hz1 : z = [] := List.eq_nil_of_length_eq_zero HZN.out.symm
    have HR := Lib.hid (show (r1, (0 : Int)) = (⟨bc, W, L, S, T, J, R, wo, lk, l, ep, lo, pa⟩, 0) by rw [HRES.out, if_pos hz1])
    clear hz1 HRES
    go_wp2_with fail
    refine (with_any bc W L S T J R wo lk ad M cap ep lo pa ad M cap l w1 (HKI.out.below HW.out.b) HM.out hM2 HSM.out HNN.out).mono ?_
    rintro e w3 ⟨ad5, n5, cap5, rfl, hn5, hk5, hb⟩
    have HK5 := Lib.hid hk5
    have HN5 := Lib.hid hn5
    have HS := Lib.hid HW.out.s
    replace HW := Lib.hid (HW.out.next hb)
    clear hk5 hn5 hb k0 k1 k2 k3 k4 k5 k6 k7 k8 k9 k10 k11 k12
    go_wp2_with (with_reducible refine wpList_store_cr rfl (.tmp 6) (.tmp 31) rfl (w.heap.size + 1) rfl _ _ _ _ _ _ _ _ _ _ _ _ _ _ _ rfl _ _ _ _ _ _ _ _ _ _ _ _ _ _ _ HW.out.z ?_)
    refine post_cellC rfl rfl (setRow_heap _ _ _ _ _ _ HW.out.z) Try.underlying30 rfl infoC rfl rfl ?_
    rw [HR.out]
    exact store_end HW.out.b HS.out HK5.out HN5.out hbs
  have hzp : 0 < zn := by omega
  have hzp2 : 0 < (zn : Int) := by omega
  have hzne : z ≠ [] := fun h => by have := HZN.out; rw [h] at this; simp at this; omega
  have HR := Lib.hid (show (r1, (0 : Int)) = (⟨bc, W, L, S, T, J, R, wo, lk, l.take A ++ z, ep, lo, pa⟩, 0) by rw [HRES.out, if_neg hzne, Int.toNat_natCast])
  have HKT := Lib.hid ((HKI.out.below HW.out.b).take A)
  have HKZ := Lib.hid (HZI.out.below HW.out.b)
  have hAc : A ≤ cap := by omega
  have HAL := Lib.hid (show A = (l.take A).length by rw [List.length_take]; have := HM.out; omega)
  have HAN := Lib.hid (fun h : ad = none => show A = 0 by have := HNN.out h; omega)
  have hsum : A + zn ≤ 100000 := by omega
  have HSS := Lib.hid (show ∀ b ∈ l.take A ++ z, b.d.length ≤ 10000 from fun b hb => by
    rcases List.mem_append.1 hb with h | h
    · exact HSM.out b (List.mem_of_mem_take h)
    · exact HSZ.out b h)
  have HLL := Lib.hid (show (l.take A ++ z).length ≤ 4096 by rw [List.length_append, ← HAL.out, ← HZN.out]; exact hAz)
  clear hzne HRES hz0 HSM HSZ
  go_wp2_with (at_builtin; refine wpList_append_full rfl (.tmp 26) (.tmp 27) rfl ad A (l.take A) rfl HKT.out HAL.out HAN.out zd zn zc z rfl HKZ.out HZN.out hzp HZL.out hsum ?_; intro v4 w4 hk4 hb4; have HW4 := Lib.hid (HW.out.next hb4); obtain ⟨ad4, cap4, rfl, hx4, -, -, hn4, -⟩ := hk4.read; have HX4 := Lib.hid hx4.ki; have HN4 := Lib.hid hn4; obtain ⟨m4, hm4⟩ : ∃ m, m = (l.take A ++ z).length := ⟨_, rfl⟩; rw [← hm4]; have HM4 := Lib.hid hm4; clear k0 k1 k2 k3 k4 k5 k6 k7 k8 k9 k10 k11 k12; obtain ⟨_, k0, k1, k2, k3, k4, k5, k6, k7, k8, k9, k10, k11, k12⟩ := HW4.out.c.at_; clear hk4 hb4 hx4 hn4 hm4)
  refine (with_any bc W L S T J R wo lk ad M cap ep lo pa ad4 m4 cap4 (l.take A ++ z) w4 HX4.out HM4.out (by rw [HM4.out]; exact HLL.out) HSS.out HN4.out).mono ?_
  rintro e w3 ⟨ad5, n5, cap5, rfl, hn5, hk5, hb⟩
  have HK5 := Lib.hid hk5
  have HN5 := Lib.hid hn5
  have HS := Lib.hid HW4.out.s
  replace HW4 := Lib.hid (HW4.out.next hb)
  clear hk5 hn5 hb k0 k1 k2 k3 k4 k5 k6 k7 k8 k9 k10 k11 k12
  go_wp2_with (with_reducible refine wpList_store_cr rfl (.tmp 6) (.tmp 31) rfl (w.heap.size + 1) rfl _ _ _ _ _ _ _ _ _ _ _ _ _ _ _ rfl _ _ _ _ _ _ _ _ _ _ _ _ _ _ _ HW4.out.z ?_)
  refine post_cellC rfl rfl (setRow_heap _ _ _ _ _ _ HW4.out.z) Try.underlying30 rfl infoC rfl rfl ?_
  rw [HR.out]
  exact store_end HW4.out.b HS.out HK5.out HN5.out hbs
end Go.Proofs.Ytepmmlnopdjjdaa
