/-
  The specification's Write.
-/
import Derived.Test.YtepmmlnopdjjdaaQBox
namespace Go.Proofs.Ytepmmlnopdjjdaa
open Go.RowKit
set_option linter.unusedVariables false
/-- the block can be written -/
def okW (b : Blk) : Bool := okB b.m b.d.length && !b.bad
noncomputable def wriC (v : Bool) (c : Crt) (a : Int) (z : List Blk) : Crt × Int :=
  if v = true then (if z.all okW = true then (if c.lk = true then (crZ, 17) else (if a < 0 ∨ (c.l.length : Int) < a then (crZ, 7) else (if c.wo = true ∧ a < (c.l.length : Int) then (crZ, 17)
    else (if capU c.W c.L c.S c.T c.J c.R - a < (z.length : Int) then (crZ, 12) else ({c with l := if z = [] then c.l else c.l.take a.toNat ++ z}, 0))))) else (crZ, 8)) else (crZ, 8)
theorem okW_small {z : List Blk} (h : z.all okW = true) : ∀ b ∈ z, b.d.length ≤ 10000 := by
  intro b hb
  rw [List.all_eq_true] at h
  have := h b hb
  unfold okW okB at this
  rw [Bool.and_eq_true] at this
  by_cases hm : b.m = true
  · rw [if_pos hm, beq_iff_eq] at this; omega
  · rw [if_neg hm, Bool.and_eq_true, decide_eq_true_iff, decide_eq_true_iff] at this; omega
/-- the blocks lie where only blocks behind C are looked at -/
def Kfr (w : World) (C : Nat) (ad : Option Addr) (l : List Blk) : Prop := ∀ w' : World, (∀ k, C ≤ k → k < w.heap.size → w'.heap[k]? = w.heap[k]?) → w.heap.size ≤ w'.heap.size → Ki w' ad l
/-- a call hands back a cartridge whose blocks are new, and an error -/
def RetF (w : World) (r : Crt × Int) (e : Ending) (w' : World) : Prop := ∃ ad cap, e = .returned (.tuple #[crV r.1 ad cap, .int .i64 r.2]) ∧ CrIn w' r.1 ad cap ∧ Kfr w' w.heap.size ad r.1.l ∧ Below w.heap.size w w'
theorem RetF.toC {w w' : World} {r : Crt × Int} {e : Ending} (h : RetF w r e w') : RetC w r e w' := by
  obtain ⟨ad, cap, h1, h2, _, h4⟩ := h
  exact ⟨ad, cap, h1, h2, h4⟩
theorem retZF {w W' : World} {x : Int} (h : Below w.heap.size w W') : RetF w (crZ, x) (.returned (.tuple #[.agg (crK ⟨#[]⟩ 0 0 0 0 0 0 false false none 0 0 0 0 0), .int .i64 x])) W' :=
  ⟨none, 0, rfl, ⟨Ki.nil _ _, Nat.le_refl _, Nat.zero_le _, fun _ => rfl, Nat.zero_le _⟩, fun _ _ _ => Ki.nil _ _, h⟩
/-- the end: the box changed at its blocks, the result in its own box -/
theorem write_end {w wr w3 : World} {bc : ByteArray} {W L S T J R : Int} {wo lk : Bool} {ad : Option Addr} {n cap : Nat} {ep lo pa : Int} (HW : Way w wr bc W L S T J R wo lk ad n cap ep lo pa) (h3 : w.heap.size + 2 ≤ w3.heap.size)
    {ad5 : Option Addr} {m cap5 : Nat} {l : List Blk} (hK : Kq wr w3.heap.size w3.heap.size (.slice ad5 m cap5) l) (hm : m = l.length) (hbs : bc.size ≤ maxLen) :
    RetF w (⟨bc, W, L, S, T, J, R, wo, lk, l, ep, lo, pa⟩, 0) (.returned (.tuple #[.agg (crK bc W L S T J R wo lk ad5 m cap5 ep lo pa), .int .i64 0])) ((wr.setCell ⟨w.heap.size, 9, none⟩ (.slice ad5 m cap5)).setRow (w.heap.size + 1) (crK bc W L S T J R wo lk ad5 m cap5 ep lo pa)) := by
  subst hm
  have hk2 := hK.keep (w' := (wr.setCell ⟨w.heap.size, 9, none⟩ (.slice ad5 l.length cap5)).setRow (w.heap.size + 1) (crK bc W L S T J R wo lk ad5 l.length cap5 ep lo pa)) (fun k hk _ => by
    rw [setRow_other _ _ _ _ (by omega), Below.heap_setCell _ _ _ _ (by show k ≠ w.heap.size; omega)]) (by simp [World.setRow, World.setCell])
  obtain ⟨ad6, cap6, e6, hx6, h61, h62, h63, _⟩ := hk2.read
  cases e6
  refine ⟨ad5, cap5, rfl, ⟨hx6.ki, h61, h62, h63, hbs⟩, fun X hX hs => ?_, below_set (HW.b.setCell (Nat.le_refl _) _) (by omega) _⟩
  obtain ⟨ad7, cap7, e7, hx7, _⟩ := (hk2.keep (w' := X) (fun k hk hlt => hX k (by omega) hlt) hs).read
  cases e7
  exact hx7.ki
attribute [local irreducible] tim vld bar cnt okB capU allB vldC eqK okW
set_option maxRecDepth 100000 in
set_option maxHeartbeats 8000000 in
theorem rwrite_any (c : Crt) (ad : Option Addr) (cap : Nat) (a : Int) (zd : Option Addr) (zn zc : Nat) (z : List Blk) (w : World) (hin : CrIn w c ad cap) (hz : Ki w zd z) (hzn : zn = z.length) (hzs : zn ≤ 100000) (a0 : -9223372036854775808 ≤ a) (a1 : a ≤ 9223372036854775807) :
    Calls Try.prog 59 #[crV c ad cap, .int .i64 a, .slice zd zn zc] w fun e w' => RetF w (wriC (vldC c) c a z) e w' := by
  have HVX := Lib.hid (fun X (h : Below w.heap.size w X) => rvalc_any c ad cap X (hin.below h))
  have HKI := Lib.hid hin.ki
  have hbs := hin.bs
  have HPT := Lib.hid (fun h => vldC_parts (c := c) h)
  have HZI := Lib.hid hz
  have HZN := Lib.hid hzn
  clear hin hz hzn
  have HW1 := Lib.hid (show wriC false c a z = (crZ, 8) from rfl)
  have HW2 : Hid (z.all okW = false → wriC true c a z = (crZ, 8)) := Lib.hid fun h => by unfold wriC; rw [if_pos rfl, if_neg (by rw [h]; simp)]
  have HW3 : Hid (z.all okW = true → c.lk = true → wriC true c a z = (crZ, 17)) := Lib.hid fun h h2 => by unfold wriC; rw [if_pos rfl, if_pos h, if_pos h2]
  have HW4 : Hid (z.all okW = true → c.lk = false → (a < 0 ∨ (c.l.length : Int) < a) → wriC true c a z = (crZ, 7)) := Lib.hid fun h h2 h3 => by unfold wriC; rw [if_pos rfl, if_pos h, if_neg (by rw [h2]; simp), if_pos h3]
  have HW5 : Hid (z.all okW = true → c.lk = false → ¬ (a < 0 ∨ (c.l.length : Int) < a) → c.wo = true → a < (c.l.length : Int) → wriC true c a z = (crZ, 17)) := Lib.hid fun h h2 h3 h4 h5 => by unfold wriC; rw [if_pos rfl, if_pos h, if_neg (by rw [h2]; simp), if_neg h3, if_pos ⟨h4, h5⟩]
  have HW6 : Hid (z.all okW = true → c.lk = false → ¬ (a < 0 ∨ (c.l.length : Int) < a) → ¬ (c.wo = true ∧ a < (c.l.length : Int)) → capU c.W c.L c.S c.T c.J c.R - a < (z.length : Int) → wriC true c a z = (crZ, 12)) := Lib.hid fun h h2 h3 h4 h5 => by unfold wriC; rw [if_pos rfl, if_pos h, if_neg (by rw [h2]; simp), if_neg h3, if_neg h4, if_pos h5]
  have HW7 : Hid (z.all okW = true → c.lk = false → ¬ (a < 0 ∨ (c.l.length : Int) < a) → ¬ (c.wo = true ∧ a < (c.l.length : Int)) → ¬ capU c.W c.L c.S c.T c.J c.R - a < (z.length : Int) → wriC true c a z = ({c with l := if z = [] then c.l else c.l.take a.toNat ++ z}, 0)) := Lib.hid fun h h2 h3 h4 h5 => by unfold wriC; rw [if_pos rfl, if_pos h, if_neg (by rw [h2]; simp), if_neg h3, if_neg h4, if_neg h5]
  obtain ⟨bc, W, L, S, T, J, R, wo, lk, l, ep, lo, pa⟩ := c
  simp only at HKI HPT hbs HW3 HW4 HW5 HW6 HW7
  generalize vldC ⟨bc, W, L, S, T, J, R, wo, lk, l, ep, lo, pa⟩ = vv at *
  obtain ⟨M, hM⟩ : ∃ M, M = l.length := ⟨_, rfl⟩
  show Calls Try.prog 59 #[crW bc W L S T J R wo lk ad l.length cap ep lo pa, .int .i64 a, .slice zd zn zc] w _
  have HX2 : Hid (∀ X, Below w.heap.size w X → Calls Try.prog 55 #[crW bc W L S T J R wo lk ad M cap ep lo pa] X fun e w' => e = .returned (.bool vv) ∧ Below X.heap.size X w') := Lib.hid (by rw [hM]; exact HVX.out)
  clear HVX
  have HM := Lib.hid hM
  rw [← hM] at HW4 HW5 HW6 HW7 ⊢
  rw [← HZN.out] at HW6 HW7
  clear hM
  have HW := Lib.hid (Way.start w bc W L S T J R wo lk ad M cap ep lo pa)
  go_enter Try.func59, Try.ntmps59
  go_wp2_with fail
  generalize World.alloc _ _ = X0 at *
  refine (HX2.out X0 HW.out.b).mono ?_
  rintro e w1 ⟨rfl, hb⟩
  replace HW := Lib.hid (HW.out.next hb)
  clear hb
  cases vv
  · go_wp2_with (with_reducible refine wpList_store_cr rfl (.tmp 6) (.tmp 13) rfl (w.heap.size + 1) rfl _ _ _ _ _ _ _ _ _ _ _ _ _ _ _ rfl _ _ _ _ _ _ _ _ _ _ _ _ _ _ _ HW.out.z ?_)
    refine post_cellC rfl rfl (setRow_heap _ _ _ _ _ _ HW.out.z) Try.underlying30 rfl infoC rfl rfl ?_
    rw [HW1.out]
    exact retZF (below_set HW.out.b (by omega) _)
  obtain ⟨hv, hlen, hall, _⟩ := HPT.out (by simp)
  have hM2 : M ≤ 4096 := by have := HM.out; have := hv.c1; omega
  have HSM := Lib.hid (allB_small hall)
  clear hv hlen hall HPT
  go_wp2
  go_loopg [8] zn (fun gk vi wx => ∃ i : Nat, i + gk = zn ∧ vi = .int .i64 i ∧ Hid (∀ j (h : j < z.length), j < i → okW z[j] = true) ∧ Hid (Way w wx bc W L S T J R wo lk ad M cap ep lo pa) ∧ Hid (Ki wx zd z))
  case atStart => exact ⟨0, by omega, rfl, Lib.hid (fun j _ hj => by omega), HW, Lib.hid (HZI.out.below HW.out.b)⟩
  case round =>
    clear HW
    obtain ⟨i, hi, rfl, hall, hW, hZ⟩ := hrel
    cases gk with
    | succ gk0 =>
      have hiz : i < z.length := by have := HZN.out; omega
      obtain ⟨b, off, ad', cap', hadr, hblt, q0, q1, q2, qr⟩ := hZ.out.get hiz
      clear qr
      subst hadr
      have hin2 : (i : Int) < (zn : Int) := by omega
      have HNX : Hid (okW z[i] = true → ∀ j (h : j < z.length), j < i + 1 → okW z[j] = true) := Lib.hid fun hc j h hj => by
        rcases Nat.lt_or_ge j i with h3 | h3
        · exact hall.out j h h3
        · obtain rfl : j = i := by omega
          exact hc
      have HNO : Hid (okW z[i] = false → z.all okW = false) := Lib.hid fun hc => by
        rw [List.all_eq_false]
        exact ⟨z[i], List.getElem_mem hiz, by rw [hc]; simp⟩
      have HOK := Lib.hid (show okW z[i] = (okB z[i].m z[i].d.length && !z[i].bad) from by unfold okW; rfl)
      generalize okW z[i] = ok at *
      generalize z[i].m = xm at *
      generalize z[i].bad = xb at *
      generalize z[i].d.length = xn at *
      clear hiz
      go_wp2_with fail
      refine (rblk_any xm xb ad' xn cap' _).mono ?_
      rintro e w5 ⟨rfl, hb⟩
      have HW5' := Lib.hid (hW.out.next hb)
      have HZ5 := Lib.hid (hZ.out.below hb)
      replace q1 := (hb.cell (p := ⟨b, off + i * 3 + 1, none⟩) hblt).trans q1
      clear hb q0 q2
      cases hok : okB xm xn
      · have HF := Lib.hid (HNO.out (by rw [HOK.out, hok]; rfl))
        go_wp2_with (with_reducible refine wpList_store_cr rfl (.tmp 6) (.tmp 33) rfl (w.heap.size + 1) rfl _ _ _ _ _ _ _ _ _ _ _ _ _ _ _ rfl _ _ _ _ _ _ _ _ _ _ _ _ _ _ _ HW5'.out.z ?_)
        refine post_cellC rfl rfl (setRow_heap _ _ _ _ _ _ HW5'.out.z) Try.underlying30 rfl infoC rfl rfl ?_
        rw [HW2.out HF.out]
        exact retZF (below_set HW5'.out.b (by omega) _)
      cases xb
      · have HT := Lib.hid (HNX.out (by rw [HOK.out, hok]; rfl))
        go_wp2
        go_roundg gk0
        case rel => exact ⟨i + 1, by omega, by go_num, HT, HW5', HZ5⟩
        case measure => omega
      · have HF := Lib.hid (HNO.out (by rw [HOK.out, hok]; rfl))
        go_wp2_with (with_reducible refine wpList_store_cr rfl (.tmp 6) (.tmp 33) rfl (w.heap.size + 1) rfl _ _ _ _ _ _ _ _ _ _ _ _ _ _ _ rfl _ _ _ _ _ _ _ _ _ _ _ _ _ _ _ HW5'.out.z ?_)
        refine post_cellC rfl rfl (setRow_heap _ _ _ _ _ _ HW5'.out.z) Try.underlying30 rfl infoC rfl rfl ?_
        rw [HW2.out HF.out]
        exact retZF (below_set HW5'.out.b (by omega) _)
    | zero =>
      obtain rfl : i = zn := by omega
      have HA := Lib.hid (show z.all okW = true by
        rw [List.all_eq_true]
        intro x hx
        obtain ⟨j, hj, rfl⟩ := List.getElem_of_mem hx
        exact hall.out j hj (by have := HZN.out; omega))
      obtain ⟨_, k0, k1, k2, k3, k4, k5, k6, k7, k8, k9, k10, k11, k12⟩ := hW.out.c.at_
      cases lk
      rotate_left
      · go_wp2_with (with_reducible refine wpList_store_cr rfl (.tmp 6) (.tmp 36) rfl (w.heap.size + 1) rfl _ _ _ _ _ _ _ _ _ _ _ _ _ _ _ rfl _ _ _ _ _ _ _ _ _ _ _ _ _ _ _ hW.out.z ?_)
        refine post_cellC rfl rfl (setRow_heap _ _ _ _ _ _ hW.out.z) Try.underlying30 rfl infoC rfl rfl ?_
        rw [HW3.out HA.out (by simp)]
        exact retZF (below_set hW.out.b (by omega) _)
      by_cases hin : a < 0 ∨ (M : Int) < a
      · have HR := Lib.hid (HW4.out HA.out rfl hin)
        have part : a < 0 ∨ (0 ≤ a ∧ (M : Int) < a) := by omega
        clear hin
        rcases part with h1 | ⟨h1, h2⟩
        · go_wp2_with (with_reducible refine wpList_store_cr rfl (.tmp 6) (.tmp 46) rfl (w.heap.size + 1) rfl _ _ _ _ _ _ _ _ _ _ _ _ _ _ _ rfl _ _ _ _ _ _ _ _ _ _ _ _ _ _ _ hW.out.z ?_)
          refine post_cellC rfl rfl (setRow_heap _ _ _ _ _ _ hW.out.z) Try.underlying30 rfl infoC rfl rfl ?_
          rw [HR.out]
          exact retZF (below_set hW.out.b (by omega) _)
        · go_wp2_with (with_reducible refine wpList_store_cr rfl (.tmp 6) (.tmp 46) rfl (w.heap.size + 1) rfl _ _ _ _ _ _ _ _ _ _ _ _ _ _ _ rfl _ _ _ _ _ _ _ _ _ _ _ _ _ _ _ hW.out.z ?_)
          refine post_cellC rfl rfl (setRow_heap _ _ _ _ _ _ hW.out.z) Try.underlying30 rfl infoC rfl rfl ?_
          rw [HR.out]
          exact retZF (below_set hW.out.b (by omega) _)
      have HIN := Lib.hid hin
      obtain ⟨A, rfl⟩ : ∃ A : Nat, a = A := ⟨a.toNat, by omega⟩
      have hAM : A ≤ M := by omega
      clear hin
      by_cases hwo : wo = true ∧ (A : Int) < (M : Int)
      · have HR := Lib.hid (HW5.out HA.out rfl HIN.out hwo.1 hwo.2)
        obtain ⟨rfl, h2⟩ := hwo
        go_wp2_with (with_reducible refine wpList_store_cr rfl (.tmp 6) (.tmp 56) rfl (w.heap.size + 1) rfl _ _ _ _ _ _ _ _ _ _ _ _ _ _ _ rfl _ _ _ _ _ _ _ _ _ _ _ _ _ _ _ hW.out.z ?_)
        refine post_cellC rfl rfl (setRow_heap _ _ _ _ _ _ hW.out.z) Try.underlying30 rfl infoC rfl rfl ?_
        rw [HR.out]
        exact retZF (below_set hW.out.b (by omega) _)
      have HWO := Lib.hid hwo
      have hwo2 : wo = false ∨ ¬ ((A : Int) < (M : Int)) := by
        cases wo
        · exact .inl rfl
        · exact .inr (fun h => hwo ⟨rfl, h⟩)
      obtain ⟨c0, c1⟩ := capU_bd W L S T J R
      clear hwo
      cases wo
      rotate_left
      · have hge : (M : Int) ≤ (A : Int) := by
          rcases hwo2 with h | h
          · cases h
          · omega
        have hdn : decide (A < M) = false := decide_eq_false (by omega)
        clear hwo2
        have H6 := Lib.hid (fun hcp => HW6.out HA.out rfl HIN.out HWO.out hcp)
        have H7 := Lib.hid (fun hcp => HW7.out HA.out rfl HIN.out HWO.out hcp)
        go_wp2_with fail
        refine (rcapacity_any W L S T J R _).mono ?_
        rintro e w4 ⟨rfl, hb⟩
        have HW4' := Lib.hid (hW.out.next hb)
        clear hb k0 k1 k2 k3 k4 k5 k6 k7 k8 k9 k10 k11 k12
        obtain ⟨_, k0, k1, k2, k3, k4, k5, k6, k7, k8, k9, k10, k11, k12⟩ := HW4'.out.c.at_
        by_cases hcp : capU W L S T J R - (A : Int) < (i : Int)
        · have HR := Lib.hid (H6.out hcp)
          go_wp2_with (with_reducible refine wpList_store_cr rfl (.tmp 6) (.tmp 65) rfl (w.heap.size + 1) rfl _ _ _ _ _ _ _ _ _ _ _ _ _ _ _ rfl _ _ _ _ _ _ _ _ _ _ _ _ _ _ _ HW4'.out.z ?_)
          refine post_cellC rfl rfl (setRow_heap _ _ _ _ _ _ HW4'.out.z) Try.underlying30 rfl infoC rfl rfl ?_
          rw [HR.out]
          exact retZF (below_set HW4'.out.b (by omega) _)
        have HR := Lib.hid (H7.out (by omega))
        have hcp2 : (i : Int) ≤ capU W L S T J R - (A : Int) := by omega
        clear hcp H6 H7
        go_wp2_with fail
        clear k0 k1 k2 k3 k4 k5 k6 k7 k8 k9 k10 k11 k12
        refine (rcopied_any ad M cap l w4 (HKI.out.below HW4'.out.b) HM.out hM2 HSM.out).mono ?_
        rintro e w5 ⟨v9, rfl, hk9, hb9⟩
        have HW5b := Lib.hid (HW4'.out.next hb9)
        have HS4 := Lib.hid HW4'.out.s
        have HB9 := Lib.hid hb9
        by_cases hz0 : i = 0
        · subst hz0
          have hz1 : z = [] := List.eq_nil_of_length_eq_zero HZN.out.symm
          rw [if_pos hz1] at HR
          obtain ⟨ad9, cap9, rfl, -, -, -, -, -⟩ := hk9.read
          rw [← HM.out] at hk9 ⊢
          have HK9 := Lib.hid hk9
          have f9 := HW5b.out.c.frozen 9
          obtain ⟨_, k0, k1, k2, k3, k4, k5, k6, k7, k8, k9, k10, k11, k12⟩ := HW5b.out.c.at_
          have HZ : Hid ((w5.setCell ⟨w.heap.size, 9, none⟩ (.slice ad9 M cap9)).heap[w.heap.size + 1]? = some (.cells (crK ⟨#[]⟩ 0 0 0 0 0 0 false false none 0 0 0 0 0) 30 (0, 0))) := Lib.hid (by
            rw [Below.heap_setCell _ _ _ _ (by show w.heap.size + 1 ≠ w.heap.size; omega)]
            exact HW5b.out.z)
          clear hk9 hb9 hz1
          go_wp2_with (with_reducible refine wpList_store_cr rfl (.tmp 6) (.tmp 81) rfl (w.heap.size + 1) rfl _ _ _ _ _ _ _ _ _ _ _ _ _ _ _ rfl _ _ _ _ _ _ _ _ _ _ _ _ _ _ _ HZ.out ?_)
          refine post_cellC rfl rfl (setRow_heap _ _ _ _ _ _ HZ.out) Try.underlying30 rfl infoC rfl rfl ?_
          rw [HR.out]
          exact write_end HW5b.out HS4.out HK9.out HM.out hbs
        have hzp : 0 < (i : Int) := by omega
        have hzne : z ≠ [] := fun h => by have := HZN.out; rw [h] at this; simp at this; omega
        rw [if_neg hzne] at HR
        obtain ⟨ad9, cap9, rfl, hA9, hkt, hob⟩ := hk9.take (n := A) (by rw [← HM.out]; exact hAM)
        rw [← HM.out]
        have HKT := Lib.hid hkt
        have HLT9 := Lib.hid hkt.lt
        have hA9' : (A : Int) ≤ (cap9 : Int) := by omega
        clear hk9 hb9 hob hzne hz0 hkt
        go_wp2_with fail
        have hi4 : i ≤ 4096 := by omega
        refine (rcopied_any zd i zc z w5 (HZI.out.below HW5b.out.b) HZN.out hi4 (okW_small HA.out)).mono ?_
        rintro e w6 ⟨v10, rfl, hk10, hb10⟩
        have HB6 := Lib.hid (HB9.out.trans (hb10.mono HB9.out.size))
        have HKT6 := Lib.hid (HKT.out.below hb10)
        have HS5 := Lib.hid HB9.out.size
        obtain ⟨ad10, cap10, rfl, hx10, -, -, hcn10, -⟩ := hk10.read
        have HX10 := Lib.hid (hx10.other (z := (Value.slice ad9 A cap9).ownBlock) (fun g hg => (HLT9.out g hg).2))
        have HCN := Lib.hid hcn10
        rw [← HZN.out]
        rw [Int.toNat_natCast] at HR
        have hlen6 : (l.take A).length + i ≤ 100000 := by rw [List.length_take]; omega
        clear hk10 hb10 hx10 hcn10
        go_wp2_with (first
          | (at_builtin; refine wpList_append_k rfl (.tmp 75) (.tmp 77) rfl w4.heap.size w4.heap.size w5.heap.size w4.heap.size _ _ rfl HKT6.out ad10 i cap10 z HCN.out HX10.out HZN.out rfl hlen6 HB6.out.size (Nat.le_refl _) HS5.out ?_; intro v11 w11 hk11 hg11 _; have HB11 := Lib.hid (HKT6.out.grow HB6.out (Nat.le_refl _) hg11); have HW11 := Lib.hid (HW4'.out.next HB11.out); obtain ⟨_, k0, k1, k2, k3, k4, k5, k6, k7, k8, k9, k10, k11, k12⟩ := HW11.out.c.at_; have f9 := HW11.out.c.frozen 9; obtain ⟨ad11, cap11, rfl, -, -, -, -, -⟩ := hk11.read; obtain ⟨m11, hm11⟩ : ∃ m, m = (l.take A ++ z).length := ⟨_, rfl⟩; rw [← hm11] at hk11 ⊢; have HK11 := Lib.hid hk11; have HM11 := Lib.hid hm11; have HZ11 : Hid ((w11.setCell ⟨w.heap.size, 9, none⟩ (.slice ad11 m11 cap11)).heap[w.heap.size + 1]? = some (.cells (crK ⟨#[]⟩ 0 0 0 0 0 0 false false none 0 0 0 0 0) 30 (0, 0))) := (Lib.hid ((Below.heap_setCell _ _ _ _ (by show w.heap.size + 1 ≠ w.heap.size; omega)).trans HW11.out.z)); clear hk11 hg11 hm11)
          | (with_reducible refine wpList_store_cr rfl (.tmp 6) (.tmp 81) rfl (w.heap.size + 1) rfl _ _ _ _ _ _ _ _ _ _ _ _ _ _ _ rfl _ _ _ _ _ _ _ _ _ _ _ _ _ _ _ HZ11.out ?_))
        refine post_cellC rfl rfl (setRow_heap _ _ _ _ _ _ HZ11.out) Try.underlying30 rfl infoC rfl rfl ?_
        rw [HR.out]
        exact write_end HW11.out HS4.out HK11.out HM11.out hbs
      · clear hwo2
        have H6 := Lib.hid (fun hcp => HW6.out HA.out rfl HIN.out HWO.out hcp)
        have H7 := Lib.hid (fun hcp => HW7.out HA.out rfl HIN.out HWO.out hcp)
        go_wp2_with fail
        refine (rcapacity_any W L S T J R _).mono ?_
        rintro e w4 ⟨rfl, hb⟩
        have HW4' := Lib.hid (hW.out.next hb)
        clear hb k0 k1 k2 k3 k4 k5 k6 k7 k8 k9 k10 k11 k12
        obtain ⟨_, k0, k1, k2, k3, k4, k5, k6, k7, k8, k9, k10, k11, k12⟩ := HW4'.out.c.at_
        by_cases hcp : capU W L S T J R - (A : Int) < (i : Int)
        · have HR := Lib.hid (H6.out hcp)
          go_wp2_with (with_reducible refine wpList_store_cr rfl (.tmp 6) (.tmp 65) rfl (w.heap.size + 1) rfl _ _ _ _ _ _ _ _ _ _ _ _ _ _ _ rfl _ _ _ _ _ _ _ _ _ _ _ _ _ _ _ HW4'.out.z ?_)
          refine post_cellC rfl rfl (setRow_heap _ _ _ _ _ _ HW4'.out.z) Try.underlying30 rfl infoC rfl rfl ?_
          rw [HR.out]
          exact retZF (below_set HW4'.out.b (by omega) _)
        have HR := Lib.hid (H7.out (by omega))
        have hcp2 : (i : Int) ≤ capU W L S T J R - (A : Int) := by omega
        clear hcp H6 H7
        go_wp2_with fail
        clear k0 k1 k2 k3 k4 k5 k6 k7 k8 k9 k10 k11 k12
        refine (rcopied_any ad M cap l w4 (HKI.out.below HW4'.out.b) HM.out hM2 HSM.out).mono ?_
        rintro e w5 ⟨v9, rfl, hk9, hb9⟩
        have HW5b := Lib.hid (HW4'.out.next hb9)
        have HS4 := Lib.hid HW4'.out.s
        have HB9 := Lib.hid hb9
        by_cases hz0 : i = 0
        · subst hz0
          have hz1 : z = [] := List.eq_nil_of_length_eq_zero HZN.out.symm
          rw [if_pos hz1] at HR
          obtain ⟨ad9, cap9, rfl, -, -, -, -, -⟩ := hk9.read
          rw [← HM.out] at hk9 ⊢
          have HK9 := Lib.hid hk9
          have f9 := HW5b.out.c.frozen 9
          obtain ⟨_, k0, k1, k2, k3, k4, k5, k6, k7, k8, k9, k10, k11, k12⟩ := HW5b.out.c.at_
          have HZ : Hid ((w5.setCell ⟨w.heap.size, 9, none⟩ (.slice ad9 M cap9)).heap[w.heap.size + 1]? = some (.cells (crK ⟨#[]⟩ 0 0 0 0 0 0 false false none 0 0 0 0 0) 30 (0, 0))) := Lib.hid (by
            rw [Below.heap_setCell _ _ _ _ (by show w.heap.size + 1 ≠ w.heap.size; omega)]
            exact HW5b.out.z)
          clear hk9 hb9 hz1
          go_wp2_with (with_reducible refine wpList_store_cr rfl (.tmp 6) (.tmp 81) rfl (w.heap.size + 1) rfl _ _ _ _ _ _ _ _ _ _ _ _ _ _ _ rfl _ _ _ _ _ _ _ _ _ _ _ _ _ _ _ HZ.out ?_)
          refine post_cellC rfl rfl (setRow_heap _ _ _ _ _ _ HZ.out) Try.underlying30 rfl infoC rfl rfl ?_
          rw [HR.out]
          exact write_end HW5b.out HS4.out HK9.out HM.out hbs
        have hzp : 0 < (i : Int) := by omega
        have hzne : z ≠ [] := fun h => by have := HZN.out; rw [h] at this; simp at this; omega
        rw [if_neg hzne] at HR
        obtain ⟨ad9, cap9, rfl, hA9, hkt, hob⟩ := hk9.take (n := A) (by rw [← HM.out]; exact hAM)
        rw [← HM.out]
        have HKT := Lib.hid hkt
        have HLT9 := Lib.hid hkt.lt
        have hA9' : (A : Int) ≤ (cap9 : Int) := by omega
        clear hk9 hb9 hob hzne hz0 hkt
        go_wp2_with fail
        have hi4 : i ≤ 4096 := by omega
        refine (rcopied_any zd i zc z w5 (HZI.out.below HW5b.out.b) HZN.out hi4 (okW_small HA.out)).mono ?_
        rintro e w6 ⟨v10, rfl, hk10, hb10⟩
        have HB6 := Lib.hid (HB9.out.trans (hb10.mono HB9.out.size))
        have HKT6 := Lib.hid (HKT.out.below hb10)
        have HS5 := Lib.hid HB9.out.size
        obtain ⟨ad10, cap10, rfl, hx10, -, -, hcn10, -⟩ := hk10.read
        have HX10 := Lib.hid (hx10.other (z := (Value.slice ad9 A cap9).ownBlock) (fun g hg => (HLT9.out g hg).2))
        have HCN := Lib.hid hcn10
        rw [← HZN.out]
        rw [Int.toNat_natCast] at HR
        have hlen6 : (l.take A).length + i ≤ 100000 := by rw [List.length_take]; omega
        clear hk10 hb10 hx10 hcn10
        go_wp2_with (first
          | (at_builtin; refine wpList_append_k rfl (.tmp 75) (.tmp 77) rfl w4.heap.size w4.heap.size w5.heap.size w4.heap.size _ _ rfl HKT6.out ad10 i cap10 z HCN.out HX10.out HZN.out rfl hlen6 HB6.out.size (Nat.le_refl _) HS5.out ?_; intro v11 w11 hk11 hg11 _; have HB11 := Lib.hid (HKT6.out.grow HB6.out (Nat.le_refl _) hg11); have HW11 := Lib.hid (HW4'.out.next HB11.out); obtain ⟨_, k0, k1, k2, k3, k4, k5, k6, k7, k8, k9, k10, k11, k12⟩ := HW11.out.c.at_; have f9 := HW11.out.c.frozen 9; obtain ⟨ad11, cap11, rfl, -, -, -, -, -⟩ := hk11.read; obtain ⟨m11, hm11⟩ : ∃ m, m = (l.take A ++ z).length := ⟨_, rfl⟩; rw [← hm11] at hk11 ⊢; have HK11 := Lib.hid hk11; have HM11 := Lib.hid hm11; have HZ11 : Hid ((w11.setCell ⟨w.heap.size, 9, none⟩ (.slice ad11 m11 cap11)).heap[w.heap.size + 1]? = some (.cells (crK ⟨#[]⟩ 0 0 0 0 0 0 false false none 0 0 0 0 0) 30 (0, 0))) := (Lib.hid ((Below.heap_setCell _ _ _ _ (by show w.heap.size + 1 ≠ w.heap.size; omega)).trans HW11.out.z)); clear hk11 hg11 hm11)
          | (with_reducible refine wpList_store_cr rfl (.tmp 6) (.tmp 81) rfl (w.heap.size + 1) rfl _ _ _ _ _ _ _ _ _ _ _ _ _ _ _ rfl _ _ _ _ _ _ _ _ _ _ _ _ _ _ _ HZ11.out ?_))
        refine post_cellC rfl rfl (setRow_heap _ _ _ _ _ _ HZ11.out) Try.underlying30 rfl infoC rfl rfl ?_
        rw [HR.out]
        exact write_end HW11.out HS4.out HK11.out HM11.out hbs
end Go.Proofs.Ytepmmlnopdjjdaa
