/-
  The product of a matrix and a vector, by the program.
-/
import Derived.Test.YtinfjidclkgfnaaQRows
import Derived.Test.YtinfjidclkgfnaaHValid
import Derived.Test.YtinfjidclkgfnaaQField
import Derived.StillTailTactics
namespace Go.Proofs.Ytinfjidclkgfnaa
open Go.RowKit
/-- what Apply gives -/
def AppP (w : World) (xs : List (List UInt8)) (v : List UInt8) (e : Ending) (w' : World) : Prop :=
  Below w.heap.size w w' ∧
  ((FitV xs v ∧ ∃ (ad : Option Addr) (cap : Nat), e = .returned (.tuple #[.slice ad xs.length cap, .bool true]) ∧ Lie w' ad (appL xs v) ∧ xs.length ≤ cap ∧ cap ≤ maxLen) ∨
   (¬ FitV xs v ∧ e = .returned (.tuple #[.slice none 0 0, .bool false])))
theorem AppP.no {w w' : World} {xs : List (List UInt8)} {v : List UInt8} (h : ¬ FitV xs v) (hb : Below w.heap.size w w') : AppP w xs v (.returned (.tuple #[.slice none 0 0, .bool false])) w' := ⟨hb, .inr ⟨h, rfl⟩⟩
attribute [local irreducible] matL rowF progF progX apF appL mulU
set_option maxRecDepth 100000 in
set_option maxHeartbeats 1000000 in
theorem app_any (ad vd : Option Addr) (n nv cap vc : Nat) (xs : List (List UInt8)) (v : List UInt8) (w : World) (hl : Lr w ad xs) (hn : n = xs.length) (hm : n ≤ maxLen) (hl2 : Lie w vd v) (hn2 : nv = v.length) (hm2 : nv ≤ maxLen) :
    Calls Try.prog 30 #[.slice ad n cap, .slice vd nv vc] w (AppP w xs v) := by
  have HL := Lib.hid hl
  have HN := Lib.hid hn
  have HM := Lib.hid hm
  have HL2 := Lib.hid hl2
  have HN2 := Lib.hid hn2
  have HM2 := hm2
  unfold maxLen at HM2
  clear hl hn hm hl2 hn2 hm2
  rcases vld_cases xs with ⟨hv, hV⟩ | ⟨hv, hV⟩
  rotate_left
  · go_enter Try.func30, Try.ntmps30
    go_wp2_with fail
    refine (valid_any _ n cap xs w HL.out HN.out HM.out).mono ?_
    rintro e w' ⟨rfl, rfl⟩
    rw [hv]
    go_wp2
    go_ret2
    exact AppP.no (fun h => hV h.1) (Below.refl _ _)
  obtain ⟨K, hK⟩ : ∃ K, K = cols xs := ⟨_, rfl⟩
  have hp : 0 < xs.length := by have := hV.pos; omega
  obtain ⟨b, off, rfl, hbl, a0, c0, f0, -, g0, m0, -⟩ := HL.out.row 0 hp
  rw [hV.len 0 hp, ← hK, Nat.add_zero] at f0
  rw [hV.len 0 hp, ← hK] at g0
  have hn64 : n ≤ 64 := by have := hV.le; have := HN.out; omega
  have hn0 : (0 : Int) < (n : Int) := by have := HN.out; omega
  have hn1 : 0 < n := by omega
  have hK1 : 1 ≤ K := by rw [hK]; exact hV.cpos
  have hK2 : K ≤ 64 := by rw [hK]; exact hV.cle
  have HV := Lib.hid hV
  have HK := Lib.hid hK
  unfold maxLen at m0
  clear hV hK hp
  by_cases hKb : K = nv
  rotate_left
  · have hK3 : ¬ (K : Int) = (nv : Int) := by omega
    have HNO : Hid (¬ FitV xs v) := Lib.hid fun h => hKb (by rw [HK.out, HN2.out]; exact h.2)
    go_enter Try.func30, Try.ntmps30
    go_wp2_with fail
    refine (valid_any _ n cap xs w HL.out HN.out HM.out).mono ?_
    rintro e w' ⟨rfl, rfl⟩
    rw [hv]
    go_wp2
    go_ret2
    exact AppP.no HNO.out (Below.refl _ _)
  subst hKb
  have HF : Hid (FitV xs v) := Lib.hid ⟨HV.out, by rw [← HK.out]; exact HN2.out⟩
  obtain ⟨b2, off2, rfl, hb2l, hc2⟩ := HL2.out.ev (by have := HN2.out; omega)
  have HC2 : Hid (∀ w2, Below w.heap.size w w2 → ∀ j (h : j < v.length), w2.cell? ⟨b2, off2 + j, none⟩ = some (.int .u8 (ev (v[j]'h)))) := Lib.hid fun w2 hb j hj => (hb.cell (p := ⟨b2, off2 + j, none⟩) hb2l).trans (hc2 j hj)
  clear hc2
  go_enter Try.func30, Try.ntmps30
  go_wp2_with fail
  refine (valid_any _ n cap xs w HL.out HN.out HM.out).mono ?_
  rintro e w' ⟨rfl, rfl⟩
  rw [hv]
  go_wp2_with (at_make; refine wpList_make_row rfl (.tmp 24) (.tmp 24) rfl _ _ n rfl rfl rfl rfl (by omega) ?_; intro g w1 ho1 hg1 hb1)
  have HO1 : Hid (Rowu w1 g (progF n 0 (apF xs v K))) := Lib.hid (by rw [progF_zero]; exact ho1)
  have HB1 := Lib.hid hb1
  have HG1 := Lib.hid hg1
  clear ho1 hb1 hg1 f0
  go_loopg [28] n (fun gk vk wx => ∃ k : Nat, vk = .int .i64 k ∧ k + gk = n ∧ Hid (Rowu wx g (progF n k (apF xs v K))) ∧ Hid (Below w.heap.size w wx))
  case atStart => exact ⟨0, rfl, by omega, HO1, HB1⟩
  case round =>
    obtain ⟨k, rfl, hk, hR, HB⟩ := hrel
    cases gk with
    | zero =>
      have hlt : ¬ (k : Int) < (n : Int) := by omega
      obtain rfl : k = n := by omega
      go_wp2
      go_ret2
      refine ⟨HB.out, .inl ⟨HF.out, some ⟨g, 0, none⟩, k, by rw [← HN.out]; rfl, ?_, by rw [← HN.out]; exact Nat.le_refl _, by unfold maxLen; omega⟩⟩
      have h := hR.out
      rw [progF_end] at h
      rw [appL_eq, ← HN.out, ← HN2.out]
      exact h.lie
    | succ gk0 =>
      have hlt : (k : Int) < (n : Int) := by omega
      have hkN : k < n := by omega
      have hkx : k < xs.length := by have := HN.out; omega
      obtain ⟨b', off', e', -, a1, c1, f1, l1, g1, m1, -⟩ := HL.out.row k hkx
      cases e'
      have hlen : (xs[k]).length = K := by rw [HK.out]; exact HV.out.len k hkx
      rw [hlen] at f1 g1
      obtain ⟨b1, off1, rfl, hb1l, hc1⟩ := l1.ev (by omega)
      have HC1 : Hid (∀ w2, Below w.heap.size w w2 → ∀ j, j < K → w2.cell? ⟨b1, off1 + j, none⟩ = some (.int .u8 (ev (ent xs k j)))) := Lib.hid fun w2 hb j hj => by
        rw [hb.cell (p := ⟨b1, off1 + j, none⟩) hb1l, hc1 j (by omega), ent_get]
      have f3 : wr.cell? ⟨b, off + k, none⟩ = some (.slice (some ⟨b1, off1, none⟩) K c1) := (HB.out.cell (p := ⟨b, off + k, none⟩) hbl).trans f1
      unfold maxLen at m1
      clear f1 l1 hlen hc1 hkx
      go_wp2_with fail
      go_loopg [35] K (fun gj vj wx => ∃ j : Nat, vj = .int .i64 j ∧ j + gj = K ∧ Hid (Rowu wx g (progX n k (apF xs v K) (apF xs v j k))) ∧ Hid (Below w.heap.size w wx))
      case atStart => exact ⟨0, rfl, by omega, by rw [apF_zero, progX_start]; exact hR, HB⟩
      case round =>
        obtain ⟨j, rfl, hj, hR4, hB4⟩ := hrel
        cases gk with
        | zero =>
          have hlt2 : ¬ (j : Int) < (K : Int) := by omega
          obtain rfl : j = K := by omega
          go_wp2
          go_roundg gk0
          case rel => exact ⟨k + 1, by go_num, by omega, by rw [← progX_end]; exact hR4, hB4⟩
          case measure => omega
        | succ gj0 =>
          have hlt2 : (j : Int) < (K : Int) := by omega
          have hjv : j < v.length := by have := HN2.out; omega
          have hkp : k < (progX n k (apF xs v K) (apF xs v j k)).length := by rw [progX_length]; exact hkN
          have f5 := HC1.out wr hB4.out j (by omega)
          have f6 := HC2.out wr hB4.out j hjv
          have f7 := hR4.out.cell k hkp
          rw [progX_get, ← ev_nat] at f7
          have hz := hR4.out.blk.frozen k
          have hx := apF_next xs v j k hjv
          have HX : Hid (Rowu (wr.setCell ⟨g, k, none⟩ (.int .u8 (ev (apF xs v (j + 1) k)))) g (progX n k (apF xs v K) (apF xs v (j + 1) k))) := Lib.hid (by
            have h := hR4.out.set_ k (ev (apF xs v (j + 1) k)) _ (ev_nat _)
            rwa [progX_set] at h)
          have HB5 := Lib.hid (hB4.out.setCell (p := ⟨g, k, none⟩) HG1.out (.int .u8 (ev (apF xs v (j + 1) k))))
          have hR5 : Hid (∀ y, y = apF xs v (j + 1) k → Rowu ((wr.drew).setCell ⟨g, k, none⟩ (.int .u8 (ev y))) g (progX n k (apF xs v K) (apF xs v (j + 1) k)) ∧ Below w.heap.size w ((wr.drew).setCell ⟨g, k, none⟩ (.int .u8 (ev y)))) := Lib.hid fun y e => by
            subst e
            exact ⟨HX.out, HB5.out.drew⟩
          have HXE := Lib.hid hx
          generalize ent xs k j = x at f5 HXE
          generalize v[j] = y at f6 HXE
          generalize apF xs v j k = z at f7 HXE
          clear hx hkp hjv HX HB5
          go_wp2_with fail
          refine wp_region_still_tail 14 (by kernel_rfl) (by kernel_rfl) ?_
          simp only [List.take_succ_cons, List.take_zero, List.drop_succ_cons, List.drop_zero]
          change wpStill _ _ wr.drew (fun a' => wpList _ _ _ _ a' wr.drew) _ _
          have f5' : wr.drew.cell? ⟨b1, off1 + j, none⟩ = some (.int .u8 (ev x)) := f5
          have f6' : wr.drew.cell? ⟨b2, off2 + j, none⟩ = some (.int .u8 (ev y)) := f6
          have f7' : wr.drew.cell? ⟨g, k, none⟩ = some (.int .u8 (ev z)) := f7
          have hz' : wr.drew.frozen? ⟨g, k, none⟩ = false := hz
          clear f5 f6 f7 hz
          generalize wr.drew = w3 at f5' f6' f7' hz' hR5 ⊢
          repeat still_step
          still_call (calls_left (mul_any _ _ _))
          repeat still_step
          still_call (calls_left (add_any _ _ _))
          repeat still_step
          refine wpStill_nil ?_
          go_wp2
          go_roundg gj0
          case rel => exact ⟨j + 1, by go_num, by omega, Lib.hid (hR5.out _ HXE.out).1, Lib.hid (hR5.out _ HXE.out).2⟩
          case measure => omega
end Go.Proofs.Ytinfjidclkgfnaa
