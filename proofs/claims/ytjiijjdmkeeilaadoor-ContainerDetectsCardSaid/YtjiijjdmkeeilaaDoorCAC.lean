/-
  The specification's Valid of headers.
  Bytes of a slice, one byte, or a string appended to a slice of bytes that the call itself owns.
-/
import Derived.Test.YtjiijjdmkeeilaaDoorCAB
import Derived.Test.YtjiijjdmkeeilaaDoorCAA
import Derived.Laws.AppendOwnNone
import Derived.Lib.AppendStr
namespace Go.Proofs.YtjiijjdmkeeilaaDoor
open Go.RowKit
set_option linter.unusedVariables false
set_option linter.unusedSimpArgs false
theorem sumE_snoc (l : List Ent) (x : Ent) : sumE (l ++ [x]) = sumE l + x.n := by
  induction l with
  | nil => simp [sumE]
  | cons y l ih => simp only [List.cons_append, sumE, ih]; omega
set_option maxRecDepth 100000 in
set_option maxHeartbeats 4000000 in
theorem rvalidh_any (h : Hdr) (ad : Option Addr) (n cap : Nat) (w : World) (hin : HdIn w h ad n cap) (hs : ∀ e ∈ h.es, e.s < 4294967296) :
    Calls Tryd.prog 16 #[hdV h ad n cap] w fun e w' => e = .returned (.bool (vldH h)) ∧ Below w.heap.size w w' := by
  have HY := Lib.hid (@vldH_yes h)
  have HN := Lib.hid (@vldH_no h)
  have HX0 := Lib.hid (HdRow.new w h ad n cap)
  have HB0 := Lib.hid (co_box1 w (boxH h ad n cap))
  have HI := Lib.hid hin
  have HS := Lib.hid hs
  have hnl := hin.len
  have hcm := Nat.le_trans hin.le hin.mx
  unfold maxLen at hcm
  have HPY : Hid (∀ W, VPlc h → Calls Tryd.prog 50 #[hdV h ad n cap] W fun e w' => e = .returned (.bool true) ∧ Below W.heap.size W w') := Lib.hid fun W hp => by
    have := rplaceh_any h ad n cap W
    rwa [plcB_yes hp] at this
  have HPN : Hid (∀ W, ¬ VPlc h → Calls Tryd.prog 50 #[hdV h ad n cap] W fun e w' => e = .returned (.bool false) ∧ Below W.heap.size W w') := Lib.hid fun W hp => by
    have := rplaceh_any h ad n cap W
    rwa [plcB_no hp] at this
  have HP := Lib.hid (Classical.em (VPlc h))
  have HNL := Lib.hid hnl
  clear hin hs hnl
  by_cases q0 : 0 ≤ h.kd ∧ h.kd ≤ 2
  rotate_left
  · have HR := Lib.hid (HN.out (fun hv => q0 (hv.1.1)))
    obtain ⟨-, c0, c1, c2, c3, c4, c5, c6, c7, c8, c9, c10⟩ := HX0.out.at_
    go_enter Tryd.func16, Tryd.ntmps16
    go_wp2_with (go_at_call 49; first | ((with_reducible refine (in_yes _ _ _ _ (by omega)).mono ?_); rintro e w' ⟨rfl, rfl⟩) | ((with_reducible refine (in_no _ _ _ _ (by omega)).mono ?_); rintro e w' ⟨rfl, rfl⟩))
    go_ret
    exact ⟨by rw [HR.out]; try rfl, HB0.out⟩
  by_cases q1 : 1 ≤ h.vr ∧ h.vr ≤ 2
  rotate_left
  · have HR := Lib.hid (HN.out (fun hv => q1 (hv.1.2.1)))
    obtain ⟨-, c0, c1, c2, c3, c4, c5, c6, c7, c8, c9, c10⟩ := HX0.out.at_
    go_enter Tryd.func16, Tryd.ntmps16
    go_wp2_with (go_at_call 49; first | ((with_reducible refine (in_yes _ _ _ _ (by omega)).mono ?_); rintro e w' ⟨rfl, rfl⟩) | ((with_reducible refine (in_no _ _ _ _ (by omega)).mono ?_); rintro e w' ⟨rfl, rfl⟩))
    go_ret
    exact ⟨by rw [HR.out]; try rfl, HB0.out⟩
  by_cases q2 : 0 ≤ h.cm ∧ h.cm ≤ 1125899906842624
  rotate_left
  · have HR := Lib.hid (HN.out (fun hv => q2 (hv.1.2.2.1)))
    obtain ⟨-, c0, c1, c2, c3, c4, c5, c6, c7, c8, c9, c10⟩ := HX0.out.at_
    go_enter Tryd.func16, Tryd.ntmps16
    go_wp2_with (go_at_call 49; first | ((with_reducible refine (in_yes _ _ _ _ (by omega)).mono ?_); rintro e w' ⟨rfl, rfl⟩) | ((with_reducible refine (in_no _ _ _ _ (by omega)).mono ?_); rintro e w' ⟨rfl, rfl⟩))
    go_ret
    exact ⟨by rw [HR.out]; try rfl, HB0.out⟩
  by_cases q3 : 0 ≤ h.sz ∧ h.sz ≤ 262144
  rotate_left
  · have HR := Lib.hid (HN.out (fun hv => q3 (hv.1.2.2.2)))
    obtain ⟨-, c0, c1, c2, c3, c4, c5, c6, c7, c8, c9, c10⟩ := HX0.out.at_
    go_enter Tryd.func16, Tryd.ntmps16
    go_wp2_with (go_at_call 49; first | ((with_reducible refine (in_yes _ _ _ _ (by omega)).mono ?_); rintro e w' ⟨rfl, rfl⟩) | ((with_reducible refine (in_no _ _ _ _ (by omega)).mono ?_); rintro e w' ⟨rfl, rfl⟩))
    go_ret
    exact ⟨by rw [HR.out]; try rfl, HB0.out⟩
  have hX0 : w.heap.size < (w.alloc (boxH h ad n cap)).heap.size := HX0.out.lt
  obtain ⟨-, c0, c1, c2, c3, c4, c5, c6, c7, c8, c9, c10⟩ := HX0.out.at_
  go_enter Tryd.func16, Tryd.ntmps16
  go_wp2_with (first | (go_at_call 49; first | ((with_reducible refine (in_yes _ _ _ _ (by omega)).mono ?_); rintro e w' ⟨rfl, rfl⟩) | ((with_reducible refine (in_no _ _ _ _ (by omega)).mono ?_); rintro e w' ⟨rfl, rfl⟩)) | ((with_reducible refine wpList_unguard rfl (ld_hdr rfl (.tmp 1) rfl rfl HX0.out ?_))))
  generalize World.alloc w _ = X0 at *
  rcases HP.out with hp | hp
  rotate_left
  · have HR := Lib.hid (HN.out (fun hv => hp hv.2.1))
    refine (HPN.out _ hp).mono ?_
    rintro e X1 ⟨rfl, hb1⟩
    have HB1 := Lib.hid (HB0.out.trans (hb1.mono HB0.out.size))
    clear hb1 c0 c1 c2 c3 c4 c5 c6 c7 c8 c9 c10
    go_wp2
    go_ret
    exact ⟨by rw [HR.out]; try rfl, HB1.out⟩
  refine (HPY.out _ hp).mono ?_
  rintro e X1 ⟨rfl, hb1⟩
  have HB1 := Lib.hid (HB0.out.trans (hb1.mono HB0.out.size))
  have HX1 := Lib.hid (HX0.out.below hb1 hX0)
  have HPP := Lib.hid hp
  clear hb1 c0 c1 c2 c3 c4 c5 c6 c7 c8 c9 c10 HX0 HB0 hX0 hp HPY HPN HP
  obtain ⟨-, c0, c1, c2, c3, c4, c5, c6, c7, c8, c9, c10⟩ := HX1.out.at_
  by_cases g2 : h.kd = 2
  · have k2 := eq_t g2
    have m2 := ne_f g2
    have k0 := ne_t (a := h.kd) (b := 0) (by omega)
    by_cases g0 : h.id = 0
    rotate_left
    · have HR := Lib.hid (HN.out (fun hv => g0 (by have := hv.2.2.1; unfold VId at this; rwa [if_pos g2] at this)))
      have m0 := ne_t g0
      go_wp2_with (go_at_call 49; first | ((with_reducible refine (in_yes _ _ _ _ (by omega)).mono ?_); rintro e w' ⟨rfl, rfl⟩) | ((with_reducible refine (in_no _ _ _ _ (by omega)).mono ?_); rintro e w' ⟨rfl, rfl⟩))
      go_ret
      exact ⟨by rw [HR.out]; try rfl, HB1.out⟩
    have m0 := ne_f g0
    have HID := Lib.hid (show VId h by unfold VId; rw [if_pos g2]; exact g0)
    by_cases gn : n = 0
    · have HR := Lib.hid (HY.out ⟨⟨q0, q1, q2, q3⟩, HPP.out, HID.out, by unfold VEs; rw [if_pos (by omega)]; exact List.eq_nil_of_length_eq_zero (by have := HNL.out; omega)⟩)
      have kn : ((n : Int) == 0) = true := eq_t (by omega)
      go_wp2_with (go_at_call 49; first | ((with_reducible refine (in_yes _ _ _ _ (by omega)).mono ?_); rintro e w' ⟨rfl, rfl⟩) | ((with_reducible refine (in_no _ _ _ _ (by omega)).mono ?_); rintro e w' ⟨rfl, rfl⟩))
      go_ret
      exact ⟨by rw [HR.out]; try rfl, HB1.out⟩
    · have HR := Lib.hid (HN.out (fun hv => gn (by have := hv.2.2.2; unfold VEs at this; rw [if_pos (by omega)] at this; have e := HNL.out; rw [this] at e; simpa using e)))
      have kn : ((n : Int) == 0) = false := eq_f (by omega)
      go_wp2_with (go_at_call 49; first | ((with_reducible refine (in_yes _ _ _ _ (by omega)).mono ?_); rintro e w' ⟨rfl, rfl⟩) | ((with_reducible refine (in_no _ _ _ _ (by omega)).mono ?_); rintro e w' ⟨rfl, rfl⟩))
      go_ret
      exact ⟨by rw [HR.out]; try rfl, HB1.out⟩
  have k2 := eq_f g2
  have m2 := ne_t g2
  by_cases g0 : 1 ≤ h.id ∧ h.id ≤ 1125899906842624
  rotate_left
  · have HR := Lib.hid (HN.out (fun hv => g0 (by have := hv.2.2.1; unfold VId at this; rwa [if_neg g2] at this)))
    go_wp2_with (go_at_call 49; first | ((with_reducible refine (in_yes _ _ _ _ (by omega)).mono ?_); rintro e w' ⟨rfl, rfl⟩) | ((with_reducible refine (in_no _ _ _ _ (by omega)).mono ?_); rintro e w' ⟨rfl, rfl⟩))
    go_ret
    exact ⟨by rw [HR.out]; try rfl, HB1.out⟩
  have HID := Lib.hid (show VId h by unfold VId; rw [if_neg g2]; exact g0)
  by_cases g3 : h.kd = 0
  rotate_left
  · have k3 := ne_t g3
    by_cases gn : n = 0
    · have HR := Lib.hid (HY.out ⟨⟨q0, q1, q2, q3⟩, HPP.out, HID.out, by unfold VEs; rw [if_pos (by omega)]; exact List.eq_nil_of_length_eq_zero (by have := HNL.out; omega)⟩)
      have kn : ((n : Int) == 0) = true := eq_t (by omega)
      go_wp2_with (go_at_call 49; first | ((with_reducible refine (in_yes _ _ _ _ (by omega)).mono ?_); rintro e w' ⟨rfl, rfl⟩) | ((with_reducible refine (in_no _ _ _ _ (by omega)).mono ?_); rintro e w' ⟨rfl, rfl⟩))
      go_ret
      exact ⟨by rw [HR.out]; try rfl, HB1.out⟩
    · have HR := Lib.hid (HN.out (fun hv => gn (by have := hv.2.2.2; unfold VEs at this; rw [if_pos (by omega)] at this; have e := HNL.out; rw [this] at e; simpa using e)))
      have kn : ((n : Int) == 0) = false := eq_f (by omega)
      go_wp2_with (go_at_call 49; first | ((with_reducible refine (in_yes _ _ _ _ (by omega)).mono ?_); rintro e w' ⟨rfl, rfl⟩) | ((with_reducible refine (in_no _ _ _ _ (by omega)).mono ?_); rintro e w' ⟨rfl, rfl⟩))
      go_ret
      exact ⟨by rw [HR.out]; try rfl, HB1.out⟩
  have k3 := ne_f g3
  have HZ := Lib.hid g3
  have HQ := Lib.hid (And.intro q0 (And.intro q1 (And.intro q2 q3)))
  go_wp2_with (go_at_call 49; first | ((with_reducible refine (in_yes _ _ _ _ (by omega)).mono ?_); rintro e w' ⟨rfl, rfl⟩) | ((with_reducible refine (in_no _ _ _ _ (by omega)).mono ?_); rintro e w' ⟨rfl, rfl⟩))
  clear c0 c1 c2 c3 c4 c5 c6 c7 c8 c9 c10 k2 m2 k3 g2 g3 q0 q1 q2 g0
  have hz0 := q3.1
  clear q3
  go_loopg [3, 4] n (fun gk v3 v4 wx => ∃ (i : Nat) (S : Int), v4 = .int .i64 i ∧ v3 = .int .i64 S ∧ i + gk = n ∧ i ≤ 64 ∧ 0 ≤ S ∧ S ≤ 4096 * i ∧ Hid (S = sumE (h.es.take i)) ∧ Hid (∀ j (hj : j < h.es.length), j < i → VEnt h.es[j]) ∧ Hid (Below w.heap.size w wx) ∧ Hid (HdRow wx w.heap.size h ad n cap) ∧ Hid (HdIn wx h ad n cap))
  case atStart => exact ⟨0, 0, rfl, rfl, by omega, by omega, by omega, by omega, Lib.hid (by simp [sumE]), Lib.hid (fun j _ h => by omega), HB1, HX1, Lib.hid (HI.out.below HB1.out)⟩
  case round =>
    obtain ⟨i, S, rfl, rfl, hi, hi64, hS0, hS1, hS, hall, hB, hX, hN⟩ := hrel
    obtain ⟨-, c0, c1, c2, c3, c4, c5, c6, c7, c8, c9, c10⟩ := hX.out.at_
    cases gk with
    | zero =>
      obtain rfl : i = n := by omega
      have hsum : S = sumE h.es := by rw [hS.out, List.take_of_length_le (by have := HNL.out; omega)]
      have HVE : Hid (∀ e ∈ h.es, VEnt e) := Lib.hid fun e he => by
        obtain ⟨j, hj, rfl⟩ := List.getElem_of_mem he
        exact hall.out j hj (by have := HNL.out; omega)
      have HSU := Lib.hid hsum
      clear hsum
      by_cases gz : S = h.sz
      · have HR := Lib.hid (HY.out ⟨HQ.out, HPP.out, HID.out, by unfold VEs; rw [if_neg (fun h' => h' HZ.out)]; exact ⟨by have := HNL.out; omega, HVE.out, by rw [← HSU.out]; exact gz⟩⟩)
        have kz := eq_t gz
        clear gz
        go_wp2
        go_ret
        exact ⟨by rw [HR.out]; try rfl, hB.out⟩
      · have HR := Lib.hid (HN.out (fun hv => gz (by have := hv.2.2.2; unfold VEs at this; rw [if_neg (fun h' => h' HZ.out)] at this; rw [HSU.out]; exact this.2.2)))
        have kz := eq_f gz
        clear gz
        go_wp2
        go_ret
        exact ⟨by rw [HR.out]; try rfl, hB.out⟩
    | succ gk0 =>
      have hin : i < n := by omega
      by_cases g64 : 64 ≤ i
      · have HR := Lib.hid (HN.out (fun hv => by have := hv.2.2.2; unfold VEs at this; rw [if_neg (fun h' => h' HZ.out)] at this; have := this.1; have := HNL.out; omega))
        go_wp2
        go_ret
        exact ⟨by rw [HR.out]; try rfl, hB.out⟩
      have hil : i < h.es.length := by have := HNL.out; omega
      obtain ⟨b, off, rfl, hlt, hcell⟩ := hN.out.lf.get celE hil
      have e0 : wr.cell? ⟨b, off + i * 5, none⟩ = _ := hcell 0 _ (by decide) rfl
      have e1 := hcell 1 _ (by decide) rfl
      have e2 := hcell 2 _ (by decide) rfl
      have e3 := hcell 3 _ (by decide) rfl
      have e4 := hcell 4 _ (by decide) rfl
      have HSN := Lib.hid (show h.es.take (i + 1) = h.es.take i ++ [h.es[i]] by rw [List.take_succ_eq_append_getElem hil])
      have hes := HS.out _ (List.getElem_mem hil)
      have HEN : Hid (∀ W, Calls Tryd.prog 51 #[enV h.es[i]] W fun e w' => e = .returned (.bool (entB h.es[i])) ∧ Below W.heap.size W w') := Lib.hid fun W => rentry_any _ W hes
      have HAL : Hid (VEnt h.es[i] → ∀ j (hj : j < h.es.length), j < i + 1 → VEnt h.es[j]) := Lib.hid fun hv j hj hji => by
        rcases Nat.lt_or_ge j i with h3 | h3
        · exact hall.out j hj h3
        · obtain rfl : j = i := by omega
          exact hv
      have HBAD : Hid (¬ VEnt h.es[i] → vldH h = false) := Lib.hid fun hv => HN.out (fun hh => hv (by have := hh.2.2.2; unfold VEs at this; rw [if_neg (fun h' => h' HZ.out)] at this; exact this.2.1 _ (List.getElem_mem hil)))
      have HLT := Lib.hid (And.intro hlt (Classical.em (VEnt h.es[i])))
      clear hcell hes hlt
      generalize h.es[i] = x at *
      clear hil
      go_wp2_with fail
      refine (HEN.out _).mono ?_
      rintro e X2 ⟨rfl, hb2⟩
      have HB2 := Lib.hid (hB.out.trans (hb2.mono hB.out.size))
      rcases HLT.out.2 with hv | hv
      rotate_left
      · rw [entB_no hv]
        have HR := Lib.hid (HBAD.out hv)
        clear hv hb2 c0 c1 c2 c3 c4 c5 c6 c7 c8 c9 c10
        go_wp2
        go_ret
        exact ⟨by rw [HR.out]; try rfl, HB2.out⟩
      rw [entB_yes hv]
      have HAN := Lib.hid (HAL.out hv)
      obtain ⟨v1, v2, v3, v4, v5⟩ := hv
      have HX2 := Lib.hid (hX.out.below hb2 hX.out.lt)
      have HN2 := Lib.hid (hN.out.below hb2)
      have e3' : X2.cell? ⟨b, off + i * 5 + 3, none⟩ = some (.int .i64 x.n) := (hb2.cell (p := ⟨b, off + i * 5 + 3, none⟩) HLT.out.1).trans e3
      clear hb2 c0 c1 c2 c3 c4 c5 c6 c7 c8 c9 c10 e0 e1 e2 e3 e4 v1 v2 v3 v5
      obtain ⟨-, c0, c1, c2, c3, c4, c5, c6, c7, c8, c9, c10⟩ := HX2.out.at_
      obtain ⟨v4a, v4b⟩ := v4
      go_wp2
      go_roundg gk0
      case rel => exact ⟨i + 1, S + x.n, by go_num, by go_num, by omega, by omega, by omega, by omega, Lib.hid (by rw [HSN.out, sumE_snoc, ← hS.out]), HAN, HB2, HX2, HN2⟩
      case measure => omega
end Go.Proofs.YtjiijjdmkeeilaaDoor
namespace Go.Proofs.YtjiijjdmkeeilaaDoor
open Go.RowKit

theorem infoU : (Tryd.prog.info? 5).map (fun i => (i.zero, i.size, i.bytes)) = some (some (.int .u8 0), 1, 1) := by kernel_rfl
theorem info_u : ∃ i : TypeInfo, Tryd.prog.info? 5 = some i ∧ i.zero = some (.int .u8 0) ∧ i.size = 1 ∧ i.bytes = 1 := by
  have h := infoU
  rcases hi : Tryd.prog.info? 5 with _ | i
  · rw [hi] at h; simp at h
  · rw [hi] at h
    simp only [Option.map_some, Option.some.injEq, Prod.mk.injEq] at h
    exact ⟨i, rfl, h.1, h.2.1, h.2.2⟩

/-- The value v owns the bytes l, behind block B. -/
def Own (w : World) (B : Nat) (v : Value) (l : List UInt8) : Prop := w.ownsRow B 5 1 v l.length (cellsU l)
theorem Own.row {w : World} {B : Nat} {v : Value} {l : List UInt8} (h : Own w B v l) : w.ownsRow B 5 1 v l.length (cellsU l) := h
theorem Own.lt {w : World} {B : Nat} {v : Value} {l : List UInt8} (h : Own w B v l) : ∀ k, v.ownBlock = some k → B ≤ k ∧ k < w.heap.size := fun k hk => h.row.lt k hk
theorem Own.slice {w : World} {B : Nat} {v : Value} {l : List UInt8} (h : Own w B v l) :
    ∃ ad cap, v = .slice ad l.length cap ∧ Lie w ad l ∧ l.length ≤ cap ∧ cap ≤ maxLen ∧ (ad = none → cap = 0) := lie_own h rfl
theorem Own.ofNil (w : World) (B : Nat) : Own w B (.slice none 0 0) [] := ⟨rfl, .inl ⟨rfl, rfl⟩⟩
theorem Own.made (w : World) : Own (w.alloc (.cells #[] 5)) w.heap.size (.slice (some ⟨w.heap.size, 0, none⟩) 0 0) [] := World.ownsRow_made w #[] 0 (Nat.le_refl _) (by decide) rfl
theorem Own.below {w w' : World} {B : Nat} {v : Value} {l : List UInt8} (h : Own w B v l) (hb : Below w.heap.size w w') : Own w' B v l := by
  refine ⟨h.row.1, ?_⟩
  rcases h.row.2 with h0 | ⟨g, cap, cur, hv, hB, hg, h1, h2, h3, h4⟩
  · exact .inl h0
  · exact .inr ⟨g, cap, cur, hv, hB, (hb.block g (Array.getElem?_eq_some_iff.1 hg).1).trans hg, h1, h2, h3, h4⟩
theorem Own.mono {w : World} {B B' : Nat} {v : Value} {l : List UInt8} (h : Own w B v l) (hB : B' ≤ B) : Own w B' v l := by
  refine ⟨h.row.1, ?_⟩
  rcases h.row.2 with h0 | ⟨g, cap, cur, hv, hg0, hg⟩
  · exact .inl h0
  · exact .inr ⟨g, cap, cur, hv, Nat.le_trans hB hg0, hg⟩
theorem Lie.one (w : World) (n : Int) (v : UInt8) (hn : n = (v.toNat : Int)) : Lie (w.alloc (.cells #[.int .u8 n] 5)) (some ⟨w.heap.size, 0, none⟩) [v] := by
  subst hn
  refine ⟨.inr ⟨w.heap.size, 0, rfl, by simp, fun j hj => ?_⟩⟩
  obtain rfl : j = 0 := by simpa using hj
  rw [World.cell?_alloc_mark]
  rfl
theorem strCells_eq (s : ByteArray) : Lib.strCells s = cellsU s.data.toList := rfl

theorem wpList_append_u {w : World} {ops : Array Oper} {rest : List Oper} {o : Oper} {a : Act} {Q : Exit → Act → World → Prop} (hgd : o.guard = none) (s x : Operand)
    (ho : o.op = .call { callee := .builtin .append, args := #[s, x], argTypes := #[26, 26] })
    (B : Nat) (v : Value) (ys : List UInt8) (hs : a.eval s = v) (hown : Own w B v ys)
    (ad : Option Addr) (n cap : Nat) (xs : List UInt8) (hcap : ad = none → cap = 0) (hl : Lie w ad xs) (hn : n = xs.length) (hx : a.eval x = .slice ad n cap) (hlen : ys.length + n ≤ 10000000) (hbase : B ≤ w.heap.size)
    (h : ∀ v' w', Own w' B v' (ys ++ xs) → w.grownBy w' v.ownBlock → wpList Tryd.prog ops Q rest (a.put o.dst v') w') : wpList Tryd.prog ops Q (o :: rest) a w := by
  subst hn
  obtain ⟨i, hi, hz0, hz1, hz2⟩ := info_u
  cases ad with
  | none =>
    have hxs : xs = [] := by
      rcases hl.at_ with h0 | ⟨b, off, h0, _⟩
      · exact h0
      · cases h0
    subst hxs
    obtain rfl := hcap rfl
    refine wpList_append_own_none hgd s x 26 ho B 5 i 1 Tryd.underlying26 hi v ys.length (cellsU ys) hs hown hx (h v w ?_ ⟨rfl, rfl, rfl, Nat.le_refl _, fun _ _ _ => rfl⟩)
    rw [List.append_nil]
    exact hown
  | some a0 =>
    refine wpList_append_own w hgd s x 26 ho B 5 i (.int .u8 0) 1 1 Tryd.underlying26 hi hz0 hz1 hz2 rfl (by decide) v ys.length (cellsU ys) hs hown a0 xs.length cap (cellsU xs) hx ?_ ?_ (cellsU_one _) ?_ ?_ hbase (fun v' w' h2 h3 _ => h v' w' ?_ h3)
    · rw [cellsU_length, Nat.mul_one]
    · intro j u hu
      have hj : j < xs.length := by
        have := (List.getElem?_eq_some_iff.1 hu).1
        rwa [cellsU_length] at this
      rcases hl.at_ with h0 | ⟨b, off, h0, _, hc⟩
      · subst h0; simp at hj
      · cases h0
        rw [Go.WideShapes.add_plain, hc j hj]
        rw [cellsU_get xs j hj] at hu
        exact hu
    · unfold maxLen; omega
    · omega
    · unfold Own
      rw [cellsU_append, List.length_append] at *
      exact h2

theorem wpList_append_s {w : World} {ops : Array Oper} {rest : List Oper} {o : Oper} {a : Act} {Q : Exit → Act → World → Prop} (hgd : o.guard = none) (s x : Operand)
    (ho : o.op = .call { callee := .builtin .append, args := #[s, x], argTypes := #[26, 9] })
    (B : Nat) (v : Value) (ys : List UInt8) (hs : a.eval s = v) (hown : Own w B v ys) (t : ByteArray) (hx : a.eval x = .string t) (hlen : ys.length + t.size ≤ 10000000) (hbase : B ≤ w.heap.size)
    (h : ∀ v' w', Own w' B v' (ys ++ t.data.toList) → w.grownBy w' v.ownBlock → wpList Tryd.prog ops Q rest (a.put o.dst v') w') : wpList Tryd.prog ops Q (o :: rest) a w := by
  obtain ⟨i, hi, hz0, hz1, hz2⟩ := info_u
  refine Lib.wpList_append_own_string w hgd s x 26 9 ho B 5 i Tryd.underlying26 Tryd.underlying9 hi hz0 hz1 hz2 v ys.length (cellsU ys) hs hown t hx (by unfold maxLen; omega) (by omega) hbase (fun v' w' h2 h3 _ => h v' w' ?_ h3)
  unfold Own
  rw [strCells_eq, cellsU_append] at h2
  rw [List.length_append, Array.length_toList]
  exact h2

theorem wpList_make_u {w : World} {ops : Array Oper} {rest : List Oper} {o : Oper} {a : Act} {Q : Exit → Act → World → Prop} (hgd : o.guard = none) (l c : Operand) (hop : o.op = Op.makeSlice 26 l c)
    (B : Nat) (C : Int) (n : Nat) (hl : a.eval l = .int .i64 0) (hc : a.eval c = .int .i64 C) (hC : C = (n : Int)) (hn : n ≤ 10000000) (hB : B ≤ w.heap.size)
    (h : ∀ v' w', Own w' B v' [] → w.grownBy w' Option.none → wpList Tryd.prog ops Q rest (a.put o.dst v') w') : wpList Tryd.prog ops Q (o :: rest) a w := by
  obtain ⟨i, hi, hz0, hz1, hz2⟩ := info_u
  refine wpList_make_own w hgd l c 26 hop B 5 i (.int .u8 0) 1 Tryd.underlying26 hi hz0 hz1 .i64 .i64 C n hl hc hC (by rw [hz2]; omega) (by unfold maxLen; omega) hB (fun w' h2 h3 => h _ w' h2 h3)

theorem below_new {w w1 : World} {o : Obj} {row : Option Nat} (hg : (w.alloc o).grownBy w1 row) (hr : ∀ k, row = some k → w.heap.size ≤ k) : Below w.heap.size w w1 :=
  ((Below.refl _ _).alloc (Nat.le_refl _) o).grown hg (by simp) hr
end Go.Proofs.YtjiijjdmkeeilaaDoor
