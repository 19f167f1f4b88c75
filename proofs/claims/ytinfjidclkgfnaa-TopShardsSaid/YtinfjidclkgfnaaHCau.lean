/-
  Cauchy matrices, by the program.
-/
import Derived.Test.YtinfjidclkgfnaaHIdent
import Derived.Test.YtinfjidclkgfnaaQRows
namespace Go.Proofs.Ytinfjidclkgfnaa
open Go.RowKit
/-- what Cauchy gives -/
def CauP (w : World) (r c : Int) (e : Ending) (w' : World) : Prop :=
  (r < 1 ∨ c < 1 ∨ 64 - c < r → e = .returned (.tuple #[.slice none 0 0, .bool false]) ∧ w = w') ∧
  (1 ≤ r ∧ 1 ≤ c ∧ r + c ≤ 64 → ∃ g, e = .returned (.tuple #[.slice (some ⟨g, 0, none⟩) r.toNat r.toNat, .bool true]) ∧ Out w' w.heap.size g r.toNat w'.heap.size (cauL r.toNat c.toNat) ∧ Below w.heap.size w w')
theorem CauP.no {w : World} {r c : Int} (h : r < 1 ∨ c < 1 ∨ 64 - c < r) : CauP w r c (.returned (.tuple #[.slice none 0 0, .bool false])) w := ⟨fun _ => ⟨rfl, rfl⟩, fun h' => by omega⟩
attribute [local irreducible] matL rowF dl progF cauF mulU invU
set_option maxRecDepth 100000 in
set_option maxHeartbeats 1000000 in
theorem cauchy_any (r c : Int) (w : World) (h0 : -9223372036854775808 ≤ r) (h1 : r ≤ 9223372036854775807) (h2 : -9223372036854775808 ≤ c) (h3 : c ≤ 9223372036854775807) : Calls Try.prog 51 #[.int .i64 r, .int .i64 c] w (CauP w r c) := by
  by_cases hr : r < 1
  · go_enter Try.func51, Try.ntmps51
    go_wp2
    go_ret2
    exact CauP.no (.inl hr)
  by_cases hc : c < 1
  · go_enter Try.func51, Try.ntmps51
    go_wp2
    go_ret2
    exact CauP.no (.inr (.inl hc))
  have hwr : IntKind.i64.wrap (64 - c) = 64 - c := by rw [IntKind.wrap_i64]; omega
  by_cases hs : 64 - c < r
  · go_enter Try.func51, Try.ntmps51
    go_wp2
    go_ret2
    exact CauP.no (.inr (.inr hs))
  obtain ⟨n, rfl⟩ := Int.eq_ofNat_of_zero_le (show 0 ≤ r by omega)
  obtain ⟨m, rfl⟩ := Int.eq_ofNat_of_zero_le (show 0 ≤ c by omega)
  go_enter Try.func51, Try.ntmps51
  go_wp2_with (at_make; refine wpList_make_outer rfl (.tmp 21) (.tmp 21) rfl _ _ n rfl rfl rfl rfl (by omega) ?_; intro g w1 ho1 hb1)
  have HO1 : Hid (Out w1 w.heap.size g n w1.heap.size (matL 0 m (cauF m))) := Lib.hid (by have h := ho1.take 0; rw [List.take_zero] at h; rw [matL_zero]; exact h)
  have HB1 := Lib.hid hb1
  clear ho1 hb1
  go_loopg [25] n (fun gk vk wx => ∃ k : Nat, vk = .int .i64 k ∧ k + gk = n ∧ Hid (Out wx w.heap.size g n wx.heap.size (matL k m (cauF m))) ∧ Hid (Below w.heap.size w wx))
  case atStart => exact ⟨0, rfl, by omega, HO1, HB1⟩
  case round =>
    obtain ⟨k, rfl, hk, hO, HB⟩ := hrel
    cases gk with
    | zero =>
      have hlt : ¬ (k : Int) < (n : Int) := by omega
      obtain rfl : k = n := by omega
      go_wp2
      go_ret2
      exact ⟨fun h => by omega, fun _ => ⟨g, rfl, by rw [cauL_eq]; exact hO.out, HB.out⟩⟩
    | succ gk0 =>
      have hlt : (k : Int) < (n : Int) := by omega
      have hkN : k < n := by omega
      obtain ⟨D, HD⟩ : ∃ D, Hid (wr.heap.size = D) := ⟨_, Lib.hid rfl⟩
      have HGL := Lib.hid hO.out.lt
      go_wp2_with (at_make; refine wpList_make_row rfl (.tmp 30) (.tmp 30) rfl _ _ m rfl rfl rfl rfl (by omega) ?_; intro gb w2 hr2 hg2 hb2; have hO2 := hO.out.below hb2; obtain ⟨u, hu⟩ := hO2.there k hkN; have hz := hO2.frozen k; have hgb : g ≠ gb := (by have := HGL.out; omega); have hr3 := hr2.other g k (.slice (some ⟨gb, 0, none⟩) m m) hgb; have hd3 : (w2.setCell ⟨g, k, none⟩ (.slice (some ⟨gb, 0, none⟩) m m)).cell? ⟨g, k, none⟩ = some (.slice (some ⟨gb, 0, none⟩) m m) := World.cell?_setCell_same' _ _ _ (by rw [hu]; rfl); have HO3 := Lib.hid (hO2.beyond k (by rw [matL_length]; exact Nat.le_refl _) (.slice (some ⟨gb, 0, none⟩) m m)); have HR3 := Lib.hid hr3; have HB3 := Lib.hid ((HB.out.trans (hb2.mono HB.out.size)).setCell (p := ⟨g, k, none⟩) hO.out.base (.slice (some ⟨gb, 0, none⟩) m m)); have HG2 := Lib.hid hg2; have HD3 := Lib.hid hd3; clear hO2 hr2 hr3 hb2 hg2)
      go_loopg [38] m (fun gj vj wx => ∃ j : Nat, vj = .int .i64 j ∧ j + gj = m ∧ wx.cell? ⟨g, k, none⟩ = some (.slice (some ⟨gb, 0, none⟩) m m) ∧ Hid (Out wx w.heap.size g n D (matL k m (cauF m))) ∧ Hid (Rowu wx gb (progF m j (cauF m k))) ∧ Hid (Below w.heap.size w wx))
      case atStart => exact ⟨0, rfl, by omega, HD3.out, by rw [← HD.out]; exact HO3, by rw [progF_zero]; exact HR3, HB3⟩
      case round =>
        obtain ⟨j, rfl, hj, c1, hO4, hR4, hB4⟩ := hrel
        have hgD : Hid (g < D) := Lib.hid (by rw [← HD.out]; exact HGL.out)
        have hDb : Hid (D ≤ gb) := Lib.hid (by rw [← HD.out]; exact HG2.out)
        have hwD : Hid (w.heap.size ≤ gb) := Lib.hid (by have := hO4.out.base; have := hgD.out; have := hDb.out; omega)
        cases gk with
        | zero =>
          have hlt2 : ¬ (j : Int) < (m : Int) := by omega
          obtain rfl : j = m := by omega
          go_wp2
          go_roundg gk0
          case rel =>
            refine ⟨k + 1, by go_num, by omega, Lib.hid ?_, hB4⟩
            have hR := hR4.out
            rw [progF_end] at hR
            have e := rowF_length j (cauF j k)
            have hl := hR.lieN (g0 := g) (D := wr.heap.size) (by have := hgD.out; have := hDb.out; omega) hR.blk.lt
            have hc : wr.cell? ⟨g, (matL k j (cauF j)).length, none⟩ = some (.slice (some ⟨gb, 0, none⟩) (rowF j (cauF j k)).length j) := by
              rw [matL_length, e]
              exact c1
            have h := hO4.out.push _ hO4.out.leD (Nat.le_refl _) (by rw [matL_length]; exact hkN) _ _ j hc hl (by rw [e]; exact Nat.le_refl _) (by unfold maxLen; omega) (fun h => by cases h)
            rw [matL_next]
            exact h
          case measure => omega
        | succ gj0 =>
          have hlt2 : (j : Int) < (m : Int) := by omega
          have hjm : j < (progF m j (cauF m k)).length := by rw [progF_length]; omega
          have hc5 := hR4.out.cell j hjm
          have hf5 := hR4.out.blk.frozen j
          have hx0 : IntKind.i64.wrap ((m : Int) + (k : Int)) = (m : Int) + (k : Int) := by rw [IntKind.wrap_i64]; omega
          have hx1 : IntKind.u8.wrap ((m : Int) + (k : Int)) = ev (UInt8.ofNat (m + k)) := by
            rw [← ev_lit (m + k) (by omega), IntKind.wrap_u8]; omega
          have hx2 : IntKind.u8.wrap (j : Int) = ev (UInt8.ofNat j) := by
            rw [← ev_lit j (by omega), IntKind.wrap_u8]; omega
          have HF := Lib.hid (cauF_eq m k j)
          have HN := Lib.hid (progF_next m j (cauF m k))
          generalize UInt8.ofNat (m + k) = X at hx1 HF
          generalize UInt8.ofNat j = Y at hx2 HF
          have HX : Hid (∀ w3 : World, Below wr.heap.size wr w3 → w3.cell? ⟨g, k, none⟩ = some (.slice (some ⟨gb, 0, none⟩) m m) ∧ (∃ u, w3.cell? ⟨gb, j, none⟩ = some u) ∧ w3.frozen? ⟨gb, j, none⟩ = false ∧
              ((w3.setCell ⟨gb, j, none⟩ (.int .u8 (ev (cauF m k j)))).cell? ⟨g, k, none⟩ = some (.slice (some ⟨gb, 0, none⟩) m m) ∧ Hid (Out (w3.setCell ⟨gb, j, none⟩ (.int .u8 (ev (cauF m k j)))) w.heap.size g n D (matL k m (cauF m))) ∧ Hid (Rowu (w3.setCell ⟨gb, j, none⟩ (.int .u8 (ev (cauF m k j)))) gb (progF m (j + 1) (cauF m k))) ∧ Hid (Below w.heap.size w (w3.setCell ⟨gb, j, none⟩ (.int .u8 (ev (cauF m k j))))))) := Lib.hid fun w3 hb => by
            have hgw := hO4.out.lt
            have hc := (hb.cell (p := ⟨g, k, none⟩) hgw).trans c1
            have hR := hR4.out.below hb hR4.out.blk.lt
            have hgb : g < gb := by have := hgD.out; have := hDb.out; omega
            refine ⟨hc, ⟨_, hR.cell j hjm⟩, hR.blk.frozen j, ?_, Lib.hid ((hO4.out.below hb).other gb j _ hDb.out), Lib.hid ?_, Lib.hid ?_⟩
            · rw [World.cell?_setCell_far _ _ _ _ (by show gb ≠ g; omega)]
              exact hc
            · have h := hR.set_ j (ev (cauF m k j)) (cauF m k j) (ev_nat _)
              rw [HN.out] at h
              exact h
            · exact (hB4.out.trans (hb.mono hB4.out.size)).setCell (p := ⟨gb, j, none⟩) hwD.out _
          go_wp2_with fail
          go_region_with (first
            | (go_at_call 55; refine (add_any X Y _).mono ?_; rintro e w' ⟨rfl, rfl⟩)
            | (go_at_call 48; refine (inv_any (X ^^^ Y) _).mono ?_; rintro e w' ⟨rfl, hb⟩; rw [HF.out]; obtain ⟨x1, ⟨x2, x3⟩, x4, x5⟩ := HX.out w' ((Below.refl _ _).drew.trans hb); have HX5 := Lib.hid x5; clear x5 hb))
          all_goals (go_wp2; go_roundg gj0)
          all_goals first
            | (exact ⟨j + 1, by go_num, by omega, HX5.out.1, HX5.out.2.1, HX5.out.2.2.1, HX5.out.2.2.2⟩)
            | omega
end Go.Proofs.Ytinfjidclkgfnaa
