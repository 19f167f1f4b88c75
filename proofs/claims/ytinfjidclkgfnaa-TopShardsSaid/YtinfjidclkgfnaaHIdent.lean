/-
  Identity matrices and Cauchy matrices, by the program.
-/
import Derived.Test.YtinfjidclkgfnaaHPivot
import Derived.Test.YtinfjidclkgfnaaQField
import Derived.BigQuiet
import Derived.Deep.LoopGhost
import Derived.Deep.RegionWith
namespace Go.Proofs.Ytinfjidclkgfnaa
open Go.RowKit

/-- a cell behind the last row turns -/
theorem Out.beyond {w : World} {B g R D : Nat} {ls : List (List UInt8)} (h : Out w B g R D ls) (i : Nat) (hi : ls.length ≤ i) (u : Value) : Out (w.setCell ⟨g, i, none⟩ u) B g R D ls := by
  obtain ⟨cur, h4, h5, h6⟩ := h.outer
  have hk : ∀ b, b < D → g < b → (w.setCell ⟨g, i, none⟩ u).heap[b]? = w.heap[b]? := fun b _ hb => Below.heap_setCell w ⟨g, i, none⟩ _ b (by intro e; have e : b = g := e; omega)
  refine ⟨h.base, h.fits, h.most, h.ltD, by simpa using h.leD, _, heap_set_here w g i _ cur _ _ h4, by simpa using h5, fun j hj => ?_⟩
  rw [Array.getElem?_setIfInBounds, if_neg (by omega)]
  obtain ⟨ad', cap', h7, h8, h9⟩ := h6 j hj
  exact ⟨ad', cap', h7, h8.kept (Nat.le_refl _) hk, h9⟩
theorem Rowu.other {w : World} {g : Nat} {R : List UInt8} (h : Rowu w g R) (b i : Nat) (u : Value) (hb : b ≠ g) : Rowu (w.setCell ⟨b, i, none⟩ u) g R := by
  have h' := h.blk
  unfold Blk at h'
  show (w.setCell ⟨b, i, none⟩ u).heap[g]? = _
  exact (Below.heap_setCell w ⟨b, i, none⟩ u g (by intro e; have e : g = b := e; omega)).trans h'
theorem Rowu.lieN {w : World} {g g0 D : Nat} {R : List UInt8} (h : Rowu w g R) (h1 : g0 < g) (h2 : g < D) : LieN w g0 D (some ⟨g, 0, none⟩) R :=
  .inr ⟨g, 0, rfl, h2, h1, fun j hj => by rw [Nat.zero_add]; exact h.cell j hj⟩
theorem matL_zero (L : Nat) (M : Nat → Nat → UInt8) : matL 0 L M = [] := rfl
theorem matL_next (r L : Nat) (M : Nat → Nat → UInt8) : matL (r + 1) L M = matL r L M ++ [rowF L (M r)] := matL_succ r L M

/-- a new matrix with the rows ls -/
def GivesO (w : World) (n : Nat) (ls : List (List UInt8)) (e : Ending) (w' : World) : Prop := ∃ g, e = .returned (.slice (some ⟨g, 0, none⟩) n n) ∧ Out w' w.heap.size g n w'.heap.size ls ∧ Below w.heap.size w w'
/-- what Identity gives -/
def IdeP (w : World) (n : Int) (e : Ending) (w' : World) : Prop := (n < 1 ∨ 64 < n → e = .returned (.slice none 0 0) ∧ w = w') ∧ (1 ≤ n ∧ n ≤ 64 → GivesO w n.toNat (idL n.toNat) e w')
theorem IdeP.no {w : World} {n : Int} (h : n < 1 ∨ 64 < n) : IdeP w n (.returned (.slice none 0 0)) w := ⟨fun _ => ⟨rfl, rfl⟩, fun h' => by omega⟩
attribute [local irreducible] matL rowF dl
set_option maxRecDepth 100000 in
set_option maxHeartbeats 1000000 in
theorem ident_any (n : Int) (w : World) (h0 : -9223372036854775808 ≤ n) (h1 : n ≤ 9223372036854775807) : Calls Try.prog 50 #[.int .i64 n] w (IdeP w n) := by
  by_cases hn : n < 1
  · go_enter Try.func50, Try.ntmps50
    go_wp2
    go_ret
    exact IdeP.no (.inl hn)
  by_cases hn2 : 64 < n
  · go_enter Try.func50, Try.ntmps50
    go_wp2
    go_ret
    exact IdeP.no (.inr hn2)
  obtain ⟨N, rfl⟩ := Int.eq_ofNat_of_zero_le (show 0 ≤ n by omega)
  go_enter Try.func50, Try.ntmps50
  go_wp2_with (at_make; refine wpList_make_outer rfl (.tmp 11) (.tmp 11) rfl _ _ N rfl rfl rfl rfl (by omega) ?_; intro g w1 ho1 hb1)
  have HO1 : Hid (Out w1 w.heap.size g N w1.heap.size (matL 0 N dl)) := Lib.hid (by have h := ho1.take 0; rw [List.take_zero] at h; rw [matL_zero]; exact h)
  have HB1 := Lib.hid hb1
  clear ho1 hb1
  go_loopg [15] N (fun gk vk wx => ∃ k : Nat, vk = .int .i64 k ∧ k + gk = N ∧ Hid (Out wx w.heap.size g N wx.heap.size (matL k N dl)) ∧ Hid (Below w.heap.size w wx))
  case atStart => exact ⟨0, rfl, by omega, HO1, HB1⟩
  case round =>
    obtain ⟨k, rfl, hk, hO, HB⟩ := hrel
    cases gk with
    | zero =>
      have hlt : ¬ (k : Int) < (N : Int) := by omega
      obtain rfl : k = N := by omega
      go_wp2
      go_ret
      exact ⟨fun h => by omega, fun _ => ⟨g, rfl, hO.out, HB.out⟩⟩
    | succ gk0 =>
      have hlt : (k : Int) < (N : Int) := by omega
      have hkN : k < N := by omega
      have hgl := hO.out.lt
      have HGL := Lib.hid hgl
      clear hgl
      go_wp2_with (at_make; refine wpList_make_row rfl (.tmp 20) (.tmp 20) rfl _ _ N rfl rfl rfl rfl (by omega) ?_; intro gb w2 hr2 hg2 hb2; have hO2 := hO.out.below hb2; obtain ⟨u, hu⟩ := hO2.there k hkN; have hz := hO2.frozen k; have hgb : g ≠ gb := (by have := HGL.out; omega); have hr3 := hr2.other g k (.slice (some ⟨gb, 0, none⟩) N N) hgb; have hc3 := hr3.cell k (by rw [List.length_replicate]; exact hkN); have hf3 := hr3.blk.frozen k; have hd3 : (w2.setCell ⟨g, k, none⟩ (.slice (some ⟨gb, 0, none⟩) N N)).cell? ⟨g, k, none⟩ = some (.slice (some ⟨gb, 0, none⟩) N N) := World.cell?_setCell_same' _ _ _ (by rw [hu]; rfl); have HO2 := Lib.hid hO2; have HR2 := Lib.hid hr2; have HR3 := Lib.hid hr3; have HB2 := Lib.hid hb2; have HG2 := Lib.hid hg2; clear hO2 hr2 hr3 hb2 hg2)
      go_roundg gk0
      case rel =>
        refine ⟨k + 1, by go_num, by omega, Lib.hid ?_, Lib.hid ?_⟩
        · have hA := HO2.out.beyond k (by rw [matL_length]; exact Nat.le_refl _) (.slice (some ⟨gb, 0, none⟩) N N)
          have hB := hA.other gb k (.int .u8 1) HG2.out
          have hR := HR3.out.set_ k 1 1 rfl
          rw [dl_row] at hR
          have e := rowF_length N (dl k)
          have hl := hR.lieN (g0 := g) (D := ((w2.setCell ⟨g, k, none⟩ (.slice (some ⟨gb, 0, none⟩) N N)).setCell ⟨gb, k, none⟩ (.int .u8 1)).heap.size) (by have := HGL.out; have := HG2.out; omega) hR.blk.lt
          have hc : ((w2.setCell ⟨g, k, none⟩ (.slice (some ⟨gb, 0, none⟩) N N)).setCell ⟨gb, k, none⟩ (.int .u8 1)).cell? ⟨g, (matL k N dl).length, none⟩ = some (.slice (some ⟨gb, 0, none⟩) (rowF N (dl k)).length N) := by
            rw [matL_length, e, World.cell?_setCell_far _ _ _ _ (by exact fun h => hgb h.symm)]
            exact hd3
          have h := hB.push _ hB.leD (Nat.le_refl _) (by rw [matL_length]; exact hkN) _ _ N hc hl (by rw [e]; exact Nat.le_refl _) (by unfold maxLen; omega) (fun h => by cases h)
          rw [matL_next]
          exact h
        · exact ((HB.out.trans (HB2.out.mono HB.out.size)).setCell (p := ⟨g, k, none⟩) hO.out.base _).setCell (p := ⟨gb, k, none⟩) (Nat.le_trans HB.out.size HG2.out) _
      case measure => omega
end Go.Proofs.Ytinfjidclkgfnaa
