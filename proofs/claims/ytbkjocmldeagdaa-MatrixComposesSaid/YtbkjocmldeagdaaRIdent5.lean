/-
  Identity matrices and Cauchy matrices, by the specification.
-/
import Derived.Test.YtbkjocmldeagdaaRMul5
import Derived.Test.YtbkjocmldeagdaaKRows
import Derived.Test.YtbkjocmldeagdaaHCau
import Derived.Test.YtbkjocmldeagdaaHMul
namespace Go.Proofs.Ytbkjocmldeagdaa
open Go.RowKit
theorem OMv.made (w : World) (D L : Nat) (M : Nat → Nat → UInt8) : OMv (w.alloc (.cells #[] 23)) w.heap.size D (.slice (some ⟨w.heap.size, 0, none⟩) 0 0) 0 L M :=
  ⟨[], World.ownsRow_made w #[] 0 (Nat.le_refl _) (by decide) rfl, fun i h => by simp at h, fun i j h => by simp at h⟩
theorem OMv.mono {w : World} {B D D' r L : Nat} {v : Value} {M : Nat → Nat → UInt8} (h : OMv w B D v r L M) (hD : D ≤ D') : OMv w B D' v r L M := by
  obtain ⟨cs, h1, h2, h3⟩ := h
  refine ⟨cs, h1, fun i hi => ⟨(h2 i hi).1, ?_⟩, h3⟩
  obtain ⟨k, h4, h5⟩ := (h2 i hi).2
  exact ⟨k, h4, by omega⟩
theorem OMv.lr {w : World} {B D r L : Nat} {v : Value} {M : Nat → Nat → UInt8} (h : OMv w B D v r L M) (hr : 0 < r) : ∃ ad cap, v = .slice ad r cap ∧ Lr w ad (matL r L M) ∧ r ≤ cap ∧ cap ≤ maxLen := by
  obtain ⟨g, cap, gs, cps, e, h1, h2, h3⟩ := h.open_ hr
  exact ⟨_, cap, e, h3.lr, h1, h2⟩
theorem OMv.slice {w : World} {B D r L : Nat} {v : Value} {M : Nat → Nat → UInt8} (h : OMv w B D v r L M) : ∃ ad cap, v = .slice ad r cap := by
  obtain ⟨cs, h1, _⟩ := h
  rcases h1.2 with ⟨rfl, h0⟩ | ⟨g, cap, cur, rfl, _⟩
  · subst h0; exact ⟨_, _, rfl⟩
  · exact ⟨_, _, rfl⟩
/-- a call gives a new matrix with the rows ls -/
def GivesL (w : World) (n : Nat) (ls : List (List UInt8)) (v : Value) (w' : World) : Prop := ∃ ad cap, v = .slice ad n cap ∧ Lr w' ad ls ∧ n ≤ cap ∧ cap ≤ maxLen ∧ Below w.heap.size w w'
def RIdeP (w : World) (n : Int) (e : Ending) (w' : World) : Prop := (n < 1 ∨ 64 < n → e = .returned (.slice none 0 0) ∧ w = w') ∧ (1 ≤ n ∧ n ≤ 64 → ∃ v, e = .returned v ∧ GivesL w n.toNat (idL n.toNat) v w')
theorem RIdeP.no {w : World} {n : Int} (h : n < 1 ∨ 64 < n) : RIdeP w n (.returned (.slice none 0 0)) w := ⟨fun _ => ⟨rfl, rfl⟩, fun h' => by omega⟩
theorem OMv.below_lt {w w' W : World} {B D r L : Nat} {v : Value} {M : Nat → Nat → UInt8} (h : OMv w B D v r L M) (hb : Below B W w) (hB : B ≤ w.heap.size) (hg : w.grownBy w' v.ownBlock) : Below B W w' := hb.grown hg hB fun k hk => (h.lt k hk).1
theorem cell_one_at (w : World) (v : Value) (t : TypeId) (n : Nat) (hn : n = w.heap.size) : ∀ j u, [v][j]? = some u → (w.alloc (.cells #[v] t)).cell? ((⟨n, 0, none⟩ : Addr).add j) = some u := by subst hn; exact cell_one_new _ _ _
theorem rowF_def (L : Nat) (f : Nat → UInt8) : rowF L f = (List.range L).map f := rfl
attribute [local irreducible] matL rowF dl
set_option maxRecDepth 100000 in
set_option maxHeartbeats 1000000 in
theorem rident_any (n : Int) (w : World) (h0 : -9223372036854775808 ≤ n) (h1 : n ≤ 9223372036854775807) : Calls Try.prog 23 #[.int .i64 n] w (RIdeP w n) := by
  by_cases hn : n < 1
  · go_enter Try.func23, Try.ntmps23
    go_wp2
    go_ret
    exact RIdeP.no (.inl hn)
  by_cases hn2 : 64 < n
  · go_enter Try.func23, Try.ntmps23
    go_wp2
    go_ret
    exact RIdeP.no (.inr hn2)
  obtain ⟨N, rfl⟩ := Int.eq_ofNat_of_zero_le (show 0 ≤ n by omega)
  have HO1 := Lib.hid (OMv.made w (w.alloc (.cells #[] 23)).heap.size N dl)
  have HB1 := Lib.hid ((Below.refl w.heap.size w).alloc (Nat.le_refl _) (.cells #[] 23))
  go_enter Try.func23, Try.ntmps23
  go_wp2_with fail
  go_loopg [3, 4] N (fun gk vm vk wx => ∃ k : Nat, vk = .int .i64 k ∧ k + gk = N ∧ Hid (OMv wx w.heap.size wx.heap.size vm k N dl) ∧ Hid (Below w.heap.size w wx))
  case atStart => exact ⟨0, rfl, by omega, HO1, HB1⟩
  case round =>
    obtain ⟨k, rfl, hk, hO, HB⟩ := hrel
    cases gk with
    | zero =>
      have hlt : ¬ (k : Int) < (N : Int) := by omega
      obtain rfl : k = N := by omega
      go_wp2
      go_ret
      refine ⟨fun h => by omega, fun _ => ⟨_, rfl, ?_⟩⟩
      obtain ⟨ad, cap, e, h2, h3, h4⟩ := hO.out.lr (by omega)
      exact ⟨ad, cap, e, h2, h3, h4, HB.out⟩
    | succ gk0 =>
      have hlt : (k : Int) < (N : Int) := by omega
      have hkN : k < N := by omega
      go_wp2_with (first
        | (at_make; refine wpList_make_row rfl (.tmp 18) (.tmp 18) rfl _ _ N rfl rfl rfl rfl (by omega) ?_; intro gb w2 hr2 hg2 hb2; have hc2 := hr2.cell k (by rw [List.length_replicate]; exact hkN); have hf2 := hr2.blk.frozen k; have HR2 := Lib.hid hr2; have HB2 := Lib.hid hb2; have HG2 := Lib.hid hg2; have HB3 := Lib.hid ((hb2.setCell (p := ⟨gb, k, none⟩) hg2 (.int .u8 1)).alloc (by simpa using hb2.size) (.cells #[.slice (some ⟨gb, 0, none⟩) N N] 23)); have HRO : Hid (Own ((w2.setCell ⟨gb, k, none⟩ (.int .u8 1)).alloc (.cells #[.slice (some ⟨gb, 0, none⟩) N N] 23)) wr.heap.size (.slice (some ⟨gb, 0, none⟩) N N) ((List.range N).map (dl k))) := Lib.hid (by have h := hr2.set_ k 1 1 rfl; rw [dl_row, rowF_def] at h; have h2 := h.below ((Below.refl _ _).alloc (Nat.le_refl _) (.cells #[.slice (some ⟨gb, 0, none⟩) N N] 23)) h.blk.lt; exact h2.own (n := N) hg2 (by simp) (by unfold maxLen; omega)); clear hr2 hg2 hb2)
        | (at_builtin; refine wpList_append_row rfl (.tmp 23) (.tmp 25) rfl w.heap.size u3 (.slice (some ⟨gb, 0, none⟩) N N) k N dl wr.heap.size rfl (hO.out.below HB3.out) _ rfl (cell_one_at _ _ _ _ (by simp)) HRO.out (by omega) HB.out.size (by omega) (Nat.le_trans HB.out.size HB3.out.size) ?_; intro v3 w3 ho3 hg3; have HO3 := Lib.hid ho3; have HB4 := Lib.hid ((hO.out.below HB3.out).below_lt (HB.out.trans (HB3.out.mono HB.out.size)) (Nat.le_trans HB.out.size HB3.out.size) hg3); clear ho3 hg3))
      go_roundg gk0
      case rel => exact ⟨k + 1, by go_num, by omega, HO3, HB4⟩
      case measure => omega
end Go.Proofs.Ytbkjocmldeagdaa
