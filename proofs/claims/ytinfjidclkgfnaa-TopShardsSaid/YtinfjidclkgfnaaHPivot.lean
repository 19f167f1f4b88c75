/-
  The search for an element other than 0: column after column, from a row on.
-/
import Derived.Test.YtinfjidclkgfnaaQRows
import Derived.Test.YtinfjidclkgfnaaQField
import Derived.Deep.LoopGhost
import Derived.WalkMore
namespace Go.Proofs.Ytinfjidclkgfnaa
open Go.RowKit
/-- a row, and its element -/
theorem Out.elem {w : World} {B g R D r L : Nat} {M : Nat → Nat → UInt8} (h : Out w B g R D (matL r L M)) (i j : Nat) (hi : i < r) (hj : j < L) :
    ∃ b off cap, w.cell? ⟨g, i, none⟩ = some (.slice (some ⟨b, off, none⟩) L cap) ∧ w.cell? ⟨b, off + j, none⟩ = some (.int .u8 (ev (M i j))) ∧ LieN w g D (some ⟨b, off, none⟩) (rowF L (M i)) ∧ L ≤ cap ∧ cap ≤ maxLen := by
  have hi' : i < (matL r L M).length := by rw [matL_length]; exact hi
  obtain ⟨ad, cap, h1, h2, h3, h4, _⟩ := h.get i hi'
  rw [matL_rowF] at h2
  have e : ((matL r L M)[i]).length = L := by rw [matL_rowF, rowF_length]
  rw [e] at h1 h3
  have hp : 0 < (rowF L (M i)).length := by rw [rowF_length]; omega
  obtain ⟨b, off, rfl, _, hc⟩ := (h2.lie h.leD).ev hp
  exact ⟨b, off, cap, h1, by rw [hc j (by rw [rowF_length]; exact hj), rowF_get], h2, h3, h4⟩

/-- what the search gives -/
def PivP (w : World) (r R W : Nat) (M : Nat → Nat → UInt8) (e : Ending) (w' : World) : Prop :=
  ∃ a c : Nat, e = .returned (.tuple #[.int .i64 a, .int .i64 c]) ∧ R ≤ c ∧ c ≤ W ∧ (∀ k, R ≤ k → k < c → ∀ i, R ≤ i → i < r → M i k = 0) ∧ (c < W → R ≤ a ∧ a < r ∧ M a c ≠ 0) ∧ w = w'
attribute [local irreducible] matL
set_option maxRecDepth 100000 in
set_option maxHeartbeats 1000000 in
theorem pivot_any (B g R' D r L R W : Nat) (M : Nat → Nat → UInt8) (w : World) (hO : Out w B g R' D (matL r L M)) (hr : r ≤ 1000) (hL : L ≤ 1000) (hW : W ≤ L) (hR : R ≤ W) :
    Calls Try.prog 65 #[.slice (some ⟨g, 0, none⟩) r r, .int .i64 R, .int .i64 W] w (PivP w r R W M) := by
  have HO := Lib.hid hO
  clear hO
  go_enter Try.func65, Try.ntmps65
  go_wp2
  go_step3
  go_wp2
  go_step3
  go_wp2
  go_loopg [6, 7] (W - R) (fun gk va vc wx => ∃ a c : Nat, va = .int .i64 a ∧ vc = .int .i64 c ∧ R ≤ c ∧ c + gk = W ∧ Hid (∀ k, R ≤ k → k < c → ∀ i, R ≤ i → i < r → M i k = 0) ∧ w = wx)
  case atStart => exact ⟨0, R, rfl, rfl, by omega, by omega, Lib.hid fun k h1 h2 => by omega, rfl⟩
  case round =>
    obtain ⟨a0, c, rfl, rfl, hc1, hc2, hz, rfl⟩ := hrel
    cases gk with
    | zero =>
      have hcc : ¬ (c : Int) < (W : Int) := by omega
      go_wp2
      try rw [Exit.noGoto_ret]
      go_ret2
      exact ⟨a0, c, rfl, hc1, by omega, hz.out, fun h => by omega, rfl⟩
    | succ gk0 =>
      have hcc : (c : Int) < (W : Int) := by omega
      have hcL : (c : Int) < (L : Int) := by omega
      go_wp2
      go_loopg [6] (r - R) (fun gi va wx => ∃ a : Nat, va = .int .i64 a ∧ R ≤ a ∧ (a + gi = r ∨ (gi = 0 ∧ r ≤ a)) ∧ Hid (∀ i, R ≤ i → i < a → i < r → M i c = 0) ∧ w = wx)
      case atStart => exact ⟨R, rfl, by omega, by omega, Lib.hid fun i h1 h2 => by omega, rfl⟩
      case round =>
        obtain ⟨a, rfl, ha1, ha2, hzz, rfl⟩ := hrel
        by_cases hlt2 : a < r
        · obtain ⟨b, off, cap, f1, f2, -, g1, g2⟩ := HO.out.elem a c hlt2 (by omega)
          unfold maxLen at g2
          by_cases hm : M a c = 0
          · have HZ : Hid (∀ i, R ≤ i → i < a + 1 → i < r → M i c = 0) := Lib.hid fun i h1 h2 h3 => by
              rcases Nat.lt_or_ge i a with h' | h'
              · exact hzz.out i h1 h' h3
              · obtain rfl : i = a := by omega
                exact hm
            rw [hm, ev_zero] at f2
            clear hm
            go_wp2
            go_roundg (r - (a + 1))
            case rel => exact ⟨a + 1, by go_num, by omega, by omega, HZ, rfl⟩
            case measure => omega
          · have hne : ev (M a c) ≠ 0 := fun h => hm ((ev_eq0 _).1 h)
            have HM := Lib.hid hm
            clear hm
            generalize ev (M a c) = X at f2 hne
            go_wp2
            try rw [Exit.noGoto_ret]
            go_ret2
            exact ⟨a, c, rfl, hc1, by omega, hz.out, fun _ => ⟨ha1, hlt2, HM.out⟩, rfl⟩
        · have HZ : Hid (∀ k, R ≤ k → k < c + 1 → ∀ i, R ≤ i → i < r → M i k = 0) := Lib.hid fun k h1 h2 i h3 h4 => by
            rcases Nat.lt_or_ge k c with h' | h'
            · exact hz.out k h1 h' i h3 h4
            · obtain rfl : k = c := by omega
              exact hzz.out i h3 (by omega) h4
          have hlt3 : ¬ (a : Int) < (r : Int) := by omega
          go_wp2
          go_roundg gk0
          case rel => exact ⟨a, c + 1, rfl, by go_num, by omega, by omega, HZ, rfl⟩
          case measure => omega
end Go.Proofs.Ytinfjidclkgfnaa
