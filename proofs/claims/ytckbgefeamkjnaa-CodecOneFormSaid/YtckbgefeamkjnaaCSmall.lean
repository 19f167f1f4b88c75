/-
  A slice of items, and the function that asks whether its texts are small.
-/
import Derived.Test.YtckbgefeamkjnaaCItem
namespace Go.Proofs.Ytckbgefeamkjnaa
open Go.RowKit

/-- The item x lies at ⟨b, o⟩. -/
structure ItAt (w : World) (b o : Nat) (x : It) : Prop where
  c0 : w.cell? ⟨b, o, none⟩ = some (.int .i64 x.k)
  c1 : w.cell? ⟨b, o + 1, none⟩ = some (.int .u64 x.u)
  c2 : w.cell? ⟨b, o + 2, none⟩ = some (.int .i64 x.n)
  c3 : w.cell? ⟨b, o + 3, none⟩ = some (.string x.s)
  c4 : w.cell? ⟨b, o + 4, none⟩ = some (.bool x.v)
/-- The items l lie at ad. -/
structure Lies (w : World) (ad : Option Addr) (l : List It) : Prop where
  at_ : l = [] ∨ ∃ b off, ad = some ⟨b, off, none⟩ ∧ b < w.heap.size ∧ ∀ i (h : i < l.length), ItAt w b (off + i * 5) l[i]
theorem Lies.below {W w : World} {ad : Option Addr} {l : List It} {B : Nat} (h : Lies W ad l) (hb : Below B W w) (hB : B = W.heap.size) : Lies w ad l := by
  subst hB
  rcases h.at_ with h0 | ⟨b, off, rfl, hlt, hc⟩
  · exact ⟨.inl h0⟩
  · refine ⟨.inr ⟨b, off, rfl, Nat.lt_of_lt_of_le hlt hb.size, fun i hi => ?_⟩⟩
    obtain ⟨c0, c1, c2, c3, c4⟩ := hc i hi
    exact ⟨(hb.cell (by exact hlt)).trans c0, (hb.cell (by exact hlt)).trans c1, (hb.cell (by exact hlt)).trans c2, (hb.cell (by exact hlt)).trans c3, (hb.cell (by exact hlt)).trans c4⟩

/-- Few items, and short texts. -/
def Few (l : List It) : Prop := l.length ≤ 100 ∧ ∀ i (h : i < l.length), l[i].s.size ≤ 4096

set_option maxRecDepth 100000 in
set_option maxHeartbeats 600000 in
theorem small_yes (ad : Option Addr) (cap : Nat) (l : List It) (w : World) (hl : Lies w ad l) (h : Few l) :
    Calls Try.prog 10 #[.slice ad l.length cap] w fun e w' => e = .returned (.bool true) ∧ w = w' := by
  obtain ⟨h100, hsm⟩ := h
  have HSM := Lib.hid hsm
  have HL := Lib.hid hl
  clear hsm hl
  go_enter Try.func10, Try.ntmps10
  go_wp2
  go_loop [3] (fun i => ∃ k : Nat, k ≤ l.length ∧ i = .int .i64 k) (fun i => (l.length - (intOf i).toNat))
  case atStart => exact ⟨0, by omega, rfl⟩
  case round =>
    obtain ⟨k, hk, rfl⟩ := hrel
    by_cases hlt : k < l.length
    · rcases HL.out.at_ with h0 | ⟨b, off, rfl, _, hc⟩
      · subst h0; simp at hlt
      have hc3 := (hc k hlt).c3
      have hsz := HSM.out k hlt
      clear hc
      go_wp2
      exact ⟨⟨k + 1, by omega, by go_num⟩, by simp [intOf]; omega⟩
    · go_wp2
      go_ret
      exact ⟨rfl, rfl⟩

set_option maxRecDepth 100000 in
set_option maxHeartbeats 600000 in
theorem small_no (ad : Option Addr) (cap : Nat) (l : List It) (w : World) (hl : Lies w ad l) (h : ¬ Few l) :
    Calls Try.prog 10 #[.slice ad l.length cap] w fun e w' => e = .returned (.bool false) ∧ w = w' := by
  by_cases h100 : l.length ≤ 100
  · have HF := Lib.hid (fun hs : ∀ i (h : i < l.length), l[i].s.size ≤ 4096 => h ⟨h100, hs⟩)
    have HL := Lib.hid hl
    clear h hl
    go_enter Try.func10, Try.ntmps10
    go_wp2
    go_loop [3] (fun i => ∃ k : Nat, k ≤ l.length ∧ i = .int .i64 k ∧ Hid (∀ j (h : j < l.length), j < k → l[j].s.size ≤ 4096)) (fun i => (l.length - (intOf i).toNat))
    case atStart => exact ⟨0, by omega, rfl, Lib.hid fun j _ h => absurd h (Nat.not_lt_zero j)⟩
    case round =>
      obtain ⟨k, hk, rfl, hpre⟩ := hrel
      by_cases hlt : k < l.length
      · rcases HL.out.at_ with h0 | ⟨b, off, rfl, _, hc⟩
        · subst h0; simp at hlt
        have hc3 := (hc k hlt).c3
        clear hc
        by_cases hsz : l[k].s.size ≤ 4096
        · go_wp2
          refine ⟨⟨k + 1, by omega, by go_num, Lib.hid fun j hj hjk => ?_⟩, by simp [intOf]; omega⟩
          by_cases hjk2 : j = k
          · subst hjk2; exact hsz
          · exact hpre.out j hj (by omega)
        · go_wp2
          go_ret
          exact ⟨rfl, rfl⟩
      · exact absurd (fun i hi => hpre.out i hi (by omega)) HF.out
  · clear hl h
    go_enter Try.func10, Try.ntmps10
    go_wp2
    go_ret
    exact ⟨rfl, rfl⟩
end Go.Proofs.Ytckbgefeamkjnaa
