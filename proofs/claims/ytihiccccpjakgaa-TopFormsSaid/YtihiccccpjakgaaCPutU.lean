/-
  The program's PutUint.
-/
import Derived.Test.YtihiccccpjakgaaCJoinB
namespace Go.Proofs.Ytihiccccpjakgaa
open Go.RowKit

theorem Gives.back {w W w' : World} {l : List UInt8} {e : Ending} (h : Gives W l e w') (hb : Below w.heap.size w W) : Gives w l e w' := by
  obtain ⟨v, rfl, ho, hb'⟩ := h
  exact ⟨v, rfl, ho.mono hb.size, hb.trans (hb'.mono hb.size)⟩
theorem Gives.eq {w w' : World} {l m : List UInt8} {e : Ending} (h : Gives w l e w') (hl : l = m) : Gives w m e w' := hl ▸ h

theorem part_one {w : World} {nd : Option Addr} {nc : Nat} {l : List UInt8} (hl : Lie w nd l) (hn : nd = none → nc = 0) (t : TypeId) :
    ∀ k (h : k < [(nd, nc, l)].length), (w.alloc (.cells #[.slice nd l.length nc] t)).cell? ⟨w.heap.size, k, none⟩ = some (.slice ([(nd, nc, l)][k]).1 ([(nd, nc, l)][k]).2.2.length ([(nd, nc, l)][k]).2.1) ∧ Lie (w.alloc (.cells #[.slice nd l.length nc] t)) ([(nd, nc, l)][k]).1 ([(nd, nc, l)][k]).2.2 ∧ (([(nd, nc, l)][k]).1 = none → ([(nd, nc, l)][k]).2.1 = 0) := by
  intro k h
  obtain rfl : k = 0 := by simpa using h
  refine ⟨?_, hl.below ((Below.refl _ _).alloc (Nat.le_refl _) _) rfl, hn⟩
  rw [World.cell?_alloc_mark]
  rfl
theorem join_one (ad : Option Addr) (cap g : Nat) (xs : List UInt8) (nd : Option Addr) (nc : Nat) (l : List UInt8) (w : World) (hl : Lie w ad xs) (hac : ad = none → cap = 0) (hl2 : Lie w nd l) (hn : nd = none → nc = 0) (hs : xs.length ≤ 1000000) (hs2 : l.length ≤ 1000000) (hg : g = w.heap.size) :
    Calls Try.prog 48 #[.slice ad xs.length cap, .slice (some ⟨g, 0, none⟩) 1 1] (w.alloc (.cells #[.slice nd l.length nc] 22)) (Gives w (xs ++ l)) := by
  have hb : Below w.heap.size w (w.alloc (.cells #[.slice nd l.length nc] 22)) := (Below.refl _ _).alloc (Nat.le_refl _) _
  subst hg
  refine (join_bytes ad cap w.heap.size xs [(nd, nc, l)] _ (hl.below hb rfl) hac (part_one hl2 hn _) hs (by simpa using hs2) (by simp)).mono ?_
  intro e w' h
  exact (h.back hb).eq (by simp)

set_option maxRecDepth 100000 in
set_option maxHeartbeats 600000 in
theorem puint_any (ad : Option Addr) (cap : Nat) (xs : List UInt8) (n : Nat) (w : World) (hl : Lie w ad xs) (hac : ad = none → cap = 0) (hs : xs.length ≤ 1000000) (hn : n < 18446744073709551616) :
    Calls Try.prog 34 #[.slice ad xs.length cap, .int .u64 n] w (Gives w (xs ++ enc n)) := by
  have HA := Lib.hid hac
  have hel := enc_len n hn
  clear hac
  go_enter Try.func34, Try.ntmps34
  go_wp2_with fail
  refine (number_any n _ hn).mono ?_
  rintro e w1 ⟨v, rfl, hown, hb⟩
  obtain ⟨nd, nc, rfl, hl2, _, _, hn2⟩ := hown.slice
  have HL := Lib.hid (hl.below hb rfl)
  have HL2 := Lib.hid hl2
  have HN2 := Lib.hid hn2
  have HB := Lib.hid hb
  clear hown hl hl2 hn2 hb
  go_wp2_with fail
  refine (join_one ad cap _ xs nd nc (enc n) _ HL.out HA.out HL2.out HN2.out hs (by omega) rfl).mono ?_
  rintro e w2 ⟨v, rfl, hown, hb⟩
  have HO := Lib.hid hown
  have HB2 := Lib.hid hb
  clear hown hb
  go_wp2
  go_ret
  exact ⟨v, rfl, HO.out.mono HB.out.size, HB.out.trans (HB2.out.mono HB.out.size)⟩

end Go.Proofs.Ytihiccccpjakgaa
