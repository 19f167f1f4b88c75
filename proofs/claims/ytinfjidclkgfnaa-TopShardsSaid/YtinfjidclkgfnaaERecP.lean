/-
  What Reconstruct gives, on both sides.
-/
import Derived.Test.YtinfjidclkgfnaaQRows
import Derived.Test.YtinfjidclkgfnaaEProd
namespace Go.Proofs.Ytinfjidclkgfnaa
open Go.RowKit
/-- the error that Reconstruct gives -/
def recE (ls : List (List UInt8)) (hs : List Bool) (p : Int) : Int :=
  if vc ((ls.length : Int) - p) p = true then (if hs.length = ls.length then (if sameL (pick ls hs) = true then (if ls.length ≤ hs.count true + p.toNat then 0 else 23) else 8) else 8) else 7
/-- all shards, or none -/
noncomputable def recR (ls : List (List UInt8)) (hs : List Bool) (p : Int) : List (List UInt8) :=
  if recE ls hs p = 0 then dataL (ls.length - p.toNat) p.toNat ls hs ++ parL (dataL (ls.length - p.toNat) p.toNat ls hs) p.toNat else []
/-- what Reconstruct gives -/
def RecP (w : World) (ls : List (List UInt8)) (hs : List Bool) (p : Int) (e : Ending) (w' : World) : Prop :=
  ∃ ad cap, e = .returned (.tuple #[.slice ad (recR ls hs p).length cap, .int .i64 (recE ls hs p)]) ∧ Lr w' ad (recR ls hs p) ∧ (recR ls hs p).length ≤ cap ∧ cap ≤ maxLen ∧ Below w.heap.size w w'
section
variable {w w' : World} {ls : List (List UInt8)} {hs : List Bool} {p : Int} {k q : Nat}
theorem RecP.no {c : Int} (hc : c ≠ 0) (h : recE ls hs p = c) (hb : Below w.heap.size w w') : RecP w ls hs p (.returned (.tuple #[.slice none 0 0, .int .i64 c])) w' := by
  have hr : recR ls hs p = [] := by unfold recR; rw [if_neg (by rw [h]; exact hc)]
  unfold RecP
  rw [hr, h]
  exact ⟨none, 0, rfl, ⟨.inl rfl⟩, Nat.le_refl _, Nat.zero_le _, hb⟩
theorem recE_range (h : vc ((ls.length : Int) - p) p = false) : recE ls hs p = 7 := by unfold recE; rw [h]; rfl
theorem recE_len (h : vc ((ls.length : Int) - p) p = true) (h2 : hs.length ≠ ls.length) : recE ls hs p = 8 := by unfold recE; rw [h, if_pos rfl, if_neg h2]
theorem recE_same (h : vc ((ls.length : Int) - p) p = true) (h2 : hs.length = ls.length) (h3 : sameL (pick ls hs) = false) : recE ls hs p = 8 := by unfold recE; rw [h, if_pos rfl, if_pos h2, h3]; rfl
theorem recE_lost (h : vc ((ls.length : Int) - q) q = true) (h2 : hs.length = ls.length) (h3 : sameL (pick ls hs) = true) (hn : ls.length = k + q) (h4 : hs.count true < k) : recE ls hs q = 23 := by
  unfold recE; rw [h, if_pos rfl, if_pos h2, h3, if_pos rfl, if_neg (by rw [Int.toNat_natCast]; omega)]
theorem recE_ok (h : vc ((ls.length : Int) - q) q = true) (h2 : hs.length = ls.length) (h3 : sameL (pick ls hs) = true) (hn : ls.length = k + q) (h4 : k ≤ hs.count true) : recE ls hs q = 0 := by
  unfold recE; rw [h, if_pos rfl, if_pos h2, h3, if_pos rfl, if_pos (by rw [Int.toNat_natCast]; omega)]
theorem recR_ok (h : recE ls hs q = 0) (hn : ls.length = k + q) : recR ls hs q = dataL k q ls hs ++ parL (dataL k q ls hs) q := by
  unfold recR
  rw [if_pos h, Int.toNat_natCast, show ls.length - q = k by omega]
theorem RecP.ok {ad : Option Addr} {n cap : Nat} (h : recE ls hs q = 0) (hn : ls.length = k + q) (hl : Lr w' ad (dataL k q ls hs ++ parL (dataL k q ls hs) q)) (hlen : n = (dataL k q ls hs ++ parL (dataL k q ls hs) q).length) (g1 : n ≤ cap) (g2 : cap ≤ maxLen) (hb : Below w.heap.size w w') : RecP w ls hs q (.returned (.tuple #[.slice ad n cap, .int .i64 0])) w' := by
  subst hlen
  unfold RecP
  rw [recR_ok h hn, h]
  exact ⟨ad, cap, rfl, hl, g1, g2, hb⟩
end
end Go.Proofs.Ytinfjidclkgfnaa
