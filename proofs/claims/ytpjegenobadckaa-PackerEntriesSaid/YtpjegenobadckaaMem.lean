/-
  Bytes that lie in memory: a slice of bytes as a list of bytes.
-/
import Derived.Test.YtpjegenobadckaaRows
import Derived.WalkKit
import Derived.WalkSpells
import Derived.WalkLawsBesides
import Derived.Lib.Hide
import Derived.Below
import Derived.Deep.Draws
import Derived.Laws.AppendOwn
import Derived.OwnWalk
import Derived.OpenShut
namespace Go.Proofs.Ytpjegenobadckaa
open Go.RowKit Go.ChangeShapes

def cellsU (l : List UInt8) : List Value := l.map fun x => Value.int .u8 (x.toNat : Int)
theorem cellsU_length (l : List UInt8) : (cellsU l).length = l.length := by simp [cellsU]
theorem cellsU_append (l m : List UInt8) : cellsU l ++ cellsU m = cellsU (l ++ m) := by simp [cellsU]
theorem cellsU_get (l : List UInt8) (j : Nat) (h : j < l.length) : (cellsU l)[j]? = some (.int .u8 ((l[j]'h).toNat : Int)) := by simp [cellsU, h]
theorem cellsU_one (l : List UInt8) : ∀ u ∈ cellsU l, u.oneCell' = true := by
  intro u hu
  obtain ⟨y, _, rfl⟩ := List.mem_map.1 hu
  rfl
theorem toNat_ofNat8 (n : Nat) (h : n < 256) : (UInt8.ofNat n).toNat = n := by
  simp [UInt8.toNat_ofNat']; omega

/-- The bytes xs lie at ad. -/
structure Lie (w : World) (ad : Option Addr) (xs : List UInt8) : Prop where
  at_ : xs = [] ∨ ∃ b off, ad = some ⟨b, off, none⟩ ∧ b < w.heap.size ∧ ∀ j (h : j < xs.length), w.cell? ⟨b, off + j, none⟩ = some (.int .u8 ((xs[j]'h).toNat : Int))

theorem Lie.nil (w : World) (ad : Option Addr) : Lie w ad [] := ⟨.inl rfl⟩
theorem Lie.below {W w : World} {ad : Option Addr} {xs : List UInt8} {B : Nat} (h : Lie W ad xs) (hb : Below B W w) (hB : B = W.heap.size) : Lie w ad xs := by
  subst hB
  rcases h.at_ with h0 | ⟨b, off, rfl, hlt, hc⟩
  · exact ⟨.inl h0⟩
  · exact ⟨.inr ⟨b, off, rfl, Nat.lt_of_lt_of_le hlt hb.size, fun j hj => by rw [hb.cell (by exact hlt)]; exact hc j hj⟩⟩
theorem Lie.drew {w : World} {ad : Option Addr} {xs : List UInt8} (h : Lie w ad xs) : Lie w.drew ad xs := ⟨h.at_⟩
theorem Lie.drewN {w : World} {ad : Option Addr} {xs : List UInt8} (h : Lie w ad xs) (n : Nat) : Lie (w.drewN n) ad xs := ⟨h.at_⟩

theorem lie_of (w : World) (a : Option Addr) (len cap : Nat) (zs : List Int)
    (h : (a = none ∧ len = 0 ∧ cap = 0 ∧ zs = []) ∨ ∃ x, a = some x ∧ len ≤ cap ∧ cap ≤ maxLen ∧ zs.length = cap ∧ (∀ i, i < zs.length → w.cell? (x.add i) = some (.int .u8 (zs.getD i 0))) ∧ ∀ n ∈ zs, (Lit.int .u8 n).wf = true) :
    ∃ xs : List UInt8, xs.length = len ∧ Lie w a xs ∧ len ≤ cap ∧ cap ≤ maxLen ∧ (a = none → cap = 0) := by
  rcases h with ⟨rfl, rfl, rfl, rfl⟩ | ⟨x, rfl, hl, hm, hz, hc, hw⟩
  · exact ⟨[], rfl, .nil _ _, Nat.le_refl _, Nat.zero_le _, fun _ => rfl⟩
  · refine ⟨(zs.take len).map fun z => UInt8.ofNat z.toNat, by simp; omega, ⟨?_⟩, hl, hm, fun h => by cases h⟩
    by_cases h0 : len = 0
    · left; subst h0; simp
    · right
      have hp : 0 < zs.length := by omega
      obtain ⟨b, off, rfl, hcell⟩ := ints_at hc hp
      refine ⟨b, off, rfl, ?_, fun j hj => ?_⟩
      · have := hcell 0 hp
        rcases Nat.lt_or_ge b w.heap.size with h' | h'
        · exact h'
        · simp [World.cell?, Array.getElem?_eq_none h'] at this
      · have hj' : j < len := by simp at hj; omega
        have hjz : j < zs.length := by omega
        have hb : 0 ≤ zs[j] ∧ zs[j] ≤ 255 := by simpa [Lit.wf, IntKind.min, IntKind.max, IntKind.signed, IntKind.bits] using hw zs[j] (List.getElem_mem hjz)
        have e : zs.getD j 0 = zs[j] := by simp [hjz]
        rw [hcell j hjz, e]
        simp only [List.getElem_map, List.getElem_take]
        rw [toNat_ofNat8 _ (by omega)]
        congr 2
        omega

theorem lie_own {w : World} {base : Nat} {v : Value} {n : Nat} {zs : List UInt8} (hown : w.ownsRow base 5 1 v n (cellsU zs)) (hn : n = zs.length) :
    ∃ ad cap, v = .slice ad zs.length cap ∧ Lie w ad zs ∧ zs.length ≤ cap ∧ cap ≤ maxLen ∧ (ad = none → cap = 0) := by
  subst hn
  rcases hown.2 with ⟨rfl, h0⟩ | ⟨g, cap, cur, rfl, _, hg, hle, hm, hsz, htake⟩
  · have : zs = [] := List.eq_nil_of_length_eq_zero h0
    subst this
    exact ⟨none, 0, rfl, .nil _ _, Nat.le_refl _, Nat.zero_le _, fun _ => rfl⟩
  · refine ⟨some ⟨g, 0, none⟩, cap, rfl, ⟨.inr ⟨g, 0, rfl, (Array.getElem?_eq_some_iff.1 hg).1, fun j hj => ?_⟩⟩, hle, hm, fun h => by cases h⟩
    rw [Nat.zero_add, cell_of_row w g j cur 5 (0, 0) hg]
    have h1 : (cur.toList.take (zs.length * 1))[j]? = some (.int .u8 ((zs[j]'hj).toNat : Int)) := by rw [htake]; exact cellsU_get zs j hj
    rw [List.getElem?_take_of_lt (by omega)] at h1
    simpa using h1
end Go.Proofs.Ytpjegenobadckaa
