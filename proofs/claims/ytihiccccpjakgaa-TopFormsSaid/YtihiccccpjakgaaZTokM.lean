/-
  Copies, as plain mathematics: what a copy appends, all at once; what is kept in memory beside bytes.
-/
import Derived.Test.YtihiccccpjakgaaZNx
import Derived.Test.YtihiccccpjakgaaApp
namespace Go.Proofs.Ytihiccccpjakgaa
open Go.RowKit
set_option linter.unusedVariables false
/-- the byte i of a copy from the distance d back -/
def rpt (out : List UInt8) (d i : Nat) : UInt8 := out.getD (out.length - d + i % d) 0
theorem rpt_mod (out : List UInt8) (d i : Nat) : rpt out d (i + d) = rpt out d i := by unfold rpt; rw [Nat.add_mod_right]
theorem rpt_mul (out : List UInt8) (d i q : Nat) : rpt out d (d * q + i) = rpt out d i := by unfold rpt; rw [Nat.mul_add_mod]
theorem cpy_all (out : List UInt8) (d : Nat) (h0 : 0 < d) (hd : d ≤ out.length) (m : Nat) : cpy m d out = out ++ (List.range m).map (rpt out d) := by
  induction m with
  | zero => simp [cpy]
  | succ m ih =>
    rw [cpy_snoc, cpy_length, ih, List.range_succ, List.map_append, List.append_assoc]
    congr 2
    rw [List.map_cons, List.map_nil]
    congr 1
    by_cases h : m < d
    · rw [List.getD_eq_getElem?_getD, List.getElem?_append_left (by omega), ← List.getD_eq_getElem?_getD]
      unfold rpt
      rw [Nat.mod_eq_of_lt h]
      congr 1
      omega
    · rw [List.getD_eq_getElem?_getD, List.getElem?_append_right (by omega), show out.length + m - d - out.length = m - d by omega, List.getElem?_map, List.getElem?_range (by omega)]
      show rpt out d (m - d) = _
      have := rpt_mod out d (m - d)
      rw [show m - d + d = m by omega] at this
      exact this.symm
/-- the bytes from the distance on, of the copy so far, are the copy itself -/
theorem cpy_part (out : List UInt8) (d : Nat) (h0 : 0 < d) (hd : d ≤ out.length) (m p : Nat) (hp : p ≤ d + m) : ((cpy m d out).drop (out.length - d)).take p = (List.range p).map (rpt out d) := by
  have hl := cpy_length m d out
  refine List.ext_getElem (by rw [List.length_take, List.length_drop, List.length_map, List.length_range]; omega) fun i h1 h2 => ?_
  rw [List.length_map, List.length_range] at h2
  rw [List.getElem_take, List.getElem_drop, List.getElem_map, List.getElem_range]
  have e : (cpy m d out)[out.length - d + i]'(by omega) = (out ++ (List.range m).map (rpt out d))[out.length - d + i]'(by rw [← cpy_all out d h0 hd]; omega) := by congr 1; exact cpy_all out d h0 hd m
  rw [e]
  by_cases h : i < d
  · rw [List.getElem_append_left (by omega)]
    unfold rpt
    rw [Nat.mod_eq_of_lt h, List.getD_eq_getElem?_getD, List.getElem?_eq_getElem (by omega)]
    rfl
  · rw [List.getElem_append_right (by omega), List.getElem_map, List.getElem_range]
    have := rpt_mod out d (i - d)
    rw [show i - d + d = i by omega] at this
    rw [this]
    congr 1
    omega
/-- it appended once more, where what was copied is whole -/
theorem cpy_more (out : List UInt8) (d : Nat) (h0 : 0 < d) (hd : d ≤ out.length) (m p : Nat) (hp : p ≤ d + m) (hm : m % d = 0) :
    cpy m d out ++ ((cpy m d out).drop (out.length - d)).take p = cpy (m + p) d out := by
  rw [cpy_part out d h0 hd m p hp, cpy_all out d h0 hd m, cpy_all out d h0 hd (m + p), List.append_assoc, List.range_add, List.map_append, List.map_map]
  congr 2
  refine List.map_congr_left fun i _ => ?_
  have := rpt_mul out d i (m / d)
  rw [show d * (m / d) = m by have := Nat.div_add_mod m d; omega] at this
  exact this.symm

/-- beside bytes all is as it was; so is what lies below B -/
structure KeepU (B : Nat) (w w' : World) : Prop where
  below : Below B w w'
  rest : ∀ (k : Nat) (o : Obj), w.heap[k]? = some o → (∀ cs fr, o ≠ Obj.cells cs 5 fr) → w'.heap[k]? = some o
theorem KeepU.refl (B : Nat) (w : World) : KeepU B w w := ⟨.refl _ _, fun _ _ h _ => h⟩
theorem KeepU.trans {B : Nat} {a b c : World} (h : KeepU B a b) (k : KeepU B b c) : KeepU B a c := ⟨h.below.trans k.below, fun i o h1 h2 => k.rest i o (h.rest i o h1 h2) h2⟩
theorem KeepU.new {B : Nat} {w w' : World} (h : Below w.heap.size w w') (hB : B ≤ w.heap.size) : KeepU B w w' :=
  ⟨h.mono hB, fun k o h1 _ => (h.block k (Array.getElem?_eq_some_iff.1 h1).1).trans h1⟩
theorem KeepU.grown {B : Nat} {w w' : World} {v : Value} {l : List UInt8} (ho : Own w B v l) (h : w.grownBy w' v.ownBlock) (hB : B ≤ w.heap.size) : KeepU B w w' := by
  refine ⟨(Below.refl _ _).grown h hB (fun k hk => (ho.lt k hk).1), fun k o h1 h2 => ?_⟩
  refine (h.block k (Array.getElem?_eq_some_iff.1 h1).1 fun e => ?_).trans h1
  rcases ho.row.2 with ⟨rfl, _⟩ | ⟨g, cap, cur, rfl, _, hg, _⟩
  · cases e
  · cases e
    rw [hg] at h1
    exact h2 _ _ (Option.some.inj h1).symm
theorem KeepU.cell {B : Nat} {w w' : World} (h : KeepU B w w') {k : Nat} {cs : Array Value} {t : TypeId} {fr : Nat × Nat} (h1 : w.heap[k]? = some (.cells cs t fr)) (ht : t ≠ 5) : w'.heap[k]? = some (.cells cs t fr) :=
  h.rest k _ h1 fun cs' fr' e => by cases e; exact ht rfl
end Go.Proofs.Ytihiccccpjakgaa
