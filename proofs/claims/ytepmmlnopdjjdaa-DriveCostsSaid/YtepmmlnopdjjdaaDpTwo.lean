/-
  A drive and a cartridge behind two pointers, and what operations leave of them; counters.
-/
import Derived.Test.YtepmmlnopdjjdaaQBox
namespace Go.Proofs.Ytepmmlnopdjjdaa
open Go.RowKit
set_option linter.unusedVariables false
set_option linter.unusedSimpArgs false
set_option maxRecDepth 100000
/-- from w on, these two boxes alone have changed, and hold this now -/
structure Two (w X : World) (g k : Nat) (d : Drv) (c : Crt) (ad : Option Addr) (cap : Nat) : Prop where
  d : X.heap[g]? = some (.cells (drK d) 25 (0, 0))
  c : X.heap[k]? = some (.cells (crQ c ad cap) 30 (0, 0))
  ne : g ≠ k
  b : Below 0 w X
  o : ∀ j, j < w.heap.size → j ≠ g → j ≠ k → X.heap[j]? = w.heap[j]?
section
variable {w X Y : World} {g k : Nat} {d : Drv} {c : Crt} {ad : Option Addr} {cap : Nat}
theorem Two.start (hd : w.heap[g]? = some (.cells (drK d) 25 (0, 0))) (hc : w.heap[k]? = some (.cells (crQ c ad cap) 30 (0, 0))) (hne : g ≠ k) : Two w w g k d c ad cap :=
  ⟨hd, hc, hne, Below.refl _ _, fun _ _ _ _ => rfl⟩
theorem Two.next (h : Two w X g k d c ad cap) (hb : Below X.heap.size X Y) : Two w Y g k d c ad cap :=
  ⟨(hb.block _ (Array.getElem?_eq_some_iff.1 h.d).1).trans h.d, (hb.block _ (Array.getElem?_eq_some_iff.1 h.c).1).trans h.c, h.ne, h.b.trans (hb.mono (Nat.zero_le _)), fun j hj h1 h2 => (hb.block j (Nat.lt_of_lt_of_le hj h.b.size)).trans (h.o j hj h1 h2)⟩
theorem Two.trans {d2 : Drv} {c2 : Crt} {ad2 : Option Addr} {cap2 : Nat} (h : Two w X g k d c ad cap) (h2 : Two X Y g k d2 c2 ad2 cap2) : Two w Y g k d2 c2 ad2 cap2 :=
  ⟨h2.d, h2.c, h.ne, h.b.trans h2.b, fun j hj h3 h4 => (h2.o j (Nat.lt_of_lt_of_le hj h.b.size) h3 h4).trans (h.o j hj h3 h4)⟩
theorem Two.dat (h : Two w X g k d c ad cap) : DrAt X g d.st d.bc d.hd d.lo d.pa d.si := DrAt.of h.d
theorem Two.cat (h : Two w X g k d c ad cap) : CrAt X k c.bc c.W c.L c.S c.T c.J c.R c.wo c.lk ad c.l.length cap c.ep c.lo c.pa := CrAt.of h.c
theorem Two.setd (h : Two w X g k d c ad cap) (i : Nat) (u : Value) (d2 : Drv) (hd : (drK d).setIfInBounds i u = drK d2) : Two w (X.setCell ⟨g, i, none⟩ u) g k d2 c ad cap := by
  refine ⟨by rw [← hd]; exact heap_set_b X g i u _ _ _ h.d, ?_, h.ne, h.b.setCell (by show 0 ≤ g; omega) _, fun j hj h1 h2 => ?_⟩
  · rw [Below.heap_setCell _ _ _ _ (by show k ≠ g; exact h.ne.symm)]; exact h.c
  · rw [Below.heap_setCell _ _ _ _ (by show j ≠ g; exact h1)]; exact h.o j hj h1 h2
theorem Two.setc (h : Two w X g k d c ad cap) (i : Nat) (u : Value) (c2 : Crt) (ad2 : Option Addr) (cap2 : Nat) (hd : (crQ c ad cap).setIfInBounds i u = crQ c2 ad2 cap2) : Two w (X.setCell ⟨k, i, none⟩ u) g k d c2 ad2 cap2 := by
  refine ⟨?_, by rw [← hd]; exact heap_set_b X k i u _ _ _ h.c, h.ne, h.b.setCell (by show 0 ≤ k; omega) _, fun j hj h1 h2 => ?_⟩
  · rw [Below.heap_setCell _ _ _ _ (by show g ≠ k; exact h.ne)]; exact h.d
  · rw [Below.heap_setCell _ _ _ _ (by show j ≠ k; exact h2)]; exact h.o j hj h1 h2
theorem Two.rowd (h : Two w X g k d c ad cap) (d2 : Drv) : Two w (X.setRow g (drK d2)) g k d2 c ad cap := by
  refine ⟨setRow_heap _ _ _ _ _ _ h.d, ?_, h.ne, below_set h.b (by omega) _, fun j hj h1 h2 => ?_⟩
  · rw [setRow_other _ _ _ _ h.ne.symm]; exact h.c
  · rw [setRow_other _ _ _ _ h1]; exact h.o j hj h1 h2
theorem Two.rowc (h : Two w X g k d c ad cap) (c2 : Crt) (ad2 : Option Addr) (cap2 : Nat) : Two w (X.setRow k (crQ c2 ad2 cap2)) g k d c2 ad2 cap2 := by
  refine ⟨?_, setRow_heap _ _ _ _ _ _ h.c, h.ne, below_set h.b (by omega) _, fun j hj h1 h2 => ?_⟩
  · rw [setRow_other _ _ _ _ h.ne]; exact h.d
  · rw [setRow_other _ _ _ _ h2]; exact h.o j hj h1 h2
end
/-- counters that have increased, one after another -/
def bump (n : Int) : List (Addr × Int) → World → World
  | [], w => w
  | p :: r, w => bump n r (w.setCell p.1 (.int .i64 (inc p.2 n)))
theorem bump_snoc (n : Int) : ∀ (l : List (Addr × Int)) (p : Addr × Int) (w : World), bump n (l ++ [p]) w = (bump n l w).setCell p.1 (.int .i64 (inc p.2 n))
  | [], p, w => rfl
  | q :: r, p, w => bump_snoc n r p _
theorem bump_cell (n : Int) : ∀ (l : List (Addr × Int)) (w : World) (a : Addr), (∀ p ∈ l, p.1 ≠ a) → (bump n l w).cell? a = w.cell? a
  | [], w, a, h => rfl
  | q :: r, w, a, h => by
    show (bump n r (w.setCell q.1 _)).cell? a = _
    rw [bump_cell n r _ a (fun p hp => h p (List.mem_cons_of_mem _ hp)), World.cell?_setCell_other _ _ _ _ (h q (List.mem_cons_self ..))]
theorem bump_frozen (n : Int) : ∀ (l : List (Addr × Int)) (w : World) (a : Addr), (bump n l w).frozen? a = w.frozen? a
  | [], w, a => rfl
  | q :: r, w, a => by
    show (bump n r (w.setCell q.1 _)).frozen? a = _
    rw [bump_frozen n r _ a, World.frozen?_setCell]
attribute [local irreducible] bump inc
set_option maxHeartbeats 2000000 in
theorem count_any (n : Int) (hn : 0 ≤ n ∧ n ≤ 1125899906842624) (ps : List (Addr × Int)) (N cap g : Nat) (w : World) (hN : N = ps.length) (hs : N ≤ 10)
    (hc : ∀ i (h : i < ps.length), w.cell? ps[i].1 = some (.int .i64 ps[i].2) ∧ w.frozen? ps[i].1 = false ∧ 0 ≤ ps[i].2 ∧ ps[i].2 ≤ 1125899906842624)
    (hd : ∀ i j (h : i < ps.length) (h2 : j < ps.length), i < j → ps[i].1 ≠ ps[j].1)
    (hp : ∀ i (h : i < ps.length), w.cell? ⟨g, i, none⟩ = some (.pointer (some ps[i].1)))
    (hg : ∀ i (h : i < ps.length), ps[i].1.block ≠ g) :
    Calls Try.prog 41 #[.int .i64 n, .slice (some ⟨g, 0, none⟩) N cap] w fun e w' => e = .returned (.tuple #[]) ∧ w' = bump n ps w := by
  have HN := Lib.hid hN
  have HC := Lib.hid hc
  have HD := Lib.hid hd
  have HP := Lib.hid hp
  have HG := Lib.hid hg
  have HCE : Hid (∀ k (h : k < ps.length), (bump n (ps.take k) w).cell? ps[k].1 = w.cell? ps[k].1 ∧ (bump n (ps.take k) w).cell? ⟨g, k, none⟩ = w.cell? ⟨g, k, none⟩) := Lib.hid (by
    intro k hk
    refine ⟨bump_cell _ _ _ _ fun p hp2 => ?_, bump_cell _ _ _ _ fun p hp2 => ?_⟩
    · obtain ⟨i, hi, rfl⟩ := List.getElem_of_mem hp2
      rw [List.length_take] at hi
      rw [List.getElem_take]
      exact hd i k (by omega) hk (by omega)
    · obtain ⟨i, hi, rfl⟩ := List.getElem_of_mem hp2
      rw [List.length_take] at hi
      rw [List.getElem_take]
      intro e
      have := hg i (by omega)
      rw [e] at this
      exact this rfl)
  clear hN hc hd hp hg
  obtain ⟨n0, n1⟩ := hn
  go_enter Try.func41, Try.ntmps41
  go_wp2
  go_loopg [8] N (fun gk v8 wx => ∃ k : Nat, v8 = .int .i64 k ∧ k + gk = N ∧ Hid (wx = bump n (ps.take k) w))
  case atStart => exact ⟨0, rfl, by omega, Lib.hid (by rw [List.take_zero]; unfold bump; rfl)⟩
  case round =>
    obtain ⟨k, rfl, hk, hW⟩ := hrel
    cases gk with
    | zero =>
      obtain rfl : k = N := by omega
      go_wp2
      go_end0
      exact ⟨rfl, by rw [hW.out, HN.out, List.take_length]⟩
    | succ gk0 =>
      have hkn : k < N := by omega
      have hkl : k < ps.length := by rw [← HN.out]; exact hkn
      obtain ⟨e1, e2, e3, e4⟩ := HC.out k hkl
      have e5 := HP.out k hkl
      obtain ⟨f1, f2⟩ := HCE.out k hkl
      rw [← hW.out, e1] at f1
      rw [← hW.out, e5] at f2
      have f3 : wr.frozen? ps[k].1 = false := by rw [hW.out, bump_frozen]; exact e2
      have HS : Hid (∀ v, v = .int .i64 (inc ps[k].2 n) → wr.setCell ps[k].1 v = bump n (ps.take (k + 1)) w) := Lib.hid (by
        intro v hv
        rw [List.take_succ_eq_append_getElem hkl, bump_snoc, ← hW.out, hv])
      clear e1 e2 e5
      generalize ps[k].2 = x at *
      generalize ps[k].1 = p at *
      clear hkl hW
      by_cases hx : 1125899906842624 < x + n
      · have HI := Lib.hid (show inc x n = 1125899906842624 by unfold inc; rw [if_pos hx])
        go_wp2
        go_roundg gk0
        case rel => exact ⟨k + 1, by go_num, by omega, Lib.hid (HS.out _ (by rw [HI.out]))⟩
        case measure => omega
      · have HI := Lib.hid (show inc x n = x + n by unfold inc; rw [if_neg hx])
        go_wp2
        go_roundg gk0
        case rel => exact ⟨k + 1, by go_num, by omega, Lib.hid (HS.out _ (by rw [HI.out]))⟩
        case measure => omega
end Go.Proofs.Ytepmmlnopdjjdaa
