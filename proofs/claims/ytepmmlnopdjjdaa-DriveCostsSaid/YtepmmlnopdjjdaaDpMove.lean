/-
  Motions of the head, in the program.
-/
import Derived.Test.YtepmmlnopdjjdaaDpTwo
import Derived.Test.YtepmmlnopdjjdaaDpVal
import Derived.Test.YtepmmlnopdjjdaaDrUnload
import Derived.Test.YtepmmlnopdjjdaaQLoc
import Derived.Test.YtepmmlnopdjjdaaQRd
import Derived.Test.YtepmmlnopdjjdaaQSmall
import Derived.Test.YtepmmlnopdjjdaaDrWrite
namespace Go.Proofs.Ytepmmlnopdjjdaa
open Go.RowKit
set_option linter.unusedVariables false
set_option linter.unusedSimpArgs false
set_option maxRecDepth 100000
theorem count3 {w Z : World} {g k : Nat} {d : Drv} {c : Crt} {ad : Option Addr} {cap p : Nat} (h : Two w Z g k d c ad cap) (hp : Z.heap[p]? = some (.cells #[.pointer (some ⟨g, 4, none⟩), .pointer (some ⟨g, 5, none⟩), .pointer (some ⟨k, 12, none⟩)] 77 (0, 0))) (hpg : g ≠ p) (hpk : k ≠ p) (n : Int) (hn : 0 ≤ n ∧ n ≤ 1125899906842624)
    (h1 : 0 ≤ d.pa ∧ d.pa ≤ 1125899906842624) (h2 : 0 ≤ d.si ∧ d.si ≤ 1125899906842624) (h3 : 0 ≤ c.pa ∧ c.pa ≤ 1125899906842624) :
    Calls Try.prog 41 #[.int .i64 n, .slice (some ⟨p, 0, none⟩) 3 3] Z fun e w' => e = .returned (.tuple #[]) ∧ Two w w' g k ⟨d.st, d.bc, d.hd, d.lo, inc d.pa n, inc d.si n⟩ ⟨c.bc, c.W, c.L, c.S, c.T, c.J, c.R, c.wo, c.lk, c.l, c.ep, c.lo, inc c.pa n⟩ ad cap := by
  refine (count_any n hn [(⟨g, 4, none⟩, d.pa), (⟨g, 5, none⟩, d.si), (⟨k, 12, none⟩, c.pa)] 3 3 p Z rfl (by omega) ?_ ?_ ?_ ?_).mono ?_
  · obtain ⟨_, d0, d1, d2, d3, d4, d5⟩ := h.dat
    obtain ⟨_, k0, k1, k2, k3, k4, k5, k6, k7, k8, k9, k10, k11, k12⟩ := h.cat
    intro i hi
    match i, hi with
    | 0, _ => exact ⟨d4, froz_of h.d 4, h1⟩
    | 1, _ => exact ⟨d5, froz_of h.d 5, h2⟩
    | 2, _ => exact ⟨k12, froz_of h.c 12, h3⟩
  · intro i j hi hj hij
    have hne := h.ne
    match i, j, hi, hj with
    | 0, 1, _, _ => intro e; cases e
    | 0, 2, _, _ => intro e; cases e
    | 1, 2, _, _ => intro e; cases e
    | 0, 0, _, _ => omega
    | 1, 0, _, _ => omega
    | 1, 1, _, _ => omega
    | 2, 0, _, _ => omega
    | 2, 1, _, _ => omega
    | 2, 2, _, _ => omega
  · intro i hi
    rw [row_cell hp]
    match i, hi with
    | 0, _ => rfl
    | 1, _ => rfl
    | 2, _ => rfl
  · intro i hi
    match i, hi with
    | 0, _ => exact hpg
    | 1, _ => exact hpg
    | 2, _ => exact hpk
  · rintro e w' ⟨rfl, rfl⟩
    exact ⟨rfl, ((h.setd 4 (.int .i64 (inc d.pa n)) ⟨d.st, d.bc, d.hd, d.lo, inc d.pa n, d.si⟩ rfl).setd 5 (.int .i64 (inc d.si n)) ⟨d.st, d.bc, d.hd, d.lo, inc d.pa n, inc d.si n⟩ rfl).setc 12 (.int .i64 (inc c.pa n)) ⟨c.bc, c.W, c.L, c.S, c.T, c.J, c.R, c.wo, c.lk, c.l, c.ep, c.lo, inc c.pa n⟩ ad cap rfl⟩
theorem count2 {w Z : World} {g k : Nat} {d : Drv} {c : Crt} {ad : Option Addr} {cap p : Nat} (h : Two w Z g k d c ad cap) (hp : Z.heap[p]? = some (.cells #[.pointer (some ⟨g, 3, none⟩), .pointer (some ⟨k, 11, none⟩)] 77 (0, 0))) (hpg : g ≠ p) (hpk : k ≠ p) (n : Int) (hn : 0 ≤ n ∧ n ≤ 1125899906842624)
    (h1 : 0 ≤ d.lo ∧ d.lo ≤ 1125899906842624) (h3 : 0 ≤ c.lo ∧ c.lo ≤ 1125899906842624) :
    Calls Try.prog 41 #[.int .i64 n, .slice (some ⟨p, 0, none⟩) 2 2] Z fun e w' => e = .returned (.tuple #[]) ∧ Two w w' g k ⟨d.st, d.bc, d.hd, inc d.lo n, d.pa, d.si⟩ ⟨c.bc, c.W, c.L, c.S, c.T, c.J, c.R, c.wo, c.lk, c.l, c.ep, inc c.lo n, c.pa⟩ ad cap := by
  refine (count_any n hn [(⟨g, 3, none⟩, d.lo), (⟨k, 11, none⟩, c.lo)] 2 2 p Z rfl (by omega) ?_ ?_ ?_ ?_).mono ?_
  · obtain ⟨_, d0, d1, d2, d3, d4, d5⟩ := h.dat
    obtain ⟨_, k0, k1, k2, k3, k4, k5, k6, k7, k8, k9, k10, k11, k12⟩ := h.cat
    intro i hi
    match i, hi with
    | 0, _ => exact ⟨d3, froz_of h.d 3, h1⟩
    | 1, _ => exact ⟨k11, froz_of h.c 11, h3⟩
  · intro i j hi hj hij
    match i, j, hi, hj with
    | 0, 1, _, _ => intro e; cases e
    | 0, 0, _, _ => omega
    | 1, 0, _, _ => omega
    | 1, 1, _, _ => omega
  · intro i hi
    rw [row_cell hp]
    match i, hi with
    | 0, _ => rfl
    | 1, _ => rfl
  · intro i hi
    match i, hi with
    | 0, _ => exact hpg
    | 1, _ => exact hpk
  · rintro e w' ⟨rfl, rfl⟩
    exact ⟨rfl, (h.setd 3 (.int .i64 (inc d.lo n)) ⟨d.st, d.bc, d.hd, inc d.lo n, d.pa, d.si⟩ rfl).setc 11 (.int .i64 (inc c.lo n)) ⟨c.bc, c.W, c.L, c.S, c.T, c.J, c.R, c.wo, c.lk, c.l, c.ep, inc c.lo n, c.pa⟩ ad cap rfl⟩
/-- the geometry and the head, which no counter touches -/
def Geh (X : World) (g k : Nat) (W L S T J R hd : Int) : Prop := X.cell? ⟨k, 1, none⟩ = some (.int .i64 W) ∧ X.cell? ⟨k, 2, none⟩ = some (.int .i64 L) ∧ X.cell? ⟨k, 3, none⟩ = some (.int .i64 S) ∧ X.cell? ⟨k, 4, none⟩ = some (.int .i64 T) ∧ X.cell? ⟨k, 5, none⟩ = some (.int .i64 J) ∧ X.cell? ⟨k, 6, none⟩ = some (.int .i64 R) ∧ X.cell? ⟨g, 2, none⟩ = some (.int .i64 hd)
theorem Two.geh {w X : World} {g k : Nat} {d : Drv} {c : Crt} {ad : Option Addr} {cap : Nat} (h : Two w X g k d c ad cap) : Geh X g k c.W c.L c.S c.T c.J c.R d.hd := by
  obtain ⟨_, d0, d1, d2, d3, d4, d5⟩ := h.dat
  obtain ⟨_, k0, k1, k2, k3, k4, k5, k6, k7, k8, k9, k10, k11, k12⟩ := h.cat
  exact ⟨k1, k2, k3, k4, k5, k6, d2⟩
attribute [local irreducible] tim vld bar cnt okB capU allB vldC mdlU drvU due inc pas loc rd
set_option maxHeartbeats 4000000 in
theorem dmove_any (g k : Nat) (d : Drv) (c : Crt) (ad : Option Addr) (cap : Nat) (t : Int) (w : World) (hd : w.heap[g]? = some (.cells (drK d) 25 (0, 0))) (hc : w.heap[k]? = some (.cells (crQ c ad cap) 30 (0, 0))) (hne : g ≠ k)
    (h1 : 0 ≤ d.pa ∧ d.pa ≤ 1125899906842624) (h2 : 0 ≤ d.si ∧ d.si ≤ 1125899906842624) (h3 : 0 ≤ c.pa ∧ c.pa ≤ 1125899906842624) :
    Calls Try.prog 73 #[.pointer (some ⟨g, 0, none⟩), .pointer (some ⟨k, 0, none⟩), .int .i64 t] w fun e w' => e = .returned (.tuple #[]) ∧ Two w w' g k (mvD d c t) (mvC d c t) ad cap := by
  have HT := Lib.hid (Two.start hd hc hne)
  obtain ⟨n0, n1⟩ := pas_bd c.W c.L c.S c.T c.J c.R d.hd t
  have HP := Lib.hid (fun X => passes_any c.W c.L c.S c.T c.J c.R d.hd t X)
  have HD := Lib.hid (show mvD d c t = ⟨d.st, d.bc, t, d.lo, inc d.pa (pas c.W c.L c.S c.T c.J c.R d.hd t), inc d.si (pas c.W c.L c.S c.T c.J c.R d.hd t)⟩ from rfl)
  have HCC := Lib.hid (show mvC d c t = ⟨c.bc, c.W, c.L, c.S, c.T, c.J, c.R, c.wo, c.lk, c.l, c.ep, c.lo, inc c.pa (pas c.W c.L c.S c.T c.J c.R d.hd t)⟩ from rfl)
  generalize pas c.W c.L c.S c.T c.J c.R d.hd t = n at *
  rw [HD.out, HCC.out]
  clear HD HCC hd hc hne
  have HCN := Lib.hid (fun (Z : World) (p : Nat) (h : Two w Z g k d c ad cap) (hp) (hg) (hk) => count3 (p := p) h hp hg hk n ⟨n0, by omega⟩ h1 h2 h3)
  go_enter Try.func73, Try.ntmps73
  go_wp2_with fail
  replace HT := Lib.hid (HT.out.next (Below.refl w.heap.size w).drew)
  refine wp_region_noPanic ?_
  refine wp_region_held_drew (S := (fun X => Geh X g k c.W c.L c.S c.T c.J c.R d.hd)) (by kernel_rfl) (HT.out.geh) (fun hS0 => ?_)
  generalize World.drew w = X0 at *
  refine held_take (i := 0) (v := ?_) rfl (by kernel_rfl) (by kernel_rfl) (by kernel_rfl) (fun _ _ _ h => h) (by rfl) ?_ (by assumption) ?_
  rotate_left
  · intro X hSX
    try dsimp only at hSX
    go_simp <;> with_reducible rfl
  simp only [Act.put, List.setIfInBounds_toArray, List.set_cons_zero, List.set_cons_succ]
  refine held_take (i := 4) (v := ?_) rfl (by kernel_rfl) (by kernel_rfl) (by kernel_rfl) (fun _ _ _ h => h) (by rfl) ?_ (by assumption) ?_
  rotate_left
  · intro X hSX
    try dsimp only at hSX
    go_simp <;> with_reducible rfl
  simp only [Act.put, List.setIfInBounds_toArray, List.set_cons_zero, List.set_cons_succ]
  refine held_take (i := 8) (v := ?_) rfl (by kernel_rfl) (by kernel_rfl) (by kernel_rfl) (fun _ _ _ h => h) (by rfl) ?_ (by assumption) ?_
  rotate_left
  · intro X hSX
    try dsimp only at hSX
    go_simp <;> with_reducible rfl
  simp only [Act.put, List.setIfInBounds_toArray, List.set_cons_zero, List.set_cons_succ]
  refine held_take (i := 10) (v := ?_) rfl (by kernel_rfl) (by kernel_rfl) (by kernel_rfl) (fun _ _ _ h => h) (by rfl) ?_ (by assumption) ?_
  rotate_left
  · intro X hSX
    try dsimp only at hSX
    go_simp <;> with_reducible rfl
  simp only [Act.put, List.setIfInBounds_toArray, List.set_cons_zero, List.set_cons_succ]
  refine held_take (i := 13) (v := ?_) rfl (by kernel_rfl) (by kernel_rfl) (by kernel_rfl) (fun _ _ _ h => h) (by rfl) ?_ (by assumption) ?_
  rotate_left
  · intro X hSX
    try dsimp only at hSX
    go_simp <;> with_reducible rfl
  simp only [Act.put, List.setIfInBounds_toArray, List.set_cons_zero, List.set_cons_succ]
  refine held_take (i := 16) (v := ?_) rfl (by kernel_rfl) (by kernel_rfl) (by kernel_rfl) (fun _ _ _ h => h) (by rfl) ?_ (by assumption) ?_
  rotate_left
  · intro X hSX
    try dsimp only at hSX
    go_simp <;> with_reducible rfl
  simp only [Act.put, List.setIfInBounds_toArray, List.set_cons_zero, List.set_cons_succ]
  refine held_take (i := 1) (v := ?_) rfl (by kernel_rfl) (by kernel_rfl) (by kernel_rfl) (fun _ _ _ h => h) (by rfl) ?_ (by assumption) ?_
  rotate_left
  · intro X hSX
    try dsimp only at hSX
    go_simp <;> with_reducible rfl
  simp only [Act.put, List.setIfInBounds_toArray, List.set_cons_zero, List.set_cons_succ]
  refine held_take (i := 5) (v := ?_) rfl (by kernel_rfl) (by kernel_rfl) (by kernel_rfl) (fun _ _ _ h => h) (by rfl) ?_ (by assumption) ?_
  rotate_left
  · intro X hSX
    try dsimp only at hSX
    go_simp <;> with_reducible rfl
  simp only [Act.put, List.setIfInBounds_toArray, List.set_cons_zero, List.set_cons_succ]
  refine held_take (i := 11) (v := ?_) rfl (by kernel_rfl) (by kernel_rfl) (by kernel_rfl) (fun _ _ _ h => h) (by rfl) ?_ (by assumption) ?_
  rotate_left
  · intro X hSX
    try dsimp only at hSX
    go_simp <;> with_reducible rfl
  simp only [Act.put, List.setIfInBounds_toArray, List.set_cons_zero, List.set_cons_succ]
  refine held_take (i := 14) (v := ?_) rfl (by kernel_rfl) (by kernel_rfl) (by kernel_rfl) (fun _ _ _ h => h) (by rfl) ?_ (by assumption) ?_
  rotate_left
  · intro X hSX
    try dsimp only at hSX
    go_simp <;> with_reducible rfl
  simp only [Act.put, List.setIfInBounds_toArray, List.set_cons_zero, List.set_cons_succ]
  refine held_take (i := 17) (v := ?_) rfl (by kernel_rfl) (by kernel_rfl) (by kernel_rfl) (fun _ _ _ h => h) (by rfl) ?_ (by assumption) ?_
  rotate_left
  · intro X hSX
    try dsimp only at hSX
    go_simp <;> with_reducible rfl
  simp only [Act.put, List.setIfInBounds_toArray, List.set_cons_zero, List.set_cons_succ]
  refine held_take (i := 2) (v := ?_) rfl (by kernel_rfl) (by kernel_rfl) (by kernel_rfl) (fun _ _ _ h => h) (by rfl) ?_ (by assumption) ?_
  rotate_left
  · intro X hSX
    try dsimp only at hSX
    go_simp <;> with_reducible rfl
  simp only [Act.put, List.setIfInBounds_toArray, List.set_cons_zero, List.set_cons_succ]
  refine held_take (i := 6) (v := ?_) rfl (by kernel_rfl) (by kernel_rfl) (by kernel_rfl) (fun _ _ _ h => h) (by rfl) ?_ (by assumption) ?_
  rotate_left
  · intro X hSX
    try dsimp only at hSX
    go_simp <;> with_reducible rfl
  simp only [Act.put, List.setIfInBounds_toArray, List.set_cons_zero, List.set_cons_succ]
  refine held_take (i := 12) (v := ?_) rfl (by kernel_rfl) (by kernel_rfl) (by kernel_rfl) (fun _ _ _ h => h) (by rfl) ?_ (by assumption) ?_
  rotate_left
  · intro X hSX
    try dsimp only at hSX
    go_simp <;> with_reducible rfl
  simp only [Act.put, List.setIfInBounds_toArray, List.set_cons_zero, List.set_cons_succ]
  refine held_take (i := 15) (v := ?_) rfl (by kernel_rfl) (by kernel_rfl) (by kernel_rfl) (fun _ _ _ h => h) (by rfl) ?_ (by assumption) ?_
  rotate_left
  · intro X hSX
    try dsimp only at hSX
    go_simp <;> with_reducible rfl
  simp only [Act.put, List.setIfInBounds_toArray, List.set_cons_zero, List.set_cons_succ]
  refine held_take (i := 18) (v := ?_) rfl (by kernel_rfl) (by kernel_rfl) (by kernel_rfl) (fun _ _ _ h => h) (by rfl) ?_ (by assumption) ?_
  rotate_left
  · intro X hSX
    try dsimp only at hSX
    go_simp <;> with_reducible rfl
  simp only [Act.put, List.setIfInBounds_toArray, List.set_cons_zero, List.set_cons_succ]
  refine held_take (i := 3) (v := ?_) rfl (by kernel_rfl) (by kernel_rfl) (by kernel_rfl) (fun _ _ _ h => h) (by rfl) ?_ (by assumption) ?_
  rotate_left
  · intro X hSX
    try dsimp only at hSX
    obtain ⟨k1, k2, k3, k4, k5, k6, d2⟩ := hSX
    go_simp <;> with_reducible rfl
  simp only [Act.put, List.setIfInBounds_toArray, List.set_cons_zero, List.set_cons_succ]
  refine held_take (i := 7) (v := ?_) rfl (by kernel_rfl) (by kernel_rfl) (by kernel_rfl) (fun _ _ _ h => h) (by rfl) ?_ (by assumption) ?_
  rotate_left
  · intro X hSX
    try dsimp only at hSX
    obtain ⟨k1, k2, k3, k4, k5, k6, d2⟩ := hSX
    go_simp <;> with_reducible rfl
  simp only [Act.put, List.setIfInBounds_toArray, List.set_cons_zero, List.set_cons_succ]
  refine held_two (i := 9) (j := 19) rfl rfl (by kernel_rfl) (by rfl) (by rfl) (fun K' hK' => ?_) (fun K' hK' => ?_)
  · go_simp
    refine (HP.out X0).mono ?_
    rintro e X1 ⟨rfl, hb⟩
    replace HT := Lib.hid (HT.out.next hb)
    refine held_go hK' (HT.out.geh) ?_
    try simp only [Act.put, List.setIfInBounds_toArray, List.set_cons_zero, List.set_cons_succ]
    clear hb hS0
    have hS0 := HT.out.geh
    refine held_call (i := 19) rfl (by kernel_rfl) (by rfl) (fun K' hK' => ?_)
    go_simp
    have HPR := Lib.hid (heap_alloc_new X1 (.cells #[.pointer (some ⟨g, 4, none⟩), .pointer (some ⟨g, 5, none⟩), .pointer (some ⟨k, 12, none⟩)] 77))
    have HPG := Lib.hid (show g ≠ X1.heap.size by have := (Array.getElem?_eq_some_iff.1 HT.out.d).1; omega)
    have HPK := Lib.hid (show k ≠ X1.heap.size by have := (Array.getElem?_eq_some_iff.1 HT.out.c).1; omega)
    replace HT := Lib.hid (HT.out.next (below_boxC X1 (.cells #[.pointer (some ⟨g, 4, none⟩), .pointer (some ⟨g, 5, none⟩), .pointer (some ⟨k, 12, none⟩)] 77)))
    refine held_go hK' (HT.out.geh) ?_
    try simp only [Act.put, List.setIfInBounds_toArray, List.set_cons_zero, List.set_cons_succ]
    clear hS0
    have hS0 := HT.out.geh
    generalize World.alloc X1 _ = X2 at *
    generalize X1.heap.size = p at *
    refine held_call (i := 20) rfl (by kernel_rfl) (by rfl) (fun K' hK' => ?_)
    go_simp
    refine (HCN.out X2 p HT.out HPR.out HPG.out HPK.out).mono ?_
    rintro e X3 ⟨rfl, ht⟩
    replace HT := Lib.hid ht
    refine held_go hK' (HT.out.geh) ?_
    try simp only [Act.put, List.setIfInBounds_toArray, List.set_cons_zero, List.set_cons_succ]
    clear hS0
    refine wpAnyH_done (by kernel_rfl) ?_ _
    refine NoPanic.normal ?_
    obtain ⟨_, d0, d1, d2, d3, d4, d5⟩ := HT.out.dat
    have f := froz_of HT.out.d 2
    go_wp2_with fail
    go_end0
    exact ⟨rfl, HT.out.setd 2 (.int .i64 t) ⟨d.st, d.bc, t, d.lo, inc d.pa n, inc d.si n⟩ rfl⟩
  · go_simp
    have HPR := Lib.hid (heap_alloc_new X0 (.cells #[.pointer (some ⟨g, 4, none⟩), .pointer (some ⟨g, 5, none⟩), .pointer (some ⟨k, 12, none⟩)] 77))
    have HPG := Lib.hid (show g ≠ X0.heap.size by have := (Array.getElem?_eq_some_iff.1 HT.out.d).1; omega)
    have HPK := Lib.hid (show k ≠ X0.heap.size by have := (Array.getElem?_eq_some_iff.1 HT.out.c).1; omega)
    replace HT := Lib.hid (HT.out.next (below_boxC X0 (.cells #[.pointer (some ⟨g, 4, none⟩), .pointer (some ⟨g, 5, none⟩), .pointer (some ⟨k, 12, none⟩)] 77)))
    refine held_go hK' (HT.out.geh) ?_
    try simp only [Act.put, List.setIfInBounds_toArray, List.set_cons_zero, List.set_cons_succ]
    clear hS0
    have hS0 := HT.out.geh
    generalize World.alloc X0 _ = X1 at *
    generalize X0.heap.size = p at *
    refine held_call (i := 9) rfl (by kernel_rfl) (by rfl) (fun K' hK' => ?_)
    go_simp
    refine (HP.out X1).mono ?_
    rintro e X2 ⟨rfl, hb⟩
    replace HT := Lib.hid (HT.out.next hb)
    replace HPR := Lib.hid (row_next HPR.out hb)
    refine held_go hK' (HT.out.geh) ?_
    try simp only [Act.put, List.setIfInBounds_toArray, List.set_cons_zero, List.set_cons_succ]
    clear hb hS0
    have hS0 := HT.out.geh
    refine held_call (i := 20) rfl (by kernel_rfl) (by rfl) (fun K' hK' => ?_)
    go_simp
    refine (HCN.out X2 p HT.out HPR.out HPG.out HPK.out).mono ?_
    rintro e X3 ⟨rfl, ht⟩
    replace HT := Lib.hid ht
    refine held_go hK' (HT.out.geh) ?_
    try simp only [Act.put, List.setIfInBounds_toArray, List.set_cons_zero, List.set_cons_succ]
    clear hS0
    refine wpAnyH_done (by kernel_rfl) ?_ _
    refine NoPanic.normal ?_
    obtain ⟨_, d0, d1, d2, d3, d4, d5⟩ := HT.out.dat
    have f := froz_of HT.out.d 2
    go_wp2_with fail
    go_end0
    exact ⟨rfl, HT.out.setd 2 (.int .i64 t) ⟨d.st, d.bc, t, d.lo, inc d.pa n, inc d.si n⟩ rfl⟩
set_option maxHeartbeats 4000000 in
theorem dlocate_any (g k : Nat) (d : Drv) (c : Crt) (ad : Option Addr) (cap : Nat) (t : Int) (w : World) (hd : w.heap[g]? = some (.cells (drK d) 25 (0, 0))) (hc : w.heap[k]? = some (.cells (crQ c ad cap) 30 (0, 0))) (hne : g ≠ k)
    (h1 : 0 ≤ d.pa ∧ d.pa ≤ 1125899906842624) (h2 : 0 ≤ d.si ∧ d.si ≤ 1125899906842624) (h3 : 0 ≤ c.pa ∧ c.pa ≤ 1125899906842624) :
    Calls Try.prog 44 #[.pointer (some ⟨g, 0, none⟩), .pointer (some ⟨k, 0, none⟩), .int .i64 t] w fun e w' => e = .returned (.int .i64 (loc c.W c.L c.S c.T c.J c.R d.hd t)) ∧ Two w w' g k (mvD d c t) (mvC d c t) ad cap := by
  have HT := Lib.hid (Two.start hd hc hne)
  have HP := Lib.hid (fun X => locate_any c.W c.L c.S c.T c.J c.R d.hd t X)
  have HM := Lib.hid (fun X (h : Two w X g k d c ad cap) => dmove_any g k d c ad cap t X h.d h.c h.ne h1 h2 h3)
  generalize loc c.W c.L c.S c.T c.J c.R d.hd t = n at *
  clear hd hc hne h1 h2 h3
  go_enter Try.func44, Try.ntmps44
  go_wp2_with fail
  replace HT := Lib.hid (HT.out.next (Below.refl w.heap.size w).drew)
  refine wp_region_noPanic ?_
  refine wp_region_held_drew (S := (fun X => Geh X g k c.W c.L c.S c.T c.J c.R d.hd)) (by kernel_rfl) (HT.out.geh) (fun hS0 => ?_)
  generalize World.drew w = X0 at *
  refine held_take (i := 0) (v := ?_) rfl (by kernel_rfl) (by kernel_rfl) (by kernel_rfl) (fun _ _ _ h => h) (by rfl) ?_ (by assumption) ?_
  rotate_left
  · intro X hSX
    try dsimp only at hSX
    go_simp <;> with_reducible rfl
  simp only [Act.put, List.setIfInBounds_toArray, List.set_cons_zero, List.set_cons_succ]
  refine held_take (i := 4) (v := ?_) rfl (by kernel_rfl) (by kernel_rfl) (by kernel_rfl) (fun _ _ _ h => h) (by rfl) ?_ (by assumption) ?_
  rotate_left
  · intro X hSX
    try dsimp only at hSX
    go_simp <;> with_reducible rfl
  simp only [Act.put, List.setIfInBounds_toArray, List.set_cons_zero, List.set_cons_succ]
  refine held_take (i := 8) (v := ?_) rfl (by kernel_rfl) (by kernel_rfl) (by kernel_rfl) (fun _ _ _ h => h) (by rfl) ?_ (by assumption) ?_
  rotate_left
  · intro X hSX
    try dsimp only at hSX
    go_simp <;> with_reducible rfl
  simp only [Act.put, List.setIfInBounds_toArray, List.set_cons_zero, List.set_cons_succ]
  refine held_take (i := 1) (v := ?_) rfl (by kernel_rfl) (by kernel_rfl) (by kernel_rfl) (fun _ _ _ h => h) (by rfl) ?_ (by assumption) ?_
  rotate_left
  · intro X hSX
    try dsimp only at hSX
    go_simp <;> with_reducible rfl
  simp only [Act.put, List.setIfInBounds_toArray, List.set_cons_zero, List.set_cons_succ]
  refine held_take (i := 5) (v := ?_) rfl (by kernel_rfl) (by kernel_rfl) (by kernel_rfl) (fun _ _ _ h => h) (by rfl) ?_ (by assumption) ?_
  rotate_left
  · intro X hSX
    try dsimp only at hSX
    go_simp <;> with_reducible rfl
  simp only [Act.put, List.setIfInBounds_toArray, List.set_cons_zero, List.set_cons_succ]
  refine held_take (i := 2) (v := ?_) rfl (by kernel_rfl) (by kernel_rfl) (by kernel_rfl) (fun _ _ _ h => h) (by rfl) ?_ (by assumption) ?_
  rotate_left
  · intro X hSX
    try dsimp only at hSX
    go_simp <;> with_reducible rfl
  simp only [Act.put, List.setIfInBounds_toArray, List.set_cons_zero, List.set_cons_succ]
  refine held_take (i := 6) (v := ?_) rfl (by kernel_rfl) (by kernel_rfl) (by kernel_rfl) (fun _ _ _ h => h) (by rfl) ?_ (by assumption) ?_
  rotate_left
  · intro X hSX
    try dsimp only at hSX
    go_simp <;> with_reducible rfl
  simp only [Act.put, List.setIfInBounds_toArray, List.set_cons_zero, List.set_cons_succ]
  refine held_take (i := 3) (v := ?_) rfl (by kernel_rfl) (by kernel_rfl) (by kernel_rfl) (fun _ _ _ h => h) (by rfl) ?_ (by assumption) ?_
  rotate_left
  · intro X hSX
    try dsimp only at hSX
    obtain ⟨k1, k2, k3, k4, k5, k6, d2⟩ := hSX
    go_simp <;> with_reducible rfl
  simp only [Act.put, List.setIfInBounds_toArray, List.set_cons_zero, List.set_cons_succ]
  refine held_take (i := 7) (v := ?_) rfl (by kernel_rfl) (by kernel_rfl) (by kernel_rfl) (fun _ _ _ h => h) (by rfl) ?_ (by assumption) ?_
  rotate_left
  · intro X hSX
    try dsimp only at hSX
    obtain ⟨k1, k2, k3, k4, k5, k6, d2⟩ := hSX
    go_simp <;> with_reducible rfl
  simp only [Act.put, List.setIfInBounds_toArray, List.set_cons_zero, List.set_cons_succ]
  refine held_call (i := 9) rfl (by kernel_rfl) (by rfl) (fun K' hK' => ?_)
  go_simp
  refine (HP.out X0).mono ?_
  rintro e X1 ⟨rfl, hb⟩
  replace HT := Lib.hid (HT.out.next hb)
  refine held_go hK' (HT.out.geh) ?_
  try simp only [Act.put, List.setIfInBounds_toArray, List.set_cons_zero, List.set_cons_succ]
  clear hb hS0
  have hS0 := HT.out.geh
  refine held_take (i := 10) (v := ?_) rfl (by kernel_rfl) (by kernel_rfl) (by kernel_rfl) (fun _ _ _ h => h) (by rfl) ?_ (by assumption) ?_
  rotate_left
  · intro X hSX
    try dsimp only at hSX
    go_simp <;> with_reducible rfl
  simp only [Act.put, List.setIfInBounds_toArray, List.set_cons_zero, List.set_cons_succ]
  refine wpAnyH_done (by kernel_rfl) ?_ _
  refine NoPanic.normal ?_
  clear hS0
  go_wp2_with fail
  refine (HM.out X1 HT.out).mono ?_
  rintro e X2 ⟨rfl, ht⟩
  have HT2 := Lib.hid (HT.out.trans ht)
  clear ht
  go_wp2
  go_ret
  exact ⟨rfl, HT2.out⟩
set_option maxHeartbeats 4000000 in
theorem dstream_any (g k : Nat) (d : Drv) (c : Crt) (ad : Option Addr) (cap : Nat) (t : Int) (w : World) (hd : w.heap[g]? = some (.cells (drK d) 25 (0, 0))) (hc : w.heap[k]? = some (.cells (crQ c ad cap) 30 (0, 0))) (hne : g ≠ k)
    (h1 : 0 ≤ d.pa ∧ d.pa ≤ 1125899906842624) (h2 : 0 ≤ d.si ∧ d.si ≤ 1125899906842624) (h3 : 0 ≤ c.pa ∧ c.pa ≤ 1125899906842624) (ht : 0 ≤ t ∧ t ≤ 1000000) (hh : 0 ≤ d.hd ∧ d.hd ≤ 4096) :
    Calls Try.prog 47 #[.pointer (some ⟨g, 0, none⟩), .pointer (some ⟨k, 0, none⟩), .int .i64 t] w fun e w' => e = .returned (.int .i64 (rd c.W c.L c.S c.T c.J c.R d.hd t)) ∧ Two w w' g k (mvD d c (d.hd + t)) (mvC d c (d.hd + t)) ad cap := by
  have HT := Lib.hid (Two.start hd hc hne)
  have HP := Lib.hid (fun X => read_any c.W c.L c.S c.T c.J c.R d.hd t X)
  have HM := Lib.hid (fun X (h : Two w X g k d c ad cap) => dmove_any g k d c ad cap (d.hd + t) X h.d h.c h.ne h1 h2 h3)
  generalize rd c.W c.L c.S c.T c.J c.R d.hd t = n at *
  clear hd hc hne h1 h2 h3
  obtain ⟨t0, t1⟩ := ht
  obtain ⟨a0, a1⟩ := hh
  go_enter Try.func47, Try.ntmps47
  go_wp2_with fail
  replace HT := Lib.hid (HT.out.next (Below.refl w.heap.size w).drew)
  refine wp_region_noPanic ?_
  refine wp_region_held_drew (S := (fun X => Geh X g k c.W c.L c.S c.T c.J c.R d.hd)) (by kernel_rfl) (HT.out.geh) (fun hS0 => ?_)
  generalize World.drew w = X0 at *
  refine held_take (i := 0) (v := ?_) rfl (by kernel_rfl) (by kernel_rfl) (by kernel_rfl) (fun _ _ _ h => h) (by rfl) ?_ (by assumption) ?_
  rotate_left
  · intro X hSX
    try dsimp only at hSX
    go_simp <;> with_reducible rfl
  simp only [Act.put, List.setIfInBounds_toArray, List.set_cons_zero, List.set_cons_succ]
  refine held_take (i := 4) (v := ?_) rfl (by kernel_rfl) (by kernel_rfl) (by kernel_rfl) (fun _ _ _ h => h) (by rfl) ?_ (by assumption) ?_
  rotate_left
  · intro X hSX
    try dsimp only at hSX
    go_simp <;> with_reducible rfl
  simp only [Act.put, List.setIfInBounds_toArray, List.set_cons_zero, List.set_cons_succ]
  refine held_take (i := 8) (v := ?_) rfl (by kernel_rfl) (by kernel_rfl) (by kernel_rfl) (fun _ _ _ h => h) (by rfl) ?_ (by assumption) ?_
  rotate_left
  · intro X hSX
    try dsimp only at hSX
    go_simp <;> with_reducible rfl
  simp only [Act.put, List.setIfInBounds_toArray, List.set_cons_zero, List.set_cons_succ]
  refine held_take (i := 1) (v := ?_) rfl (by kernel_rfl) (by kernel_rfl) (by kernel_rfl) (fun _ _ _ h => h) (by rfl) ?_ (by assumption) ?_
  rotate_left
  · intro X hSX
    try dsimp only at hSX
    go_simp <;> with_reducible rfl
  simp only [Act.put, List.setIfInBounds_toArray, List.set_cons_zero, List.set_cons_succ]
  refine held_take (i := 5) (v := ?_) rfl (by kernel_rfl) (by kernel_rfl) (by kernel_rfl) (fun _ _ _ h => h) (by rfl) ?_ (by assumption) ?_
  rotate_left
  · intro X hSX
    try dsimp only at hSX
    go_simp <;> with_reducible rfl
  simp only [Act.put, List.setIfInBounds_toArray, List.set_cons_zero, List.set_cons_succ]
  refine held_take (i := 2) (v := ?_) rfl (by kernel_rfl) (by kernel_rfl) (by kernel_rfl) (fun _ _ _ h => h) (by rfl) ?_ (by assumption) ?_
  rotate_left
  · intro X hSX
    try dsimp only at hSX
    go_simp <;> with_reducible rfl
  simp only [Act.put, List.setIfInBounds_toArray, List.set_cons_zero, List.set_cons_succ]
  refine held_take (i := 6) (v := ?_) rfl (by kernel_rfl) (by kernel_rfl) (by kernel_rfl) (fun _ _ _ h => h) (by rfl) ?_ (by assumption) ?_
  rotate_left
  · intro X hSX
    try dsimp only at hSX
    go_simp <;> with_reducible rfl
  simp only [Act.put, List.setIfInBounds_toArray, List.set_cons_zero, List.set_cons_succ]
  refine held_take (i := 3) (v := ?_) rfl (by kernel_rfl) (by kernel_rfl) (by kernel_rfl) (fun _ _ _ h => h) (by rfl) ?_ (by assumption) ?_
  rotate_left
  · intro X hSX
    try dsimp only at hSX
    obtain ⟨k1, k2, k3, k4, k5, k6, d2⟩ := hSX
    go_simp <;> with_reducible rfl
  simp only [Act.put, List.setIfInBounds_toArray, List.set_cons_zero, List.set_cons_succ]
  refine held_take (i := 7) (v := ?_) rfl (by kernel_rfl) (by kernel_rfl) (by kernel_rfl) (fun _ _ _ h => h) (by rfl) ?_ (by assumption) ?_
  rotate_left
  · intro X hSX
    try dsimp only at hSX
    obtain ⟨k1, k2, k3, k4, k5, k6, d2⟩ := hSX
    go_simp <;> with_reducible rfl
  simp only [Act.put, List.setIfInBounds_toArray, List.set_cons_zero, List.set_cons_succ]
  refine held_take (i := 9) (v := ?_) rfl (by kernel_rfl) (by kernel_rfl) (by kernel_rfl) (fun _ _ _ h => h) (by rfl) ?_ (by assumption) ?_
  rotate_left
  · intro X hSX
    try dsimp only at hSX
    go_simp <;> with_reducible rfl
  simp only [Act.put, List.setIfInBounds_toArray, List.set_cons_zero, List.set_cons_succ]
  refine held_call (i := 10) rfl (by kernel_rfl) (by rfl) (fun K' hK' => ?_)
  go_simp
  refine (HP.out X0).mono ?_
  rintro e X1 ⟨rfl, hb⟩
  replace HT := Lib.hid (HT.out.next hb)
  refine held_go hK' (HT.out.geh) ?_
  try simp only [Act.put, List.setIfInBounds_toArray, List.set_cons_zero, List.set_cons_succ]
  clear hb hS0
  have hS0 := HT.out.geh
  refine held_take (i := 11) (v := ?_) rfl (by kernel_rfl) (by kernel_rfl) (by kernel_rfl) (fun _ _ _ h => h) (by rfl) ?_ (by assumption) ?_
  rotate_left
  · intro X hSX
    try dsimp only at hSX
    go_simp <;> with_reducible rfl
  simp only [Act.put, List.setIfInBounds_toArray, List.set_cons_zero, List.set_cons_succ]
  refine wpAnyH_done (by kernel_rfl) ?_ _
  refine NoPanic.normal ?_
  clear hS0
  obtain ⟨_, d0, d1, d2, d3, d4, d5⟩ := HT.out.dat
  go_wp2_with fail
  clear d0 d1 d2 d3 d4 d5
  refine (HM.out X1 HT.out).mono ?_
  rintro e X2 ⟨rfl, ht⟩
  have HT2 := Lib.hid (HT.out.trans ht)
  clear ht
  go_wp2
  go_ret
  exact ⟨rfl, HT2.out⟩
end Go.Proofs.Ytepmmlnopdjjdaa
