/-
  Slices of ints of the call's own; whether one contains a number.
-/
import Derived.Test.YtbkjocmldeagdaaJGives
import Derived.ArgAppend
namespace Go.Proofs.Ytbkjocmldeagdaa
open Go.RowKit
def cellsI (l : List Nat) : List Value := l.map fun x : Nat => Value.int .i64 (x : Int)
theorem cellsI_length (l : List Nat) : (cellsI l).length = l.length := by simp [cellsI]
theorem cellsI_append (l m : List Nat) : cellsI l ++ cellsI m = cellsI (l ++ m) := by simp [cellsI]
theorem cellsI_get (l : List Nat) (j : Nat) (h : j < l.length) : (cellsI l)[j]? = some (.int .i64 ((l[j]'h : Nat) : Int)) := by simp [cellsI, h]
theorem cellsI_one (l : List Nat) : ∀ u ∈ cellsI l, u.oneCell' = true := by
  intro u hu
  obtain ⟨y, _, rfl⟩ := List.mem_map.1 hu
  rfl
theorem infoI : (Try.prog.info? 3).map (fun i => (i.zero, i.size, i.bytes)) = some (some (.int .i64 0), 1, 8) := by kernel_rfl
theorem info_i : ∃ i : TypeInfo, Try.prog.info? 3 = some i ∧ i.zero = some (.int .i64 0) ∧ i.size = 1 ∧ i.bytes = 8 := by
  have h := infoI
  rcases hi : Try.prog.info? 3 with _ | i
  · rw [hi] at h; simp at h
  · rw [hi] at h
    simp only [Option.map_some, Option.some.injEq, Prod.mk.injEq] at h
    exact ⟨i, rfl, h.1, h.2.1, h.2.2⟩
/-- The value v owns the ints l, behind block B. -/
def OwnI (w : World) (B : Nat) (v : Value) (l : List Nat) : Prop := w.ownsRow B 3 1 v l.length (cellsI l)
theorem OwnI.row {w : World} {B : Nat} {v : Value} {l : List Nat} (h : OwnI w B v l) : w.ownsRow B 3 1 v l.length (cellsI l) := h
theorem OwnI.made (w : World) : OwnI (w.alloc (.cells #[] 3)) w.heap.size (.slice (some ⟨w.heap.size, 0, none⟩) 0 0) [] := World.ownsRow_made w #[] 0 (Nat.le_refl _) (by decide) rfl
theorem OwnI.lt {w : World} {B : Nat} {v : Value} {l : List Nat} (h : OwnI w B v l) : ∀ k, v.ownBlock = some k → B ≤ k ∧ k < w.heap.size := fun k hk => h.row.lt k hk
theorem OwnI.mono {w : World} {B B' : Nat} {v : Value} {l : List Nat} (h : OwnI w B v l) (hB : B' ≤ B) : OwnI w B' v l := by
  refine ⟨h.row.1, ?_⟩
  rcases h.row.2 with h0 | ⟨g, cap, cur, hv, hg0, hg⟩
  · exact .inl h0
  · exact .inr ⟨g, cap, cur, hv, Nat.le_trans hB hg0, hg⟩
theorem OwnI.other {w w' : World} {B : Nat} {v : Value} {l : List Nat} {row : Option Nat} (h : OwnI w B v l) (hg : w.grownBy w' row) (hne : ∀ k, v.ownBlock = some k → some k ≠ row) : OwnI w' B v l := by
  refine ⟨h.row.1, ?_⟩
  rcases h.row.2 with h0 | ⟨g, cap, cur, hv, hB, hgg, h4⟩
  · exact .inl h0
  · exact .inr ⟨g, cap, cur, hv, hB, (hg.block g (Array.getElem?_eq_some_iff.1 hgg).1 (hne g (by rw [hv]; rfl))).trans hgg, h4⟩
theorem OwnI.below {w w' : World} {B : Nat} {v : Value} {l : List Nat} (h : OwnI w B v l) (hb : Below w.heap.size w w') : OwnI w' B v l := h.other (grown_of_below hb) fun k _ => by simp
/-- what is read of it -/
theorem OwnI.slice {w : World} {B : Nat} {v : Value} {l : List Nat} (h : OwnI w B v l) : ∃ ad cap, v = .slice ad l.length cap ∧ l.length ≤ cap ∧ cap ≤ maxLen ∧ ∀ j (hj : j < l.length), ∃ g, ad = some ⟨g, 0, none⟩ ∧ g < w.heap.size ∧ w.cell? ⟨g, j, none⟩ = some (.int .i64 ((l[j]'hj : Nat) : Int)) := by
  rcases h.row.2 with ⟨rfl, h0⟩ | ⟨g, cap, cur, rfl, hB, hg, hle, hm, hsz, htake⟩
  · refine ⟨none, 0, by rw [h0], by omega, Nat.zero_le _, fun j hj => by omega⟩
  · refine ⟨some ⟨g, 0, none⟩, cap, rfl, hle, hm, fun j hj => ⟨g, rfl, (Array.getElem?_eq_some_iff.1 hg).1, ?_⟩⟩
    rw [cell_of_row w g j cur 3 (0, 0) hg]
    have h1 : (cur.toList.take (l.length * 1))[j]? = some (.int .i64 ((l[j]'hj : Nat) : Int)) := by rw [htake]; exact cellsI_get l j hj
    rw [List.getElem?_take_of_lt (by omega)] at h1
    simpa using h1
/-- a number more: in its block, or in a new one -/
theorem wpList_append_i {w : World} {ops : Array Oper} {rest : List Oper} {o : Oper} {a : Act} {Q : Exit → Act → World → Prop} (hgd : o.guard = none) (s x : Operand)
    (ho : o.op = .call { callee := .builtin .append, args := #[s, x], argTypes := #[37, 37] })
    (B : Nat) (v : Value) (l : List Nat) (hs : a.eval s = v) (hown : OwnI w B v l) (y : Nat) (ad : Addr) (hx : a.eval x = .slice (some ad) 1 1) (hcell : ∀ j u, [Value.int .i64 (y : Int)][j]? = some u → w.cell? (ad.add j) = some u) (hlen : l.length ≤ 100000) (hbase : B ≤ w.heap.size)
    (h : ∀ v' w', OwnI w' B v' (l ++ [y]) → w.grownBy w' v.ownBlock → (v'.ownBlock = v.ownBlock ∨ ∀ k, v'.ownBlock = some k → w.heap.size ≤ k) → wpList Try.prog ops Q rest (a.put o.dst v') w') : wpList Try.prog ops Q (o :: rest) a w := by
  obtain ⟨i, hi, hz0, hz1, hz2⟩ := info_i
  have hone : ∀ u ∈ [Value.int .i64 (y : Int)], u.oneCell' = true := by
    intro u hu
    rw [List.mem_singleton.1 hu]; rfl
  have e : cellsI l ++ [Value.int .i64 (y : Int)] = cellsI (l ++ [y]) := by simp [cellsI]
  have grows : ∀ (ao : Option Addr) (vc : Nat), v = .slice ao l.length vc → (ao = none → l.length = 0 ∧ vc = 0) → (∀ b, ao = some b → ∀ j u, (cellsI l)[j]? = some u → w.cell? (b.add j) = some u) → vc < l.length + 1 → wpList Try.prog ops Q (o :: rest) a w := by
    intro ao vc hv hnone holds hfull
    refine wpList_append_grows w hgd s x 37 ho 3 i (.int .i64 0) 1 8 Try.underlying37 hi hz0 hz1 hz2 rfl (by decide) ao l.length vc (cellsI l) (hs.trans hv) hnone (by rw [cellsI_length]; omega) holds ad 1 1 [Value.int .i64 (y : Int)] hx rfl hcell hone hfull (by unfold maxLen; omega) (by omega) fun v' w' h2 h3 => ?_
    have hO : OwnI w' w.heap.size v' (l ++ [y]) := by
      unfold OwnI
      rw [e] at h2
      rw [List.length_append, List.length_singleton]
      exact h2
    exact h v' w' (hO.mono hbase) ⟨h3.os, h3.tape, h3.output, h3.size, fun k hk _ => h3.block k hk (by simp)⟩ (.inr fun k hk => (hO.lt k hk).1)
  rcases hown.row.2 with ⟨hv, h0⟩ | ⟨g, vc, cur, hv, hbg, hg, hnc, hcm, hcs, htake⟩
  · exact grows none 0 (by rw [hv, h0]) (fun _ => ⟨h0, rfl⟩) (fun b hb => by cases hb) (by omega)
  · by_cases hroom : l.length + 1 ≤ vc
    · subst hv
      refine wpList_append_fits w hgd s x 37 ho B 3 i 1 Try.underlying37 hi hz1 g l.length vc (cellsI l) hs hown.row ad 1 1 [Value.int .i64 (y : Int)] hx rfl hcell hone hroom fun w' h2 h3 => h _ w' ?_ h3 (.inl rfl)
      unfold OwnI
      rw [e] at h2
      rw [List.length_append, List.length_singleton]
      exact h2
    · refine grows (some ⟨g, 0, none⟩) vc hv (fun h' => by cases h') (fun b hb => ?_) (by omega)
      cases hb
      have := hown.row.cells (g := g) (by rw [hv]; rfl)
      exact this
/-- two such slices in different blocks -/
structure Two (w : World) (B : Nat) (vr vl : Value) (R L : List Nat) : Prop where
  first : OwnI w B vr R
  second : OwnI w B vl L
  apart : ∀ k, vr.ownBlock = some k → vl.ownBlock ≠ some k
theorem Two.below {w w' : World} {B : Nat} {vr vl : Value} {R L : List Nat} (h : Two w B vr vl R L) (hb : Below w.heap.size w w') : Two w' B vr vl R L := ⟨h.first.below hb, h.second.below hb, h.apart⟩
theorem Two.addFirst {w w' : World} {B : Nat} {vr vl v' : Value} {R R' L : List Nat} (h : Two w B vr vl R L) (ho : OwnI w' B v' R') (hg : w.grownBy w' vr.ownBlock) (hf : v'.ownBlock = vr.ownBlock ∨ ∀ k, v'.ownBlock = some k → w.heap.size ≤ k) : Two w' B v' vl R' L :=
  ⟨ho, h.second.other hg fun k hk e => h.apart k e.symm hk, fun k hk e => by
    rcases hf with hf | hf
    · exact h.apart k (by rw [← hf]; exact hk) e
    · have := hf k hk
      have := (h.second.lt k e).2
      omega⟩
theorem Two.addSecond {w w' : World} {B : Nat} {vr vl v' : Value} {R L L' : List Nat} (h : Two w B vr vl R L) (ho : OwnI w' B v' L') (hg : w.grownBy w' vl.ownBlock) (hf : v'.ownBlock = vl.ownBlock ∨ ∀ k, v'.ownBlock = some k → w.heap.size ≤ k) : Two w' B vr v' R L' :=
  ⟨h.first.other hg fun k hk e => h.apart k hk e.symm, ho, fun k hk e => by
    rcases hf with hf | hf
    · exact h.apart k hk (by rw [← hf]; exact e)
    · have := hf k e
      have := (h.first.lt k hk).2
      omega⟩

set_option maxRecDepth 100000 in
set_option maxHeartbeats 1000000 in
theorem has_any (B : Nat) (v : Value) (l : List Nat) (x : Nat) (w : World) (ho : OwnI w B v l) :
    Calls Try.prog 26 #[v, .int .i64 x] w fun e w' => e = .returned (.bool (decide (x ∈ l))) ∧ w = w' := by
  obtain ⟨ad, cap, rfl, h1, h2, hc⟩ := ho.slice
  obtain ⟨n, hn⟩ : ∃ n, l.length = n := ⟨_, rfl⟩
  have HN := Lib.hid hn
  have HC := Lib.hid hc
  rw [hn] at h1 ⊢
  unfold maxLen at h2
  clear ho hc hn
  go_enter Try.func26, Try.ntmps26
  go_wp2_with fail
  go_loop [5] (fun vk => ∃ k : Nat, vk = .int .i64 k ∧ k ≤ n ∧ Hid (∀ j (h : j < l.length), j < k → l[j] ≠ x)) (fun vk => n - (intOf vk).toNat)
  case atStart => exact ⟨0, rfl, by omega, Lib.hid fun j h hj => by omega⟩
  case round =>
    obtain ⟨k, rfl, hk, hall⟩ := hrel
    by_cases hlt : k < n
    · have hkl : k < l.length := by have := HN.out; omega
      obtain ⟨g, rfl, _, f1⟩ := HC.out k hkl
      obtain ⟨y, hy⟩ : ∃ y, l[k] = y := ⟨_, rfl⟩
      have HY := Lib.hid hy
      by_cases he : y = x
      · have HV : Hid (decide (x ∈ l) = true) := Lib.hid (decide_eq_true (by rw [← he, ← hy]; exact List.getElem_mem hkl))
        rw [hy, he] at f1
        clear hy he
        go_wp2
        go_ret
        exact ⟨by rw [HV.out]; rfl, rfl⟩
      · have HNX : Hid (∀ j (h : j < l.length), j < k + 1 → l[j] ≠ x) := Lib.hid fun j h hj => by
          rcases Nat.lt_or_ge j k with h' | h'
          · exact hall.out j h h'
          · obtain rfl : j = k := by omega
            rw [hy]; exact he
        have hne : ¬ (y : Int) = (x : Int) := by omega
        rw [hy] at f1
        clear hy
        go_wp2
        go_round
        case rel => exact ⟨k + 1, by go_num, by omega, HNX⟩
        case measure => simp [intOf]; omega
    · have HV : Hid (decide (x ∈ l) = false) := Lib.hid (decide_eq_false (fun hm => by
        obtain ⟨j, hj, e⟩ := List.mem_iff_getElem.1 hm
        exact hall.out j hj (by have := HN.out; omega) e))
      go_wp2
      go_ret
      exact ⟨by rw [HV.out]; rfl, rfl⟩
end Go.Proofs.Ytbkjocmldeagdaa
