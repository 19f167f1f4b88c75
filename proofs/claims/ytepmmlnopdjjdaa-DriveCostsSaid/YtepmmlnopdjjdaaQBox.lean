/-
  The small functions of the program on drives: failed, within, emptied, Due, Worn, the first of some checks.
  The specification's Copied: blocks of their own.
  The specification's Damage.
  A value stored into the middle of a block that is known whole; such a block loaded.
  The boxes that a function has made, as one list of rows; emptied; the first error of some checks.
-/
import Derived.Test.YtepmmlnopdjjdaaQDrs
import Derived.Test.YtepmmlnopdjjdaaDrMem
import Derived.Deep.LoopGhost
import Derived.Test.YtepmmlnopdjjdaaQSmall
import Derived.Test.YtepmmlnopdjjdaaQSerp
import Derived.Test.YtepmmlnopdjjdaaQMem
import Derived.Deep.MidRow
namespace Go.Proofs.Ytepmmlnopdjjdaa
open Go.RowKit
set_option linter.unusedVariables false
set_option linter.unusedSimpArgs false
set_option maxRecDepth 100000
/-- the error of a check that has failed -/
def flU (b : Bool) (e : Int) : Int := if b = true then e else 0
set_option maxHeartbeats 400000 in
theorem failed_any (b : Bool) (e : Int) (w : World) :
    Calls Try.prog 35 #[.bool b, .int .i64 e] w fun r w' => r = .returned (.int .i64 (flU b e)) ∧ w' = w := by
  cases b
  · go_enter Try.func35, Try.ntmps35
    go_wp2
    go_ret
    exact ⟨rfl, rfl⟩
  · go_enter Try.func35, Try.ntmps35
    go_wp2
    go_ret
    exact ⟨rfl, rfl⟩
/-- all these numbers are from 0 to most -/
def wtn (most : Int) (xs : List Int) : Bool := xs.all fun x => decide (0 ≤ x) && decide (x ≤ most)
theorem wtn_drop (most : Int) (xs : List Int) (k : Nat) (h : k < xs.length) : wtn most (xs.drop k) = ((decide (0 ≤ xs[k]) && decide (xs[k] ≤ most)) && wtn most (xs.drop (k + 1))) := by
  unfold wtn
  rw [List.drop_eq_getElem_cons h, List.all_cons]
set_option maxHeartbeats 1000000 in
theorem within_any (most : Int) (g : Nat) (xs : List Int) (n cap : Nat) (w : World) (hn : n = xs.length) (hs : n ≤ 10) (hc : ∀ i (h : i < xs.length), w.cell? ⟨g, i, none⟩ = some (.int .i64 xs[i])) :
    Calls Try.prog 64 #[.int .i64 most, .slice (some ⟨g, 0, none⟩) n cap] w fun e w' => e = .returned (.bool (wtn most xs)) ∧ w' = w := by
  have HN := Lib.hid hn
  have HC := Lib.hid hc
  have HD := Lib.hid (fun k h => wtn_drop most xs k h)
  have H0 := Lib.hid (show wtn most xs = wtn most (xs.drop 0) by rw [List.drop_zero])
  clear hn hc
  go_enter Try.func64, Try.ntmps64
  go_wp2
  go_loopg [9] n (fun gk v9 wx => ∃ k : Nat, v9 = .int .i64 k ∧ k + gk = n ∧ wx = w ∧ Hid (wtn most xs = wtn most (xs.drop k)))
  case atStart => exact ⟨0, rfl, by omega, rfl, H0⟩
  case round =>
    obtain ⟨k, rfl, hk, rfl, hH⟩ := hrel
    cases gk with
    | zero =>
      obtain rfl : k = n := by omega
      go_wp2
      go_ret
      exact ⟨by rw [hH.out, HN.out, List.drop_length]; rfl, rfl⟩
    | succ gk0 =>
      have hkn : k < n := by omega
      have hkl : k < xs.length := by rw [← HN.out]; exact hkn
      have hck := HC.out k hkl
      have HS := Lib.hid (HD.out k hkl)
      generalize xs[k] = x at *
      clear hkl
      by_cases h0 : 0 ≤ x
      · by_cases h1 : x ≤ most
        · go_wp2
          go_roundg gk0
          case rel => exact ⟨k + 1, by go_num, by omega, rfl, Lib.hid (by rw [hH.out, HS.out, decide_eq_true h0, decide_eq_true h1]; rfl)⟩
          case measure => omega
        · go_wp2
          go_ret
          exact ⟨by rw [hH.out, HS.out, decide_eq_false (show ¬ x ≤ most by omega), Bool.and_false]; rfl, rfl⟩
      · go_wp2
        go_ret
        exact ⟨by rw [hH.out, HS.out, decide_eq_false (show ¬ 0 ≤ x by omega)]; rfl, rfl⟩
set_option maxRecDepth 100000 in
set_option maxHeartbeats 400000 in
theorem due_any (m : Mdl) (d : Drv) (w : World) :
    Calls Try.prog 15 #[mdV m, drV d] w fun e w' => e = .returned (.bool (due m d)) ∧ Below w.heap.size w w' := by
  obtain ⟨ld, ul, cl, ce, cf⟩ := m
  obtain ⟨st, bc, hd, lo, pa, si⟩ := d
  have HB := Lib.hid (below_box2 w (boxM ld ul cl ce cf) (boxD st bc hd lo pa si))
  by_cases h0 : 0 < ce
  · by_cases h1 : ce ≤ si
    · have HR := Lib.hid (show due ⟨ld, ul, cl, ce, cf⟩ ⟨st, bc, hd, lo, pa, si⟩ = true by simp [due, h0, h1])
      go_enter Try.func15, Try.ntmps15
      go_wp2
      go_ret
      exact ⟨by rw [HR.out]; rfl, HB.out⟩
    · have HR := Lib.hid (show due ⟨ld, ul, cl, ce, cf⟩ ⟨st, bc, hd, lo, pa, si⟩ = false by simp [due, h0, h1])
      go_enter Try.func15, Try.ntmps15
      go_wp2
      go_ret
      exact ⟨by rw [HR.out]; rfl, HB.out⟩
  · have HR := Lib.hid (show due ⟨ld, ul, cl, ce, cf⟩ ⟨st, bc, hd, lo, pa, si⟩ = false by simp [due, h0])
    go_enter Try.func15, Try.ntmps15
    go_wp2
    go_ret
    exact ⟨by rw [HR.out]; rfl, HB.out⟩
set_option maxRecDepth 100000 in
set_option maxHeartbeats 400000 in
theorem worn_any (m : Mdl) (c : Crt) (ad : Option Addr) (cap : Nat) (w : World) :
    Calls Try.prog 17 #[mdV m, crV c ad cap] w fun e w' => e = .returned (.bool (worn m c)) ∧ Below w.heap.size w w' := by
  obtain ⟨ld, ul, cl, ce, cf⟩ := m
  obtain ⟨bc, W, L, S, T, J, R, wo, lk, l, ep, lo, pa⟩ := c
  have HR1 := Lib.hid (show worn ⟨ld, ul, cl, ce, cf⟩ ⟨bc, W, L, S, T, J, R, wo, lk, l, ep, lo, pa⟩ = (decide (0 < cf) && decide (cf ≤ pa)) from rfl)
  show Calls Try.prog 17 #[mdW ld ul cl ce cf, crW bc W L S T J R wo lk ad l.length cap ep lo pa] w _
  generalize worn ⟨ld, ul, cl, ce, cf⟩ ⟨bc, W, L, S, T, J, R, wo, lk, l, ep, lo, pa⟩ = res at *
  generalize l.length = M
  have HB := Lib.hid (below_box2 w (boxM ld ul cl ce cf) (boxK bc W L S T J R wo lk ad M cap ep lo pa))
  by_cases h0 : 0 < cf
  · by_cases h1 : cf ≤ pa
    · have HR := Lib.hid (show res = true by rw [HR1.out]; simp [h0, h1])
      go_enter Try.func17, Try.ntmps17
      go_wp2
      go_ret
      exact ⟨by rw [HR.out]; rfl, HB.out⟩
    · have HR := Lib.hid (show res = false by rw [HR1.out]; simp [h0, h1])
      go_enter Try.func17, Try.ntmps17
      go_wp2
      go_ret
      exact ⟨by rw [HR.out]; rfl, HB.out⟩
  · have HR := Lib.hid (show res = false by rw [HR1.out]; simp [h0])
    go_enter Try.func17, Try.ntmps17
    go_wp2
    go_ret
    exact ⟨by rw [HR.out]; rfl, HB.out⟩
end Go.Proofs.Ytepmmlnopdjjdaa
namespace Go.Proofs.Ytepmmlnopdjjdaa
open Go.RowKit
set_option linter.unusedVariables false
theorem heap_newC (w : World) (o : Obj) : (w.alloc o).heap[w.heap.size]? = some o := heap_alloc_new w o
/-- an empty list of bytes of the call's own, in the newest cells -/
theorem Own.empty (w : World) (g : Nat) (hg : g = w.heap.size) (B : Nat) (hB : B ≤ g) : Own (w.alloc (.cells #[] 5)) B (.slice (some ⟨g, 0, none⟩) 0 0) [] := by
  subst hg
  exact ⟨rfl, .inr ⟨w.heap.size, 0, #[], rfl, hB, heap_alloc_new w _, Nat.le_refl _, by unfold maxLen; omega, rfl, rfl⟩⟩
theorem LieX.far {w : World} {C : Nat} {x : Option Nat} {ad : Option Addr} {l : List UInt8} (h : LieX w C x ad l) (p : Addr) (hp : p.block < C) (v : Value) : LieX (w.setCell p v) C x ad l := by
  rcases h with h0 | ⟨b, off, e, h3, h4, h5, h6⟩
  · exact .inl h0
  · exact .inr ⟨b, off, e, h3, by simpa using h4, h5, fun j hj => by rw [World.cell?_setCell_far _ _ _ _ (by show p.block ≠ b; omega)]; exact h6 j hj⟩
/-- behind the copy of a block's bytes -/
theorem copy_step {w wr w1 : World} {u3 v1 : Value} {lk : List Blk} {xm xb : Bool} {sl : Value} {xd : List UInt8} (hB : Below w.heap.size w wr) (hK : Kq wr w.heap.size w.heap.size u3 lk)
    (hg : ((wr.alloc (.cells #[.bool xm, .bool xb, sl] 61)).alloc (.cells #[] 5)).grownBy w1 (some (wr.heap.size + 1))) (ho : Own w1 (wr.heap.size + 1) v1 xd) :
    ∃ ad1 cap1, v1 = .slice ad1 xd.length cap1 ∧ w1.cell? ⟨wr.heap.size, 0, none⟩ = some (.bool xm) ∧ w1.cell? ⟨wr.heap.size, 1, none⟩ = some (.bool xb) ∧ w1.cell? ⟨wr.heap.size, 2, none⟩ = some sl ∧ w1.frozen? ⟨wr.heap.size, 2, none⟩ = false ∧ wr.heap.size < w1.heap.size ∧
      Hid (Kq ((w1.setCell ⟨wr.heap.size, 2, none⟩ (.slice ad1 xd.length cap1)).alloc (.cells #[.bool xm, .bool xb, .slice ad1 xd.length cap1] 61)) w.heap.size w.heap.size u3 lk) ∧
      Hid (Kx ((w1.setCell ⟨wr.heap.size, 2, none⟩ (.slice ad1 xd.length cap1)).alloc (.cells #[.bool xm, .bool xb, .slice ad1 xd.length cap1] 61)) (wr.heap.size + 1) u3.ownBlock (some ⟨w1.heap.size, 0, none⟩) [⟨xm, xb, xd⟩]) ∧
      Hid (Below w.heap.size w ((w1.setCell ⟨wr.heap.size, 2, none⟩ (.slice ad1 xd.length cap1)).alloc (.cells #[.bool xm, .bool xb, .slice ad1 xd.length cap1] 61))) := by
  obtain ⟨ad1, cap1, rfl, hx, h1, h2, h3⟩ := LieX.of_own (x := u3.ownBlock) ho (fun g hg => by have := (hK.lt g hg).2; omega)
  have hsz : wr.heap.size + 2 ≤ w1.heap.size := by have := hg.size; simpa using this
  have hrow : w1.heap[wr.heap.size]? = some (.cells #[.bool xm, .bool xb, sl] 61 (0, 0)) := by
    rw [hg.block wr.heap.size (by simp; omega) (by intro e; have := Option.some.inj e; omega), Below.heap_alloc _ _ _ (by simp)]
    exact heap_alloc_new wr _
  have hb1 : Below wr.heap.size wr w1 := (below_box2 wr _ _).grown hg (by simp; omega) (fun k hk => by have := Option.some.inj hk; omega)
  have hb2 : Below wr.heap.size wr (w1.setCell ⟨wr.heap.size, 2, none⟩ (.slice ad1 xd.length cap1)) := hb1.setCell (Nat.le_refl _) _
  have hsz2 : (w1.setCell ⟨wr.heap.size, 2, none⟩ (.slice ad1 xd.length cap1)).heap.size = w1.heap.size := by simp [World.setCell]
  have hb3 := hb2.alloc (by rw [hsz2]; omega) (.cells #[.bool xm, .bool xb, .slice ad1 xd.length cap1] 61)
  refine ⟨ad1, cap1, rfl, ?_, ?_, ?_, by simp [World.frozen?, hrow], by omega, Lib.hid (hK.below hb3), Lib.hid ?_, Lib.hid (hB.trans (hb3.mono hB.size))⟩
  · rw [cell_of_row w1 wr.heap.size 0 _ _ (0, 0) hrow]; rfl
  · rw [cell_of_row w1 wr.heap.size 1 _ _ (0, 0) hrow]; rfl
  · rw [cell_of_row w1 wr.heap.size 2 _ _ (0, 0) hrow]; rfl
  · exact Kx.one xm xb ad1 xd cap1 (hx.far _ (by show wr.heap.size < wr.heap.size + 1; omega) _) h1 h2 h3 _ hsz2.symm
set_option maxRecDepth 100000 in
set_option maxHeartbeats 4000000 in
theorem rcopied_any (ad : Option Addr) (n cap : Nat) (l : List Blk) (w : World) (hl : Ki w ad l) (hn : n = l.length) (hs : n ≤ 4096) (hd : ∀ b ∈ l, b.d.length ≤ 10000) :
    Calls Try.prog 85 #[.slice ad n cap] w fun e w' => GivesK w l e w' := by
  have HN := Lib.hid hn
  have HL := Lib.hid hl
  have HD := Lib.hid hd
  clear hn hl hd
  go_enter Try.func85, Try.ntmps85
  go_wp2
  go_loopg [3, 4] n (fun gk v3 vk wx => ∃ k : Nat, k + gk = n ∧ vk = .int .i64 k ∧ Hid (Kq wx w.heap.size w.heap.size v3 (l.take k)) ∧ Hid (Below w.heap.size w wx))
  case atStart => exact ⟨0, by omega, rfl, Lib.hid (by rw [List.take_zero]; exact Kq.nil _ _ _), Lib.hid (Below.refl _ _)⟩
  case round =>
    obtain ⟨k, hk, rfl, hK, hB⟩ := hrel
    cases gk with
    | zero =>
      obtain rfl : k = n := by omega
      have HT := Lib.hid (show l.take k = l from List.take_of_length_le (by have := HN.out; omega))
      go_wp2
      go_ret
      exact ⟨_, rfl, by rw [← HT.out]; exact hK.out, hB.out⟩
    | succ gk0 =>
      have hkl : k < l.length := by have := HN.out; omega
      obtain ⟨b, off, ad', cap', hadr, hlt, q0, q1, q2, hq, hq2, hq3, hq4⟩ := (HL.out.below hB.out).get hkl
      subst hadr
      have hdl : l[k].d.length ≤ 10000 := HD.out _ (List.getElem_mem hkl)
      have HNX := Lib.hid (show l.take (k + 1) = l.take k ++ [⟨l[k].m, l[k].bad, l[k].d⟩] by rw [List.take_succ_eq_append_getElem hkl])
      have HLI := Lib.hid hq
      have HQ := Lib.hid hq4
      clear hq hq2 hq3 hq4
      generalize l[k].m = xm at *
      generalize l[k].bad = xb at *
      generalize l[k].d = xd at *
      have HLI2 := Lib.hid (HLI.out.below (below_box2 wr (.cells #[.bool xm, .bool xb, .slice ad' xd.length cap'] 61) (.cells #[] 5)) rfl)
      have HO := Lib.hid (Own.empty (wr.alloc (.cells #[.bool xm, .bool xb, .slice ad' xd.length cap'] 61)) (wr.heap.size + 1) (by simp) (wr.heap.size + 1) (Nat.le_refl _))
      have HS : Hid (wr.heap.size + 1 ≤ ((wr.alloc (.cells #[.bool xm, .bool xb, .slice ad' xd.length cap'] 61)).alloc (.cells #[] 5)).heap.size) := Lib.hid (by simp)
      have hlen1 : ([] : List UInt8).length + xd.length ≤ 10000000 := by simp; omega
      have hlen2 : (l.take k).length + 1 ≤ 100000 := by rw [List.length_take]; omega
      have HW := Lib.hid (show w.heap.size ≤ wr.heap.size + 1 by have := hB.out.size; omega)
      clear hdl hkl
      go_wp2_with (first
        | (at_builtin; refine wpList_append_u rfl (.tmp 16) (.tmp 21) rfl (wr.heap.size + 1) _ [] rfl HO.out _ _ _ xd HQ.out HLI2.out rfl rfl hlen1 HS.out ?_; intro v1 w1 ho1 hg1; rw [List.nil_append] at ho1; obtain ⟨ad1, cap1, rfl, c0, c1, c2, cf, clt, HK4, HZ4, HB4⟩ := copy_step hB.out hK.out hg1 ho1; clear ho1 hg1)
        | (at_builtin; refine wpList_append_k rfl (.tmp 24) (.tmp 26) rfl w.heap.size w.heap.size (wr.heap.size + 1) w.heap.size _ _ rfl HK4.out _ 1 1 [⟨xm, xb, xd⟩] (fun h => by cases h) HZ4.out rfl rfl hlen2 HB4.out.size (Nat.le_refl _) HW.out ?_; intro v5 w5 ho5 hg5 _; have HK5 := Lib.hid ho5; have HB5 := Lib.hid (HK4.out.grow HB4.out (Nat.le_refl _) hg5); clear ho5 hg5))
      go_roundg gk0
      case rel => exact ⟨k + 1, by omega, by go_num, by rw [HNX.out]; exact HK5, HB5⟩
      case measure => omega
end Go.Proofs.Ytepmmlnopdjjdaa
namespace Go.Proofs.Ytepmmlnopdjjdaa
open Go.RowKit
set_option linter.unusedVariables false
/-- a list of the call's own stays where blocks below it are written -/
theorem Kq.keep {w w' : World} {D : Nat} {v : Value} {l : List Blk} (h : Kq w D D v l) (hb : ∀ k, D ≤ k → k < w.heap.size → w'.heap[k]? = w.heap[k]?) (hs : w.heap.size ≤ w'.heap.size) : Kq w' D D v l := by
  obtain ⟨E, e, h1, h2⟩ := h
  refine ⟨E, e, ⟨h1.1, ?_⟩, fun k hk => ⟨?_, (h2 k hk).le, (h2 k hk).mx, (h2 k hk).nn⟩⟩
  · rcases h1.2 with h0 | ⟨g, cap, cur, hv, hB, hg, h4⟩
    · exact .inl h0
    · exact .inr ⟨g, cap, cur, hv, hB, (hb g hB (Array.getElem?_eq_some_iff.1 hg).1).trans hg, h4⟩
  · rcases (h2 k hk).lie with h0 | ⟨b, off, e, h3, h4, h5, h6⟩
    · exact .inl h0
    · exact .inr ⟨b, off, e, h3, Nat.lt_of_lt_of_le h4 hs, h5, fun j hj => (World.cell?_of_block (a := ⟨b, off + j, none⟩) (hb b h3 h4)).trans (h6 j hj)⟩
/-- the block i lies in the span -/
def ins (i : Nat) (f c : Int) : Bool := decide (1 ≤ c) && ((decide (f < 0) && decide ((i : Int) < f + c)) || (decide (0 ≤ f) && (decide (f ≤ (i : Int)) && decide ((i : Int) - f < c))))
def mkBad (l : List Blk) (i : Nat) : List Blk := if h : i < l.length then l.set i ⟨l[i].m, true, l[i].d⟩ else l
/-- the first n blocks damaged -/
def dmN (l : List Blk) (f c : Int) : Nat → List Blk
  | 0 => l
  | n + 1 => if ins n f c = true then mkBad (dmN l f c n) n else dmN l f c n
theorem dmN_succ (l : List Blk) (f c : Int) (n : Nat) : dmN l f c (n + 1) = if ins n f c = true then mkBad (dmN l f c n) n else dmN l f c n := rfl
theorem dmN_zero (l : List Blk) (f c : Int) : dmN l f c 0 = l := rfl
theorem dmN_length (l : List Blk) (f c : Int) (n : Nat) : (dmN l f c n).length = l.length := by
  induction n with
  | zero => rfl
  | succ n ih =>
    rw [dmN]
    split
    · unfold mkBad
      split
      · rw [List.length_set, ih]
      · exact ih
    · exact ih
theorem dmN_get (l : List Blk) (f c : Int) (n : Nat) : ∀ j (h : j < l.length) (h' : j < (dmN l f c n).length), (dmN l f c n)[j] = ⟨l[j].m, l[j].bad || (decide (j < n) && ins j f c), l[j].d⟩ := by
  induction n with
  | zero => intro j h h'; simp [dmN]
  | succ n ih =>
    intro j h h'
    have hl := dmN_length l f c n
    have hj : j < (dmN l f c n).length := by omega
    have h0 := ih j h hj
    have key : dmN l f c (n + 1) = if ins n f c = true then mkBad (dmN l f c n) n else dmN l f c n := rfl
    simp only [key]
    by_cases hi : ins n f c = true
    · simp only [hi, if_true]
      unfold mkBad
      by_cases hn : n < (dmN l f c n).length
      · simp only [hn, dif_pos]
        rw [List.getElem_set]
        by_cases e : n = j
        · subst e
          rw [if_pos rfl]
          rw [h0]
          simp [hi]
        · rw [if_neg e, h0]
          have : (decide (j < n + 1)) = decide (j < n) := by simp; omega
          rw [this]
      · simp only [hn, dif_neg, not_false_eq_true]
        rw [h0]
        have : (decide (j < n + 1)) = decide (j < n) := by simp; omega
        rw [this]
    · simp only [hi, if_false, Bool.false_eq_true]
      rw [h0]
      by_cases e : n = j
      · subst e
        simp [hi]
      · have : (decide (j < n + 1)) = decide (j < n) := by simp; omega
        rw [this]
def dmgC (v : Bool) (c : Crt) (f n : Int) : Crt := if v = true then {c with l := dmN c.l f n c.l.length} else crZ
/-- a call hands back a cartridge -/
def RetD (w : World) (r : Crt) (e : Ending) (w' : World) : Prop := ∃ ad cap, e = .returned (crV r ad cap) ∧ CrIn w' r ad cap ∧ Below w.heap.size w w'
theorem post_cellD {P : Program} {fn : Func} {R : Ending → World → Prop} {p : Tmp} {ty : TypeId} (h : fn.results = #[.cell p ty]) {a : Act} {w : World} {g : Nat} {cs : Array Value} {t : TypeId} {d : TypeDesc}
    (hp : a.tmps.getD p undef = .pointer (some ⟨g, 0, none⟩)) (hg : w.heap[g]? = some (.cells cs t (0, 0))) (hu : P.underlying ty = some d) (hd : (match d with | .struct _ | .array _ _ => true | _ => false) = true)
    (hi : (P.info? ty).map (·.size) = some cs.size) (hdef : a.defers = []) (hR : R (.returned (.agg cs)) w) : bodyPost P fn R .ret a w := by
  refine bodyPost_ret (v := .agg cs) ?_ hdef hR
  have e : (results fn a.tmps).run P w = ((asAddr (a.tmps.getD p undef)).run P w).andThen fun b w1 => (loadVar ty b).run P w1 := by
    simp only [results, h]
    simp [Sem.run_bind, Result.andThen]
  rw [e, hp]
  simp only [asAddr, Sem.run_pure, Result.andThen, run_loadVar_row w g t ty cs (0, 0) d hg hu hd hi]
theorem allB_small {l : List Blk} (h : allB l = true) : ∀ b ∈ l, b.d.length ≤ 10000 := by
  intro b hb
  unfold allB at h
  rw [List.all_eq_true] at h
  have := h b hb
  unfold okB at this
  by_cases hm : b.m = true
  · rw [if_pos hm, beq_iff_eq] at this; omega
  · rw [if_neg hm, Bool.and_eq_true, decide_eq_true_iff, decide_eq_true_iff] at this; omega
/-- three boxes at a function's begin: the cartridge, a span, the result -/
theorem three_boxes (w : World) (bc : ByteArray) (W L S T J R : Int) (wo lk : Bool) (ad : Option Addr) (n cap : Nat) (ep lo pa f c : Int) :
    Below w.heap.size w (((w.alloc (boxK bc W L S T J R wo lk ad n cap ep lo pa)).alloc (.cells #[.int .i64 f, .int .i64 c] 66)).alloc (boxK ⟨#[]⟩ 0 0 0 0 0 0 false false none 0 0 0 0 0)) ∧
    CrBox w (((w.alloc (boxK bc W L S T J R wo lk ad n cap ep lo pa)).alloc (.cells #[.int .i64 f, .int .i64 c] 66)).alloc (boxK ⟨#[]⟩ 0 0 0 0 0 0 false false none 0 0 0 0 0)) bc W L S T J R wo lk ad n cap ep lo pa ∧
    SpAt (((w.alloc (boxK bc W L S T J R wo lk ad n cap ep lo pa)).alloc (.cells #[.int .i64 f, .int .i64 c] 66)).alloc (boxK ⟨#[]⟩ 0 0 0 0 0 0 false false none 0 0 0 0 0)) (w.heap.size + 1) f c ∧
    (((w.alloc (boxK bc W L S T J R wo lk ad n cap ep lo pa)).alloc (.cells #[.int .i64 f, .int .i64 c] 66)).alloc (boxK ⟨#[]⟩ 0 0 0 0 0 0 false false none 0 0 0 0 0)).heap[w.heap.size + 1 + 1]? = some (.cells (crK ⟨#[]⟩ 0 0 0 0 0 0 false false none 0 0 0 0 0) 30 (0, 0)) ∧
    w.heap.size + 3 ≤ (((w.alloc (boxK bc W L S T J R wo lk ad n cap ep lo pa)).alloc (.cells #[.int .i64 f, .int .i64 c] 66)).alloc (boxK ⟨#[]⟩ 0 0 0 0 0 0 false false none 0 0 0 0 0)).heap.size := by
  refine ⟨below_box3 _ _ _ _, ((CrBox.new w bc W L S T J R wo lk ad n cap ep lo pa).below (below_box1 _ _)).below (below_box1 _ _), ?_, ?_, by simp⟩
  · have := (SpAt.new (w.alloc (boxK bc W L S T J R wo lk ad n cap ep lo pa)) f c 66).alloc (boxK ⟨#[]⟩ 0 0 0 0 0 0 false false none 0 0 0 0 0)
    rwa [World.size_alloc] at this
  · have := heap_alloc_new ((w.alloc (boxK bc W L S T J R wo lk ad n cap ep lo pa)).alloc (.cells #[.int .i64 f, .int .i64 c] 66)) (boxK ⟨#[]⟩ 0 0 0 0 0 0 false false none 0 0 0 0 0)
    rwa [World.size_alloc, World.size_alloc] at this
/-- a function with a cartridge, a span and a result, on its way -/
structure Way3 (w w' : World) (bc : ByteArray) (W L S T J R : Int) (wo lk : Bool) (ad : Option Addr) (n cap : Nat) (ep lo pa f c : Int) : Prop where
  b : Below w.heap.size w w'
  cb : CrBox w w' bc W L S T J R wo lk ad n cap ep lo pa
  p : SpAt w' (w.heap.size + 1) f c
  z : w'.heap[w.heap.size + 1 + 1]? = some (.cells (crK ⟨#[]⟩ 0 0 0 0 0 0 false false none 0 0 0 0 0) 30 (0, 0))
  s : w.heap.size + 3 ≤ w'.heap.size
theorem Way3.start (w : World) (bc : ByteArray) (W L S T J R : Int) (wo lk : Bool) (ad : Option Addr) (n cap : Nat) (ep lo pa f c : Int) : Way3 w (((w.alloc (boxK bc W L S T J R wo lk ad n cap ep lo pa)).alloc (.cells #[.int .i64 f, .int .i64 c] 66)).alloc (boxK ⟨#[]⟩ 0 0 0 0 0 0 false false none 0 0 0 0 0)) bc W L S T J R wo lk ad n cap ep lo pa f c := by
  obtain ⟨h1, h2, h3, h4, h5⟩ := three_boxes w bc W L S T J R wo lk ad n cap ep lo pa f c
  exact ⟨h1, h2, h3, h4, h5⟩
theorem Way3.next {w X Y : World} {bc : ByteArray} {W L S T J R : Int} {wo lk : Bool} {ad : Option Addr} {n cap : Nat} {ep lo pa f c : Int} (h : Way3 w X bc W L S T J R wo lk ad n cap ep lo pa f c) (hb : Below X.heap.size X Y) : Way3 w Y bc W L S T J R wo lk ad n cap ep lo pa f c :=
  ⟨h.b.trans (hb.mono h.b.size), h.cb.below hb, h.p.below hb h.p.lt, (hb.block _ (by have := h.s; omega)).trans h.z, Nat.le_trans h.s hb.size⟩
attribute [local irreducible] tim vld bar cnt okB capU allB vldC eqK dmN ins mkBad
end Go.Proofs.Ytepmmlnopdjjdaa
namespace Go.Proofs.Ytepmmlnopdjjdaa
open Go.RowKit
set_option linter.unusedVariables false
theorem setCell_row {w : World} {g o : Nat} {C : Array Value} {t : TypeId} {fr : Nat × Nat} {v : Value} (h : w.heap[g]? = some (.cells C t fr)) : w.setCell ⟨g, o, none⟩ v = w.setRow g (C.setIfInBounds o v) := by
  unfold World.setCell World.setRow
  congr 1
  apply Array.ext
  · simp
  · intro i h1 h2
    simp only [Array.getElem_modify]
    by_cases hi : g = i
    · subst hi
      have hlt : g < w.heap.size := (Array.getElem?_eq_some_iff.1 h).1
      have hv : w.heap[g] = .cells C t fr := (Array.getElem?_eq_some_iff.1 h).2
      simp [hv]
    · simp [hi]
theorem setRow_two (w : World) (g : Nat) (A B : Array Value) : (w.setRow g A).setRow g B = w.setRow g B := by
  unfold World.setRow
  congr 1
  apply Array.ext
  · simp
  · intro i h1 h2
    simp only [Array.getElem_modify]
    by_cases hi : g = i
    · subst hi
      simp only [if_true]
      have hlt : g < w.heap.size := by simpa using h2
      generalize w.heap[g] = o
      cases o <;> rfl
    · simp [hi]
theorem setRow_self {w : World} {g : Nat} {C : Array Value} {t : TypeId} {fr : Nat × Nat} (h : w.heap[g]? = some (.cells C t fr)) : w.setRow g C = w := by
  obtain ⟨hp, tp, dr, os, ou⟩ := w
  unfold World.setRow
  congr 1
  apply Array.ext
  · simp
  · intro i h1 h2
    simp only [Array.getElem_modify]
    by_cases hi : g = i
    · subst hi
      have hv : hp[g] = .cells C t fr := (Array.getElem?_eq_some_iff.1 h).2
      simp [hv]
    · simp [hi]
/-- the cells from o on replaced -/
def putL (C : Array Value) : Nat → List Value → Array Value
  | _, [] => C
  | o, v :: r => putL (C.setIfInBounds o v) (o + 1) r
theorem setCells_row {g : Nat} {t : TypeId} {fr : Nat × Nat} : ∀ (vs : List Value) (o : Nat) (w : World) (C : Array Value), w.heap[g]? = some (.cells C t fr) → w.setCells g o vs = w.setRow g (putL C o vs)
  | [], o, w, C, h => (setRow_self h).symm
  | v :: r, o, w, C, h => by
    rw [World.setCells, setCell_row h, setCells_row r (o + 1) _ (C.setIfInBounds o v) (setRow_heap w g C _ t fr h), setRow_two]
    rfl
theorem wpList_store_in {P : Program} {ops : Array Oper} {rest : List Oper} {op : Oper} {a : Act} {w : World} {Q : Exit → Act → World → Prop} (hgd : op.guard = none) (ty : TypeId) (x y : Operand) (ho : op.op = .store ty x y)
    (g o : Nat) (hx : a.eval x = .pointer (some ⟨g, o, none⟩)) (v : Value) (hy : a.eval y = v) (cs : Array Value) (hv : v.cells = cs) (C : Array Value) (t : TypeId) (hg : w.heap[g]? = some (.cells C t (0, 0)))
    (hi : (P.info? ty).map (·.size) = some cs.size) (hle : o + cs.size ≤ C.size) (h1 : cs.all (·.oneCell') = true) (C' : Array Value) (hC : putL C o cs.toList = C')
    (h : wpList P ops Q rest (a.put op.dst undef) (w.setRow g C')) : wpList P ops Q (op :: rest) a w := by
  subst hv
  have hr : (storeVar ty ⟨g, o, none⟩ v).run P w = .ok () (w.setRow g C') := by
    have := run_storeCells_cells (P := P) g o v.cells.toList 0 w
      (fun j hj => by
        have hj2 : j < v.cells.size := by simpa using hj
        simp [World.cell?, hg]
        omega)
      (fun j hj => by simp [World.frozen?, hg])
      (fun u hu => (Array.all_eq_true_iff_forall_mem.1 h1) u (by simpa using hu))
    cases hq : P.info? ty with
    | none => simp [hq] at hi
    | some i =>
      have hs : v.cells.size = i.size := by simp [hq] at hi; omega
      simp only [Nat.add_zero] at this
      rw [setCells_row _ _ _ _ hg, hC] at this
      simp [storeVar, sizeOf, typeInfo, hq, hs, this]
  refine wpList_plain hgd fun _ hK => ?_
  unfold Oper.wp execOp
  simp only [ho, hx, hy, Instr.storeAt, Instr.sureAddr, Sem.run_bind, Sem.run_pure, Result.andThen_ok, hr]
  exact hK _ _ h
theorem wpList_load_row {P : Program} {ops : Array Oper} {rest : List Oper} {op : Oper} {a : Act} {w : World} {Q : Exit → Act → World → Prop} (hgd : op.guard = none) (ty : TypeId) (x : Operand) (ho : op.op = .load ty x)
    (g : Nat) (hx : a.eval x = .pointer (some ⟨g, 0, none⟩)) (C : Array Value) (t : TypeId) (hg : w.heap[g]? = some (.cells C t (0, 0))) (d : TypeDesc) (hu : P.underlying ty = some d) (hd : (match d with | .struct _ | .array _ _ => true | _ => false) = true) (hi : (P.info? ty).map (·.size) = some C.size)
    (h : wpList P ops Q rest (a.put op.dst (.agg C)) w) : wpList P ops Q (op :: rest) a w := by
  refine wpList_plain hgd fun _ hK => ?_
  unfold Oper.wp execOp
  simp only [ho, hx, Instr.loadAt, Instr.sureAddr, Sem.run_bind, Sem.run_pure, Result.andThen_ok, run_loadVar_row w g t ty C (0, 0) d hg hu hd hi]
  exact hK _ _ h
end Go.Proofs.Ytepmmlnopdjjdaa
namespace Go.Proofs.Ytepmmlnopdjjdaa
open Go.RowKit
set_option linter.unusedVariables false
set_option linter.unusedSimpArgs false
set_option maxRecDepth 100000
theorem allocs_heapB : ∀ (os : List Obj) (X : World), (os.foldl World.alloc X).heap = X.heap ++ os.toArray
  | [], X => by simp
  | o :: os, X => by
    rw [List.foldl_cons, allocs_heapB os (X.alloc o)]
    show X.heap.push o ++ os.toArray = X.heap ++ (o :: os).toArray
    apply Array.ext'
    simp
theorem allocs_below (w : World) : ∀ (os : List Obj) (X : World), Below w.heap.size w X → Below w.heap.size w (os.foldl World.alloc X)
  | [], X, h => h
  | o :: os, X, h => by
    rw [List.foldl_cons]
    exact allocs_below w os _ (h.alloc h.size o)
/-- the boxes that lie from w's end on -/
structure Bx (w X : World) (L : List (Array Value × TypeId)) : Prop where
  b : Below w.heap.size w X
  at_ : ∀ i p, L[i]? = some p → X.heap[w.heap.size + i]? = some (.cells p.1 p.2 (0, 0))
def objB (p : Array Value × TypeId) : Obj := .cells p.1 p.2
theorem Bx.start (w : World) (L : List (Array Value × TypeId)) : Bx w ((L.map objB).foldl World.alloc w) L := by
  refine ⟨allocs_below w _ w (Below.refl _ _), fun i p hp => ?_⟩
  rw [allocs_heapB, Array.getElem?_append_right (by omega)]
  simp [hp, objB]
section
variable {w X Y : World} {L : List (Array Value × TypeId)}
theorem Bx.next (h : Bx w X L) (hb : Below X.heap.size X Y) : Bx w Y L :=
  ⟨h.b.trans (hb.mono h.b.size), fun i p hp => (hb.block _ (Array.getElem?_eq_some_iff.1 (h.at_ i p hp)).1).trans (h.at_ i p hp)⟩
theorem Bx.row (h : Bx w X L) (i : Nat) (c : Array Value) (t : TypeId) (cs : Array Value) (hi : L[i]? = some (c, t)) : Bx w (X.setRow (w.heap.size + i) cs) (L.set i (cs, t)) := by
  refine ⟨below_set h.b (by omega) _, fun j p hp => ?_⟩
  by_cases hij : i = j
  · subst hij
    rw [List.getElem?_set_self (List.getElem?_eq_some_iff.1 hi).1] at hp
    cases hp
    exact setRow_heap _ _ c _ _ _ (h.at_ i (c, t) hi)
  · rw [List.getElem?_set_ne hij] at hp
    rw [setRow_other _ _ _ _ (by omega)]
    exact h.at_ j p hp
theorem Bx.cell (h : Bx w X L) (i j : Nat) (v : Value) (c : Array Value) (t : TypeId) (hi : L[i]? = some (c, t)) : Bx w (X.setCell ⟨w.heap.size + i, j, none⟩ v) (L.set i (c.setIfInBounds j v, t)) := by
  refine ⟨h.b.setCell (by show w.heap.size ≤ w.heap.size + i; omega) _, fun k p hp => ?_⟩
  by_cases hij : i = k
  · subst hij
    rw [List.getElem?_set_self (List.getElem?_eq_some_iff.1 hi).1] at hp
    cases hp
    exact heap_set_b X (w.heap.size + i) j v _ _ _ (h.at_ i (c, t) hi)
  · rw [List.getElem?_set_ne hij] at hp
    rw [Below.heap_setCell _ _ _ _ (by show w.heap.size + k ≠ w.heap.size + i; omega)]
    exact h.at_ k p hp
/-- what is said of the first boxes -/
theorem Bx.size (h : Bx w X L) : w.heap.size + L.length ≤ X.heap.size := by
  cases hL : L.length with
  | zero => exact h.b.size
  | succ n =>
    have hn : n < L.length := by omega
    have := (Array.getElem?_eq_some_iff.1 (h.at_ n _ (List.getElem?_eq_getElem hn))).1
    omega
end
theorem row_cell {X : World} {g : Nat} {C : Array Value} {t : TypeId} (h : X.heap[g]? = some (.cells C t (0, 0))) (j : Nat) : X.cell? ⟨g, j, none⟩ = C[j]? := cell_of_row X g j C t (0, 0) h
theorem MdAt.of {X : World} {g : Nat} {m : Mdl} (h : X.heap[g]? = some (.cells #[.int .i64 m.ld, .int .i64 m.ul, .int .i64 m.cl, .int .i64 m.ce, .int .i64 m.cf] 23 (0, 0))) : MdAt X g m.ld m.ul m.cl m.ce m.cf := by
  refine ⟨(Array.getElem?_eq_some_iff.1 h).1, ?_, ?_, ?_, ?_, ?_⟩ <;> (rw [row_cell h]; rfl)
abbrev mdK (m : Mdl) : Array Value := #[.int .i64 m.ld, .int .i64 m.ul, .int .i64 m.cl, .int .i64 m.ce, .int .i64 m.cf]
/-- a drive loaded whole, a cartridge loaded whole -/
theorem ld_dr {ops : Array Oper} {rest : List Oper} {op : Oper} {a : Act} {w : World} {Q : Exit → Act → World → Prop} (hgd : op.guard = none) (x : Operand) (ho : op.op = .load 25 x)
    (g : Nat) (hx : a.eval x = .pointer (some ⟨g, 0, none⟩)) (d : Drv) (hg : w.heap[g]? = some (.cells (drK d) 25 (0, 0)))
    (h : wpList Try.prog ops Q rest (a.put op.dst (.agg (drK d))) w) : wpList Try.prog ops Q (op :: rest) a w :=
  wpList_load_row hgd _ x ho g hx _ _ hg _ Try.underlying25 rfl infoD h
theorem ld_cr {ops : Array Oper} {rest : List Oper} {op : Oper} {a : Act} {w : World} {Q : Exit → Act → World → Prop} (hgd : op.guard = none) (x : Operand) (ho : op.op = .load 30 x)
    (g : Nat) (hx : a.eval x = .pointer (some ⟨g, 0, none⟩)) (c : Crt) (ad : Option Addr) (cap : Nat) (hg : w.heap[g]? = some (.cells (crQ c ad cap) 30 (0, 0)))
    (h : wpList Try.prog ops Q rest (a.put op.dst (.agg (crQ c ad cap))) w) : wpList Try.prog ops Q (op :: rest) a w :=
  wpList_load_row hgd _ x ho g hx _ _ hg _ Try.underlying30 rfl infoC h
/-- a drive without what it holds -/
def empD (d : Drv) : Drv := ⟨0, ⟨#[]⟩, 0, d.lo, d.pa, d.si⟩
set_option maxHeartbeats 1000000 in
theorem emptied_any (d : Drv) (w : World) :
    Calls Try.prog 52 #[drV d] w fun e w' => e = .returned (drV (empD d)) ∧ Below w.heap.size w w' := by
  have HX := Lib.hid (show Bx w ((w.alloc (.cells #[.int .i64 0, .string ⟨#[]⟩, .int .i64 0, .int .i64 d.lo, .int .i64 d.pa, .int .i64 d.si] 25)).alloc (.cells #[.int .i64 0, .string ⟨#[]⟩, .int .i64 0, .int .i64 d.lo, .int .i64 d.pa, .int .i64 d.si] 25)) [(drK (empD d), 25), (drK (empD d), 25)] from Bx.start w [(drK (empD d), 25), (drK (empD d), 25)])
  go_enter Try.func52, Try.ntmps52
  go_wp2_with fail
  refine post_cellD rfl rfl (HX.out.at_ 1 (drK (empD d), 25) rfl) Try.underlying25 rfl infoD rfl ?_
  exact ⟨rfl, HX.out.b⟩
/-- the first error -/
def frs : List Int → Int
  | [] => 0
  | x :: r => if x = 0 then frs r else x
theorem run_idx7 (a b c d e f g : Int) (k : Nat) (hk : k < 7) (w : World) :
    (Instr.index 72 (.agg #[.int .i64 a, .int .i64 b, .int .i64 c, .int .i64 d, .int .i64 e, .int .i64 f, .int .i64 g]) (.int .i64 (k : Int))).run Try.prog w = .ok (.int .i64 ([a, b, c, d, e, f, g][k]'hk)) w := by
  match k, hk with
  | 0, _ => with_unfolding_all rfl
  | 1, _ => with_unfolding_all rfl
  | 2, _ => with_unfolding_all rfl
  | 3, _ => with_unfolding_all rfl
  | 4, _ => with_unfolding_all rfl
  | 5, _ => with_unfolding_all rfl
  | 6, _ => with_unfolding_all rfl
theorem frs_drop (l : List Int) (k : Nat) (h : k < l.length) : frs (l.drop k) = if l[k] = 0 then frs (l.drop (k + 1)) else l[k] := by
  rw [List.drop_eq_getElem_cons h]
  rfl
set_option maxHeartbeats 2000000 in
theorem first_any (a b c d e f g : Int) (w : World) :
    Calls Try.prog 50 #[.agg #[.int .i64 a, .int .i64 b, .int .i64 c, .int .i64 d, .int .i64 e, .int .i64 f, .int .i64 g]] w fun r w' => r = .returned (.int .i64 (frs [a, b, c, d, e, f, g])) ∧ Below w.heap.size w w' := by
  have HB := Lib.hid (below_boxC w (.cells #[.int .i64 a, .int .i64 b, .int .i64 c, .int .i64 d, .int .i64 e, .int .i64 f, .int .i64 g] 72))
  obtain ⟨l, hl⟩ : ∃ l : List Int, l = [a, b, c, d, e, f, g] := ⟨_, rfl⟩
  have hL : l.length = 7 := by rw [hl]; rfl
  have HI : Hid (∀ (k : Nat) (hk : k < l.length) (X : World), (Instr.index 72 (.agg #[.int .i64 a, .int .i64 b, .int .i64 c, .int .i64 d, .int .i64 e, .int .i64 f, .int .i64 g]) (.int .i64 (k : Int))).run Try.prog X = .ok (.int .i64 l[k]) X) := Lib.hid (by subst hl; intro k hk X; exact run_idx7 a b c d e f g k hk X)
  have HD := Lib.hid (fun k h => frs_drop l k h)
  have H0 := Lib.hid (show frs l = frs (l.drop 0) from rfl)
  rw [← hl]
  have HL := Lib.hid hL
  clear hl hL
  go_enter Try.func50, Try.ntmps50
  go_wp2
  generalize World.alloc _ _ = X0 at *
  go_loopg [6] 7 (fun gk v6 wx => ∃ k : Nat, v6 = .int .i64 k ∧ k + gk = 7 ∧ wx = X0 ∧ Hid (frs l = frs (l.drop k)))
  case atStart => exact ⟨0, rfl, by omega, rfl, H0⟩
  case round =>
    obtain ⟨k, rfl, hk, rfl, hH⟩ := hrel
    cases gk with
    | zero =>
      obtain rfl : k = 7 := by omega
      go_wp2
      go_ret
      exact ⟨by rw [hH.out, List.drop_eq_nil_of_le (by have := HL.out; omega)]; rfl, HB.out⟩
    | succ gk0 =>
      have hkn : k < 7 := by omega
      have hkl : k < l.length := by have := HL.out; omega
      have hI := HI.out k hkl wr
      have HS := Lib.hid (HD.out k hkl)
      generalize l[k] = x at *
      clear hkl
      by_cases h0 : x = 0
      · subst h0
        go_wp2_with (with_reducible refine wpList_index rfl _ _ _ rfl _ hI ?_)
        go_roundg gk0
        case rel => exact ⟨k + 1, by go_num, by omega, rfl, Lib.hid (by rw [hH.out, HS.out]; simp)⟩
        case measure => omega
      · go_wp2_with (with_reducible refine wpList_index rfl _ _ _ rfl _ hI ?_)
        go_ret
        exact ⟨by rw [hH.out, HS.out, if_neg h0]; rfl, HB.out⟩
end Go.Proofs.Ytepmmlnopdjjdaa
