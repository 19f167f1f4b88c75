/-
  The specification's Copied: blocks of their own.
-/
import Derived.Test.YtlbnjojafaieoaaCtSmall
import Derived.Test.YtlbnjojafaieoaaSGeo
namespace Go.Proofs.Ytlbnjojafaieoaa
open Go.RowKit
set_option linter.unusedVariables false
theorem heap_newC (w : World) (o : Obj) : (w.alloc o).heap[w.heap.size]? = some o := heap_alloc_new w o
/-- an empty list of bytes of the call's own, in the newest cells -/
theorem Own.empty (w : World) (g : Nat) (hg : g = w.heap.size) (B : Nat) (hB : B ≤ g) : Own (w.alloc (.cells #[] 5)) B (.slice (some ⟨g, 0, none⟩) 0 0) [] := by
  subst hg
  exact ⟨rfl, .inr ⟨w.heap.size, 0, #[], rfl, hB, heap_alloc_new w _, Nat.le_refl _, by unfold maxLen; omega, rfl, rfl⟩⟩
theorem LieX.far {w : World} {C : Nat} {x : Option Nat} {ad : Option Addr} {l : List UInt8} (h : LieX w C x ad l) (p : Addr) (hp : p.block < C) (v : Value) : LieX (w.setCell p v) C x ad l := by
  rcases h with h0 | ⟨b, off, e, h3, h4, h5, h6⟩
  · exact .inl h0
  · exact .inr ⟨b, off, e, h3, by simpa using h4, h5, fun j hj => by rw [World.cell?_setCell_far _ _ _ _ (by show p.block ≠ b; omega)]; exact h6 j hj⟩
/-- behind the copy of a block's bytes -/
theorem copy_step {w wr w1 : World} {u3 v1 : Value} {lk : List Blk} {xm xb : Bool} {sl : Value} {xd : List UInt8} (hB : Below w.heap.size w wr) (hK : Kq wr w.heap.size w.heap.size u3 lk)
    (hg : ((wr.alloc (.cells #[.bool xm, .bool xb, sl] 56)).alloc (.cells #[] 5)).grownBy w1 (some (wr.heap.size + 1))) (ho : Own w1 (wr.heap.size + 1) v1 xd) :
    ∃ ad1 cap1, v1 = .slice ad1 xd.length cap1 ∧ w1.cell? ⟨wr.heap.size, 0, none⟩ = some (.bool xm) ∧ w1.cell? ⟨wr.heap.size, 1, none⟩ = some (.bool xb) ∧ w1.cell? ⟨wr.heap.size, 2, none⟩ = some sl ∧ w1.frozen? ⟨wr.heap.size, 2, none⟩ = false ∧ wr.heap.size < w1.heap.size ∧
      Hid (Kq ((w1.setCell ⟨wr.heap.size, 2, none⟩ (.slice ad1 xd.length cap1)).alloc (.cells #[.bool xm, .bool xb, .slice ad1 xd.length cap1] 56)) w.heap.size w.heap.size u3 lk) ∧
      Hid (Kx ((w1.setCell ⟨wr.heap.size, 2, none⟩ (.slice ad1 xd.length cap1)).alloc (.cells #[.bool xm, .bool xb, .slice ad1 xd.length cap1] 56)) (wr.heap.size + 1) u3.ownBlock (some ⟨w1.heap.size, 0, none⟩) [⟨xm, xb, xd⟩]) ∧
      Hid (Below w.heap.size w ((w1.setCell ⟨wr.heap.size, 2, none⟩ (.slice ad1 xd.length cap1)).alloc (.cells #[.bool xm, .bool xb, .slice ad1 xd.length cap1] 56))) := by
  obtain ⟨ad1, cap1, rfl, hx, h1, h2, h3⟩ := LieX.of_own (x := u3.ownBlock) ho (fun g hg => by have := (hK.lt g hg).2; omega)
  have hsz : wr.heap.size + 2 ≤ w1.heap.size := by have := hg.size; simpa using this
  have hrow : w1.heap[wr.heap.size]? = some (.cells #[.bool xm, .bool xb, sl] 56 (0, 0)) := by
    rw [hg.block wr.heap.size (by simp; omega) (by intro e; have := Option.some.inj e; omega), Below.heap_alloc _ _ _ (by simp)]
    exact heap_alloc_new wr _
  have hb1 : Below wr.heap.size wr w1 := (below_box2 wr _ _).grown hg (by simp; omega) (fun k hk => by have := Option.some.inj hk; omega)
  have hb2 : Below wr.heap.size wr (w1.setCell ⟨wr.heap.size, 2, none⟩ (.slice ad1 xd.length cap1)) := hb1.setCell (Nat.le_refl _) _
  have hsz2 : (w1.setCell ⟨wr.heap.size, 2, none⟩ (.slice ad1 xd.length cap1)).heap.size = w1.heap.size := by simp [World.setCell]
  have hb3 := hb2.alloc (by rw [hsz2]; omega) (.cells #[.bool xm, .bool xb, .slice ad1 xd.length cap1] 56)
  refine ⟨ad1, cap1, rfl, ?_, ?_, ?_, by simp [World.frozen?, hrow], by omega, Lib.hid (hK.below hb3), Lib.hid ?_, Lib.hid (hB.trans (hb3.mono hB.size))⟩
  · rw [cell_of_row w1 wr.heap.size 0 _ _ (0, 0) hrow]; rfl
  · rw [cell_of_row w1 wr.heap.size 1 _ _ (0, 0) hrow]; rfl
  · rw [cell_of_row w1 wr.heap.size 2 _ _ (0, 0) hrow]; rfl
  · exact Kx.one xm xb ad1 xd cap1 (hx.far _ (by show wr.heap.size < wr.heap.size + 1; omega) _) h1 h2 h3 _ hsz2.symm
set_option maxRecDepth 100000 in
set_option maxHeartbeats 4000000 in
theorem rcopied_any (ad : Option Addr) (n cap : Nat) (l : List Blk) (w : World) (hl : Ki w ad l) (hn : n = l.length) (hs : n ≤ 4096) (hd : ∀ b ∈ l, b.d.length ≤ 10000) :
    Calls Try.prog 20 #[.slice ad n cap] w fun e w' => GivesK w l e w' := by
  have HN := Lib.hid hn
  have HL := Lib.hid hl
  have HD := Lib.hid hd
  clear hn hl hd
  go_enter Try.func20, Try.ntmps20
  go_wp2
  go_loopg [3, 4] n (fun gk v3 vk wx => ∃ k : Nat, k + gk = n ∧ vk = .int .i64 k ∧ Hid (Kq wx w.heap.size w.heap.size v3 (l.take k)) ∧ Hid (Below w.heap.size w wx))
  case atStart => exact ⟨0, by omega, rfl, Lib.hid (by rw [List.take_zero]; exact Kq.nil _ _ _), Lib.hid (Below.refl _ _)⟩
  case round =>
    obtain ⟨k, hk, rfl, hK, hB⟩ := hrel
    cases gk with
    | zero =>
      obtain rfl : k = n := by omega
      have HT := Lib.hid (show l.take k = l from List.take_of_length_le (by have := HN.out; omega))
      go_wp2
      go_ret
      exact ⟨_, rfl, by rw [← HT.out]; exact hK.out, hB.out⟩
    | succ gk0 =>
      have hkl : k < l.length := by have := HN.out; omega
      obtain ⟨b, off, ad', cap', hadr, hlt, q0, q1, q2, hq, hq2, hq3, hq4⟩ := (HL.out.below hB.out).get hkl
      subst hadr
      have hdl : l[k].d.length ≤ 10000 := HD.out _ (List.getElem_mem hkl)
      have HNX := Lib.hid (show l.take (k + 1) = l.take k ++ [⟨l[k].m, l[k].bad, l[k].d⟩] by rw [List.take_succ_eq_append_getElem hkl])
      have HLI := Lib.hid hq
      have HQ := Lib.hid hq4
      clear hq hq2 hq3 hq4
      generalize l[k].m = xm at *
      generalize l[k].bad = xb at *
      generalize l[k].d = xd at *
      have HLI2 := Lib.hid (HLI.out.below (below_box2 wr (.cells #[.bool xm, .bool xb, .slice ad' xd.length cap'] 56) (.cells #[] 5)) rfl)
      have HO := Lib.hid (Own.empty (wr.alloc (.cells #[.bool xm, .bool xb, .slice ad' xd.length cap'] 56)) (wr.heap.size + 1) (by simp) (wr.heap.size + 1) (Nat.le_refl _))
      have HS : Hid (wr.heap.size + 1 ≤ ((wr.alloc (.cells #[.bool xm, .bool xb, .slice ad' xd.length cap'] 56)).alloc (.cells #[] 5)).heap.size) := Lib.hid (by simp)
      have hlen1 : ([] : List UInt8).length + xd.length ≤ 10000000 := by simp; omega
      have hlen2 : (l.take k).length + 1 ≤ 100000 := by rw [List.length_take]; omega
      have HW := Lib.hid (show w.heap.size ≤ wr.heap.size + 1 by have := hB.out.size; omega)
      clear hdl hkl
      go_wp2_with (first
        | (at_builtin; refine wpList_append_u rfl (.tmp 16) (.tmp 21) rfl (wr.heap.size + 1) _ [] rfl HO.out _ _ _ xd HQ.out HLI2.out rfl rfl hlen1 HS.out ?_; intro v1 w1 ho1 hg1; rw [List.nil_append] at ho1; obtain ⟨ad1, cap1, rfl, c0, c1, c2, cf, clt, HK4, HZ4, HB4⟩ := copy_step hB.out hK.out hg1 ho1; clear ho1 hg1)
        | (at_builtin; refine wpList_append_k rfl (.tmp 24) (.tmp 26) rfl w.heap.size w.heap.size (wr.heap.size + 1) w.heap.size _ _ rfl HK4.out _ 1 1 [⟨xm, xb, xd⟩] (fun h => by cases h) HZ4.out rfl rfl hlen2 HB4.out.size (Nat.le_refl _) HW.out ?_; intro v5 w5 ho5 hg5 _; have HK5 := Lib.hid ho5; have HB5 := Lib.hid (HK4.out.grow HB4.out (Nat.le_refl _) hg5); clear ho5 hg5))
      go_roundg gk0
      case rel => exact ⟨k + 1, by omega, by go_num, by rw [HNX.out]; exact HK5, HB5⟩
      case measure => omega
end Go.Proofs.Ytlbnjojafaieoaa
