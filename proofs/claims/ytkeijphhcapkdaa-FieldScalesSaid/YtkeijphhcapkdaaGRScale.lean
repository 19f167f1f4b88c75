/-
  A multiple of a list added to a list, by the specification; two lists that are the same.
-/
import Derived.Test.YtkeijphhcapkdaaGScale
namespace Go.Proofs.Ytkeijphhcapkdaa
open Go.RowKit
attribute [local irreducible] dblU lowU mulU arr prodT sc

set_option maxRecDepth 100000 in
set_option maxHeartbeats 1000000 in
theorem rscale_any (ad bd : Option Addr) (cap bc : Nat) (xs ys : List UInt8) (x : UInt8) (w : World) (hl : Lie w ad xs) (ha : ad = none → cap = 0) (hs : xs.length ≤ 1000000) (hm : Lie w bd ys) (hs2 : ys.length ≤ 1000000) :
    Calls Try.prog 24 #[.slice ad xs.length cap, .slice bd ys.length bc, .int .u8 (ev x)] w (GivesU w (sc xs ys x)) := by
  have HL := Lib.hid hl
  have HM := Lib.hid hm
  have HA := Lib.hid ha
  clear hl hm ha
  have HL1 := Lib.hid (HL.out.below ((Below.refl w.heap.size w).alloc (Nat.le_refl _) (.cells #[] 5)) rfl)
  have HB1 := Lib.hid ((Below.refl w.heap.size w).alloc (Nat.le_refl _) (.cells #[] 5))
  have HS := Lib.hid HB1.out.size
  go_enter Try.func24, Try.ntmps24
  go_wp2_with (at_builtin; refine wpList_append_u rfl (.tmp 9) (.tmp 10) rfl w.heap.size _ [] rfl (Own.made w) _ _ cap xs HA.out HL1.out rfl rfl (by simp; omega) HS.out ?_; intro v w1 ho1 hg1)
  have HO : Hid (Own w1 w.heap.size v xs) := Lib.hid (by simpa using ho1)
  have HB : Hid (Below w.heap.size w w1) := Lib.hid (HB1.out.grown hg1 HS.out (fun k hk => ((Own.made w).lt k hk).1))
  have hvl : ∃ va vc, v = .slice va xs.length vc := by obtain ⟨va, vc, h, _⟩ := HO.out.slice; exact ⟨va, vc, h⟩
  obtain ⟨va, vc, rfl⟩ := hvl
  clear ho1 hg1
  go_loopw [8] (fun vi wr => ∃ k : Nat, k ≤ xs.length ∧ k ≤ ys.length ∧ vi = .int .i64 k ∧ Hid (Own wr w.heap.size (.slice va xs.length vc) (sc xs (ys.take k) x)) ∧ Hid (Below w.heap.size w wr)) (fun i _ => xs.length - (intOf i).toNat)
  case atStart => exact ⟨0, by omega, by omega, rfl, by rw [List.take_zero, sc_nil]; exact HO, HB⟩
  case round =>
    obtain ⟨k, hkx, hky, rfl, ho, hb⟩ := hrel
    by_cases hlt : k < xs.length ∧ k < ys.length
    · obtain ⟨hk1, hk2⟩ := hlt
      have hj0 : (0 : Int) ≤ (k : Int) := by omega
      have hj1 : (k : Int) < (xs.length : Int) := by omega
      have hj2 : (k : Int) < (ys.length : Int) := by omega
      go_wp2_with fail
      refine wp_region_still_tail 14 (by kernel_rfl) (by kernel_rfl) ?_
      simp only [List.take_succ_cons, List.take_zero, List.drop_succ_cons, List.drop_zero]
      change wpStill _ _ wr.drew (fun a' => wpList _ _ _ _ a' wr.drew) _ _
      have ho3 : Own wr.drew w.heap.size (.slice va xs.length vc) (sc xs (ys.take k) x) := ho.out
      have hb3 := hb.out.drew
      clear ho hb
      generalize wr.drew = w3 at ho3 hb3 ⊢
      obtain ⟨b, off, rfl, _, hc⟩ := (HM.out.below hb3 rfl).ev (by omega)
      have hcy := hc k hk2
      have hlen := sc_length xs (ys.take k) x
      obtain ⟨g2, cap2, he, hg2, hg3, hcell, hset⟩ := ho3.at_ xs.length hlen (by omega)
      obtain ⟨rfl, rfl⟩ : va = some ⟨g2, 0, none⟩ ∧ vc = cap2 := by cases he; exact ⟨rfl, rfl⟩
      have hcx := (hcell k (by omega)).1
      have hfx := (hcell k (by omega)).2
      rw [sc_at xs ys x k hk1] at hcx
      have hst := hset k (xs[k] ^^^ mulU ys[k] x) (by omega)
      rw [sc_next xs ys x k hk1 hk2] at hst
      generalize xs[k] = cx at hcx hst
      generalize ys[k] = cy at hcy hst
      have hx := bits_xor_ev cx (mulU cy x)
      have HST := Lib.hid hst
      have HBS := Lib.hid (hb3.setCell (p := ⟨g2, k, none⟩) hg2 (.int .u8 (ev (cx ^^^ mulU cy x))))
      clear hc hcell hset hst hlen hb3 ho3 he
      repeat still_step
      still_call (calls_left (rmul_any _ _ _))
      repeat still_step
      refine wpStill_nil ?_
      go_wp2
      go_roundw
      case rel => exact ⟨k + 1, by omega, by omega, by go_num, HST, HBS⟩
      case measure => simp [intOf]; omega
    · have HE := Lib.hid (sc_end xs ys x k (by omega))
      rcases Nat.lt_or_ge k xs.length with hkk | hkk
      · have hend : ¬ (k : Int) < (ys.length : Int) := by omega
        go_wp2
        go_ret
        exact ⟨_, rfl, by rw [← HE.out]; exact ho.out, hb.out⟩
      · have hend : ¬ (k : Int) < (xs.length : Int) := by omega
        go_wp2
        go_ret
        exact ⟨_, rfl, by rw [← HE.out]; exact ho.out, hb.out⟩

set_option maxRecDepth 100000 in
set_option maxHeartbeats 1000000 in
theorem same_any (ad bd : Option Addr) (cap bc n m : Nat) (xs : List UInt8) (w : World) (hl : Lie w ad xs) (hm : Lie w bd xs) (hn : n = xs.length) (hmn : m = xs.length) (hs : xs.length ≤ 1152921504606846976) :
    Calls Try.prog 23 #[.slice ad n cap, .slice bd m bc] w fun e w' => e = .returned (.bool true) ∧ ∃ q, w' = w.drewN q := by
  subst hn hmn
  have HL := Lib.hid hl
  have HM := Lib.hid hm
  clear hl hm
  go_enter Try.func23, Try.ntmps23
  go_wp2
  go_loopw [5] (fun vi wr => ∃ k : Nat, k ≤ xs.length ∧ vi = .int .i64 k ∧ Hid (∃ q, wr = w.drewN q)) (fun i _ => xs.length - (intOf i).toNat)
  case atStart => exact ⟨0, by omega, rfl, Lib.hid ⟨0, rfl⟩⟩
  case round =>
    obtain ⟨k, hk, rfl, hq⟩ := hrel
    by_cases hlt : k < xs.length
    · obtain ⟨b, off, rfl, _, hc⟩ := HL.out.at_.resolve_left (by rintro rfl; simp at hlt)
      obtain ⟨b2, off2, rfl, _, hc2⟩ := HM.out.at_.resolve_left (by rintro rfl; simp at hlt)
      have hx : wr.cell? ⟨b, off + k, none⟩ = some (.int .u8 ((xs[k]'hlt).toNat : Int)) := by obtain ⟨q, rfl⟩ := hq.out; exact hc k hlt
      have hy : wr.cell? ⟨b2, off2 + k, none⟩ = some (.int .u8 ((xs[k]'hlt).toNat : Int)) := by obtain ⟨q, rfl⟩ := hq.out; exact hc2 k hlt
      generalize (xs[k].toNat : Int) = z at hx hy
      have hj0 : (0 : Int) ≤ (k : Int) := by omega
      have hj1 : (k : Int) < (xs.length : Int) := by omega
      clear hc hc2
      go_wp2_with fail
      go_quiet (fail)
      go_wp2
      go_roundw
      case rel => exact ⟨k + 1, by omega, by go_num, Lib.hid (by obtain ⟨q, rfl⟩ := hq.out; exact ⟨_, World.drewN_drewN _ _ _⟩)⟩
      case measure => simp [intOf]; omega
    · obtain rfl : k = xs.length := by omega
      go_wp2
      go_ret
      exact ⟨rfl, hq.out⟩
end Go.Proofs.Ytkeijphhcapkdaa
