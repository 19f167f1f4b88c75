/-
  The walk of the statement CodecPuts: what the program appends is what the document appends.
-/
import Derived.Test.YtckbgefeamkjnaaCLawPre
import Derived.Deep.RegionWith
import Derived.Deep.DrawnRows
namespace Go.Proofs.Ytckbgefeamkjnaa
open Go.RowKit
attribute [local go_sem ↓] Go.wp_at_zero Go.wp_at_succ

theorem Lie.keepBelow {W w : World} {ad : Option Addr} {xs : List UInt8} (h : Lie W ad xs) (hb : Below W.heap.size W w) : Lie w ad xs := h.below hb rfl

set_option maxRecDepth 100000 in
set_option maxHeartbeats 1000000 in
theorem law_puts (ad ld : Option Addr) (cap lc : Nat) (xs : List UInt8) (l : List It) (w : World) (hl : Lie w ad xs) (ha : ad = none → cap = 0) (hli : Lies w ld l) (hok : ∀ x ∈ l, x.Ok) :
    Calls Try.prog 3 #[.slice ad xs.length cap, .slice ld l.length lc] w fun e w' => e = .returned (.bool true) ∧ Below w.heap.size w w' := by
  have HL := Lib.hid hl
  have HI := Lib.hid hli
  have HA := Lib.hid ha
  have HK := Lib.hid hok
  clear hl hli ha hok
  by_cases hs : 4096 < xs.length
  · go_enter Try.func3, Try.ntmps3
    go_wp2_with fail
    refine (lives_any _).mono ?_
    rintro e w1 ⟨rfl, hb⟩
    have HB := Lib.hid hb
    clear hb
    go_wp2
    go_ret
    exact ⟨rfl, HB.out⟩
  by_cases hf : Few l
  · have HF := Lib.hid hf
    clear hf
    go_enter Try.func3, Try.ntmps3
    go_wp2_with fail
    refine (lives_any _).mono ?_
    rintro e w1 ⟨rfl, hb⟩
    have HB := Lib.hid hb
    have HI1 := Lib.hid (HI.out.below hb rfl)
    clear hb
    go_wp2_with fail
    refine (small_yes ld lc l _ HI1.out HF.out).mono ?_
    rintro e w' ⟨rfl, rfl⟩
    go_wp2
    go_loopw [5] (fun i wr => ∃ k : Nat, k ≤ l.length ∧ i = .int .i64 k ∧ Below w.heap.size w wr) (fun i _ => (l.length - (intOf i).toNat))
    case atStart => exact ⟨0, by omega, rfl, HB.out⟩
    case round =>
      obtain ⟨k, hk, rfl, hb⟩ := hrel
      have HR := Lib.hid hb
      by_cases hlt : k < l.length
      · have hir := HI.out.below hb rfl
        have HLr := Lib.hid (HL.out.below hb rfl)
        rcases hir.at_ with h0 | ⟨b, off, rfl, hbw, hit⟩
        · rw [h0] at hlt; simp at hlt
        have hx := HK.out _ (List.getElem_mem hlt)
        have hsz := HF.out.2 k hlt
        have h100 := HF.out.1
        obtain ⟨c0, c1, c2, c3, c4⟩ := hit k hlt
        have HIT := Lib.hid (hit k hlt)
        have hi0 : (0 : Int) ≤ (k : Int) := by omega
        have hi1 : (k : Int) < (l.length : Int) := by omega
        clear hit hir hb
        generalize l[k] = x at *
        go_wp2_with fail
        go_region_with
          (first
            | (go_at_call 11; refine (put_any ad cap xs x _ HLr.out.drew HA.out (by omega) hx (by omega)).mono ?_; rintro e w1 ⟨v1, rfl, ho1, hb1⟩; obtain ⟨nd, nc, rfl, hp1, _, _, _⟩ := ho1.slice; have hcv1 := conv_lie nc hp1; rw [List.length_append] at hcv1; have hB1 : Below wr.heap.size wr w1 := ⟨hb1.os, hb1.tape, hb1.output, hb1.size, hb1.block⟩; obtain ⟨d0, d1, d2, d3, d4⟩ := HIT.out.below hB1 hbw; have HP1 := Lib.hid hp1; have HLr1 := Lib.hid (HLr.out.below hB1 rfl); have HB1 := Lib.hid hB1; clear ho1 hb1 hp1 hB1)
            | (go_at_call 12; refine (define_any ad cap xs x _ HLr1.out HA.out (by omega) hx (by omega)).mono ?_; rintro e w2 ⟨v2, rfl, ho2, hb2⟩; obtain ⟨md, mc, rfl, hp2, _, _, _⟩ := ho2.slice; have hcv2 := conv_lie mc hp2; have hcv3 := conv_lie nc (HP1.out.below hb2 rfl); rw [List.length_append] at hcv2 hcv3; have hB2 : Below wr.heap.size wr w2 := HB1.out.trans (hb2.mono HB1.out.size); obtain ⟨f0, f1, f2, f3, f4⟩ := HIT.out.below hB2 hbw; have HB2 := Lib.hid hB2; clear ho2 hb2 hp2 hB2))
        all_goals
          go_wp2
          exact ⟨⟨k + 1, by omega, by go_num, HR.out.trans (HB2.out.mono HR.out.size)⟩, by simp [intOf]; omega⟩
      · go_wp2
        go_ret
        exact ⟨rfl, HR.out⟩
  · go_enter Try.func3, Try.ntmps3
    go_wp2_with fail
    refine (lives_any _).mono ?_
    rintro e w1 ⟨rfl, hb⟩
    have HB := Lib.hid hb
    have HI1 := Lib.hid (HI.out.below hb rfl)
    clear hb
    go_wp2_with fail
    refine (small_no ld lc l _ HI1.out hf).mono ?_
    rintro e w' ⟨rfl, rfl⟩
    go_wp2
    go_ret
    exact ⟨rfl, HB.out⟩
end Go.Proofs.Ytckbgefeamkjnaa
