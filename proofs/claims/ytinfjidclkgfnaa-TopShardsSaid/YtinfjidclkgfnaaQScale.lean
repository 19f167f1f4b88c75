/-
  A multiple of a list added to a list, by the program.
  field.Scale, with the lengths by letters.
-/
import Derived.Test.YtinfjidclkgfnaaQField
import Derived.Test.YtinfjidclkgfnaaQMem
import Derived.StillTailTactics
namespace Go.Proofs.Ytinfjidclkgfnaa
open Go.RowKit
set_option maxRecDepth 100000 in
set_option maxHeartbeats 1000000 in
theorem clone_any (ad : Option Addr) (cap : Nat) (xs : List UInt8) (w : World) (hl : Lie w ad xs) (ha : ad = none → cap = 0) (hs : xs.length ≤ 10000000) :
    Calls Try.prog 70 #[.slice ad xs.length cap] w (GivesU w xs) := by
  have hq := fun (w : World) (a : Option Addr) (n c : Nat) => Lib.run_eql_slice_nil (P := Try.prog) w 33 5 a n c 0 0 Try.underlying33
  have HL := Lib.hid hl
  have HA := Lib.hid ha
  cases ad with
  | none =>
    obtain rfl := ha rfl
    have hx : xs = [] := by
      rcases hl.at_ with h0 | ⟨b, off, h0, _⟩
      · exact h0
      · cases h0
    subst hx
    clear hl ha HL HA
    go_enter Try.func70, Try.ntmps70
    go_wp2
    go_ret
    exact ⟨_, rfl, Own.ofNil _ _, Below.refl _ _⟩
  | some a =>
    clear hl ha
    have HL1 := Lib.hid (HL.out.below ((Below.refl w.heap.size w).alloc (Nat.le_refl _) (.cells #[] 5)) rfl)
    have HB1 := Lib.hid ((Below.refl w.heap.size w).alloc (Nat.le_refl _) (.cells #[] 5))
    have HS := Lib.hid HB1.out.size
    go_enter Try.func70, Try.ntmps70
    go_wp2_with (at_builtin; refine wpList_append_u rfl (.tmp 5) (.tmp 6) rfl w.heap.size _ [] rfl (Own.made w) _ _ cap xs HA.out HL1.out rfl rfl (by simpa using hs) HS.out ?_; intro v1 w1 ho1 hg1)
    go_ret
    exact ⟨v1, rfl, by simpa using ho1, HB1.out.grown hg1 HS.out (fun k hk => ((Own.made w).lt k hk).1)⟩

attribute [local irreducible] dblU lowU mulU arr prodT sc

set_option maxRecDepth 100000 in
set_option maxHeartbeats 1000000 in
theorem scale_any (ad bd : Option Addr) (cap bc : Nat) (xs ys : List UInt8) (x : UInt8) (w : World) (hl : Lie w ad xs) (ha : ad = none → cap = 0) (hs : xs.length ≤ 1000000) (hm : Lie w bd ys) (hs2 : ys.length ≤ 1000000) :
    Calls Try.prog 61 #[.slice ad xs.length cap, .slice bd ys.length bc, .int .u8 (ev x)] w (GivesU w (sc xs ys x)) := by
  have hz := zeroP
  have HL := Lib.hid hl
  have HM := Lib.hid hm
  have HA := Lib.hid ha
  clear hl hm ha
  go_enter Try.func61, Try.ntmps61
  go_wp2_with fail
  refine (products_any _ _).mono ?_
  rintro e w1 ⟨rfl, hb1⟩
  have HB1 := Lib.hid hb1
  clear hb1
  have hs1 := arr_size 256 (prodT x)
  go_wp2_with fail
  rw [run_storeCells_new_arr _ w1.heap.size rfl _ _ _ (by rw [arr_size, arr_size]) (arr_one _ _)]
  simp only [Result.andThen]
  rw [Oper.upon_skip]
  clear hz hs1
  have HP := Lib.hid (Arr.new w1 75 256 (prodT x))
  have HB2 : Hid (Below w.heap.size w (w1.alloc (.cells (arr 256 (prodT x)) 75))) := Lib.hid (HB1.out.alloc HB1.out.size _)
  generalize w1.heap.size = g at HP ⊢
  generalize World.alloc w1 _ = W at HP HB2 ⊢
  go_wp2_with fail
  refine (clone_any ad cap xs W (HL.out.below HB2.out rfl) HA.out (by omega)).mono ?_
  rintro e w2 ⟨v, rfl, ho, hb⟩
  have HO := Lib.hid ho
  have HB := Lib.hid hb
  clear ho hb
  have hgW := HP.out.lt
  rcases Nat.lt_or_ge ys.length xs.length with hle | hle
  all_goals
    go_wp2_with fail
    go_loopw [19] (fun vi wr => ∃ k : Nat, k ≤ xs.length ∧ k ≤ ys.length ∧ vi = .int .i64 k ∧ Hid (Own wr W.heap.size v (sc xs (ys.take k) x)) ∧ Hid (Below W.heap.size W wr)) (fun i _ => xs.length - (intOf i).toNat)
    case atStart => exact ⟨0, by omega, by omega, rfl, by rw [List.take_zero, sc_nil]; exact HO, HB⟩
    case round =>
      obtain ⟨k, hkx, hky, rfl, ho, hb⟩ := hrel
      by_cases hlt : k < xs.length ∧ k < ys.length
      · obtain ⟨hk1, hk2⟩ := hlt
        have hj0 : (0 : Int) ≤ (k : Int) := by omega
        have hj1 : (k : Int) < (xs.length : Int) := by omega
        have hj2 : (k : Int) < (ys.length : Int) := by omega
        go_wp2_with fail
        refine wp_region_still_tail 14 (by kernel_rfl) (by kernel_rfl) ?_
        simp only [List.take_succ_cons, List.take_zero, List.drop_succ_cons, List.drop_zero]
        change wpStill _ _ wr.drew (fun a' => wpList _ _ _ _ a' wr.drew) _ _
        have ho3 : Own wr.drew W.heap.size v (sc xs (ys.take k) x) := ho.out
        have hb3 := hb.out.drew
        clear ho hb
        generalize wr.drew = w3 at ho3 hb3 ⊢
        obtain ⟨b, off, rfl, _, hc⟩ := (HM.out.below (HB2.out.trans (hb3.mono HB2.out.size)) rfl).ev (by omega)
        have hcy := hc k hk2
        have hlen := sc_length xs (ys.take k) x
        obtain ⟨g2, cap2, rfl, hg2, hg3, hcell, hset⟩ := ho3.at_ xs.length hlen (by omega)
        have hcx := (hcell k (by omega)).1
        have hfx := (hcell k (by omega)).2
        rw [sc_at xs ys x k hk1] at hcx
        have hst := hset k (xs[k] ^^^ mulU ys[k] x) (by omega)
        rw [sc_next xs ys x k hk1 hk2] at hst
        generalize xs[k] = cx at hcx hst
        generalize ys[k] = cy at hcy hst
        have hp := (HP.out.below hb3 hgW).cell (ev cy).toNat (ev_idx cy)
        rw [ev_prodT] at hp
        have HST := Lib.hid hst
        have HBS := Lib.hid (hb3.setCell (p := ⟨g2, k, none⟩) hg2 (.int .u8 (ev (cx ^^^ mulU cy x))))
        have y0 := ev_lo cy
        have y1 := ev_hi cy
        clear hc hcell hset hst hlen hb3 ho3
        repeat still_step
        still_call (calls_left (add_any _ _ _))
        repeat still_step
        refine wpStill_nil ?_
        go_wp2
        go_roundw
        case rel => exact ⟨k + 1, by omega, by omega, by go_num, HST, HBS⟩
        case measure => simp [intOf]; omega
      · have HE := Lib.hid (sc_end xs ys x k (by omega))
        first
          | (have hend : ¬ (k : Int) < (xs.length : Int) := by omega
             go_wp2)
          | (have hend : ¬ (k : Int) < (ys.length : Int) := by omega
             go_wp2)
        go_ret
        exact ⟨v, rfl, by rw [← HE.out]; exact ho.out.mono HB2.out.size, HB2.out.trans (hb.out.mono HB2.out.size)⟩
end Go.Proofs.Ytinfjidclkgfnaa
namespace Go.Proofs.Ytinfjidclkgfnaa
open Go.RowKit
theorem scale_n (ad bd : Option Addr) (n m cap bc : Nat) (xs ys : List UInt8) (x : UInt8) (w : World) (hn : n = xs.length) (hm : m = ys.length) (hl : Lie w ad xs) (ha : ad = none → cap = 0) (hs : n ≤ 1000000) (hl2 : Lie w bd ys) (hs2 : m ≤ 1000000) :
    Calls Try.prog 61 #[.slice ad n cap, .slice bd m bc, .int .u8 (ev x)] w (GivesU w (sc xs ys x)) := by
  subst hn hm
  exact scale_any ad bd cap bc xs ys x w hl ha hs hl2 hs2
end Go.Proofs.Ytinfjidclkgfnaa
