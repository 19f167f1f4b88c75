/-
  The shards that are present; the map of the chosen rows, by the program.
-/
import Derived.Test.YtinfjidclkgfnaaQList
import Derived.Test.YtinfjidclkgfnaaEProd
import Derived.Deep.LoopGhost
namespace Go.Proofs.Ytinfjidclkgfnaa
open Go.RowKit
set_option maxRecDepth 100000 in
set_option maxHeartbeats 1000000 in
theorem present_any (ad hd : Option Addr) (n cap hc : Nat) (ls : List (List UInt8)) (hs : List Bool) (w : World) (hl : Lr w ad ls) (hn : n = ls.length) (hn2 : n ≤ 1000) (hb : LieB w hd hs) (hh : n = hs.length) :
    Calls Try.prog 41 #[.slice ad n cap, .slice hd n hc] w fun e w' => ∃ v, e = .returned v ∧ Lq w' w.heap.size 0 v (pick ls hs) ∧ Below w.heap.size w w' := by
  have HL := Lib.hid hl
  have HN := Lib.hid hn
  have HH := Lib.hid hh
  have HB := Lib.hid hb
  have HE : Hid (pick (ls.take n) (hs.take n) = pick ls hs) := Lib.hid (by rw [List.take_of_length_le (by omega), List.take_of_length_le (by omega)])
  clear hl hn hb hh
  go_enter Try.func41, Try.ntmps41
  go_wp2_with fail
  go_loopg [5, 10] n (fun gk vo vk wx => ∃ k : Nat, vk = .int .i64 k ∧ k + gk = n ∧ Hid (Lq wx w.heap.size 0 vo (pick (ls.take k) (hs.take k))) ∧ Hid (Below w.heap.size w wx))
  case atStart => exact ⟨0, rfl, by omega, Lib.hid (by rw [List.take_zero, List.take_zero]; exact Lq.nil _ _ _), Lib.hid (Below.refl _ _)⟩
  case round =>
    obtain ⟨k, rfl, hk, hO, HBW⟩ := hrel
    cases gk with
    | zero =>
      have hlt : ¬ (k : Int) < (n : Int) := by omega
      obtain rfl : k = n := by omega
      have HO := hO.out
      rw [HE.out] at HO
      go_wp2
      go_ret
      exact ⟨_, rfl, HO, HBW.out⟩
    | succ gk0 =>
      have hlt : (k : Int) < (n : Int) := by omega
      have hkN : k < n := by omega
      have hkl : k < ls.length := by have := HN.out; omega
      have hkh : k < hs.length := by have := HH.out; omega
      obtain ⟨b, off, rfl, hbl, a1, c1, f1, l1, g1, m1, h1⟩ := HL.out.row k hkl
      obtain ⟨b2, off2, rfl, hbl2, f2⟩ := HB.out.at_ k hkh
      have f3 : wr.cell? ⟨b, off + k, none⟩ = some (.slice a1 (ls[k]).length c1) := (HBW.out.cell (p := ⟨b, off + k, none⟩) hbl).trans f1
      have f4 : wr.cell? ⟨b2, off2 + k, none⟩ = some (.bool (hs[k])) := (HBW.out.cell (p := ⟨b2, off2 + k, none⟩) hbl2).trans f2
      have HX := Lib.hid (pick_take ls hs k hkl hkh)
      have HLT : Hid ((pick (ls.take k) (hs.take k)).length ≤ 1000) := Lib.hid (by
        rw [pick_length _ _ (by rw [List.length_take, List.length_take]; omega)]
        have := List.count_le_length (a := true) (l := hs.take k)
        rw [List.length_take] at this
        omega)
      rcases hx : hs[k] with _ | _
      · rw [hx] at f4
        rw [hx, if_neg (by simp), List.append_nil] at HX
        have HO : Hid (Lq wr w.heap.size 0 u5 (pick (ls.take (k + 1)) (hs.take (k + 1)))) := Lib.hid (by rw [HX.out]; exact hO.out)
        generalize (ls[k]).length = N at f3
        clear f1 f2 l1 g1 m1 h1 hx hkl hkh
        go_wp2
        go_roundg gk0
        case rel => exact ⟨k + 1, by go_num, by omega, HO, HBW⟩
        case measure => omega
      · rw [hx] at f4
        rw [hx, if_pos rfl] at HX
        have HX1 : Hid (LieX wr 0 u5.ownBlock a1 (ls[k])) := Lib.hid (LieX.of_low l1 HBW.out fun g hg => (hO.out.lt g hg).1)
        have HG1 : Hid ((ls[k]).length ≤ c1 ∧ c1 ≤ maxLen ∧ (a1 = none → c1 = 0)) := Lib.hid ⟨g1, m1, h1⟩
        generalize hN : (ls[k]).length = N at f3
        have HX2 : Hid (Lx (wr.alloc (.cells #[.slice a1 N c1] 33)) 0 u5.ownBlock (some ⟨wr.heap.size, 0, none⟩) [ls[k]]) := Lib.hid (Lx.one wr _ (ls[k]) _ rfl ⟨a1, c1, by rw [hN], HX1.out, HG1.out⟩)
        have HO := Lib.hid (hO.out.below ((Below.refl wr.heap.size wr).alloc (Nat.le_refl _) (.cells #[.slice a1 N c1] 33)))
        have HB3 := Lib.hid (HBW.out.alloc HBW.out.size (.cells #[.slice a1 N c1] 33))
        have HZ := Lib.hid HB3.out.size
        generalize ls[k] = row at HX HX2
        clear f1 f2 l1 g1 m1 h1 hx hN HX1 HG1 hkl hkh
        go_wp2_with (at_builtin; refine wpList_append_q rfl (.tmp 19) (.tmp 21) rfl w.heap.size 0 0 0 u5 _ rfl HO.out _ 1 1 [row] (fun h => by cases h) HX2.out rfl rfl (by have := HLT.out; omega) HZ.out (Nat.le_refl _) (Nat.le_refl _) ?_; intro v5 w5 ho5 hg5 _; rw [← HX.out] at ho5; have HO5 := Lib.hid ho5; have HB5 := Lib.hid (HO.out.grow HB3.out (Nat.le_refl _) hg5); clear ho5 hg5)
        go_roundg gk0
        case rel => exact ⟨k + 1, by go_num, by omega, HO5, HB5⟩
        case measure => omega
/-- what presentRows gives -/
def ChoP (w : World) (k p n : Nat) (hs : List Bool) (e : Ending) (w' : World) : Prop := ∃ b D, e = .returned (.map (some b)) ∧ MapR w' w' b k (encL k p) hs n D ∧ Below w.heap.size w w'
attribute [local irreducible] cauL idL encL
set_option maxRecDepth 100000 in
set_option maxHeartbeats 1000000 in
theorem chosen_any (hd : Option Addr) (n hc k p : Nat) (hs : List Bool) (w : World) (hb : LieB w hd hs) (hh : n = hs.length) (hk : 1 ≤ k) (hkp : k + p ≤ 64) (hnk : n = k + p) :
    Calls Try.prog 42 #[.slice hd n hc, .int .i64 k] w (ChoP w k p n hs) := by
  have hmm := @run_makeMap Try.prog
  have hn64 : n ≤ 64 := by omega
  have hw : IntKind.i64.wrap ((n : Int) - (k : Int)) = (p : Int) := by rw [IntKind.wrap_i64]; omega
  have hnn : (n : Int) - (k : Int) = (p : Int) := by omega
  have HH := Lib.hid hh
  have HB := Lib.hid hb
  have HEN : Hid (encL k p = idL k ++ cauL p k) := Lib.hid (by unfold encL; rfl)
  have HNK := Lib.hid hnk
  clear hb hh hnk
  go_enter Try.func42, Try.ntmps42
  go_wp2_with fail
  refine (ident_any k w (by omega) (by omega)).mono ?_
  rintro e w1 ⟨-, hyes⟩
  obtain ⟨g1, rfl, ho1, hb1⟩ := hyes ⟨by omega, by omega⟩
  rw [Int.toNat_natCast] at ho1
  rw [Int.toNat_natCast]
  have HO1 := Lib.hid (Lq.of_out ho1 (idL_length k))
  have HB1 := Lib.hid hb1
  clear hyes ho1 hb1
  go_wp2_with fail
  refine (prows_any k p w1 hk (by omega)).mono ?_
  rintro e w2 ⟨v2, rfl, ho2, hb2⟩
  obtain ⟨ad2, cap2, rfl, hx2, hc2, hm2, hn2⟩ := ho2.lx
  have HX2 := Lib.hid (hx2.other (y := (Value.slice (some ⟨g1, 0, none⟩) k k).ownBlock) fun g hg => (HO1.out.lt g hg).2)
  have HO2 := Lib.hid (HO1.out.below hb2)
  have HB2 := Lib.hid (HB1.out.trans (hb2.mono HB1.out.size))
  have HN2 := Lib.hid hn2
  have HZ := Lib.hid HB1.out.size
  rw [cauL_length]
  clear ho2 hx2 hb2 hn2 hc2 hm2
  go_wp2_with (at_builtin; refine wpList_append_q rfl (.tmp 10) (.tmp 16) rfl w.heap.size w.heap.size w1.heap.size w.heap.size _ (idL k) rfl HO2.out ad2 p cap2 (cauL p k) HN2.out HX2.out (by rw [cauL_length]) rfl (by rw [idL_length]; omega) HB2.out.size (Nat.le_refl _) HZ.out ?_; intro v3 w3 ho3 hg3 _; rw [← HEN.out] at ho3; have HB3 := Lib.hid (HO2.out.grow HB2.out (Nat.le_refl _) hg3); obtain ⟨ad3, cap3, rfl, hl3, hc3, hm3, -⟩ := ho3.read; rw [encL_length, ← HNK.out] at hc3 ⊢; have HL3 := Lib.hid hl3; clear ho3 hg3 hl3)
  have HM0 := Lib.hid (MapR.start w3 w3 k (encL k p) hs)
  have HB4 := Lib.hid ((Below.refl w3.heap.size w3).alloc (Nat.le_refl _) (.map #[] 0))
  have HER := Lib.hid (encL_row k p)
  have HEL := Lib.hid (encL_length k p)
  unfold maxLen at hm3
  go_loopg [21] n (fun gk vi wx => ∃ (i : Nat) (D : DataW Value), vi = .int .i64 i ∧ i + gk = n ∧ Hid (MapR wx w3 w3.heap.size k (encL k p) hs i D) ∧ Hid (Below w3.heap.size w3 wx))
  case atStart => exact ⟨0, _, rfl, by omega, HM0, HB4⟩
  case round =>
    obtain ⟨i, D, rfl, hi, hM, hB⟩ := hrel
    cases gk with
    | zero =>
      have hlt : ¬ (i : Int) < (n : Int) := by omega
      obtain rfl : i = n := by omega
      go_wp2
      go_ret
      exact ⟨w3.heap.size, D, rfl, hM.out.lies hB.out, HB3.out.trans (hB.out.mono HB3.out.size)⟩
    | succ gk0 =>
      have hlt : (i : Int) < (n : Int) := by omega
      have hiN : i < n := by omega
      have hih : i < hs.length := by have := HH.out; omega
      obtain ⟨b2, off2, rfl, hbl2, f2⟩ := HB.out.at_ i hih
      have f4 : wr.cell? ⟨b2, off2 + i, none⟩ = some (.bool (hs[i])) := (((HB3.out.trans (hB.out.mono HB3.out.size))).cell (p := ⟨b2, off2 + i, none⟩) hbl2).trans f2
      rcases hx : hs[i] with _ | _
      · rw [hx] at f4
        have HM5 := Lib.hid (hM.out.pass hih (.inl hx))
        clear f2 hx hih
        go_wp2
        go_roundg gk0
        case rel => exact ⟨i + 1, D, by go_num, by omega, HM5, hB⟩
        case measure => omega
      · rw [hx] at f4
        have hsz := hM.out.2.1
        have hlen := hM.out.1.len Try.underlying58 3
        by_cases hc : (hs.take i).count true < k
        · have hs1 : ((Maps.size D : Nat) : Int) < (k : Int) := by omega
          have hil : i < (encL k p).length := by rw [HEL.out]; omega
          obtain ⟨b, off, e, hbl, a1, c1, f1, l1, g1', m1, h1⟩ := HL3.out.row i hil
          have hrl := HER.out _ (List.getElem_mem hil)
          rw [hrl] at f1 g1'
          subst e
          have f5 : wr.cell? ⟨b, off + i, none⟩ = some (.slice a1 k c1) := (hB.out.cell (p := ⟨b, off + i, none⟩) hbl).trans f1
          have HP : Hid (∀ w5, w5.ownsMap Try.prog 3 heldE w3.heap.size (i + 1) (D.put (.int .i64 (i : Int)) (.held (.slice a1 k c1))) → MapR w5 w3 w3.heap.size k (encL k p) hs (i + 1) (D.put (.int .i64 (i : Int)) (.held (.slice a1 k c1)))) := Lib.hid fun w5 ho => hM.out.put hih (by omega) hil hx hc a1 c1 l1 g1' m1 h1 ho
          unfold maxLen at m1
          clear f1 f2 l1 h1 hx hih hrl hil hsz hc
          go_wp2_with ((at_mapUpdate; refine wpList_mapUpdate_own _ rfl (.tmp 33) (.tmp 34) (.tmp 38) 58 rfl 3 33 keyedI Try.underlying58 heldE w3.heap.size i D rfl hM.out.1 (by unfold maxLen; omega) _ _ (.int .i64 (i : Int)) rfl rfl (keyI i (by omega)) (.held (.slice a1 k c1)) [] rfl ?_; intro w5 ho5 hg5; have HM5 := Lib.hid (HP.out w5 ho5); have HB5 := Lib.hid (hB.out.grown hg5 hB.out.size (fun q hq => (by cases hq; exact Nat.le_refl _))); clear ho5 hg5))
          go_roundg gk0
          case rel => exact ⟨i + 1, _, by go_num, by omega, HM5, HB5⟩
          case measure => omega
        · have hs1 : ¬ ((Maps.size D : Nat) : Int) < (k : Int) := by omega
          have HM5 := Lib.hid (hM.out.pass hih (.inr hc))
          clear f2 hx hih hsz hc
          go_wp2
          go_roundg gk0
          case rel => exact ⟨i + 1, D, by go_num, by omega, HM5, hB⟩
          case measure => omega
end Go.Proofs.Ytinfjidclkgfnaa
