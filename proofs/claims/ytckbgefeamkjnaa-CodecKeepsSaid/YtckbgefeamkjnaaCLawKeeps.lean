/-
  The walk of the statement CodecKeeps: appending changes neither the bytes to which it appends nor what lies behind their end.
-/
import Derived.Test.YtckbgefeamkjnaaCLawPre
import Derived.Test.YtckbgefeamkjnaaRow
import Derived.Deep.QuietTactic
import Derived.BigQuiet
import Derived.Deep.RegionHeld3
import Derived.Deep.DrawnRows
namespace Go.Proofs.Ytckbgefeamkjnaa
open Go.RowKit
attribute [local go_sem ↓] Go.wp_at_zero Go.wp_at_succ

/-- What the law's own item and all that was there before are, in a later world. -/
structure Kept (w : World) (x : It) (wr : World) : Prop where
  b : Below w.heap.size w wr
  i : ItAt wr w.heap.size 0 x
  s : w.heap.size < wr.heap.size
theorem Kept.below {w W w' : World} {x : It} (h : Kept w x W) (hb : Below W.heap.size W w') : Kept w x w' :=
  ⟨h.b.trans (hb.mono h.b.size), h.i.below hb h.s, Nat.lt_of_lt_of_le h.s hb.size⟩
theorem Kept.start (w : World) (x : It) : Kept w x (w.alloc (.cells x.cells 29)) := ⟨(Below.refl _ _).alloc (Nat.le_refl _) _, itAt_new w x _, by simp⟩

/-- The room: xs, then bytes 77 up to k, then zeros. -/
def room (xs : List UInt8) (j : Nat) : List UInt8 := xs ++ (List.replicate j 77 ++ List.replicate (8192 - j) 0)
theorem room_len (xs : List UInt8) (j : Nat) (hj : j ≤ 8192) : (room xs j).length = xs.length + 8192 := by simp [room]; omega
theorem room_set (xs : List UInt8) (j : Nat) (hj : j < 8192) : (room xs j).set (xs.length + j) 77 = room xs (j + 1) := by
  have e : List.replicate (8192 - j) (0 : UInt8) = 0 :: List.replicate (8192 - (j + 1)) 0 := by rw [show 8192 - j = (8192 - (j + 1)) + 1 by omega, List.replicate_succ]
  have e2 : List.replicate (j + 1) (77 : UInt8) = List.replicate j 77 ++ [77] := List.replicate_succ'
  unfold room
  rw [List.set_append_right _ _ (by omega), Nat.add_sub_cancel_left, List.set_append_right _ _ (by simp), e, e2, List.length_replicate, Nat.sub_self, List.set_cons_zero, List.append_assoc]
  rfl
theorem room_low (xs : List UInt8) (i : Nat) (hi : i < xs.length) (h : i < (room xs 8192).length) : (room xs 8192)[i] = xs[i] := by
  have e : (room xs 8192)[i]? = xs[i]? := by
    unfold room
    rw [List.getElem?_append_left hi]
  rw [List.getElem?_eq_getElem h, List.getElem?_eq_getElem hi] at e
  exact Option.some.inj e
theorem room_high (xs : List UInt8) (i : Nat) (hi : ¬ i < xs.length) (h : i < (room xs 8192).length) : (room xs 8192)[i] = 77 := by
  have hl := room_len xs 8192 (Nat.le_refl _)
  have e : (room xs 8192)[i]? = some 77 := by
    unfold room
    rw [List.getElem?_append_right (by omega), List.getElem?_append_left (by rw [List.length_replicate]; omega), List.getElem?_replicate, if_pos (by omega)]
  rw [List.getElem?_eq_getElem h] at e
  exact Option.some.inj e

theorem item_pos (x : It) : 0 < x.enc.length := by
  unfold It.enc
  split
  · exact enc_pos _
  split
  · exact enc_pos _
  split
  · rw [encT, List.length_append]; have := enc_pos x.s.size; omega
  · simp [encB]
theorem Own.blk {w : World} {B : Nat} {v : Value} {l : List UInt8} (h : Own w B v l) (hp : 0 < l.length) :
    ∃ (g c : Nat) (cur : Array Value), v = .slice (some ⟨g, 0, none⟩) l.length c ∧ B ≤ g ∧ Blk w g cur ∧ l.length ≤ cur.size := by
  rcases h.row.2 with ⟨_, h0⟩ | ⟨g, cap, cur, hv, hB, hg, h1, _, h3, _⟩
  · omega
  · exact ⟨g, cap, cur, hv, hB, hg, by omega⟩
theorem below_still {B : Nat} {a w : World} (h : Below B a w) (n : Nat) : Below B a (w.drewN n) := ⟨h.os, h.tape, h.output, h.size, h.block⟩

set_option maxRecDepth 100000 in
set_option maxHeartbeats 800000 in
theorem law_keeps (ad : Option Addr) (cap : Nat) (xs : List UInt8) (x : It) (w : World) (hl : Lie w ad xs) (ha : ad = none → cap = 0) (hx : x.Ok) (hs : xs.length ≤ 4096) (hsz : x.s.size ≤ 4096) :
    Calls Try.prog 8 #[.slice ad xs.length cap, .agg x.cells] w fun e w' => e = .returned (.bool true) ∧ Below w.heap.size w w' := by
  have HK0 := Lib.hid (Kept.start w x)
  have HSM := Lib.hid (fun W g hg => small1_yes W x 29 g hg hsz)
  have HL := Lib.hid hl
  have HA := Lib.hid ha
  have hput := fun (nd : Option Addr) (nc : Nat) (W : World) (hl : Lie W nd xs) (hn : nd = none → nc = 0) => put_any nd nc xs x W hl hn (by omega) hx (by omega)
  have HPUT := Lib.hid hput
  have HPOS := Lib.hid (encI_len x hx hsz)
  have HITM : Hid (∀ W, Kept w x W → ItAt W w.heap.size 0 x) := Lib.hid fun W h => h.i
  clear hl ha hput hx hsz
  obtain ⟨k, u, n, s, v⟩ := x
  unfold It.cells at HSM HPUT ⊢
  dsimp only at HSM HPUT ⊢
  go_enter Try.func8, Try.ntmps8
  go_wp2_with fail
  refine (lives_any _).mono ?_
  rintro e w1 ⟨rfl, hb⟩
  have HK1 := Lib.hid (HK0.out.below hb)
  clear hb
  obtain ⟨c0, c1, c2, c3, c4⟩ := HITM.out _ HK1.out
  simp only [Nat.zero_add] at c1 c2 c3 c4
  have hz := HK1.out.s
  go_wp2_with fail
  refine (HSM.out _ _ rfl).mono ?_
  rintro e w' ⟨rfl, rfl⟩
  have HK2 := Lib.hid (HK1.out.below ((Below.refl _ _).alloc (Nat.le_refl _) (.cells #[.int .i64 k, .int .u64 u, .int .i64 n, .string s, .bool v] 29)))
  generalize w1.alloc (.cells #[.int .i64 k, .int .u64 u, .int .i64 n, .string s, .bool v] 29) = W at HK2 ⊢
  clear c0 c1 c2 c3 c4 hz HK1
  have HLW := Lib.hid (HL.out.below HK2.out.b rfl)
  go_wp2_with (first
    | (at_make; refine wpList_make_row rfl (.tmp 23) (.tmp 23) rfl _ _ (xs.length + 8192) rfl rfl (by simp) (by simp) (by omega) ?_; intro g w2 hrow2 hg hb2)
    | (with_reducible refine wpList_copy_u rfl (.tmp 25) (.tmp 26) rfl g _ _ rfl ad _ cap rfl xs rfl (HLW.out.below hb2 rfl) _ hrow2 (by simp) (by simp) W hb2 hg ?_; intro w3 hrow3 hb3))
  have hr3 : Rowu w3 g (room xs 0) := by
    unfold room
    simpa using hrow3
  have HR3 := Lib.hid hr3
  have HB3 := Lib.hid hb3
  have HG := Lib.hid hg
  clear hrow2 hrow3 hb2 hb3 hr3 hg
  go_loopw [6] (fun i wr => ∃ j q : Nat, j ≤ 8192 ∧ Hid (q = xs.length + j) ∧ i = .int .i64 q ∧ Rowu wr g (room xs j) ∧ Below W.heap.size W wr) (fun i _ => (xs.length + 8192 - (intOf i).toNat))
  case atStart => exact ⟨0, xs.length, by omega, Lib.hid rfl, rfl, HR3.out, HB3.out⟩
  case round =>
    obtain ⟨j, q, hj, hq, rfl, hrow, hb⟩ := hrel
    obtain ⟨W3, rfl⟩ : ∃ W3 : World, W3 = wr := ⟨_, rfl⟩
    have hql := hq.out
    by_cases hlt : j < 8192
    · obtain ⟨y, hc⟩ : ∃ y, W3.cell? ⟨g, q, none⟩ = some y := ⟨_, hrow.cell q (by rw [room_len xs j hj]; omega)⟩
      have hf := hrow.blk.frozen q
      have hst := hrow.set_ q 77 77 rfl
      rw [show (room xs j).set q 77 = room xs (j + 1) by rw [hql]; exact room_set xs j hlt] at hst
      have HST := Lib.hid hst
      have HBS := Lib.hid (hb.setCell (p := ⟨g, q, none⟩) HG.out (.int .u8 77))
      have hq1 : q < xs.length + 8192 := by omega
      clear hrow hst hb hql
      go_wp2
      exact ⟨⟨j + 1, q + 1, by omega, Lib.hid (by rw [hq.out]; omega), by go_num, HST.out, HBS.out⟩, by simp [intOf]; omega⟩
    · obtain rfl : j = 8192 := by omega
      have HROW := Lib.hid hrow
      have HK := Lib.hid (HK2.out.below hb)
      obtain ⟨c0, c1, c2, c3, c4⟩ := HITM.out _ HK.out
      simp only [Nat.zero_add] at c0 c1 c2 c3 c4
      have hzl : xs.length + 8192 ≤ 20000 := by omega
      have i1 : (xs.length : Int) ≤ (xs.length : Int) + 8192 := by omega
      clear hrow hb hlt
      obtain rfl : q = xs.length + 8192 := hql
      have hlx : Lie W3 (some ⟨g, 0, none⟩) xs := by
        have := HROW.out.lie.take xs.length
        rwa [show (room xs 8192).take xs.length = xs by unfold room; rw [List.take_left]] at this
      have HLX := Lib.hid hlx
      clear hlx
      go_wp2_with fail
      go_region_held3 (fun w' => w'.cell? ⟨w.heap.size, 0, none⟩ = some (.int .i64 k) ∧ w'.cell? ⟨w.heap.size, 1, none⟩ = some (.int .u64 u) ∧ w'.cell? ⟨w.heap.size, 2, none⟩ = some (.int .i64 n) ∧ w'.cell? ⟨w.heap.size, 3, none⟩ = some (.string s) ∧ w'.cell? ⟨w.heap.size, 4, none⟩ = some (.bool v))
        (exact ⟨by assumption, by assumption, by assumption, by assumption, by assumption⟩)
        ((go_at_call 11; refine (HPUT.out _ _ _ HLX.out.drew (fun h => by cases h)).mono ?_; rintro e w4 ⟨v4, rfl, ho4, hb4⟩; have hB4 : Below W3.heap.size W3 w4 := ⟨hb4.os, hb4.tape, hb4.output, hb4.size, hb4.block⟩; have hk4 := HK.out.below hB4; obtain ⟨d0, d1, d2, d3, d4⟩ := HITM.out _ hk4; simp only [Nat.zero_add] at d0 d1 d2 d3 d4; have HO4 := Lib.hid ho4; have HB4 := Lib.hid hB4; clear ho4 hb4 hB4 hk4))
      have hpz := item_pos ⟨k, u, n, s, v⟩
      obtain ⟨zs, hzs⟩ : ∃ zs, zs = xs ++ It.enc ⟨k, u, n, s, v⟩ := ⟨_, rfl⟩
      have hzp : 0 < zs.length := by rw [hzs, List.length_append]; omega
      have hz9 : zs.length ≤ 20000 := by have := HPOS.out; rw [hzs, List.length_append]; omega
      have ho := HO4.out
      rw [← hzs] at ho
      obtain ⟨h, hcap, cur, rfl, hBh, hblk, hcs⟩ := ho.blk hzp
      have HBH := Lib.hid hBh
      have HBL : Hid (∃ cur, Blk w4 h cur ∧ zs.length ≤ cur.size) := Lib.hid ⟨cur, hblk, hcs⟩
      have hgw := HROW.out.blk.lt
      clear hpz hzs ho hBh hblk hcs d0 d1 d2 d3 d4 c0 c1 c2 c3 c4
      go_wp2
      go_loopw [8] (fun i wr2 => ∃ j : Nat, j ≤ zs.length ∧ i = .int .i64 j ∧ Hid (∃ cur, Blk wr2 h cur ∧ zs.length ≤ cur.size) ∧ Below W3.heap.size W3 wr2) (fun i _ => (zs.length - (intOf i).toNat))
      case atStart => exact ⟨0, by omega, rfl, HBL, HB4.out⟩
      case round =>
        obtain ⟨j, hj, rfl, hblk, hb⟩ := hrel
        have HB5 := Lib.hid hb
        by_cases hlt : j < zs.length
        · obtain ⟨cur', hbl, hcs'⟩ := hblk.out
          have hc0 := hbl.cell j
          rw [Array.getElem?_eq_getElem (show j < cur'.size by omega)] at hc0
          obtain ⟨y, hc⟩ : ∃ y, wr.cell? ⟨h, j, none⟩ = some y := ⟨_, hc0⟩
          have hf := hbl.frozen j
          have HST : Hid (∃ cur, Blk (wr.setCell ⟨h, j, none⟩ (.int .u8 200)) h cur ∧ zs.length ≤ cur.size) := Lib.hid ⟨_, hbl.set_ j (.int .u8 200), by simpa using hcs'⟩
          have HBS := Lib.hid (hb.setCell (p := ⟨h, j, none⟩) HBH.out (.int .u8 200))
          clear hbl hc0 hcs' hb hblk
          go_wp2
          exact ⟨⟨j + 1, by omega, by go_num, HST, HBS.out⟩, by simp [intOf]; omega⟩
        · obtain rfl : j = zs.length := by omega
          clear hb hblk hlt
          go_wp2
          go_loopw [9] (fun i wr3 => ∃ j : Nat, j ≤ xs.length + 8192 ∧ i = .int .i64 j ∧ Below W3.heap.size W3 wr3) (fun i _ => (xs.length + 8192 - (intOf i).toNat))
          case atStart => exact ⟨0, by omega, rfl, HB5.out⟩
          case round =>
            obtain ⟨j, hj, rfl, hb⟩ := hrel
            have HB6 := Lib.hid hb
            have hrow := HROW.out.below hb hgw
            have hlb := HL.out.below (HK.out.below hb).b rfl
            by_cases hlt : j < xs.length + 8192
            · by_cases hlo : j < xs.length
              · have hr := hrow.cell j (by rw [room_len xs 8192 (Nat.le_refl _)]; exact hlt)
                rw [room_low xs j hlo] at hr
                rcases hlb.at_ with h0 | ⟨b, off, rfl, _, hbc⟩
                · subst h0; simp at hlo
                have hcb := hbc j hlo
                generalize (xs[j]).toNat = y at hr hcb
                have g1 : decide (j < xs.length) = true := by simpa using hlo
                have g2 : decide (xs.length ≤ j) = false := by simpa using hlo
                clear hbc hrow hlb hb
                go_wp2_with fail
                go_quiet (fail)
                go_wp2
                exact ⟨⟨j + 1, by omega, by go_num, below_still HB6.out _⟩, by simp [intOf]; omega⟩
              · have hr := hrow.cell j (by rw [room_len xs 8192 (Nat.le_refl _)]; exact hlt)
                rw [room_high xs j hlo] at hr
                have hr2 : wr.cell? ⟨g, j, none⟩ = some (.int .u8 77) := hr
                have g1 : decide (j < xs.length) = false := by simpa using hlo
                have g2 : decide (xs.length ≤ j) = true := by simpa using hlo
                clear hr hrow hlb hb
                go_wp2_with fail
                go_quiet (fail)
                go_wp2
                exact ⟨⟨j + 1, by omega, by go_num, below_still HB6.out _⟩, by simp [intOf]; omega⟩
            · clear hrow hlb hb
              go_wp2
              go_ret
              exact ⟨rfl, (HK.out.below HB6.out).b⟩

set_option maxRecDepth 100000 in
set_option maxHeartbeats 800000 in
theorem law_keeps_out (ad : Option Addr) (cap N : Nat) (x : It) (w : World) (h : 4096 < N ∨ N ≤ 4096 ∧ ¬ x.s.size ≤ 4096) :
    Calls Try.prog 8 #[.slice ad N cap, .agg x.cells] w fun e w' => e = .returned (.bool true) ∧ Below w.heap.size w w' := by
  have HK0 := Lib.hid (Kept.start w x)
  rcases h with h | ⟨h1, h⟩
  · obtain ⟨k, u, n, s, v⟩ := x
    unfold It.cells
    dsimp only
    go_enter Try.func8, Try.ntmps8
    go_wp2_with fail
    refine (lives_any _).mono ?_
    rintro e w1 ⟨rfl, hb⟩
    have HK1 := Lib.hid (HK0.out.below hb)
    clear hb
    go_wp2
    go_ret
    exact ⟨rfl, HK1.out.b⟩
  · have HSM := Lib.hid (fun W g hg => small1_no W x 29 g hg h)
    have HITM : Hid (∀ W, Kept w x W → ItAt W w.heap.size 0 x) := Lib.hid fun W h => h.i
    clear h
    obtain ⟨k, u, n, s, v⟩ := x
    unfold It.cells at HSM ⊢
    dsimp only at HSM ⊢
    go_enter Try.func8, Try.ntmps8
    go_wp2_with fail
    refine (lives_any _).mono ?_
    rintro e w1 ⟨rfl, hb⟩
    have HK1 := Lib.hid (HK0.out.below hb)
    clear hb
    obtain ⟨c0, c1, c2, c3, c4⟩ := HITM.out _ HK1.out
    simp only [Nat.zero_add] at c1 c2 c3 c4
    have hz := HK1.out.s
    go_wp2_with fail
    refine (HSM.out _ _ rfl).mono ?_
    rintro e w' ⟨rfl, rfl⟩
    go_wp2
    go_ret
    exact ⟨rfl, (HK1.out.below ((Below.refl _ _).alloc (Nat.le_refl _) _)).b⟩

theorem law_keeps_all (ad : Option Addr) (cap : Nat) (xs : List UInt8) (x : It) (w : World) (hl : Lie w ad xs) (ha : ad = none → cap = 0) (hx : x.Ok) :
    Calls Try.prog 8 #[.slice ad xs.length cap, .agg x.cells] w fun e w' => e = .returned (.bool true) ∧ Below w.heap.size w w' := by
  by_cases h : 4096 < xs.length ∨ xs.length ≤ 4096 ∧ ¬ x.s.size ≤ 4096
  · exact law_keeps_out ad cap _ x w h
  · have h1 : xs.length ≤ 4096 := Nat.le_of_not_lt fun h' => h (.inl h')
    have h2 : x.s.size ≤ 4096 := Classical.not_not.1 fun h' => h (.inr ⟨h1, h'⟩)
    exact law_keeps ad cap xs x w hl ha hx h1 h2
end Go.Proofs.Ytckbgefeamkjnaa
