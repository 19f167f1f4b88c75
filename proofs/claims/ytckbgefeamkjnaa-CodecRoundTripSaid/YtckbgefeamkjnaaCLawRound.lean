/-
  The walk of the statement CodecRoundTrip: what was appended one after another is read one after another.
-/
import Derived.Test.YtckbgefeamkjnaaCItemRead
namespace Go.Proofs.Ytckbgefeamkjnaa
open Go.RowKit

/-- The bytes of items, one behind another. -/
def encL (l : List It) : List UInt8 := (l.map It.enc).flatten
theorem encL_succ (l : List It) (k : Nat) (h : k < l.length) : encL (l.take (k + 1)) = encL (l.take k) ++ (l[k]).enc := by
  unfold encL
  rw [List.take_succ_eq_append_getElem h, List.map_append, List.flatten_append]
  simp
theorem encL_part (l : List It) (k : Nat) (h : k < l.length) : encL l = encL (l.take k) ++ ((l[k]).enc ++ encL (l.drop (k + 1))) := by
  have e : l = l.take k ++ (l[k] :: l.drop (k + 1)) := by rw [← List.drop_eq_getElem_cons h, List.take_append_drop]
  have e2 := congrArg encL e
  rw [e2]
  unfold encL
  rw [List.map_append, List.flatten_append, List.map_cons, List.flatten_cons]
theorem enc_item_pos (x : It) : 0 < x.enc.length := by
  unfold It.enc
  split
  · exact enc_pos _
  split
  · exact enc_pos _
  split
  · rw [encT, List.length_append]; have := enc_pos x.s.size; omega
  · simp [encB]
theorem encL_len (l : List It) (hf : Few l) (hok : ∀ x ∈ l, x.Ok) (k : Nat) (hk : k ≤ l.length) : (encL (l.take k)).length ≤ k * 5000 := by
  induction k with
  | zero => simp [encL]
  | succ k ih =>
    have h1 := ih (by omega)
    have h2 := encI_len _ (hok _ (List.getElem_mem (show k < l.length by omega))) (hf.2 k (by omega))
    rw [encL_succ l k (by omega), List.length_append]
    omega

set_option maxRecDepth 100000 in
set_option maxHeartbeats 800000 in
theorem law_round_out (ad ld rd : Option Addr) (cap lc rc N M : Nat) (l : List It) (w : World) (hli : Lies w ld l) (h : 4096 < N ∨ N ≤ 4096 ∧ 4096 < M ∨ N ≤ 4096 ∧ M ≤ 4096 ∧ ¬ Few l) :
    Calls Try.prog 5 #[.slice ad N cap, .slice ld l.length lc, .slice rd M rc] w fun e w' => e = .returned (.bool true) ∧ Below w.heap.size w w' := by
  rcases h with h | ⟨h1, h⟩ | ⟨h1, h2, h⟩
  · clear hli
    go_enter Try.func5, Try.ntmps5
    go_wp2_with fail
    refine (lives_any _).mono ?_
    rintro e w1 ⟨rfl, hb⟩
    have HB := Lib.hid hb
    clear hb
    go_wp2
    go_ret
    exact ⟨rfl, HB.out⟩
  · clear hli
    go_enter Try.func5, Try.ntmps5
    go_wp2_with fail
    refine (lives_any _).mono ?_
    rintro e w1 ⟨rfl, hb⟩
    have HB := Lib.hid hb
    clear hb
    go_wp2
    go_ret
    exact ⟨rfl, HB.out⟩
  · have HI := Lib.hid hli
    have HF := Lib.hid h
    clear hli h
    go_enter Try.func5, Try.ntmps5
    go_wp2_with fail
    refine (lives_any _).mono ?_
    rintro e w1 ⟨rfl, hb⟩
    have HI1 := Lib.hid (HI.out.below hb rfl)
    have HB := Lib.hid hb
    clear hb
    go_wp2_with fail
    refine (small_no ld lc l _ HI1.out HF.out).mono ?_
    rintro e w' ⟨rfl, rfl⟩
    go_wp2
    go_ret
    exact ⟨rfl, HB.out⟩

set_option maxRecDepth 100000 in
set_option maxHeartbeats 800000 in
theorem law_round (ad ld rd : Option Addr) (cap lc rc : Nat) (xs rs : List UInt8) (l : List It) (w : World) (hl : Lie w ad xs) (ha : ad = none → cap = 0) (hli : Lies w ld l) (hlr : Lie w rd rs) (hr : rd = none → rc = 0) (hok : ∀ x ∈ l, x.Ok) (h1 : xs.length ≤ 4096) (h2 : rs.length ≤ 4096) (hf : Few l) :
    Calls Try.prog 5 #[.slice ad xs.length cap, .slice ld l.length lc, .slice rd rs.length rc] w fun e w' => e = .returned (.bool true) ∧ Below w.heap.size w w' := by
  have HLEN := Lib.hid (encL_len l hf hok)
  have HL := Lib.hid hl
  have HI := Lib.hid hli
  have HR := Lib.hid hlr
  have HA := Lib.hid ha
  have HRA := Lib.hid hr
  have HK := Lib.hid hok
  have h100 := hf.1
  have HF := Lib.hid hf
  clear hl hli hlr ha hr hok hf
  go_enter Try.func5, Try.ntmps5
  go_wp2_with fail
  refine (lives_any _).mono ?_
  rintro e w1 ⟨rfl, hb⟩
  have HI1 := Lib.hid (HI.out.below hb rfl)
  have HL1 := Lib.hid (HL.out.below hb rfl)
  have HB := Lib.hid hb
  clear hb
  go_wp2_with fail
  refine (small_yes ld lc l _ HI1.out HF.out).mono ?_
  rintro e w' ⟨rfl, rfl⟩
  have hown0 := Own.made w1
  have hl0 : Lie (w1.alloc (.cells #[] 5)) ad xs := HL1.out.below ((Below.refl _ _).alloc (Nat.le_refl _) _) rfl
  go_wp2_with (at_builtin; refine wpList_append_u rfl (.tmp 29) (.tmp 30) rfl w1.heap.size _ [] rfl hown0 ad _ cap xs HA.out hl0 rfl rfl (by simp; omega) (by simp) ?_; intro v2 w2 hown2 hgrow2)
  have hb2 : Below w1.heap.size w1 w2 := below_own hgrow2 (fun k hk => (hown0.lt k hk).1)
  have HO2 := Lib.hid (hown2.mono HB.out.size)
  have HB2 := Lib.hid (HB.out.trans (hb2.mono HB.out.size))
  clear hown0 hl0 hown2 hgrow2 hb2
  go_loopw [7, 8] (fun v i wr => ∃ k : Nat, k ≤ l.length ∧ i = .int .i64 k ∧ Own wr w.heap.size v (xs ++ encL (l.take k)) ∧ Below w.heap.size w wr) (fun _ i _ => (l.length - (intOf i).toNat))
  case atStart => exact ⟨0, by omega, rfl, by simpa [encL] using HO2.out, HB2.out⟩
  case round =>
    obtain ⟨k, hk, rfl, hown, hb⟩ := hrel
    have hle := HLEN.out k hk
    obtain ⟨ys, hys⟩ : ∃ ys, ys = xs ++ encL (l.take k) := ⟨_, rfl⟩
    have hyl : ys.length = xs.length + (encL (l.take k)).length := by rw [hys, List.length_append]
    have hy6 : ys.length ≤ 600000 := by omega
    rw [← hys] at hown
    obtain ⟨nd, nc, rfl, hlv, hnv, _, hnn⟩ := hown.slice
    have HR2 := Lib.hid hb
    have HO := Lib.hid hown
    have HLV := Lib.hid hlv
    have HNN := Lib.hid hnn
    have HYL := Lib.hid hyl
    clear hown hlv hnn hyl hle
    by_cases hlt : k < l.length
    · have hir := HI.out.below hb rfl
      rcases hir.at_ with h0 | ⟨b, off, rfl, _, hit⟩
      · rw [h0] at hlt; simp at hlt
      have hx := HK.out _ (List.getElem_mem hlt)
      have hsz := HF.out.2 k hlt
      obtain ⟨c0, c1, c2, c3, c4⟩ := hit k hlt
      have HES := Lib.hid (encL_succ l k hlt)
      have HYS := Lib.hid hys
      clear hit hir hb hys
      go_wp2_with fail
      refine (put_any nd nc ys l[k] _ HLV.out HNN.out (by omega) hx (by omega)).mono ?_
      rintro e w3 ⟨v3, rfl, ho3, hb3⟩
      have HO3 := Lib.hid (ho3.mono HR2.out.size)
      have HB3 := Lib.hid (HR2.out.trans (hb3.mono HR2.out.size))
      clear ho3 hb3
      go_wp2
      refine ⟨⟨k + 1, by omega, by go_num, ?_, HB3.out⟩, by simp [intOf]; omega⟩
      rw [HES.out, ← List.append_assoc, ← HYS.out]
      exact HO3.out
    · obtain rfl : k = l.length := by omega
      have hyr : ys = xs ++ encL l := by rw [hys, List.take_length]
      have HYS := Lib.hid hyr
      have hmade := Own.made wr
      have hlm : Lie (wr.alloc (.cells #[] 5)) nd ys := HLV.out.below ((Below.refl _ _).alloc (Nat.le_refl _) _) rfl
      clear hb hys hyr
      go_wp2_with (first
        | (at_builtin; refine wpList_append_u rfl (.tmp 46) (.tmp 47) rfl wr.heap.size _ [] rfl hmade nd _ nc ys HNN.out hlm rfl rfl (by simp; omega) (by simp) ?_; intro v3 w3 hown3 hgrow3)
        | (at_builtin; refine wpList_append_u rfl (.tmp 48) (.tmp 49) rfl wr.heap.size _ _ rfl hown3 rd _ rc rs HRA.out (HR.out.below (HR2.out.trans ((below_own hgrow3 (fun k hk => (hmade.lt k hk).1)).mono HR2.out.size)) rfl) rfl rfl (by simp; omega) (below_own hgrow3 (fun k hk => (hmade.lt k hk).1)).size ?_; intro v4 w4 hown4 hgrow4))
      rw [List.nil_append] at hown3 hown4
      obtain ⟨zs, hzs⟩ : ∃ zs, zs = ys ++ rs := ⟨_, rfl⟩
      rw [← hzs] at hown4
      have hb3 : Below w.heap.size w w3 := HR2.out.trans ((below_own hgrow3 (fun k hk => (hmade.lt k hk).1)).mono HR2.out.size)
      have hb4 : Below w.heap.size w w4 := hb3.grown hgrow4 hb3.size (fun k hk => Nat.le_trans HR2.out.size (hown3.lt k hk).1)
      obtain ⟨zd, zc, rfl, hlz, hnz, _, hzn⟩ := hown4.slice
      have hzl : zs.length ≤ 700000 := by rw [hzs, List.length_append]; omega
      have HZ := Lib.hid hlz
      have HZN := Lib.hid hzn
      have HZS := Lib.hid hzs
      have HNZ := Lib.hid hnz
      have HB4 := Lib.hid hb4
      clear hown3 hown4 hgrow3 hgrow4 hb3 hb4 hlz hzn hzs hmade hlm hnz
      go_wp2
      go_loopw [10, 11] (fun a i wr2 => ∃ k A : Nat, k ≤ l.length ∧ i = .int .i64 k ∧ a = .int .i64 A ∧ Hid (A = xs.length + (encL (l.take k)).length) ∧ Below w4.heap.size w4 wr2) (fun _ i _ => (l.length - (intOf i).toNat))
      case atStart => exact ⟨0, xs.length, by omega, rfl, rfl, Lib.hid (by simp [encL]), .refl _ _⟩
      case round =>
        obtain ⟨k, A, hk, rfl, rfl, hA, hb⟩ := hrel
        have hle := HLEN.out k hk
        have hA6 : A ≤ 600000 := by have := hA.out; omega
        have HX := Lib.hid hb
        by_cases hlt : k < l.length
        · have hir := HI.out.below (HB4.out.trans (hb.mono HB4.out.size)) rfl
          rcases hir.at_ with h0 | ⟨b, off, rfl, _, hit⟩
          · rw [h0] at hlt; simp at hlt
          have hx := HK.out _ (List.getElem_mem hlt)
          have hsz := HF.out.2 k hlt
          obtain ⟨c0, c1, c2, c3, c4⟩ := hit k hlt
          have hep := encL_part l k hlt
          have hes := encL_succ l k hlt
          obtain ⟨m, hm⟩ : ∃ m, m = (l[k]).enc.length := ⟨_, rfl⟩
          have hm0 : 0 < m := by rw [hm]; exact enc_item_pos _
          have hm5 : m ≤ 5000 := by rw [hm]; exact encI_len _ hx hsz
          have hzf : zs = (xs ++ encL (l.take k)) ++ ((l[k]).enc ++ (encL (l.drop (k + 1)) ++ rs)) := by
            rw [HZS.out, HYS.out, hep]
            simp only [List.append_assoc]
          have hlz := HZ.out.below hb rfl
          rw [hzf] at hlz
          have hpa : A = (xs ++ encL (l.take k)).length := by rw [List.length_append]; exact hA.out
          have hread := read_any zd zc zs.length A m _ _ l[k] _ hx hsz hlz (by rw [← hzf]) hpa hm HNZ.out (by omega) HZN.out
          have HRD := Lib.hid hread
          have HN2 : Hid (A + m = xs.length + (encL (l.take (k + 1))).length) := Lib.hid (by rw [hes, List.length_append, hA.out, hm, Nat.add_assoc])
          have g1 : decide ((A : Int) + (m : Int) ≤ (A : Int)) = false := by simp; omega
          clear hir hit hb hep hes hm hzf hlz hpa hread hx hsz hle
          go_wp2_with fail
          refine (HRD.out).mono ?_
          rintro e w5 ⟨rfl, hb5⟩
          have HB5 := Lib.hid (HX.out.trans (hb5.mono HX.out.size))
          clear hb5
          go_wp2
          exact ⟨⟨k + 1, A + m, by omega, by go_num, by go_num, HN2, HB5.out⟩, by simp [intOf]; omega⟩
        · obtain rfl : k = l.length := by omega
          obtain rfl : A = ys.length := by have := hA.out; rw [List.take_length] at this; rw [HYS.out, List.length_append]; exact this
          clear hb hle
          go_wp2
          go_ret
          exact ⟨rfl, HB4.out.trans (HX.out.mono HB4.out.size)⟩

theorem law_round_all (ad ld rd : Option Addr) (cap lc rc : Nat) (xs rs : List UInt8) (l : List It) (w : World) (hl : Lie w ad xs) (ha : ad = none → cap = 0) (hli : Lies w ld l) (hlr : Lie w rd rs) (hr : rd = none → rc = 0) (hok : ∀ x ∈ l, x.Ok) :
    Calls Try.prog 5 #[.slice ad xs.length cap, .slice ld l.length lc, .slice rd rs.length rc] w fun e w' => e = .returned (.bool true) ∧ Below w.heap.size w w' := by
  by_cases h : 4096 < xs.length ∨ xs.length ≤ 4096 ∧ 4096 < rs.length ∨ xs.length ≤ 4096 ∧ rs.length ≤ 4096 ∧ ¬ Few l
  · exact law_round_out ad ld rd cap lc rc _ _ l w hli h
  · have h1 : xs.length ≤ 4096 := Nat.le_of_not_lt fun h' => h (.inl h')
    have h2 : rs.length ≤ 4096 := Nat.le_of_not_lt fun h' => h (.inr (.inl ⟨h1, h'⟩))
    have h3 : Few l := Classical.not_not.1 fun h' => h (.inr (.inr ⟨h1, h2, h'⟩))
    exact law_round ad ld rd cap lc rc xs rs l w hl ha hli hlr hr hok h1 h2 h3
end Go.Proofs.Ytckbgefeamkjnaa
