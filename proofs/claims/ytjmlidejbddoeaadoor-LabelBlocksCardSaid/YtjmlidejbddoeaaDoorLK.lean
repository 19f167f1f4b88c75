/-
  The specification's Divide and Bytes.
  The document's own PutUint.
  The document's own functions that write.
-/
import Derived.Test.YtjmlidejbddoeaaDoorLH
import Derived.Test.YtjmlidejbddoeaaDoorLF
import Derived.Deep.LoopGhost
import Derived.Test.YtjmlidejbddoeaaDoorLD
namespace Go.Proofs.YtjmlidejbddoeaaDoor
open Go.RowKit
set_option linter.unusedVariables false
/-- copy of bytes of which there may be more than there is room -/
theorem wpList_copy_cut {w : World} {ops : Array Oper} {rest : List Oper} {o : Oper} {a : Act} {Q : Exit → Act → World → Prop} (hgd : o.guard = none) (d s : Operand)
    (ho : o.op = .call { callee := .builtin .copy, args := #[d, s], argTypes := #[36, 36] })
    (g dLen dCap : Nat) (hd : a.eval d = .slice (some ⟨g, 0, none⟩) dLen dCap) (ad : Option Addr) (sLen sCap : Nat) (hs : a.eval s = .slice ad sLen sCap) (xs : List UInt8) (hsl : sLen = xs.length) (hl : Lie w ad xs)
    (R : List UInt8) (hR : Rowu w g R) (hdl : dLen = R.length) (w0 : World) (hb : Below w0.heap.size w0 w) (hBg : w0.heap.size ≤ g)
    (h : ∀ w', Rowu w' g (xs.take R.length ++ R.drop xs.length) → Below w0.heap.size w0 w' → wpList Tryd.prog ops Q rest (a.put o.dst (goInt ((min xs.length R.length : Nat) : Int))) w') : wpList Tryd.prog ops Q (o :: rest) a w := by
  subst hsl hdl
  obtain ⟨i, hi, hz0, hz1, hz2⟩ := info_u
  have h1 : (cellsU (xs.take R.length)).length = min xs.length R.length := by rw [cellsU_length, List.length_take, Nat.min_comm]
  refine wpList_copy_splice hgd d s 36 36 ho 5 Tryd.underlying36 (by rw [hi]; simp [hz1]) _ _ _ _ _ _ hd hs g 0 (cellsU R) 5 hR (cellsU (xs.take R.length))
    h1 (fun hp => ⟨rfl, ?_⟩) (by rw [h1, cellsU_length]; omega) (cellsU_one _) w0.heap.size w0 hb hBg (fun w' h2 h3 => ?_)
  · rcases hl.at_ with rfl | ⟨b, off, rfl, _, hc⟩
    · simp [cellsU] at hp
    · refine ⟨_, rfl, fun j v hj => ?_⟩
      have hjx : j < (xs.take R.length).length := by
        have := (List.getElem?_eq_some_iff.1 hj).1
        rwa [cellsU_length] at this
      rw [cellsU_get _ j hjx] at hj
      rw [Go.WideShapes.add_plain, hc j (by rw [List.length_take] at hjx; omega), ← hj, List.getElem_take]
  · rw [h1]
    refine h w' ?_ h3
    have := h2.out
    unfold Rowu Blkc
    rw [this]
    have e : (cellsU R).drop ((cellsU (xs.take R.length)).length) = cellsU (R.drop xs.length) := by
      rw [h1, cellsU, ← List.map_drop]
      by_cases hlt : xs.length ≤ R.length
      · rw [Nat.min_eq_left hlt]; rfl
      · rw [Nat.min_eq_right (by omega), List.drop_eq_nil_of_le (Nat.le_refl _), List.drop_eq_nil_of_le (by omega)]; rfl
    simp only [splice, List.take_zero, List.nil_append, Nat.zero_add]
    rw [e, cellsU_append]
/-- an empty list of the call's own, in the newest cells -/
theorem Kq.made0 (w : World) (B C g : Nat) (hg : g = w.heap.size) (hB : B ≤ g) : Kq (w.alloc (.cells #[] 39)) B C (.slice (some ⟨g, 0, none⟩) 0 0) [] := by
  subst hg
  exact ⟨[], rfl, ⟨rfl, .inr ⟨w.heap.size, 0, #[], rfl, hB, heap_alloc_new w _, Nat.le_refl _, by unfold maxLen; omega, rfl, rfl⟩⟩, fun k h => by simp at h⟩
theorem LieX.row {w : World} {g : Nat} {R : List UInt8} (h : Rowu w g R) {C : Nat} (hC : C ≤ g) {y : Option Nat} (hy : y ≠ some g) : LieX w C y (some ⟨g, 0, none⟩) R :=
  .inr ⟨g, 0, rfl, hC, h.blk.lt, fun e => hy e.symm, fun j hj => by rw [Nat.zero_add]; exact h.cell j hj⟩
theorem Lie.from_ {w : World} {b off : Nat} {xs : List UInt8} (h : Lie w (some ⟨b, off, none⟩) xs) (q : Nat) : Lie w (some ⟨b, off + q, none⟩) (xs.drop q) := by
  have := h.part q xs.length
  rwa [List.take_of_length_le (by simp)] at this
theorem blkAt_eq {xs : List UInt8} {I k : Nat} (h : I = 64 * k) : blkAt xs k = ⟨false, false, pad (xs.drop I)⟩ := by subst h; rfl
set_option maxRecDepth 100000 in
set_option maxHeartbeats 2000000 in
theorem rdivide_any (ad : Option Addr) (n cap : Nat) (xs : List UInt8) (w : World) (hl : Lie w ad xs) (hn : n = xs.length) (hc : n ≤ cap) (hcm : cap ≤ maxLen) (had : ad = none → cap = 0) (hs : n ≤ 1000000) :
    Calls Tryd.prog 28 #[.slice ad n cap] w (GivesK w (divB xs)) := by
  have HL := Lib.hid hl
  have HN := Lib.hid hn
  have HA := Lib.hid had
  have HCM := Lib.hid hcm
  unfold maxLen at hcm
  clear hl hn had
  go_enter Tryd.func28, Tryd.ntmps28
  go_wp2
  go_loopg [3, 4] (cntB n) (fun gk v3 vk wx => ∃ k I : Nat, vk = .int .i64 I ∧ Hid (I = 64 * k) ∧ I ≤ 1000064 ∧ k + gk = cntB n ∧ Hid (Kq wx w.heap.size w.heap.size v3 ((List.range k).map (blkAt xs))) ∧ Hid (Below w.heap.size w wx))
  case atStart => exact ⟨0, 0, rfl, Lib.hid rfl, by omega, by omega, Lib.hid (Kq.made0 _ _ _ _ rfl (Nat.le_refl _)), Lib.hid ((Below.refl _ _).alloc (Nat.le_refl _) _)⟩
  case round =>
    obtain ⟨k, I, rfl, hI, hIm, hk, hK, hB⟩ := hrel
    have HK := Lib.hid hk
    clear hk
    cases gk with
    | zero =>
      have hIn : ¬ I < n := by have := hI.out; have := HK.out; unfold cntB at this; omega
      have HT := Lib.hid (show divB xs = (List.range k).map (blkAt xs) by unfold divB; rw [← HN.out]; have := HK.out; rw [show k = cntB n by omega])
      go_wp2
      go_ret
      exact ⟨_, rfl, by rw [HT.out]; exact hK.out, hB.out⟩
    | succ gk0 =>
      have hIn : I < n := by have := hI.out; have := HK.out; unfold cntB at this; omega
      obtain ⟨b, off, rfl⟩ : ∃ b off, ad = some ⟨b, off, none⟩ := by
        rcases HL.out.at_ with h0 | ⟨b, off, e, _⟩
        · have := HN.out; rw [h0] at this; simp at this; omega
        · exact ⟨b, off, e⟩
      have HD := Lib.hid (HL.out.from_ I)
      have HBA := Lib.hid (show pad (xs.drop I) = (xs.drop I).take 64 ++ (List.replicate 64 0).drop (xs.drop I).length by unfold pad; rw [List.drop_replicate])
      have HNX := Lib.hid (divB_snoc xs k)
      have HSL := Lib.hid (show n - I = (xs.drop I).length by rw [List.length_drop]; have := HN.out; omega)
      have hcI : cap - I ≠ 0 := by omega
      have hkb : k ≤ 20000 := by have := hI.out; omega
      go_wp2_with (first
        | (at_make; refine wpList_make_row rfl (.const (.int .i64 64)) (.const (.int .i64 64)) rfl 64 64 64 rfl rfl rfl rfl (by omega) ?_; intro g w1 hrow1 hg1 hb1; have HR1 := Lib.hid hrow1; have HG1 := Lib.hid hg1; have HB1 := Lib.hid hb1; have HL1 := Lib.hid ((HD.out.below hB.out rfl).below hb1 rfl); clear hrow1 hg1 hb1)
        | ((with_reducible refine wpList_copy_cut rfl (.tmp 14) (.tmp 17) rfl g _ _ rfl _ _ _ rfl (xs.drop I) HSL.out HL1.out _ HR1.out (by rw [List.length_replicate]) wr HB1.out HG1.out ?_); intro w2 hrow2 hb2; rw [List.length_replicate, ← HBA.out] at hrow2; have HR2 := Lib.hid hrow2; have HB2 := Lib.hid hb2; clear hrow2 hb2; have HK2 := Lib.hid (hK.out.below HB2.out); have HX2 := Lib.hid (Kx.one (w := w2) false false (some ⟨g, 0, none⟩) (pad (xs.drop I)) 64 (LieX.row (C := w.heap.size) (y := u3.ownBlock) HR2.out (Nat.le_trans hB.out.size HG1.out) (fun e => by have := (hK.out.lt g e).2; have := HG1.out; omega)) (by rw [pad_length]; omega) (by unfold maxLen; omega) (fun h => by cases h) _ rfl); rw [pad_length] at HX2; have HB3 := Lib.hid ((Below.refl _ w2).alloc (Nat.le_refl _) (.cells #[.bool false, .bool false, .slice (some ⟨g, 0, none⟩) 64 64] 39)); have HK3 := Lib.hid (HK2.out.below HB3.out); have HB4 := Lib.hid ((hB.out.trans (HB2.out.mono hB.out.size)).trans (HB3.out.mono (hB.out.trans (HB2.out.mono hB.out.size)).size)))
        | (at_builtin; refine wpList_append_k rfl (.tmp 19) (.tmp 22) rfl w.heap.size w.heap.size w.heap.size w.heap.size _ _ rfl HK3.out _ 1 1 [⟨false, false, pad (xs.drop I)⟩] (fun h => by cases h) HX2.out rfl rfl (by simp; omega) HB4.out.size (Nat.le_refl _) (Nat.le_refl _) ?_; intro v5 w5 ho5 hg5 _; have HK5 := Lib.hid ho5; have HB5 := Lib.hid (HK3.out.grow HB4.out (Nat.le_refl _) hg5); clear ho5 hg5))
      go_roundg gk0
      case rel => exact ⟨k + 1, I + 64, by go_num, Lib.hid (by have := hI.out; omega), by omega, by have := HK.out; omega, Lib.hid (by rw [HNX.out, blkAt_eq hI.out]; exact HK5.out), HB5⟩
      case measure => omega
set_option maxRecDepth 100000 in
set_option maxHeartbeats 2000000 in
theorem rbytes_any (ad : Option Addr) (n cap : Nat) (l : List Blk) (w : World) (hl : Ki w ad l) (hn : n = l.length) (hs : n ≤ 5000) (hd : ∀ b ∈ l, b.d.length ≤ 1000) :
    Calls Tryd.prog 20 #[.slice ad n cap] w (Gives w (bytB l)) := by
  have HL := Lib.hid hl
  have HN := Lib.hid hn
  have HD := Lib.hid hd
  clear hl hn hd
  go_enter Tryd.func20, Tryd.ntmps20
  go_wp2
  go_loopg [3, 4] n (fun gk v3 vk wx => ∃ k : Nat, vk = .int .i64 k ∧ k + gk = n ∧ Hid (Own wx w.heap.size v3 (bytB (l.take k))) ∧ Hid (Below w.heap.size w wx) ∧ Hid (∀ j (h : j < l.length), j < k → (l[j].m || l[j].bad) = false))
  case atStart => exact ⟨0, rfl, by omega, Lib.hid (by rw [List.take_zero]; exact Own.made w), Lib.hid ((Below.refl _ _).alloc (Nat.le_refl _) _), Lib.hid fun j _ h => by omega⟩
  case round =>
    obtain ⟨k, rfl, hk, hO, hB, hall⟩ := hrel
    cases gk with
    | zero =>
      obtain rfl : k = n := by omega
      have HT := Lib.hid (bytB_stop l k (by have := HN.out; omega) (.inl HN.out) hall.out)
      go_wp2
      go_ret
      exact ⟨_, rfl, by rw [HT.out]; exact hO.out, hB.out⟩
    | succ gk0 =>
      have hkn : k < n := by omega
      have hkl : k < l.length := by have := HN.out; omega
      obtain ⟨b, off, ad', cap', rfl, hlt, q0, q1, q2, hq, hq2, hq3, hq4⟩ := (HL.out.below hB.out).get hkl
      have HST := Lib.hid (fun (h : (l[k].m || l[k].bad) = true) => bytB_stop l k (Nat.le_of_lt hkl) (.inr ⟨hkl, h⟩) hall.out)
      have HGO := Lib.hid (fun (h : (l[k].m || l[k].bad) = false) => bytB_take l k hkl (fun j hj hjk => by
        rcases Nat.lt_or_ge j k with h3 | h3
        · exact hall.out j hj h3
        · obtain rfl : j = k := by omega
          exact h))
      have HAL : Hid ((l[k].m || l[k].bad) = false → ∀ j (h : j < l.length), j < k + 1 → (l[j].m || l[j].bad) = false) := Lib.hid (fun h j hj hjk => by
        rcases Nat.lt_or_ge j k with h3 | h3
        · exact hall.out j hj h3
        · obtain rfl : j = k := by omega
          exact h)
      have hlen : (bytB (l.take k)).length ≤ k * 1000 := bytB_le _ _ _ (by rw [List.length_take]; omega) (fun b hb => HD.out b (List.mem_of_mem_take hb))
      have hdl : l[k].d.length ≤ 1000 := HD.out _ (List.getElem_mem hkl)
      have hsum : (bytB (l.take k)).length + l[k].d.length ≤ 10000000 := by omega
      have HLI := Lib.hid hq
      have HQ := Lib.hid hq4
      clear hq hq2 hq3 hq4 hlen hdl
      generalize l[k].m = xm at *
      generalize l[k].bad = xb at *
      generalize l[k].d = xd at *
      cases xm
      · cases xb
        · have hsz := hB.out.size
          go_wp2_with (at_builtin; refine wpList_append_u rfl (.tmp 28) (.tmp 33) rfl w.heap.size _ _ rfl hO.out _ _ _ xd HQ.out HLI.out rfl rfl hsum hsz ?_; intro v1 w1 ho1 hg1; have HO1 := Lib.hid ho1; have HB1 := Lib.hid (hB.out.grown hg1 hsz (fun k hk => (hO.out.lt k hk).1)); clear ho1 hg1)
          go_roundg gk0
          case rel => exact ⟨k + 1, by go_num, by omega, Lib.hid (by rw [HGO.out rfl]; exact HO1.out), HB1, Lib.hid (HAL.out rfl)⟩
          case measure => omega
        · have HT := Lib.hid (HST.out rfl)
          go_wp2
          go_ret
          exact ⟨_, rfl, by rw [HT.out]; exact hO.out, hB.out⟩
      · have HT := Lib.hid (HST.out rfl)
        go_wp2
        go_ret
        exact ⟨_, rfl, by rw [HT.out]; exact hO.out, hB.out⟩
end Go.Proofs.YtjmlidejbddoeaaDoor
namespace Go.Proofs.YtjmlidejbddoeaaDoor
open Go.RowKit

set_option maxRecDepth 100000 in
set_option maxHeartbeats 600000 in
theorem rpuint_any (ad : Option Addr) (cap : Nat) (xs : List UInt8) (n : Nat) (w : World) (hl : Lie w ad xs) (hac : ad = none → cap = 0) (hs : xs.length ≤ 1000000) (hn : n < 18446744073709551616) :
    Calls Tryd.prog 47 #[.slice ad xs.length cap, .int .u64 n] w (Gives w (xs ++ enc n)) := by
  have hown0 := Own.made w
  have hl0 : Lie (w.alloc (.cells #[] 5)) ad xs := hl.below ((Below.refl _ _).alloc (Nat.le_refl _) _) rfl
  have HA := Lib.hid hac
  clear hl hac
  go_enter Tryd.func47, Tryd.ntmps47
  go_wp2_with (at_builtin; refine wpList_append_u rfl (.tmp 6) (.tmp 7) rfl w.heap.size _ [] rfl hown0 ad _ cap xs HA.out hl0 rfl rfl (by simp; omega) (by simp) ?_; intro v1 w1 hown1 hgrow1)
  have hb1 : Below w.heap.size w w1 := below_new hgrow1 (fun k hk => (hown0.lt k hk).1)
  have HO1 := Lib.hid hown1
  have HB1 := Lib.hid hb1
  clear hown0 hl0 hown1 hgrow1 hb1
  go_loopw [1, 5] (fun vm v wr => ∃ (m : Nat) (l : List UInt8), vm = .int .u64 m ∧ m < 18446744073709551616 ∧ enc n = l ++ enc m ∧ Own wr w.heap.size v (xs ++ l) ∧ Below w.heap.size w wr) (fun vm _ _ => (intOf vm).toNat)
  case atStart => exact ⟨n, [], rfl, hn, rfl, by simpa using HO1.out, HB1.out⟩
  case round =>
    obtain ⟨m, l, rfl, hm, he, hown, hb⟩ := hrel
    have hel := enc_len n hn
    rw [he, List.length_append] at hel
    have hlen : (xs ++ l).length + 1 ≤ 10000000 := by rw [List.length_append]; omega
    have hsz := hb.size
    have HE := Lib.hid he
    clear he
    by_cases hlt : m < 128
    · have H1 := Lib.hid (Lie.one wr m (UInt8.ofNat m) (by rw [toNat8 m (by omega)]))
      have HO := Lib.hid (hown.below ((Below.refl _ _).alloc (Nat.le_refl _) (.cells #[.int .u8 (m : Int)] 5)))
      have HB := Lib.hid hb
      have HS := Lib.hid hsz
      clear hb hown
      go_wp2_with (at_builtin; refine wpList_append_u rfl (.tmp 20) (.tmp 23) rfl w.heap.size _ _ rfl HO.out _ 1 1 [UInt8.ofNat m] (fun h => by cases h) H1.out rfl rfl hlen (by simp; omega) ?_; intro v1 w1 hown1 hgrow1)
      go_ret
      refine ⟨v1, rfl, ?_, (HB.out.alloc HS.out _).grown hgrow1 (by simp; omega) (fun k hk => (HO.out.lt k hk).1)⟩
      rw [HE.out, enc_small m hlt, ← List.append_assoc]
      exact hown1
    · have hr : UInt8.toNat (UInt8.ofNat (m % 128 + 128)) = m % 128 + 128 := toNat8 _ (by omega)
      have H1 := Lib.hid (Lie.one wr ((m : Int) % 128 + 128) (UInt8.ofNat (m % 128 + 128)) (by rw [hr]; omega))
      have HO := Lib.hid (hown.below ((Below.refl _ _).alloc (Nat.le_refl _) (.cells #[.int .u8 ((m : Int) % 128 + 128)] 5)))
      have HB := Lib.hid hb
      have HS := Lib.hid hsz
      clear hb hown hr
      go_wp2_with (at_builtin; refine wpList_append_u rfl (.tmp 11) (.tmp 16) rfl w.heap.size _ _ rfl HO.out _ 1 1 [UInt8.ofNat (m % 128 + 128)] (fun h => by cases h) H1.out rfl rfl hlen (by simp; omega) ?_; intro v1 w1 hown1 hgrow1)
      refine ⟨⟨m / 128, l ++ [UInt8.ofNat (m % 128 + 128)], by simp, by omega, ?_, by rw [← List.append_assoc]; exact hown1, (HB.out.alloc HS.out _).grown hgrow1 (by simp; omega) (fun k hk => (HO.out.lt k hk).1)⟩, by simp [intOf]; omega⟩
      rw [HE.out, enc_big m hlt, List.append_assoc]
      rfl

end Go.Proofs.YtjmlidejbddoeaaDoor
namespace Go.Proofs.YtjmlidejbddoeaaDoor
open Go.RowKit

set_option maxRecDepth 100000 in
set_option maxHeartbeats 600000 in
theorem rpint_any (ad : Option Addr) (cap : Nat) (xs : List UInt8) (n : Int) (w : World) (hl : Lie w ad xs) (hac : ad = none → cap = 0) (hs : xs.length ≤ 1000000) (h0 : -9223372036854775808 ≤ n) (h1 : n ≤ 9223372036854775807) :
    Calls Tryd.prog 26 #[.slice ad xs.length cap, .int .i64 n] w (Gives w (xs ++ enc (cod n))) := by
  have HA := Lib.hid hac
  have hcl := cod_lt n h0 h1
  clear hac
  go_enter Tryd.func26, Tryd.ntmps26
  go_wp2_with fail
  refine (rcode_any n _ h0 h1).mono ?_
  rintro e w' ⟨rfl, rfl⟩
  go_wp2_with fail
  refine (rpuint_any ad cap xs _ _ hl HA.out hs hcl).mono ?_
  rintro e w2 ⟨v, rfl, hown, hb⟩
  have HO := Lib.hid hown
  have HB2 := Lib.hid hb
  clear hown hb
  go_wp2
  go_ret
  exact ⟨v, rfl, HO.out, HB2.out⟩

set_option maxRecDepth 100000 in
set_option maxHeartbeats 600000 in
theorem rptext_any (ad : Option Addr) (cap : Nat) (xs : List UInt8) (s : ByteArray) (w : World) (hl : Lie w ad xs) (hac : ad = none → cap = 0) (hs : xs.length ≤ 1000000) (hss : s.size ≤ 100000) :
    Calls Tryd.prog 25 #[.slice ad xs.length cap, .string s] w (Gives w (xs ++ encT s)) := by
  have HA := Lib.hid hac
  have hel := enc_len s.size (by omega)
  have hlen : (xs ++ enc s.size).length + s.size ≤ 10000000 := by rw [List.length_append]; omega
  clear hac
  go_enter Tryd.func25, Tryd.ntmps25
  go_wp2_with fail
  refine (rpuint_any ad cap xs _ _ hl HA.out hs (by omega)).mono ?_
  rintro e w1 ⟨v, rfl, hown, hb⟩
  have HO := Lib.hid hown
  have HB := Lib.hid hb
  clear hown hb
  go_wp2_with (at_builtin; refine wpList_append_s rfl (.tmp 9) (.tmp 10) rfl w.heap.size _ _ rfl HO.out s rfl hlen HB.out.size ?_; intro v2 w2 hown2 hgrow2)
  go_ret
  refine ⟨_, rfl, ?_, HB.out.grown hgrow2 HB.out.size (fun k hk => (HO.out.lt k hk).1)⟩
  unfold encT
  rw [← List.append_assoc]
  exact hown2

end Go.Proofs.YtjmlidejbddoeaaDoor
