/-
  What Build makes is read by Extract where Need says: the mathematics.
  What the laws of container need beside the contracts.
  bytes.Equal.
  The program's sameData; slices.EqualFunc over blocks with it.
  What the program reads from bytes, and that it is the header that bytes give.
-/
import Derived.Test.YtjiijjdmkeeilaaDoorCAX
import Derived.Test.YtjiijjdmkeeilaaDoorCoExtM
import Derived.Test.YtjiijjdmkeeilaaDoorCAY
import Derived.Test.YtjiijjdmkeeilaaDoorCtSame
import Derived.Test.YtjiijjdmkeeilaaDoorCAA
import Derived.Deep.LoopGhost
import Derived.Test.YtjiijjdmkeeilaaDoorCAS
import Derived.Test.YtjiijjdmkeeilaaDoorCAT
import Derived.Test.YtjiijjdmkeeilaaDoorCAU
import Derived.IntWalk
namespace Go.Proofs.YtjiijjdmkeeilaaDoor
open Go.RowKit
set_option linter.unusedVariables false
/-- the blocks from number q on -/
theorem payB_part (v : Int) (p : List UInt8) (q k : Nat) (h : q + k ≤ (payB v p).length) : ((payB v p).drop q).take k = (List.range k).map fun j => pcB v (piece (szP v) p (q + j)) := by
  refine List.ext_getElem ?_ fun i h1 h2 => ?_
  · rw [List.length_take, List.length_drop, List.length_map, List.length_range]; omega
  · rw [List.getElem_take, List.getElem_drop]
    unfold payB
    simp
/-- where the span lies -/
theorem GoodN.within {h : Hdr} {p : List UInt8} {j o l F K : Int} {q : Nat} (g : GoodN (hdP h p) j o l F K q) : (q : Int) + K ≤ ((payB h.vr p).length : Int) := by
  obtain ⟨n1, n2, n3, n4, n5, n6, n7, n8⟩ := g.nums
  rw [payB_length]
  unfold cntU
  rcases prtU_cases (hdP h p).vr with ⟨_, e⟩ | ⟨_, e⟩ <;> (rw [e] at n7 ⊢; omega)
theorem needU_zero {h : Hdr} {j o F K : Int} (hn : needU h j o 0 = (F, K, 0)) : F = 0 ∧ K = 0 := by
  unfold needU at hn
  by_cases hv : vldH h = true
  rotate_left
  · rw [if_neg hv] at hn; cases hn
  rw [if_pos hv] at hn
  by_cases hj : j < 0
  · rw [if_pos hj] at hn; cases hn
  rw [if_neg hj] at hn
  cases hx : h.es[j.toNat]? with
  | none => rw [hx] at hn; cases hn
  | some x =>
    rw [hx] at hn
    dsimp only at hn
    by_cases hr : (0 ≤ o ∧ o ≤ x.n) ∧ (0 ≤ (0 : Int) ∧ 0 ≤ x.n) ∧ o + 0 ≤ x.n
    · rw [if_pos hr, if_pos rfl] at hn
      cases hn
      exact ⟨rfl, rfl⟩
    · rw [if_neg hr] at hn; cases hn
/-- Extract reads back -/
theorem extU_back {h : Hdr} {p : List UInt8} {j o l F K : Int} (hn : needU (hdP h p) j o l = (F, K, 0)) :
    extU (hdP h p) j o l (((hbL (hdP h p) ++ payB h.vr p).drop F.toNat).take K.toNat) = ((p.drop (staU h.es j.toNat + o).toNat).take l.toNat, 0) := by
  by_cases hl : l = 0
  · subst hl
    obtain ⟨rfl, rfl⟩ := needU_zero hn
    unfold extU
    rw [hn]
    simp
  obtain ⟨q, g⟩ := needU_good hn hl
  obtain ⟨n1, n2, n3, n4, n5, n6, n7, n8⟩ := g.nums
  have hw := g.within
  have hF := g.hf
  obtain ⟨k, rfl⟩ := Int.eq_ofNat_of_zero_le (show 0 ≤ K by omega)
  obtain ⟨L, rfl⟩ := Int.eq_ofNat_of_zero_le (show 0 ≤ l by have := g.l1; omega)
  have hFN : F.toNat = (hbL (hdP h p)).length + q := by omega
  have hbl : ((hbL (hdP h p) ++ payB h.vr p).drop F.toNat).take (k : Int).toNat = (List.range k).map fun j => pcB h.vr (piece (szP h.vr) p (q + j)) := by
    rw [hFN, Int.toNat_natCast, ← List.drop_drop, List.drop_left' rfl]
    exact payB_part _ _ _ _ (by omega)
  have hvr : h.vr = 1 ∨ h.vr = 2 := by have : 1 ≤ h.vr ∧ h.vr ≤ 2 := g.v.1.2.1; omega
  have hsz : (hdP h p).sz = (p.length : Int) := rfl
  have hvv : (hdP h p).vr = h.vr := rfl
  have hee : (hdP h p).es = h.es := rfl
  have hPs : (szP h.vr : Int) = prtU h.vr := by rcases szP_cases h.vr with ⟨_, e1, e2⟩ | ⟨_, e1, e2⟩ <;> (rw [e1, e2]; rfl)
  rw [hvv, ← hPs] at n5 n6 n7 n8
  rw [hsz] at n7
  rw [hee] at n5 n6 n8
  have hmul : ((szP h.vr * (q + k) : Nat) : Int) = (q : Int) * (szP h.vr : Int) + (k : Int) * (szP h.vr : Int) := by push_cast; rw [Int.mul_add, Int.mul_comm (szP h.vr : Int), Int.mul_comm (szP h.vr : Int)]
  have hc := chs_pieces hvr p k q (by omega)
  have hFq : F - ((hbL (hdP h p)).length : Int) = (q : Int) := by omega
  rw [hbl, extU_parts hn (B := (p.drop (szP h.vr * q)).take (szP h.vr * k)) (f := 0) (by rw [hFq, hsz, hvv]; exact hc), if_neg (by simp), if_neg (by simp), if_neg hl, if_neg (by simp), hFq, hvv, hee, ← hPs]
  have s0 := g.s0
  rw [hee] at s0
  have o0 := g.o0
  have hq1 : ((szP h.vr * q : Nat) : Int) = (q : Int) * (szP h.vr : Int) := by push_cast; rw [Int.mul_comm]
  have hk1 : ((szP h.vr * k : Nat) : Int) = (k : Int) * (szP h.vr : Int) := by push_cast; rw [Int.mul_comm]
  obtain ⟨A, hA⟩ : ∃ A : Nat, staU h.es j.toNat + o = ((szP h.vr * q + A : Nat) : Int) := ⟨(staU h.es j.toNat + o - ((szP h.vr * q : Nat) : Int)).toNat, by omega⟩
  rw [hA, ← hq1]
  have e1 : (((szP h.vr * q + A : Nat) : Int) - ((szP h.vr * q : Nat) : Int)).toNat = A := by omega
  have hAL : A + L ≤ szP h.vr * k := by omega
  rw [e1, Int.toNat_natCast, Int.toNat_natCast, List.drop_take, List.drop_drop, List.take_take, Nat.min_eq_left (by omega)]
end Go.Proofs.YtjiijjdmkeeilaaDoor
namespace Go.Proofs.YtjiijjdmkeeilaaDoor
open Go.RowKit
set_option linter.unusedVariables false
theorem smlH_len (h : Hdr) : (smlH h).es.length ≤ 66 := by
  show (h.es.take 66).length ≤ 66
  rw [List.length_take]
  omega
theorem smlH_fit {h : Hdr} (f : h.Fit) : (smlH h).Fit := ⟨f.1, fun e he => f.2 e (List.mem_of_mem_take he)⟩
theorem HdIn.sml {w : World} {h : Hdr} {ad : Option Addr} {n cap : Nat} (hi : HdIn w h ad n cap) : HdIn w (smlH h) ad (smlH h).es.length cap := by
  refine ⟨hi.lf.front celE 66, rfl, ?_, hi.mx, hi.nn⟩
  show (h.es.take 66).length ≤ cap
  rw [List.length_take]
  have := hi.len
  have := hi.le
  omega
set_option maxRecDepth 100000 in
set_option maxHeartbeats 2000000 in
theorem small_at (h : Hdr) (ad : Option Addr) (n cap : Nat) (w : World) (hin : HdIn w h ad n cap) :
    Calls Tryd.prog 9 #[hdV h ad n cap] w fun e w' => e = .returned (hdV (smlH h) ad (smlH h).es.length cap) ∧ Below w.heap.size w w' := by
  have HN := Lib.hid hin
  clear hin
  by_cases h6 : 66 < n
  · have hc6 : 66 ≤ cap := by have := HN.out.le; omega
    have hl : (smlH h).es.length = 66 := by show (h.es.take 66).length = 66; rw [List.length_take]; have := HN.out.len; omega
    rw [hl]
    go_enter Tryd.func9, Tryd.ntmps9
    go_wp2_with fail
    refine post_cell1 (cs := hdC (smlH h) ad 66 cap) rfl rfl (new2 w _ (smlH h) ad 66 cap) Tryd.underlying25 rfl infoHd rfl ?_
    exact ⟨rfl, co_box2 w _ _⟩
  · have he : smlH h = h := by
      unfold smlH
      rw [List.take_of_length_le (by have := HN.out.len; omega)]
    rw [he, ← HN.out.len]
    go_enter Tryd.func9, Tryd.ntmps9
    go_wp2_with fail
    refine post_cell1 (cs := hdC h ad n cap) rfl rfl (new2 w _ h ad n cap) Tryd.underlying25 rfl infoHd rfl ?_
    exact ⟨rfl, co_box2 w _ _⟩
theorem fewB_ok (l : List Blk) : (fewB l).length ≤ 30 ∧ ∀ b ∈ fewB l, b.d.length ≤ 70 := by
  refine ⟨?_, fun b hb => ?_⟩
  · unfold fewB; rw [List.length_map, List.length_take]; omega
  · unfold fewB at hb
    obtain ⟨x, -, rfl⟩ := List.mem_map.1 hb
    show (x.d.take 70).length ≤ 70
    rw [List.length_take]
    omega
theorem VHdr.len {h : Hdr} (v : VHdr h) : h.es.length ≤ 64 := VEs.count v
theorem parH_len (l : List Blk) : (parH l).1.es.length ≤ 64 := by
  by_cases h : (parH l).2.2 = 0
  · exact (parH_good h).v.len
  · unfold parH at h ⊢
    repeat' split
    all_goals first | exact Nat.zero_le _ | skip
    all_goals (exfalso; apply h; simp_all)
theorem payU_len (l : List Blk) : (payU l).1.es.length ≤ 64 := by
  unfold payU
  repeat' split
  all_goals first | exact Nat.zero_le _ | exact parH_len l
theorem bldR_ok (h : Hdr) (p : List UInt8) : bldR h p = ([], .zero, 4) ∨ bldR h p = ([], .zero, 8) ∨ (bldR h p = (hbL (hdP h p) ++ payB h.vr p, hdP h p, 0) ∧ VHdr (hdP h p) ∧ prtsB h.es p = true) := by
  unfold bldR
  by_cases hv : vldH (hdP h p) = true
  · rw [if_pos hv]
    by_cases hp : prtsB h.es p = true
    · rw [if_pos hp]; exact .inr (.inr ⟨rfl, vldH_iff.1 hv, hp⟩)
    · rw [if_neg hp]; exact .inl rfl
  · rw [if_neg hv]; exact .inr (.inl rfl)
theorem bldR_len (h : Hdr) (p : List UInt8) : (bldR h p).2.1.es.length ≤ 64 := by
  rcases bldR_ok h p with e | e | ⟨e, hv, -⟩
  · rw [e]; exact Nat.zero_le _
  · rw [e]; exact Nat.zero_le _
  · rw [e]; exact hv.len
theorem eqH_refl (h : Hdr) : eqH h h = true := eqH_yes rfl
theorem eqK_refl (l : List Blk) : eqK l l = true := eqK_yes rfl
end Go.Proofs.YtjiijjdmkeeilaaDoor
namespace Go.Proofs.YtjiijjdmkeeilaaDoor
open Go.RowKit
set_option maxRecDepth 100000 in
set_option maxHeartbeats 1000000 in
theorem bequal_any (ad bd : Option Addr) (n m cap mcap : Nat) (xs ys : List UInt8) (w : World) (h1 : Lie w ad xs) (h2 : Lie w bd ys) (hn : n = xs.length) (hm : m = ys.length) :
    Calls Tryd.prog 84 #[.slice ad n cap, .slice bd m mcap] w fun e w' => e = .returned (.bool (decide (xs = ys))) ∧ w = w' := by
  subst hn hm
  have g1 := conv_lie cap h1
  have g2 := conv_lie mcap h2
  by_cases he : xs = ys
  · subst he
    generalize (⟨xs.toArray⟩ : ByteArray) = S at g1 g2
    go_enter Tryd.func84, Tryd.ntmps84
    go_wp2
    go_ret
    exact ⟨by simp, rfl⟩
  · have hd := decide_eq_false he
    have hst := textC_beq (textC_inj he)
    generalize (⟨xs.toArray⟩ : ByteArray) = S at g1 hst
    generalize (⟨ys.toArray⟩ : ByteArray) = T at g2 hst
    go_enter Tryd.func84, Tryd.ntmps84
    go_wp2
    go_ret
    exact ⟨by rw [hd]; rfl, rfl⟩
end Go.Proofs.YtjiijjdmkeeilaaDoor
namespace Go.Proofs.YtjiijjdmkeeilaaDoor
open Go.RowKit
set_option linter.unusedVariables false
set_option maxRecDepth 100000 in
set_option maxHeartbeats 1000000 in
theorem samedata_any (xm xb ym yb : Bool) (xd yd : List UInt8) (ad bd : Option Addr) (n m cap dap : Nat) (w : World) (h1 : Lie w ad xd) (h2 : Lie w bd yd) (hn : n = xd.length) (hm : m = yd.length) :
    Calls Tryd.prog 59 #[.agg #[.bool xm, .bool xb, .slice ad n cap], .agg #[.bool ym, .bool yb, .slice bd m dap]] w fun e w' => e = .returned (.bool (decide (xd = yd))) ∧ Below w.heap.size w w' := by
  have HB := Lib.hid (co_box2 w (.cells #[.bool xm, .bool xb, .slice ad n cap] 57) (.cells #[.bool ym, .bool yb, .slice bd m dap] 57))
  have HQ := Lib.hid (bequal_any ad bd n m cap dap xd yd _ (h1.below HB.out rfl) (h2.below HB.out rfl) hn hm)
  clear h1 h2 hn hm
  generalize decide (xd = yd) = D at *
  go_enter Tryd.func59, Tryd.ntmps59
  go_wp2_with (go_at_call 84; refine HQ.out.mono ?_; rintro e w' ⟨rfl, rfl⟩)
  go_ret
  exact ⟨rfl, HB.out⟩
open Classical in
/-- the data of blocks are the same -/
noncomputable def eqD (l k : List Blk) : Bool := decide (l.map Blk.d = k.map Blk.d)
open Classical in
theorem eqD_no {l m : List Blk} (h : l.length ≠ m.length) : eqD l m = false := by
  unfold eqD
  refine decide_eq_false (fun e => h ?_)
  have := congrArg List.length e
  simpa using this
open Classical in
theorem eqD_all {l m : List Blk} (hl : l.length = m.length) (h : ∀ j (h : j < l.length) (h' : j < m.length), l[j].d = m[j].d) : eqD l m = true := by
  unfold eqD
  refine decide_eq_true (List.ext_getElem (by simpa using hl) (fun i h1 h2 => ?_))
  rw [List.getElem_map, List.getElem_map]
  exact h i (by simpa using h1) (by simpa using h2)
open Classical in
theorem eqD_at {l m : List Blk} {i : Nat} (h1 : i < l.length) (h2 : i < m.length) (h : l[i].d ≠ m[i].d) : eqD l m = false := by
  unfold eqD
  refine decide_eq_false (fun e => h ?_)
  have e2 : (l.map Blk.d)[i]? = (m.map Blk.d)[i]? := by rw [e]
  rw [List.getElem?_map, List.getElem?_map, List.getElem?_eq_getElem h1, List.getElem?_eq_getElem h2] at e2
  simpa using e2
open Classical in
theorem eqD_iff {l m : List Blk} : eqD l m = true ↔ l.map Blk.d = m.map Blk.d := by unfold eqD; exact decide_eq_true_iff
attribute [local irreducible] eqD
set_option maxRecDepth 100000 in
set_option maxHeartbeats 4000000 in
theorem eqfuncD_any (ad bd : Option Addr) (n m cap mcap : Nat) (l k : List Blk) (w : World) (h1 : Ki w ad l) (h2 : Ki w bd k) (hn : n = l.length) (hm : m = k.length) (hs : n ≤ 100000) :
    Calls Tryd.prog 58 #[.slice ad n cap, .slice bd m mcap, .func (.func 59) #[] #[]] w fun e w' => e = .returned (.bool (eqD l k)) ∧ Below w.heap.size w w' := by
  have H1 := Lib.hid h1
  have H2 := Lib.hid h2
  have HN := Lib.hid hn
  have HM := Lib.hid hm
  by_cases hnm : n = m
  rotate_left
  · have HF := Lib.hid (eqD_no (l := l) (m := k) (fun e => by omega))
    have hnm2 : ((n : Int) == (m : Int)) = false := by rw [beq_eq_false_iff_ne]; omega
    have hnm3 : ((n : Int) != (m : Int)) = true := by rw [bne, hnm2]; rfl
    clear h1 h2 hn hm
    go_enter Tryd.func58, Tryd.ntmps58
    go_wp2
    go_ret
    exact ⟨by rw [HF.out]; rfl, Below.refl _ _⟩
  subst hnm
  clear h1 h2 hn hm
  go_enter Tryd.func58, Tryd.ntmps58
  go_wp2
  go_loopg [17] n (fun gk vk wx => ∃ i : Nat, i + gk = n ∧ vk = .int .i64 i ∧ Hid (∀ j (h : j < l.length) (h' : j < k.length), j < i → l[j].d = k[j].d) ∧ Hid (Below w.heap.size w wx))
  case atStart => exact ⟨0, by omega, rfl, Lib.hid fun j _ _ hj => by omega, Lib.hid (Below.refl _ _)⟩
  case round =>
    obtain ⟨i, hi, rfl, hall, hB⟩ := hrel
    cases gk with
    | zero =>
      obtain rfl : i = n := by omega
      have HR := Lib.hid (eqD_all (l := l) (m := k) (by have := HN.out; have := HM.out; omega) fun j h h' => hall.out j h h' (by have := HN.out; omega))
      go_wp2
      go_ret
      exact ⟨by rw [HR.out]; rfl, hB.out⟩
    | succ gk0 =>
      have hin : (i : Int) < (n : Int) := by omega
      have hil : i < l.length := by have := HN.out; omega
      have hik : i < k.length := by have := HM.out; omega
      obtain ⟨b, off, ad', cap', rfl, hlt, p0, p1, p2, hp, _⟩ := (H1.out.below hB.out).get hil
      have HNX : l[i].d = k[i].d → Hid (∀ j (h : j < l.length) (h' : j < k.length), j < i + 1 → l[j].d = k[j].d) := fun he => Lib.hid fun j h h' hj => by
        rcases Nat.lt_or_ge j i with h3 | h3
        · exact hall.out j h h' h3
        · obtain rfl : j = i := by omega
          exact he
      have HNO : l[i].d ≠ k[i].d → Hid (eqD l k = false) := fun h => Lib.hid (eqD_at (l := l) (m := k) hil hik h)
      have HB1 := Lib.hid ((Below.refl wr.heap.size wr).alloc (Nat.le_refl _) (.cells #[.bool l[i].m, .bool l[i].bad, .slice ad' l[i].d.length cap'] 57))
      obtain ⟨b2, off2, bd', cap2, rfl, hlt2, q0, q1, q2, hq, _⟩ := ((H2.out.below hB.out).below HB1.out).get hik
      have HB2 := Lib.hid (co_box2 wr (.cells #[.bool l[i].m, .bool l[i].bad, .slice ad' l[i].d.length cap'] 57) (.cells #[.bool k[i].m, .bool k[i].bad, .slice bd' k[i].d.length cap2] 57))
      have HS := Lib.hid (samedata_any l[i].m l[i].bad k[i].m k[i].bad l[i].d k[i].d ad' bd' l[i].d.length k[i].d.length cap' cap2 ((wr.alloc (.cells #[.bool l[i].m, .bool l[i].bad, .slice ad' l[i].d.length cap'] 57)).alloc (.cells #[.bool k[i].m, .bool k[i].bad, .slice bd' k[i].d.length cap2] 57)) (hp.below HB2.out rfl) (hq.below ((Below.refl _ _).alloc (Nat.le_refl _) _) rfl) rfl rfl)
      have HBB := Lib.hid (hB.out.trans (HB2.out.mono hB.out.size))
      clear hp hq HB1 HB2
      by_cases heq : l[i].d = k[i].d
      · rw [decide_eq_true heq] at HS
        have HR := HNX heq
        clear HNX HNO
        generalize l[i].m = xm at *
        generalize l[i].bad = xb at *
        generalize l[i].d.length = xn at *
        generalize k[i].m = ym at *
        generalize k[i].bad = yb at *
        generalize k[i].d.length = yn at *
        clear heq
        go_wp2_with fail
        refine HS.out.mono ?_
        rintro e w5 ⟨rfl, hb⟩
        have HB5 := Lib.hid (HBB.out.trans (hb.mono HBB.out.size))
        clear hb HS HBB
        go_wp2
        go_roundg gk0
        case rel => exact ⟨i + 1, by omega, by go_num, HR, HB5⟩
        case measure => omega
      · rw [decide_eq_false heq] at HS
        have HR := HNO heq
        clear HNX HNO
        generalize l[i].m = xm at *
        generalize l[i].bad = xb at *
        generalize l[i].d.length = xn at *
        generalize k[i].m = ym at *
        generalize k[i].bad = yb at *
        generalize k[i].d.length = yn at *
        clear heq
        go_wp2_with fail
        refine HS.out.mono ?_
        rintro e w5 ⟨rfl, hb⟩
        have HB5 := Lib.hid (HBB.out.trans (hb.mono HBB.out.size))
        clear hb HS HBB
        go_wp2
        go_ret
        exact ⟨by rw [HR.out]; rfl, HB5.out⟩
end Go.Proofs.YtjiijjdmkeeilaaDoor
namespace Go.Proofs.YtjiijjdmkeeilaaDoor
open Go.RowKit
set_option linter.unusedVariables false
set_option linter.unusedSimpArgs false
/-- the next number, and the offset behind it -/
noncomputable def pnx (p : List UInt8) (A : Int) : Int := IntKind.i64.wrap (((uR p A).1 : Nat) : Int)
noncomputable def pns (p : List UInt8) (A : Int) : Int := (uR p A).2.1
/-- a number as a checksum -/
noncomputable def psm (v : Int) : Nat := (IntKind.u32.wrap v).toNat
theorem psm_eq (v : Int) : ((psm v : Nat) : Int) = IntKind.u32.wrap v ∧ psm v < 4294967296 := by
  unfold psm
  have h := IntKind.wrap_u32 v
  omega
/-- offsets behind k numbers -/
noncomputable def pA (p : List UInt8) : Nat → Int
  | 0 => 0
  | k + 1 => pns p (pA p k)
noncomputable def p5 (p : List UInt8) (A : Int) : Int := pns p (pns p (pns p (pns p (pns p A))))
noncomputable def pent (p : List UInt8) (A : Int) : Ent := ⟨pnx p A, pnx p (pns p A), pnx p (pns p (pns p A)), pnx p (pns p (pns p (pns p A))), psm (pnx p (pns p (pns p (pns p (pns p A)))))⟩
noncomputable def pents (p : List UInt8) : Nat → Int → List Ent × Int
  | 0, A => ([], A)
  | k + 1, A => (pent p A :: (pents p k (p5 p A)).1, (pents p k (p5 p A)).2)
noncomputable def pcn (p : List UInt8) : Nat := (min (pnx p (pA p 8)) 64).toNat
noncomputable def p9 (p : List UInt8) : List Ent × Int := pents p (pcn p) (pA p 9)
/-- the header, its entries read -/
noncomputable def pfin (p : List UInt8) (E : List Ent) (A : Int) : Hdr :=
  ⟨pnx p (pA p 0), pnx p (pA p 1), pnx p (pA p 2), pnx p (pA p 3), pnx p (pA p 4), pnx p (pA p 5), pnx p (pA p 6), pnx p (pA p 7), E, pnx p A, psm (pnx p (pns p A))⟩
noncomputable def pG (p : List UInt8) : Hdr := pfin p (p9 p).1 (p9 p).2
theorem good_nx {p : List UInt8} {s : Int × Bool} (h : (nsI p s).2 = false) : s.2 = false ∧ pnx p s.1 = nxI p s ∧ pns p s.1 = (nsI p s).1 := by
  have h1 := (nsI_ok h).1
  have e : nsI p s = (nxtU p s.1 s.2).2 := rfl
  have e2 : nxI p s = (nxtU p s.1 s.2).1 := rfl
  rw [e] at h ⊢
  rw [e2]
  unfold nxtU at h ⊢
  split at h
  · simp at h
  · rename_i hc
    rw [if_neg hc]
    refine ⟨h1, ?_, rfl⟩
    unfold pnx
    exact IntWalk.i64_in _ (by
      have : ¬ 1125899906842624 < (uR p s.1).1 := fun h' => hc (.inr (.inr h'))
      omega)
theorem good_sm {p : List UInt8} {s : Int × Bool} (h : (cksU p s.1 s.2).2.2 = false) : (nsI p s).2 = false ∧ psm (pnx p s.1) = (cksU p s.1 s.2).1 ∧ (cksU p s.1 s.2).2.1 = (nsI p s).1 := by
  obtain ⟨h1, h2⟩ := cksU_ok h
  have h3 : (nsI p s).2 = false := h1
  obtain ⟨-, g2, -⟩ := good_nx h3
  refine ⟨h3, ?_, h2⟩
  rw [g2]
  have e2 : nxI p s = (nxtU p s.1 s.2).1 := rfl
  rw [e2]
  unfold cksU at h ⊢
  split at h
  · simp at h
  · rename_i hc
    rw [if_neg hc]
    dsimp only
    generalize (nxtU p s.1 s.2).1 = N at *
    have := IntKind.wrap_u32 N
    unfold psm
    omega
theorem good_ent {p : List UInt8} {s : Int × Bool} (h : (entU p s).2.2 = false) : s.2 = false ∧ pent p s.1 = (entU p s).1 ∧ p5 p s.1 = (entU p s).2.1 := by
  obtain ⟨h4, e5, f5⟩ := good_sm (s := nsI p (nsI p (nsI p (nsI p s)))) h
  have h3 := (nsI_ok h4).1
  have h2 := (nsI_ok h3).1
  have h1 := (nsI_ok h2).1
  have h0 := (nsI_ok h1).1
  obtain ⟨-, a4, b4⟩ := good_nx h4
  obtain ⟨-, a3, b3⟩ := good_nx h3
  obtain ⟨-, a2, b2⟩ := good_nx h2
  obtain ⟨-, a1, b1⟩ := good_nx h1
  obtain ⟨z, a0, b0⟩ := good_nx h0
  have h0' := (nsI_ok h0).1
  refine ⟨z, ?_, ?_⟩
  · unfold pent entU
    rw [b0, b1, b2, b3, a0, a1, a2, a3, e5]
  · unfold p5
    rw [b0, b1, b2, b3, b4]
    show _ = (cksU p _ _).2.1
    exact f5.symm
theorem good_ents {p : List UInt8} : ∀ (k : Nat) (s : Int × Bool), (entsU p k s).2.2 = false → s.2 = false ∧ pents p k s.1 = ((entsU p k s).1, (entsU p k s).2.1) ∧ (entsU p k s).1.length = k
  | 0, s, h => ⟨h, rfl, rfl⟩
  | k + 1, (A, b), h => by
    cases b
    rotate_left
    · rw [entsU_bad] at h; cases h
    rw [entsU_good] at h ⊢
    dsimp only at h ⊢
    obtain ⟨h1, h2, h3⟩ := good_ents k (entU p (A, false)).2 h
    obtain ⟨-, g2, g3⟩ := good_ent h1
    refine ⟨rfl, ?_, by rw [List.length_cons, h3]⟩
    show (pent p A :: (pents p k (p5 p A)).1, (pents p k (p5 p A)).2) = _
    dsimp only at g2 g3
    rw [g2, g3, h2]
theorem good_pA {p : List UInt8} : ∀ k : Nat, (nk p k).2 = false → pA p k = (nk p k).1
  | 0, _ => rfl
  | k + 1, h => by
    have h' : (nsI p (nk p k)).2 = false := h
    have hk := (nsI_ok h').1
    show pns p (pA p k) = (nsI p (nk p k)).1
    rw [good_pA k hk]
    exact (good_nx h').2.2
theorem good_v {p : List UInt8} {k : Nat} (h : (nk p (k + 1)).2 = false) : pnx p (pA p k) = nxI p (nk p k) := by
  have h' : (nsI p (nk p k)).2 = false := h
  rw [good_pA k (nsI_ok h').1]
  exact (good_nx h').2.1
/-- where bytes are an encoding, the program reads the header -/
theorem dec_prog {p : List UInt8} (h : (decU p).2 = true) : pG p = (decU p).1 := by
  have hb : ((!(decS p).2 && decide ((decS p).1 = (p.length : Int))) && vldH (hdD p)) = true := h
  rw [Bool.and_eq_true, Bool.and_eq_true] at hb
  obtain ⟨⟨h1, -⟩, h3⟩ := hb
  have hv := vldH_iff.1 h3
  have hbad : (cksU p (nsI p (dec9 p).2).1 (nsI p (dec9 p).2).2).2.2 = false := by
    have : (!(decS p).2) = true := h1
    simpa [decS] using this
  obtain ⟨g1, e1, -⟩ := good_sm hbad
  have g2 : (nsI p (dec9 p).2).2 = false := (nsI_ok g1).1
  obtain ⟨g3, e2, e3⟩ := good_nx g2
  have g3' : (entsU p (nxI p (nk p 8)).toNat (nk p 9)).2.2 = false := g3
  obtain ⟨g4, e4, e5⟩ := good_ents _ _ g3'
  have k9 : (nk p 9).2 = false := g4
  have k8 : (nk p 8).2 = false := (nsI_ok (s := nk p 8) k9).1
  have k7 : (nk p 7).2 = false := (nsI_ok (s := nk p 7) k8).1
  have k6 : (nk p 6).2 = false := (nsI_ok (s := nk p 6) k7).1
  have k5 : (nk p 5).2 = false := (nsI_ok (s := nk p 5) k6).1
  have k4 : (nk p 4).2 = false := (nsI_ok (s := nk p 4) k5).1
  have k3 : (nk p 3).2 = false := (nsI_ok (s := nk p 3) k4).1
  have k2 : (nk p 2).2 = false := (nsI_ok (s := nk p 2) k3).1
  have k1 : (nk p 1).2 = false := (nsI_ok (s := nk p 1) k2).1
  have hlen : (hdD p).es.length = (nxI p (nk p 8)).toNat := e5
  have h64 : (nxI p (nk p 8)).toNat ≤ 64 := by rw [← hlen]; exact VEs.count hv
  have hn0 : 0 ≤ nxI p (nk p 8) := by unfold nxI; exact nxtU_in.1
  have hcn : pcn p = (nxI p (nk p 8)).toNat := by
    unfold pcn
    rw [good_v (k := 8) k9]
    omega
  have h9 : p9 p = ((dec9 p).1, (dec9 p).2.1) := by
    unfold p9
    rw [hcn, good_pA 9 k9, e4]
    rfl
  show pG p = hdD p
  unfold pG
  rw [h9]
  unfold pfin hdD
  dsimp only
  rw [good_v (k := 0) k1, good_v (k := 1) k2, good_v (k := 2) k3, good_v (k := 3) k4, good_v (k := 4) k5, good_v (k := 5) k6, good_v (k := 6) k7, good_v (k := 7) k8, e2, e3, e1]
/-- what the program's decode answers -/
noncomputable def decP (p : List UInt8) : Hdr × Bool := if vldH (pG p) = true ∧ encH (pG p) = p then (pG p, true) else (.zero, false)
theorem pents_lt {p : List UInt8} : ∀ (k : Nat) (A : Int), ∀ e ∈ (pents p k A).1, e.s < 4294967296
  | 0, _, e, he => by cases he
  | k + 1, A, e, he => by
    rcases List.mem_cons.1 (show e ∈ pent p A :: (pents p k (p5 p A)).1 from he) with h | h
    · rw [h]; exact (psm_eq _).2
    · exact pents_lt k _ e h
theorem pG_lt (p : List UInt8) : (pG p).sm < 4294967296 ∧ ∀ e ∈ (pG p).es, e.s < 4294967296 := ⟨(psm_eq _).2, pents_lt _ _⟩
theorem decP_eq (p : List UInt8) : decP p = if (decU p).2 = true then ((decU p).1, true) else (.zero, false) := by
  unfold decP
  by_cases h : (decU p).2 = true
  · obtain ⟨h1, h2⟩ := dec_form h
    rw [if_pos h, dec_prog h, if_pos ⟨vldH_yes h2, h1.symm⟩]
  · rw [if_neg h, if_neg]
    rintro ⟨h1, h2⟩
    have := dec_enc_hdr (h := pG p) (vldH_iff.1 h1) (pG_lt p).1 (pG_lt p).2
    rw [h2] at this
    exact h (by rw [this])
end Go.Proofs.YtjiijjdmkeeilaaDoor
