/-
  The law package's few: at most 30 blocks of at most 70 bytes.
  What Build makes is read back by Parse: the mathematics.
  What Build makes is read back by Payload: the mathematics.
  The law package's one: a header with one entry, and its payload.
  The law package's example: what the package answers about it.
  The contracts of the container package's functions, whoever wrote them: 'I' is what its listed variables need.
-/
import Derived.Test.YtjiijjdmkeeilaaDoorCAM
import Derived.Test.YtjiijjdmkeeilaaDoorCAW
import Derived.Deep.LoopGhost
import Derived.Test.YtjiijjdmkeeilaaDoorCAU
import Derived.Test.YtjiijjdmkeeilaaDoorCAT
import Derived.Test.YtjiijjdmkeeilaaDoorCAP
import Derived.Test.YtjiijjdmkeeilaaDoorCAA
import Derived.Test.YtjiijjdmkeeilaaDoorCAO
import Derived.Test.YtjiijjdmkeeilaaDoorCAG
import Derived.Lib.SmallJoins
import Derived.Test.YtjiijjdmkeeilaaDoorCoPayW
import Derived.Test.YtjiijjdmkeeilaaDoorCAV
namespace Go.Proofs.YtjiijjdmkeeilaaDoor
open Go.RowKit
set_option linter.unusedVariables false
set_option linter.unusedSimpArgs false
def trmB (x : Blk) : Blk := ⟨x.m, x.bad, x.d.take 70⟩
def fewB (l : List Blk) : List Blk := (l.take 30).map trmB
theorem fewB_next (l : List Blk) (k : Nat) (hk : k < l.length) (hk2 : k < 30) : fewB (l.take (k + 1)) = fewB (l.take k) ++ [trmB l[k]] := by
  unfold fewB
  rw [List.take_take, List.take_take, Nat.min_eq_right (by omega), Nat.min_eq_right (by omega), List.take_succ_eq_append_getElem hk, List.map_append]
  rfl
theorem fewB_end (l : List Blk) (k : Nat) (h : l.length ≤ k ∨ 30 ≤ k) : fewB (l.take k) = fewB l := by
  unfold fewB
  rcases h with h | h
  · rw [List.take_of_length_le h]
  · rw [List.take_take, Nat.min_eq_left h]
/-- a call gives blocks in a list of its own, their bytes wherever they lie -/
def GivesF (w : World) (l : List Blk) (e : Ending) (w' : World) : Prop := ∃ v, e = .returned v ∧ Kq w' w.heap.size 0 v l ∧ Below w.heap.size w w'
attribute [local irreducible] fewB
set_option maxRecDepth 100000 in
set_option maxHeartbeats 4000000 in
theorem few_any (ad : Option Addr) (n cap : Nat) (l : List Blk) (w : World) (hl : Ki w ad l) (hn : n = l.length) :
    Calls Tryd.prog 22 #[.slice ad n cap] w (GivesF w (fewB l)) := by
  have HL := Lib.hid hl
  have HN := Lib.hid hn
  have HE := Lib.hid (fewB_end l)
  have HNE := Lib.hid (fewB_next l)
  have HZ0 := Lib.hid (show fewB (l.take 0) = [] by unfold fewB; simp)
  have HLE : Hid (∀ k, (fewB (l.take k)).length ≤ 30) := Lib.hid fun k => by unfold fewB; rw [List.length_map, List.length_take]; omega
  clear hl hn
  obtain ⟨N, hN⟩ : ∃ N, N = min n 30 := ⟨_, rfl⟩
  go_enter Tryd.func22, Tryd.ntmps22
  go_wp2_with fail
  go_loopg [3, 4] N (fun gk v3 vk wx => ∃ k : Nat, k + gk = N ∧ vk = .int .i64 k ∧ Hid (Kq wx w.heap.size 0 v3 (fewB (l.take k))) ∧ Hid (Below w.heap.size w wx))
  case atStart => exact ⟨0, by omega, rfl, Lib.hid (by rw [HZ0.out]; exact Kq.nil _ _ _), Lib.hid (Below.refl _ _)⟩
  case round =>
    obtain ⟨k, hk, rfl, hK, hB⟩ := hrel
    cases gk with
    | zero =>
      have hNk : k = N := by omega
      have HT := Lib.hid (HE.out k (by have := HN.out; omega))
      by_cases hn3 : k < n
      · have h30 : ¬ (k : Int) < 30 := by omega
        go_wp2
        go_ret
        exact ⟨_, rfl, by rw [← HT.out]; exact hK.out, hB.out⟩
      · have hnn : ¬ (k : Int) < (n : Int) := by omega
        go_wp2
        go_ret
        exact ⟨_, rfl, by rw [← HT.out]; exact hK.out, hB.out⟩
    | succ gk0 =>
      have hkn : k < n := by omega
      have hk30 : (k : Int) < 30 := by omega
      have hkl : k < l.length := by rw [← HN.out]; exact hkn
      obtain ⟨b, off, ad', cap', hadr, hlt, q0, q1, q2, hq, hq2, hq3, hq4⟩ := HL.out.get hkl
      subst hadr
      replace q0 := (hB.out.cell (p := ⟨b, off + k * 3, none⟩) hlt).trans q0
      replace q1 := (hB.out.cell (p := ⟨b, off + k * 3 + 1, none⟩) hlt).trans q1
      replace q2 := (hB.out.cell (p := ⟨b, off + k * 3 + 2, none⟩) hlt).trans q2
      have HNX := Lib.hid (show fewB (l.take (k + 1)) = fewB (l.take k) ++ [⟨l[k].m, l[k].bad, l[k].d.take 70⟩] from HNE.out k hkl (by omega))
      generalize l[k].m = xm at *
      generalize l[k].bad = xb at *
      generalize l[k].d = xd at *
      have HLT := Lib.hid hK.out.lt
      have HSW := Lib.hid (show w.heap.size ≤ wr.heap.size from hB.out.size)
      have hlen2 : (fewB (l.take k)).length + 1 ≤ 100000 := by have := HLE.out k; omega
      have HX0 := Lib.hid (fun W (h : Below w.heap.size w W) => LieX.of_low (lie_take hq 70) h (fun g hg => (hK.out.lt g hg).1))
      have hkn2 : (k : Int) < (n : Int) := by omega
      clear hkl hlt hq
      have hkw : IntKind.i64.wrap ((k : Int) + 1) = ((k + 1 : Nat) : Int) := (IntWalk.i64_in _ (by omega)).trans (by push_cast; rfl)
      by_cases hx : 70 < xd.length
      · have hc70 : 70 ≤ cap' := by omega
        have HZ5 := Lib.hid (fun W (h : Below w.heap.size w W) => Kx.one (w := W) xm xb ad' (xd.take 70) cap' (HX0.out W h) (by rw [List.length_take]; omega) hq3 hq4 _ rfl)
        rw [show (xd.take 70).length = 70 by rw [List.length_take]; omega] at HZ5
        have HB5 := hB.out.alloc hB.out.size (.cells #[.bool xm, .bool xb, .slice ad' 70 cap'] 57)
        have HB6 := Lib.hid (HB5.alloc HB5.size (.cells #[.bool xm, .bool xb, .slice ad' 70 cap'] 57))
        have HZ6 := Lib.hid (HZ5.out _ HB5)
        rw [World.size_alloc] at HZ6
        have HK6 := Lib.hid (hK.out.below (((Below.refl wr.heap.size wr).alloc (Nat.le_refl _) (.cells #[.bool xm, .bool xb, .slice ad' 70 cap'] 57)).alloc (by simp) (.cells #[.bool xm, .bool xb, .slice ad' 70 cap'] 57)))
        have HW6 := Lib.hid HB6.out.size
        clear HB5 HZ5 HX0
        go_wp2_with (at_builtin; refine wpList_append_k rfl (.tmp 28) (.tmp 30) rfl w.heap.size 0 0 0 u3 _ rfl HK6.out _ 1 1 [⟨xm, xb, xd.take 70⟩] (fun h => by cases h) HZ6.out rfl rfl hlen2 HW6.out (Nat.le_refl _) (Nat.le_refl _) ?_; intro v7 w7 ho7 hg7 _; have HK7 := Lib.hid ho7; have HB7 := Lib.hid (HB6.out.grown hg7 HW6.out (fun k hk => (HLT.out k hk).1)); clear ho7 hg7)
        go_roundg gk0
        case rel => exact ⟨k + 1, by omega, by go_num, Lib.hid (by rw [HNX.out]; exact HK7.out), HB7⟩
        case measure => omega
      · have HZ5 := Lib.hid (fun W (h : Below w.heap.size w W) => Kx.one (w := W) xm xb ad' (xd.take 70) cap' (HX0.out W h) (by rw [List.length_take]; omega) hq3 hq4 _ rfl)
        rw [show xd.take 70 = xd from List.take_of_length_le (by omega)] at HZ5 HNX
        have HB5 := hB.out.alloc hB.out.size (.cells #[.bool xm, .bool xb, .slice ad' xd.length cap'] 57)
        have HB6 := Lib.hid (HB5.alloc HB5.size (.cells #[.bool xm, .bool xb, .slice ad' xd.length cap'] 57))
        have HZ6 := Lib.hid (HZ5.out _ HB5)
        rw [World.size_alloc] at HZ6
        have HK6 := Lib.hid (hK.out.below (((Below.refl wr.heap.size wr).alloc (Nat.le_refl _) (.cells #[.bool xm, .bool xb, .slice ad' xd.length cap'] 57)).alloc (by simp) (.cells #[.bool xm, .bool xb, .slice ad' xd.length cap'] 57)))
        have HW6 := Lib.hid HB6.out.size
        clear HB5 HZ5 HX0
        go_wp2_with (at_builtin; refine wpList_append_k rfl (.tmp 28) (.tmp 30) rfl w.heap.size 0 0 0 u3 _ rfl HK6.out _ 1 1 [⟨xm, xb, xd⟩] (fun h => by cases h) HZ6.out rfl rfl hlen2 HW6.out (Nat.le_refl _) (Nat.le_refl _) ?_; intro v7 w7 ho7 hg7 _; have HK7 := Lib.hid ho7; have HB7 := Lib.hid (HB6.out.grown hg7 HW6.out (fun k hk => (HLT.out k hk).1)); clear ho7 hg7)
        go_roundg gk0
        case rel => exact ⟨k + 1, by omega, by go_num, Lib.hid (by rw [HNX.out]; exact HK7.out), HB7⟩
        case measure => omega
end Go.Proofs.YtjiijjdmkeeilaaDoor
namespace Go.Proofs.YtjiijjdmkeeilaaDoor
open Go.RowKit
set_option linter.unusedVariables false
theorem bytB_front (l z : List Blk) (h : ∀ b ∈ l, b.m = false ∧ b.bad = false) : bytB (l ++ z) = (l.map Blk.d).flatten ++ bytB z := by
  induction l with
  | nil => simp
  | cons x l ih =>
    have h0 := h x (by simp)
    have e : bytB (x :: (l ++ z)) = x.d ++ bytB (l ++ z) := by rw [bytB, if_neg (by simp [h0.1, h0.2])]
    rw [List.cons_append, e, ih (fun b hb => h b (by simp [hb])), List.map_cons, List.flatten_cons, List.append_assoc]
theorem bytB_hbL (h : Hdr) (z : List Blk) : bytB (hbL h ++ z) = frm (encH h) ++ (List.replicate (64 * cntB (frm (encH h)).length - (frm (encH h)).length) 0 ++ bytB z) := by
  have e : ((divB (frm (encH h))).map Blk.d).flatten = frm (encH h) ++ List.replicate (64 * cntB (frm (encH h)).length - (frm (encH h)).length) 0 := flat_div _ (frm (encH h)) rfl
  unfold hbL
  rw [bytB_front _ _ (divB_ok _), e, List.append_assoc]
theorem hbL_ok (h : Hdr) : ∀ b ∈ hbL h, (b.m = false ∧ b.bad = false) ∧ b.d.length = 64 := by
  intro b hb
  refine ⟨divB_ok _ b hb, ?_⟩
  obtain ⟨i, _, rfl⟩ := List.mem_map.1 hb
  exact pad_length _
/-- Parse reads back -/
theorem parH_back {h : Hdr} (hv : VHdr h) (hsm : h.sm < 4294967296) (hs : ∀ e ∈ h.es, e.s < 4294967296) (z : List Blk) : parH (hbL h ++ z) = (h, ((hbL h).length : Int), 0) := by
  have he := encH_len hv hsm hs
  have hd := dec_enc_hdr hv hsm hs
  obtain ⟨c1, c2⟩ := chk_frm [] (encH h) (List.replicate (64 * cntB (frm (encH h)).length - (frm (encH h)).length) 0 ++ bytB z) (by omega)
  rw [List.nil_append, ← bytB_hbL] at c1 c2
  have hz : (((([] : List UInt8).length : Nat) : Int)) = 0 := rfl
  rw [hz] at c1 c2
  rw [List.length_nil, Nat.zero_add] at c1
  have hL := hbL_length h
  have h1 : fulB (hbL h ++ z) (cntB ((encH h).length + 10)) := by
    rw [← hL]
    refine ⟨by rw [List.length_append]; omega, fun i hi hN => ?_⟩
    rw [List.getElem_append_left hN]
    exact (hbL_ok h _ (List.getElem_mem hN)).2
  have h2 : zerB (bytB (hbL h ++ z)) ((encH h).length + 10) (64 * cntB ((encH h).length + 10)) := by
    rw [bytB_hbL, frm_length]
    intro i hi h3 h4
    have hf := frm_length (encH h)
    rw [List.getElem_append_right (by omega), List.getElem_append_left (by rw [List.length_replicate]; omega), List.getElem_replicate]
  rw [parH_fin c1 h1 h2, c2, hd, if_pos rfl, hL]
end Go.Proofs.YtjiijjdmkeeilaaDoor
namespace Go.Proofs.YtjiijjdmkeeilaaDoor
open Go.RowKit
set_option linter.unusedVariables false
theorem piece_len (s : Nat) (p : List UInt8) (i : Nat) : (piece s p i).length = min s (p.length - s * i) := by
  unfold piece
  rw [List.length_take, List.length_drop]
theorem piece_nU {v : Int} {p : List UInt8} {i : Nat} (hi : szP v * i ≤ p.length) : nU v (p.length : Int) (i : Int) = ((piece (szP v) p i).length : Int) := by
  rw [piece_len]
  unfold nU
  rcases szP_cases v with ⟨_, e1, e2⟩ | ⟨_, e1, e2⟩ <;> (rw [e1] at hi ⊢; rw [e2]; omega)
theorem chk_piece {v : Int} (hv : v = 1 ∨ v = 2) {p : List UInt8} {i : Nat} (hi : szP v * i ≤ p.length) : chkU v (p.length : Int) (i : Int) (pcB v (piece (szP v) p i)) = (piece (szP v) p i, 0) := by
  have hn := piece_nU hi
  generalize piece (szP v) p i = q at *
  unfold chkU pcB
  rw [hn]
  rcases hv with rfl | rfl
  · rw [if_neg (by simp), if_neg (by simp), if_neg (by simp)]
    simp
  · have h4 : (be4 (crc q)).length = 4 := rfl
    rw [if_neg (by simp), if_neg (by simp [h4]), if_neg (by simp)]
    simp
/-- the pieces from number q on say their part -/
theorem chs_pieces {v : Int} (hv : v = 1 ∨ v = 2) (p : List UInt8) : ∀ (k q : Nat), szP v * (q + k) < p.length + szP v → 
    chsU v (p.length : Int) (q : Int) ((List.range k).map fun j => pcB v (piece (szP v) p (q + j))) = ((p.drop (szP v * q)).take (szP v * k), 0)
  | 0, q, h => by simp [chsU]
  | k + 1, q, h => by
    have hs : 0 < szP v := by rcases szP_cases v with ⟨_, e, _⟩ | ⟨_, e, _⟩ <;> omega
    have h1 : szP v * (q + (k + 1)) = szP v * q + szP v * k + szP v := by rw [Nat.mul_add, Nat.mul_add, Nat.mul_one]; omega
    have hq : szP v * q ≤ p.length := by omega
    have c1 := chk_piece hv hq
    have e1 : (q : Int) + 1 = ((q + 1 : Nat) : Int) := by push_cast; rfl
    have h2 : szP v * (q + 1 + k) < p.length + szP v := by
      rw [show q + 1 + k = q + (k + 1) by omega]; exact h
    have ih := chs_pieces hv p k (q + 1) h2
    have e2 : (List.range (k + 1)).map (fun j => pcB v (piece (szP v) p (q + j))) = pcB v (piece (szP v) p q) :: (List.range k).map fun j => pcB v (piece (szP v) p (q + 1 + j)) := by
      rw [List.range_succ_eq_map, List.map_cons, List.map_map]
      congr 1
      refine List.map_congr_left fun j _ => ?_
      show pcB v (piece (szP v) p (q + (j + 1))) = _
      rw [show q + (j + 1) = q + 1 + j by omega]
    rw [e2, chsU_ok (by rw [c1]) (by rw [e1, ih]), c1, e1, ih]
    dsimp only
    unfold piece
    rw [show szP v * (q + 1) = szP v * q + szP v by rw [Nat.mul_add, Nat.mul_one], show szP v * (k + 1) = szP v + szP v * k by rw [Nat.mul_add, Nat.mul_one]; omega, ← List.drop_drop, List.take_add]
/-- the whole payload -/
theorem chs_payB {v : Int} (hv : v = 1 ∨ v = 2) (p : List UInt8) : chsU v (p.length : Int) 0 (payB v p) = (p, 0) := by
  have hN : szP v * ((p.length + szP v - 1) / szP v) < p.length + szP v ∧ p.length ≤ szP v * ((p.length + szP v - 1) / szP v) := by
    rcases szP_cases v with ⟨_, e, _⟩ | ⟨_, e, _⟩ <;> (rw [e]; omega)
  have h := chs_pieces hv p ((p.length + szP v - 1) / szP v) 0 (by rw [Nat.zero_add]; exact hN.1)
  rw [Nat.mul_zero, List.drop_zero, List.take_of_length_le hN.2] at h
  have e : payB v p = (List.range ((p.length + szP v - 1) / szP v)).map fun j => pcB v (piece (szP v) p (0 + j)) := by
    unfold payB
    refine List.map_congr_left fun j _ => ?_
    rw [Nat.zero_add]
  rw [e]
  exact h
theorem payB_length (h : Hdr) (p : List UInt8) : ((payB h.vr p).length : Int) = cntU (hdP h p) := by
  unfold payB cntU
  rw [List.length_map, List.length_range]
  show ((_ : Nat) : Int) = ((p.length : Int) + prtU h.vr - 1) / prtU h.vr
  rcases szP_cases h.vr with ⟨_, e, e2⟩ | ⟨_, e, e2⟩ <;> (rw [e, e2]; omega)
/-- Payload reads back -/
theorem payU_back {h : Hdr} {p : List UInt8} (hv : VHdr (hdP h p)) (hs : ∀ e ∈ h.es, e.s < 4294967296) (hp : prtsB h.es p = true) (z : List Blk) : payU ((hbL (hdP h p) ++ payB h.vr p) ++ z) = (hdP h p, p, 0) := by
  have hsm : (hdP h p).sm < 4294967296 := crc_lt p
  have hvr : h.vr = 1 ∨ h.vr = 2 := by have : 1 ≤ h.vr ∧ h.vr ≤ 2 := hv.1.2.1; omega
  have hb := parH_back hv hsm hs (payB h.vr p ++ z)
  rw [← List.append_assoc] at hb
  have hl := payB_length h p
  have hc : chsU (hdP h p).vr (hdP h p).sz 0 ((((hbL (hdP h p) ++ payB h.vr p) ++ z).drop (((hbL (hdP h p)).length : Int)).toNat).take (cntU (hdP h p)).toNat) = (p, 0) := by
    rw [← hl, Int.toNat_natCast, Int.toNat_natCast, List.append_assoc, List.drop_left' rfl, List.take_left' rfl]
    exact chs_payB hvr p
  rw [payU_parts hb hc, if_neg (by simp), if_neg, if_neg (by simp), if_neg]
  · rintro (h1 | h1)
    · exact h1 rfl
    · have h2 : prtsB h.es p = false := h1
      rw [hp] at h2
      cases h2
  · unfold blU
    rw [vldH_yes hv, if_pos rfl, ← hl]
    simp only [List.length_append]
    omega
end Go.Proofs.YtjiijjdmkeeilaaDoor
namespace Go.Proofs.YtjiijjdmkeeilaaDoor
open Go.RowKit
set_option linter.unusedVariables false
def exP : List UInt8 := [97, 98, 99]
noncomputable def exE : Ent := ⟨1, 1, 0, 3, crc exP⟩
noncomputable def exH : Hdr := ⟨7, 0, 2, 0, 0, 0, 0, 0, [exE], 0, 0⟩
/-- a call gives the header and its payload -/
def RetHp (w : World) (h : Hdr) (p : List UInt8) (e : Ending) (w' : World) : Prop :=
  ∃ ad n cap pd m pcap, e = .returned (.tuple #[hdV h ad n cap, .slice pd m pcap]) ∧ HdIn w' h ad n cap ∧ Lie w' pd p ∧ m = p.length ∧ m ≤ pcap ∧ pcap ≤ maxLen ∧ (pd = none → pcap = 0) ∧ Below w.heap.size w w'
theorem lie3 (w : World) (o : Obj) : Lie ((w.alloc o).alloc (.cells #[.int .u8 97, .int .u8 98, .int .u8 99] 5 (3, 4))) (some ⟨w.heap.size + 1, 0, none⟩) exP := by
  refine ⟨.inr ⟨w.heap.size + 1, 0, rfl, by simp, fun j hj => ?_⟩⟩
  have h1 := World.cell?_alloc_mark (w.alloc o) #[.int .u8 97, .int .u8 98, .int .u8 99] 5 (3, 4) j
  rw [World.size_alloc] at h1
  rw [Nat.zero_add, h1]
  have h3 : j < 3 := hj
  obtain rfl | rfl | rfl : j = 0 ∨ j = 1 ∨ j = 2 := by omega
  all_goals rfl
set_option maxRecDepth 100000 in
set_option maxHeartbeats 2000000 in
theorem one_any (w : World) : Calls Tryd.prog 55 #[.int .i64 2] w (RetHp w exH exP) := by
  have kc := Go.Joins.run_convert_bytes_const_at (P := Tryd.prog) (w.alloc (.cells #[.int .i64 0, .int .i64 0, .int .i64 0, .int .i64 0, .int .i64 0, .int .i64 0, .int .i64 0, .int .i64 0, .slice none 0 0, .int .i64 0, .int .u32 0] 25)) 26 5 #[.int .u8 97, .int .u8 98, .int .u8 99] 3 3 (w.heap.size + 1) (by simp) Tryd.underlying26 Tryd.underlying5
  obtain ⟨X0, hX⟩ : ∃ X0, X0 = (w.alloc (.cells #[.int .i64 0, .int .i64 0, .int .i64 0, .int .i64 0, .int .i64 0, .int .i64 0, .int .i64 0, .int .i64 0, .slice none 0 0, .int .i64 0, .int .u32 0] 25)).alloc (.cells #[.int .u8 97, .int .u8 98, .int .u8 99] 5 (3, 4)) := ⟨_, rfl⟩
  have HL : Hid (Lie X0 (some ⟨w.heap.size + 1, 0, none⟩) exP) := Lib.hid (by rw [hX]; exact lie3 w _)
  have HB0 : Hid (Below w.heap.size w X0) := Lib.hid (by rw [hX]; exact co_box2 w _ _)
  go_enter Tryd.func55, Tryd.ntmps55
  go_wp2_with fail
  clear kc
  rw [← hX]
  refine (rcsum_any _ 3 3 exP X0 HL.out rfl (by decide)).mono ?_
  rintro e w' ⟨rfl, rfl⟩
  generalize hc : crc exP = c
  go_wp2_with fail
  refine post_cell2 (cs := hdC exH (some ⟨w.heap.size + 1 + 1, 0, none⟩) 1 1) (x := .slice (some ⟨w.heap.size + 1, 0, none⟩) 3 3) rfl rfl (((co_box2 (w.alloc _) _ _).block w.heap.size (by simp)).trans (heap_alloc_new w _)) Tryd.underlying25 rfl infoHd rfl rfl ?_
  refine ⟨_, 1, 1, _, 3, 3, rfl, ⟨Lf.lits _ _ _ ?_ _ (by simp), rfl, Nat.le_refl _, by decide, fun h => by cases h⟩, (lie3 w _).below (co_box1 _ _) rfl, rfl, Nat.le_refl _, by decide, (fun h => by cases h), (co_box2 w _ _).alloc (by simp; omega) _⟩
  show _ = [exE].flatMap enC
  unfold exE
  rw [hc]
  rfl
end Go.Proofs.YtjiijjdmkeeilaaDoor
namespace Go.Proofs.YtjiijjdmkeeilaaDoor
open Go.RowKit
set_option linter.unusedVariables false
theorem ex_vld : VHdr (hdP exH exP) := by
  refine ⟨?_, ?_, ?_, ?_⟩
  · simp [VNum, hdP, exH, exP]
  · simp [VPlc, hdP, exH]
  · simp [VId, hdP, exH]
  · simp [VEs, hdP, exH, exE, VEnt, sumE, exP]
theorem ex_prts : prtsB exH.es exP = true := by
  unfold exH exE
  rw [prtsB_cons, prtsB_nil]
  simp [exP]
theorem ex_bld : bldR exH exP = (hbL (hdP exH exP) ++ payB 2 exP, hdP exH exP, 0) := by
  unfold bldR
  rw [vldH_yes ex_vld, if_pos rfl, ex_prts, if_pos rfl]
  rfl
theorem ex_pay : payU (hbL (hdP exH exP) ++ payB 2 exP) = (hdP exH exP, exP, 0) := by
  have := payU_back ex_vld (fun e he => by
    have : e ∈ [exE] := he
    rw [List.mem_singleton.1 this]
    exact crc_lt exP) ex_prts []
  rwa [List.append_nil] at this
theorem ex_payB : payB 2 exP = [⟨false, false, exP ++ be4 (crc exP)⟩] := by
  unfold payB pcB piece
  rfl
theorem ex_len : (encH (hdP exH exP)).length + 10 ≤ 64 := by decide +kernel
theorem ex_head : (hbL (hdP exH exP)).length = 1 := by
  rw [hbL_length]
  have h := ex_len
  unfold cntB
  omega
theorem ex_blocks : blU (hdP exH exP) = 2 ∧ hbU (hdP exH exP) = 1 := by
  have hc : cntU (hdP exH exP) = 1 := by
    rw [← payB_length exH exP]
    show ((payB 2 exP).length : Int) = 1
    rw [ex_payB]
    rfl
  unfold blU hbU
  rw [vldH_yes ex_vld, if_pos rfl, if_pos rfl, ex_head, hc]
  exact ⟨rfl, rfl⟩
end Go.Proofs.YtjiijjdmkeeilaaDoor
namespace Go.Proofs.YtjiijjdmkeeilaaDoor
open Go.RowKit
set_option linter.unusedVariables false
/-- the checksums of a header are numbers of 32 bits -/
def Hdr.Fit (h : Hdr) : Prop := h.sm < 4294967296 ∧ ∀ e ∈ h.es, e.s < 4294967296
/-- the eight functions of the package -/
structure CoSide (I : World → Prop) : Prop where
  step : ∀ (w w' : World), I w → Below w.heap.size w w' → I w'
  valid : ∀ (h : Hdr) (ad : Option Addr) (n cap : Nat) (w : World), HdIn w h ad n cap → h.Fit → I w → Calls Tryd.prog 15 #[hdV h ad n cap] w fun e w' => e = .returned (.bool (vldH h)) ∧ Below w.heap.size w w'
  head : ∀ (h : Hdr) (ad : Option Addr) (n cap : Nat) (w : World), HdIn w h ad n cap → h.Fit → I w → Calls Tryd.prog 17 #[hdV h ad n cap] w fun e w' => e = .returned (.int .i64 (hbU h)) ∧ Below w.heap.size w w'
  blocks : ∀ (h : Hdr) (ad : Option Addr) (n cap : Nat) (w : World), HdIn w h ad n cap → h.Fit → I w → Calls Tryd.prog 19 #[hdV h ad n cap] w fun e w' => e = .returned (.int .i64 (blU h)) ∧ Below w.heap.size w w'
  build : ∀ (h : Hdr) (ad : Option Addr) (n cap : Nat) (pd : Option Addr) (m pcap : Nat) (p : List UInt8) (w : World), HdIn w h ad n cap → h.Fit → n ≤ 66 → Lie w pd p → m = p.length → m ≤ pcap → pcap ≤ maxLen → (pd = none → pcap = 0) → m ≤ 600 → I w →
    Calls Tryd.prog 11 #[hdV h ad n cap, .slice pd m pcap] w (RetBH w (bldR h p))
  parse : ∀ (ad : Option Addr) (n cap : Nat) (l : List Blk) (w : World), Ki w ad l → n = l.length → n ≤ cap → cap ≤ maxLen → (ad = none → cap = 0) → n ≤ 200 → (∀ b ∈ l, b.d.length ≤ 100) → I w → Calls Tryd.prog 23 #[.slice ad n cap] w (RetH3 w (parH l))
  payload : ∀ (ad : Option Addr) (n cap : Nat) (l : List Blk) (w : World), Ki w ad l → n = l.length → n ≤ cap → cap ≤ maxLen → (ad = none → cap = 0) → n ≤ 200 → (∀ b ∈ l, b.d.length ≤ 100) → I w → Calls Tryd.prog 25 #[.slice ad n cap] w (RetHBE w (payU l))
  need : ∀ (h : Hdr) (ad : Option Addr) (n cap : Nat) (j o l : Int) (w : World), HdIn w h ad n cap → h.Fit → I w → Calls Tryd.prog 27 #[hdV h ad n cap, .int .i64 j, .int .i64 o, .int .i64 l] w (RetSp w (needU h j o l))
  extract : ∀ (h : Hdr) (ad : Option Addr) (n cap : Nat) (j o l : Int) (bd : Option Addr) (m bcap : Nat) (bl : List Blk) (w : World), HdIn w h ad n cap → h.Fit → Ki w bd bl → m = bl.length → m ≤ bcap → bcap ≤ maxLen → (bd = none → bcap = 0) → m ≤ 200 → (∀ b ∈ bl, b.d.length ≤ 100) → I w →
    Calls Tryd.prog 29 #[hdV h ad n cap, .int .i64 j, .int .i64 o, .int .i64 l, .slice bd m bcap] w (RetBL w (extU h j o l bl))
end Go.Proofs.YtjiijjdmkeeilaaDoor
