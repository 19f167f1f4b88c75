/-
  A changed byte of a payload is found by Payload: the mathematics.
-/
import Derived.Test.YtjiijjdmkeeilaaDoorCAZ
import Derived.Test.YtjiijjdmkeeilaaDoorFDet
namespace Go.Proofs.YtjiijjdmkeeilaaDoor
open Go.RowKit
set_option linter.unusedVariables false
theorem set_piece {s : Nat} (hs : s = 60 ∨ s = 64) (p : List UInt8) (a i : Nat) (x : UInt8) : piece s (p.set a x) i = if i = a / s then (piece s p i).set (a % s) x else piece s p i := by
  unfold piece
  rw [List.drop_set]
  by_cases h1 : a < s * i
  · rw [if_pos h1, if_neg (by rcases hs with rfl | rfl <;> omega)]
  · rw [if_neg h1, List.take_set]
    by_cases h2 : i = a / s
    · rw [if_pos h2, show a - s * i = a % s by rcases hs with rfl | rfl <;> omega]
    · rw [if_neg h2, List.set_eq_of_length_le]
      rw [List.length_take]
      rcases hs with rfl | rfl <;> omega
theorem piece_get {s : Nat} {p : List UInt8} {k i : Nat} (h : i < (piece s p k).length) (h2 : s * k + i < p.length) : (piece s p k)[i] = p[s * k + i] := by simp [piece]
/-- the blocks of a payload, a byte of one of them changed -/
def chgB (v : Int) (p : List UInt8) (a : Nat) (x : UInt8) : List Blk := (payB v p).set (a / szP v) ⟨false, false, (pcB v (piece (szP v) p (a / szP v))).d.set (a % szP v) x⟩
theorem chgB_1 (p : List UInt8) (a : Nat) (x : UInt8) : chgB 1 p a x = payB 1 (p.set a x) := by
  have hs : szP 1 = 64 := rfl
  unfold chgB payB
  rw [hs, List.length_set]
  refine List.ext_getElem (by simp) fun i h1 h2 => ?_
  rw [List.getElem_set, List.getElem_map, List.getElem_map, List.getElem_range, set_piece (.inr rfl)]
  by_cases h : a / 64 = i
  · rw [if_pos h, if_pos h.symm]
    subst h
    simp [pcB]
  · rw [if_neg h, if_neg (fun h' => h h'.symm)]
theorem chgB_length (v : Int) (p : List UInt8) (a : Nat) (x : UInt8) : (chgB v p a x).length = (payB v p).length := by unfold chgB; rw [List.length_set]
/-- a changed byte is found -/
theorem payU_chg {h : Hdr} {p : List UInt8} (hv : VHdr (hdP h p)) (hs : ∀ e ∈ h.es, e.s < 4294967296) {a : Nat} (ha : a < p.length) {d : UInt8} (hd : d ≠ 0) :
    payU (hbL (hdP h p) ++ chgB h.vr p a (p[a] ^^^ d)) = (.zero, [], 4) := by
  have hsm : (hdP h p).sm < 4294967296 := crc_lt p
  have hvr : h.vr = 1 ∨ h.vr = 2 := by have : 1 ≤ h.vr ∧ h.vr ≤ 2 := hv.1.2.1; omega
  have hb := parH_back hv hsm hs (chgB h.vr p a (p[a] ^^^ d))
  have hl : ((chgB h.vr p a (p[a] ^^^ d)).length : Int) = cntU (hdP h p) := by rw [chgB_length]; exact payB_length h p
  have hT : (((hbL (hdP h p) ++ chgB h.vr p a (p[a] ^^^ d)).drop (((hbL (hdP h p)).length : Int)).toNat).take (cntU (hdP h p)).toNat) = chgB h.vr p a (p[a] ^^^ d) := by
    rw [← hl, Int.toNat_natCast, Int.toNat_natCast, List.drop_left' rfl, List.take_length]
  have hbu : ¬ ((hbL (hdP h p) ++ chgB h.vr p a (p[a] ^^^ d)).length : Int) < blU (hdP h p) := by
    unfold blU
    rw [vldH_yes hv, if_pos rfl, ← hl, List.length_append]
    omega
  have hsz : (hdP h p).sz = (p.length : Int) := rfl
  rcases hvr with hv1 | hv2
  · have e : chgB h.vr p a (p[a] ^^^ d) = payB 1 (p.set a (p[a] ^^^ d)) := by rw [hv1]; exact chgB_1 _ _ _
    have hc : chsU (hdP h p).vr (hdP h p).sz 0 (((hbL (hdP h p) ++ chgB h.vr p a (p[a] ^^^ d)).drop (((hbL (hdP h p)).length : Int)).toNat).take (cntU (hdP h p)).toNat) = (p.set a (p[a] ^^^ d), 0) := by
      rw [hT, e, show (hdP h p).vr = 1 from hv1, hsz]
      have := chs_payB (v := 1) (.inl rfl) (p.set a (p[a] ^^^ d))
      rwa [List.length_set] at this
    rw [payU_parts hb hc, if_neg (by simp), if_neg hbu, if_neg (by simp), if_pos (.inl (crc_put p a ha d hd))]
  · have hc : chsU (hdP h p).vr (hdP h p).sz 0 (((hbL (hdP h p) ++ chgB h.vr p a (p[a] ^^^ d)).drop (((hbL (hdP h p)).length : Int)).toNat).take (cntU (hdP h p)).toNat) = ([], 4) := by
      rw [hT, show (hdP h p).vr = 2 from hv2, hsz, hv2]
      have hs2 : szP 2 = 60 := rfl
      have hNl : (payB 2 p).length = (p.length + 60 - 1) / 60 := by unfold payB; rw [List.length_map, List.length_range, hs2]
      have hi : a / 60 < (chgB 2 p a (p[a] ^^^ d)).length := by rw [chgB_length, hNl]; omega
      have ht : (chgB 2 p a (p[a] ^^^ d)).take (a / 60) = (List.range (a / 60)).map fun j => pcB 2 (piece (szP 2) p (0 + j)) := by
        have := payB_part 2 p 0 (a / 60) (by rw [hNl]; omega)
        rw [List.drop_zero] at this
        rw [← this]
        unfold chgB
        rw [hs2, List.take_set_of_le (Nat.le_refl _)]
      have h0 := chs_pieces (v := 2) (.inr rfl) p (a / 60) 0 (by rw [hs2]; omega)
      rw [← ht] at h0
      have hk : (chkU 2 (p.length : Int) ((0 : Int) + ((a / 60 : Nat) : Int)) (chgB 2 p a (p[a] ^^^ d))[a / 60]) = ([], 4) := by
        have hg : (chgB 2 p a (p[a] ^^^ d))[a / 60] = ⟨false, false, (piece 60 p (a / 60) ++ be4 (crc (piece 60 p (a / 60)))).set (a % 60) (p[a] ^^^ d)⟩ := by
          unfold chgB
          simp only [hs2, List.getElem_set_self]
          rfl
        have hn := piece_nU (v := 2) (p := p) (i := a / 60) (by rw [hs2]; omega)
        rw [hs2] at hn
        have hql : a % 60 < (piece 60 p (a / 60)).length := by rw [piece_len]; omega
        have hqa : (piece 60 p (a / 60))[a % 60] = p[a] := by
          have e : 60 * (a / 60) + a % 60 = a := by omega
          rw [piece_get hql (by omega)]
          simp only [e]
        rw [hg, Int.zero_add]
        unfold chkU
        rw [hn]
        generalize piece 60 p (a / 60) = q at *
        have h4 : (be4 (crc q)).length = 4 := rfl
        have hcq := crc_put q (a % 60) hql d hd
        rw [hqa] at hcq
        rw [if_neg (by simp), if_neg (by simp [h4]), if_pos]
        refine ⟨rfl, ?_⟩
        dsimp only
        rw [List.set_append_left _ _ hql, Int.toNat_natCast, List.take_left' (by simp), List.drop_left' (by simp)]
        intro he
        have g1 := num4_be4 _ (crc_lt (q.set (a % 60) (p[a] ^^^ d))) []
        have g2 := num4_be4 _ (crc_lt q) []
        rw [he, g2] at g1
        exact hcq g1.symm
      have := (chs_more 2 (p.length : Int) (chgB 2 p a (p[a] ^^^ d)) 0 (a / 60) hi (congrArg Prod.snd h0)).2 (by rw [hk]; simp)
      rw [this, hk]
    rw [payU_parts hb hc, if_neg (by simp), if_neg hbu, if_pos (by simp)]
end Go.Proofs.YtjiijjdmkeeilaaDoor
