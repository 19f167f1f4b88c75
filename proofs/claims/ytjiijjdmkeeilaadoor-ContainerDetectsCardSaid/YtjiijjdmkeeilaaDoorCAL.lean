/-
  What is read of what was written: the mathematics of the consequences P2.5, P2.6, P2.7.
  Plain mathematics: what begins where a frame begins.
  Bytes that lie in a block at or behind another, other than a given one (what the elements of a list of the call's own hold).
-/
import Derived.Test.YtjiijjdmkeeilaaDoorCAK
import Derived.Test.YtjiijjdmkeeilaaDoorCAG
import Derived.Test.YtjiijjdmkeeilaaDoorCAC
namespace Go.Proofs.YtjiijjdmkeeilaaDoor

theorem uR_back (pre rest : List UInt8) (n : Nat) (hn : n < 18446744073709551616) :
    uR (pre ++ (enc n ++ rest)) (pre.length : Nat) = (n, ((pre.length + (enc n).length : Nat) : Int), 0) := by
  have hd : dec 0 0 ((pre ++ (enc n ++ rest)).drop pre.length) = (n, (enc n).length, 0) := by
    rw [List.drop_left, dec_enc n 0 0 rest (by omega) (fun h => absurd h (by omega))]
    simp
  unfold uR
  rw [if_neg (by simp; omega), Int.toNat_natCast, hd]
  rfl
theorem iR_back (pre rest : List UInt8) (n : Int) (h0 : -9223372036854775808 ≤ n) (h1 : n ≤ 9223372036854775807) :
    iR (pre ++ (enc (cod n) ++ rest)) (pre.length : Nat) = (n, ((pre.length + (enc (cod n)).length : Nat) : Int), 0) := by
  unfold iR
  rw [uR_back pre rest _ (cod_lt n h0 h1)]
  simp only [if_true, dcd_cod]
theorem size_toList (s : ByteArray) : s.data.toList.length = s.size := by rw [Array.length_toList]; rfl
theorem tR_back (pre rest : List UInt8) (s : ByteArray) (hs : s.size < 18446744073709551616) :
    tR (pre ++ (encT s ++ rest)) (pre.length : Nat) (s.size : Nat) = (s, ((pre.length + (encT s).length : Nat) : Int), 0) := by
  have e : pre ++ (encT s ++ rest) = pre ++ (enc s.size ++ (s.data.toList ++ rest)) := by simp [encT]
  have hl : (encT s).length = (enc s.size).length + s.size := by rw [encT, List.length_append, size_toList]
  have hd : ((pre ++ (enc s.size ++ (s.data.toList ++ rest))).drop (pre.length + (enc s.size).length)).take s.size = s.data.toList := by
    rw [← List.append_assoc, ← List.length_append, List.drop_left, List.take_append_of_le_length (by rw [size_toList]; omega), List.take_of_length_le (by rw [size_toList]; omega)]
  unfold tR
  rw [e, uR_back pre _ _ hs]
  dsimp only
  rw [if_neg (by simp), if_neg (by omega), if_neg (by simp only [List.length_append, size_toList]; omega), Int.toNat_natCast, hd, hl]
  simp only [Prod.mk.injEq, and_true]
  refine ⟨by simp, by omega⟩
theorem bR_back (pre rest : List UInt8) (v : Bool) :
    bR (pre ++ (encB v ++ rest)) (pre.length : Nat) = (v, ((pre.length + (encB v).length : Nat) : Int), 0) := by
  unfold bR
  rw [if_neg (by simp; omega), Int.toNat_natCast, List.drop_left]
  cases v <;> simp [encB]

theorem uR_cut (n c : Nat) (hn : n < 18446744073709551616) (hc : c < (enc n).length) : uR ((enc n).take c) 0 = (0, 0, 2) := by
  unfold uR
  rw [if_neg (by simp), show (0 : Int).toNat = 0 from rfl, List.drop_zero, dec_cut n 0 0 c (by omega) (fun h => absurd h (by omega)) hc]
  rfl
theorem iR_cut (n : Int) (c : Nat) (h0 : -9223372036854775808 ≤ n) (h1 : n ≤ 9223372036854775807) (hc : c < (enc (cod n)).length) : iR ((enc (cod n)).take c) 0 = (0, 0, 2) := by
  unfold iR
  rw [uR_cut _ c (cod_lt n h0 h1) hc]
  simp
theorem tR_cut (s : ByteArray) (c : Nat) (hs : s.size < 18446744073709551616) (hc : c < (encT s).length) : (tR ((encT s).take c) 0 (s.size : Nat)).2.2 = 2 := by
  have hl : (encT s).length = (enc s.size).length + s.size := by rw [encT, List.length_append, size_toList]
  by_cases h : c < (enc s.size).length
  · have e : (encT s).take c = (enc s.size).take c := by rw [encT, List.take_append_of_le_length (by omega)]
    unfold tR
    rw [e, uR_cut _ c hs h]
    simp
  · have e : (encT s).take c = [] ++ (enc s.size ++ s.data.toList.take (c - (enc s.size).length)) := by
      rw [encT, List.take_append, List.take_of_length_le (by omega)]
      rfl
    have hu := uR_back [] (s.data.toList.take (c - (enc s.size).length)) s.size hs
    simp only [List.length_nil, Nat.zero_add] at hu
    unfold tR
    rw [e, show ((0 : Nat) : Int) = 0 from rfl] at *
    rw [hu]
    dsimp only
    rw [if_neg (by simp), if_neg (by omega), if_pos]
    simp only [List.nil_append, List.length_append, List.length_take, size_toList]
    omega
theorem bR_cut : bR [] 0 = (false, 0, 2) := by decide +kernel

theorem uR_form {xs : List UInt8} {at_ : Int} {n : Nat} {p : Int} (h : uR xs at_ = (n, p, 0)) :
    ∃ a q : Nat, at_ = a ∧ p = q ∧ a < q ∧ q ≤ xs.length ∧ n < 18446744073709551616 ∧ enc n = (xs.drop a).take (q - a) := by
  obtain ⟨hn, a, q, h1, h2, h3, h4, h5⟩ := uR_ok h
  obtain ⟨_, m, hm, hk, he, _⟩ := dec_ok _ _ _ _ _ h5
  refine ⟨a, q, h1, h2, h3, h4, hn, ?_⟩
  obtain rfl : n = m := by omega
  rw [he, Nat.sub_zero]
theorem iR_form {xs : List UInt8} {at_ n p : Int} (h : iR xs at_ = (n, p, 0)) :
    ∃ a q : Nat, at_ = a ∧ p = q ∧ a < q ∧ q ≤ xs.length ∧ (-9223372036854775808 ≤ n ∧ n ≤ 9223372036854775807) ∧ enc (cod n) = (xs.drop a).take (q - a) := by
  unfold iR at h
  rcases hu : uR xs at_ with ⟨m, q, e⟩
  rw [hu] at h
  dsimp only at h
  by_cases he : e = 0
  · subst he
    rw [if_pos rfl] at h
    simp only [Prod.mk.injEq, and_true] at h
    obtain ⟨rfl, rfl⟩ := h
    obtain ⟨a, q, h1, h2, h3, h4, h5, h6⟩ := uR_form hu
    exact ⟨a, q, h1, h2, h3, h4, dcd_bounds m h5, by rw [cod_dcd]; exact h6⟩
  · rw [if_neg he] at h
    simp only [Prod.mk.injEq] at h
    exact absurd h.2.2 he
theorem tR_form {xs : List UInt8} {at_ p : Int} {most : Int} {s : ByteArray} (h : tR xs at_ most = (s, p, 0)) :
    ∃ a q : Nat, at_ = a ∧ p = q ∧ a < q ∧ q ≤ xs.length ∧ s.size ≤ xs.length ∧ encT s = (xs.drop a).take (q - a) := by
  unfold tR at h
  rcases hu : uR xs at_ with ⟨m, q, e⟩
  rw [hu] at h
  dsimp only at h
  by_cases he : e = 0
  · subst he
    rw [if_neg (by simp)] at h
    by_cases h1 : most < 0 ∨ most < (m : Int)
    · rw [if_pos h1] at h; simp at h
    rw [if_neg h1] at h
    by_cases h2 : (xs.length : Int) - q < m
    · rw [if_pos h2] at h; simp at h
    rw [if_neg h2] at h
    simp only [Prod.mk.injEq, and_true] at h
    obtain ⟨rfl, rfl⟩ := h
    obtain ⟨a, q, rfl, rfl, h5, h6, _, h8⟩ := uR_form hu
    have hz : (ByteArray.mk ((xs.drop (q : Int).toNat).take m).toArray).size = m := by
      simp only [ByteArray.size, List.size_toArray, List.length_take, List.length_drop, Int.toNat_natCast]
      omega
    refine ⟨a, q + m, rfl, by simp, by omega, by omega, by rw [hz]; omega, ?_⟩
    unfold encT
    rw [hz, h8, show q + m - a = (q - a) + m by omega, List.take_add, List.drop_drop, show a + (q - a) = q by omega, Int.toNat_natCast]
  · rw [if_pos he] at h
    simp only [Prod.mk.injEq] at h
    exact absurd h.2.2 he
theorem bR_form {xs : List UInt8} {at_ p : Int} {v : Bool} (h : bR xs at_ = (v, p, 0)) :
    ∃ a : Nat, at_ = a ∧ p = ((a + 1 : Nat) : Int) ∧ a + 1 ≤ xs.length ∧ encB v = (xs.drop a).take 1 := by
  by_cases ho : at_ < 0 ∨ xs.length < at_
  · unfold bR at h
    rw [if_pos ho] at h; simp at h
  obtain ⟨a, rfl⟩ : ∃ a : Nat, at_ = a := ⟨at_.toNat, by omega⟩
  by_cases hl : a < xs.length
  · rw [bR_in xs a hl] at h
    by_cases h1 : 1 < (xs[a]).toNat
    · rw [if_pos h1] at h; simp at h
    rw [if_neg h1] at h
    simp only [Prod.mk.injEq, and_true] at h
    obtain ⟨rfl, rfl⟩ := h
    refine ⟨a, rfl, by simp, by omega, ?_⟩
    rw [List.drop_eq_getElem_cons hl, List.take_succ_cons, List.take_zero]
    have hv : (xs[a]).toNat = 0 ∨ (xs[a]).toNat = 1 := by omega
    unfold encB
    rcases hv with hv | hv
    · rw [hv]; congr 1; exact (UInt8.toNat_inj.1 hv).symm
    · rw [hv]; congr 1; exact (UInt8.toNat_inj.1 hv).symm
  · obtain rfl : a = xs.length := by omega
    unfold bR at h
    rw [if_neg ho, Int.toNat_natCast, List.drop_length] at h
    simp at h
end Go.Proofs.YtjiijjdmkeeilaaDoor
namespace Go.Proofs.YtjiijjdmkeeilaaDoor
set_option linter.unusedSimpArgs false

theorem frm_eq (body rest : List UInt8) : frm body ++ rest = 167 :: 60 :: (be4 body.length ++ (be4 (crc (be4 body.length ++ body)) ++ (body ++ rest))) := by
  simp [frm, List.append_assoc]
theorem drop4 (n : Nat) (l : List UInt8) : (be4 n ++ l).drop 4 = l := List.drop_left' (be4_length n)
theorem take4 (n : Nat) (l : List UInt8) : (be4 n ++ l).take 4 = be4 n := List.take_left' (be4_length n)
theorem hd_frm (body rest : List UInt8) (h : body.length ≤ 65536) : hd (frm body ++ rest) = (body.length, 0) := by
  have e2 : (frm body ++ rest).drop 2 = be4 body.length ++ (be4 (crc (be4 body.length ++ body)) ++ (body ++ rest)) := by rw [frm_eq]; rfl
  have e6 : (frm body ++ rest).drop 6 = be4 (crc (be4 body.length ++ body)) ++ (body ++ rest) := by
    rw [show 6 = 2 + 4 from rfl, ← List.drop_drop, e2, drop4]
  have e10 : (frm body ++ rest).drop 10 = body ++ rest := by
    rw [show 10 = 6 + 4 from rfl, ← List.drop_drop, e6, drop4]
  have et : (frm body ++ rest).take 2 = [167, 60] := by rw [frm_eq]; rfl
  have hl : (frm body ++ rest).length = body.length + 10 + rest.length := by rw [List.length_append, frm_length]
  have hn : num4 ((frm body ++ rest).drop 2) = body.length := by rw [e2, num4_be4 _ (by omega)]
  unfold hd
  rw [if_neg (by omega), if_neg (fun h => h et), hn, if_neg (by omega), if_neg (by omega), e6, e10, e2, take4, List.take_left' rfl, num4_be4 _ (crc_lt _), if_neg (fun h => h rfl)]
theorem chk_frm (pre body rest : List UInt8) (h : body.length ≤ 65536) : chk (pre ++ (frm body ++ rest)) pre.length = (((pre.length + body.length + 10 : Nat) : Int), 0) ∧ bodyAt (pre ++ (frm body ++ rest)) pre.length = body := by
  have hd0 : hd ((pre ++ (frm body ++ rest)).drop pre.length) = (body.length, 0) := by rw [List.drop_left' rfl, hd_frm body rest h]
  have hc : chk (pre ++ (frm body ++ rest)) pre.length = (((pre.length + body.length + 10 : Nat) : Int), 0) := by
    rw [chk_nat _ _ (by simp), hd0, if_pos rfl]
    exact Prod.ext (by dsimp only; omega) rfl
  refine ⟨hc, ?_⟩
  obtain ⟨n, hn, _, _, _, hb, _⟩ := chk_ok (xs := pre ++ (frm body ++ rest)) (a := pre.length) (by rw [hc])
  obtain rfl : n = pre.length := by omega
  rw [hb, hd0, ← List.drop_drop, List.drop_left' rfl, show (frm body ++ rest).drop 10 = body ++ rest from ?_, List.take_left' rfl]
  rw [show 10 = 2 + 4 + 4 from rfl, ← List.drop_drop, ← List.drop_drop, frm_eq]
  show ((be4 _ ++ (be4 _ ++ _)).drop 4).drop 4 = _
  rw [drop4, drop4]
end Go.Proofs.YtjiijjdmkeeilaaDoor
namespace Go.Proofs.YtjiijjdmkeeilaaDoor
open Go.RowKit

/-- The bytes l lie at ad, in a block at or behind C, other than x. -/
def LieX (w : World) (C : Nat) (x : Option Nat) (ad : Option Addr) (l : List UInt8) : Prop :=
  l = [] ∨ ∃ b off, ad = some ⟨b, off, none⟩ ∧ C ≤ b ∧ b < w.heap.size ∧ some b ≠ x ∧ ∀ j (h : j < l.length), w.cell? ⟨b, off + j, none⟩ = some (.int .u8 ((l[j]'h).toNat : Int))
section
variable {w w' w0 : World} {B C C' D : Nat} {x : Option Nat} {ad : Option Addr} {l : List UInt8}
theorem LieX.lie (h : LieX w C x ad l) : Lie w ad l := by
  rcases h with h0 | ⟨b, off, e, _, hb, _, hc⟩
  · exact ⟨.inl h0⟩
  · exact ⟨.inr ⟨b, off, e, hb, hc⟩⟩
theorem LieX.of_low (h : Lie w0 ad l) (hb : Below w0.heap.size w0 w) (hx : ∀ g, x = some g → w0.heap.size ≤ g) : LieX w 0 x ad l := by
  rcases h.at_ with h0 | ⟨b, off, e, hlt, hc⟩
  · exact .inl h0
  · exact .inr ⟨b, off, e, Nat.zero_le _, Nat.lt_of_lt_of_le hlt hb.size, fun e' => by have := hx b e'.symm; omega, fun j hj => (hb.cell (p := ⟨b, off + j, none⟩) hlt).trans (hc j hj)⟩
theorem LieX.mono (h : LieX w C x ad l) (hC : C' ≤ C) : LieX w C' x ad l := by
  rcases h with h0 | ⟨b, off, e, h1, h2⟩
  · exact .inl h0
  · exact .inr ⟨b, off, e, Nat.le_trans hC h1, h2⟩
theorem LieX.grown {y : Option Nat} (h : LieX w C x ad l) (hg : w.grownBy w' x) (hy : y = x ∨ y = some w.heap.size) : LieX w' C y ad l := by
  rcases h with h0 | ⟨b, off, e, h1, h2, h3, hc⟩
  · exact .inl h0
  · refine .inr ⟨b, off, e, h1, Nat.lt_of_lt_of_le h2 hg.size, fun e' => ?_, fun j hj => (World.cell?_of_block (a := ⟨b, off + j, none⟩) (hg.block b h2 h3)).trans (hc j hj)⟩
    rcases hy with hy | hy
    · exact h3 (e'.trans hy)
    · rw [hy] at e'
      cases e'
      omega
theorem grown_below (hb : Below w.heap.size w w') (x : Option Nat) : w.grownBy w' x := ⟨hb.os, hb.tape, hb.output, hb.size, fun k hk _ => hb.block k hk⟩
theorem LieX.below (h : LieX w C x ad l) (hb : Below w.heap.size w w') : LieX w' C x ad l := h.grown (grown_below hb x) (.inl rfl)
theorem LieX.other {y : Option Nat} (h : LieX w C x ad l) (hy : ∀ g, y = some g → g < C) : LieX w C y ad l := by
  rcases h with h0 | ⟨b, off, e, h1, h2, h3, hc⟩
  · exact .inl h0
  · exact .inr ⟨b, off, e, h1, h2, fun e' => by have := hy b e'.symm; omega, hc⟩
theorem LieX.of_own {v : Value} (h : Own w D v l) (hx : ∀ g, x = some g → g < D) : ∃ ad cap, v = .slice ad l.length cap ∧ LieX w D x ad l ∧ l.length ≤ cap ∧ cap ≤ maxLen ∧ (ad = none → cap = 0) := by
  obtain ⟨ad, cap, e, hl, h1, h2, h3⟩ := h.slice
  refine ⟨ad, cap, e, ?_, h1, h2, h3⟩
  rcases hl.at_ with h0 | ⟨b, off, e2, hb, hc⟩
  · exact .inl h0
  · have hb2 := (h.lt b (by rw [e, e2]; rfl)).1
    exact .inr ⟨b, off, e2, hb2, hb, fun e' => by have := hx b e'.symm; omega, hc⟩
end
end Go.Proofs.YtjiijjdmkeeilaaDoor
