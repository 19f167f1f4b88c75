/-
  What was encoded is decoded: headers.
  What is decoded was encoded in this one form: headers.
-/
import Derived.Test.YtjiijjdmkeeilaaDoorCAS
import Derived.Test.YtjiijjdmkeeilaaDoorCAE
import Derived.Test.YtjiijjdmkeeilaaDoorCAL
namespace Go.Proofs.YtjiijjdmkeeilaaDoor
open Go.RowKit
set_option linter.unusedVariables false
theorem nxt_back (pre rest : List UInt8) (x : Int) (h0 : 0 ≤ x) (h1 : x ≤ 1125899906842624) :
    nxtU (pre ++ (enc x.toNat ++ rest)) (pre.length : Nat) false = (x, ((pre.length + (enc x.toNat).length : Nat) : Int), false) := by
  unfold nxtU
  rw [uR_back pre rest x.toNat (by omega)]
  rw [if_neg (by rintro (h | h | h); cases h; exact h rfl; dsimp only at h; omega)]
  dsimp only
  rw [Int.toNat_of_nonneg h0]
theorem uR_big (pre rest : List UInt8) (n : Nat) (hn : n < 18446744073709551616) : (uR (pre ++ (enc n ++ rest)) (pre.length : Nat)).1 = n := by rw [uR_back pre rest n hn]
theorem cks_back (pre rest : List UInt8) (s : Nat) (hs : s < 4294967296) :
    cksU (pre ++ (enc ((s : Int) + 4294967296).toNat ++ rest)) (pre.length : Nat) false = (s, ((pre.length + (enc ((s : Int) + 4294967296).toNat).length : Nat) : Int), false) := by
  unfold cksU
  rw [nxt_back pre rest ((s : Int) + 4294967296) (by omega) (by omega)]
  rw [if_neg (by dsimp only; omega)]
  dsimp only
  have : ((s : Int) + 4294967296 - 4294967296).toNat = s := by omega
  rw [this]
theorem encN_nil : encN [] = [] := rfl
theorem encN_append (l m : List Int) : encN (l ++ m) = encN l ++ encN m := by simp [encN]
theorem encN_cons (x : Int) (l : List Int) : encN (x :: l) = enc x.toNat ++ encN l := by simp [encN]
theorem encN_split (ns : List Int) (i : Nat) (hi : i < ns.length) : encN ns = encN (ns.take i) ++ (enc (ns[i]).toNat ++ encN (ns.drop (i + 1))) := by
  rw [← encN_cons, ← List.drop_eq_getElem_cons hi, ← encN_append, List.take_append_drop]
theorem encN_next (ns : List Int) (i : Nat) (hi : i < ns.length) : encN (ns.take (i + 1)) = encN (ns.take i) ++ enc (ns[i]).toNat := by
  rw [List.take_succ_eq_append_getElem hi, encN_snoc]
theorem off_next (pre : List UInt8) (ns : List Int) (i : Nat) (hi : i < ns.length) : (pre ++ encN (ns.take (i + 1))).length = (pre ++ encN (ns.take i)).length + (enc (ns[i]).toNat).length := by
  rw [encN_next ns i hi]
  simp [Nat.add_assoc]
/-- a number that was written is the next one -/
theorem nx_at {p pre rest : List UInt8} {ns : List Int} (hp : p = pre ++ (encN ns ++ rest)) (i : Nat) (hi : i < ns.length) (h0 : 0 ≤ ns[i]) (h1 : ns[i] ≤ 1125899906842624) :
    nxI p (((pre ++ encN (ns.take i)).length : Nat), false) = ns[i] ∧ nsI p (((pre ++ encN (ns.take i)).length : Nat), false) = ((((pre ++ encN (ns.take (i + 1))).length : Nat) : Int), false) := by
  have e : p = (pre ++ encN (ns.take i)) ++ (enc (ns[i]).toNat ++ (encN (ns.drop (i + 1)) ++ rest)) := by
    rw [hp, encN_split ns i hi]
    simp [List.append_assoc]
  have h := nxt_back (pre ++ encN (ns.take i)) (encN (ns.drop (i + 1)) ++ rest) ns[i] h0 h1
  rw [← e] at h
  unfold nxI nsI
  rw [h]
  refine ⟨rfl, ?_⟩
  rw [off_next pre ns i hi]
theorem ck_at {p pre rest : List UInt8} {ns : List Int} (hp : p = pre ++ (encN ns ++ rest)) (i : Nat) (hi : i < ns.length) (s : Nat) (hs : s < 4294967296) (hx : ns[i] = (s : Int) + 4294967296) :
    cksU p ((pre ++ encN (ns.take i)).length : Nat) false = (s, (((pre ++ encN (ns.take (i + 1))).length : Nat) : Int), false) := by
  have e : p = (pre ++ encN (ns.take i)) ++ (enc ((s : Int) + 4294967296).toNat ++ (encN (ns.drop (i + 1)) ++ rest)) := by
    rw [hp, encN_split ns i hi, hx]
    simp [List.append_assoc]
  have h := cks_back (pre ++ encN (ns.take i)) (encN (ns.drop (i + 1)) ++ rest) s hs
  rw [← e] at h
  rw [h, off_next pre ns i hi, hx]
/-- an entry that was written is the next one -/
theorem ent_at {p pre rest : List UInt8} {e : Ent} (hp : p = pre ++ (encN (enN e) ++ rest)) (hv : VEnt e) (hs : e.s < 4294967296) :
    entU p ((pre.length : Nat), false) = (e, (((pre ++ encN (enN e)).length : Nat) : Int), false) := by
  obtain ⟨v1, v2, v3, v4, v5⟩ := hv
  have hl : (enN e).length = 5 := rfl
  have a0 := nx_at hp 0 (by rw [hl]; omega) (by show 0 ≤ e.f; omega) (by show e.f ≤ _; omega)
  have a1 := nx_at hp 1 (by rw [hl]; omega) (by show 0 ≤ e.v; omega) (by show e.v ≤ _; omega)
  have a2 := nx_at hp 2 (by rw [hl]; omega) (by show 0 ≤ e.o; omega) (by show e.o ≤ _; omega)
  have a3 := nx_at hp 3 (by rw [hl]; omega) (by show 0 ≤ e.n; omega) (by show e.n ≤ _; omega)
  have a4 := ck_at hp 4 (by rw [hl]; omega) e.s hs rfl
  have e0 : (pre ++ encN ((enN e).take 0)).length = pre.length := by simp [encN]
  rw [e0] at a0
  have t5 : (enN e).take 5 = enN e := List.take_of_length_le (by rw [hl]; omega)
  rw [show 4 + 1 = 5 from rfl, t5] at a4
  unfold entU
  rw [a0.1, a0.2, a1.1, a1.2, a2.1, a2.2, a3.1, a3.2]
  dsimp only
  rw [a4]
  rfl
theorem encEs_cons (e : Ent) (l : List Ent) : encEs (e :: l) = encN (enN e) ++ encEs l := by simp [encEs]
theorem ents_at : ∀ (l : List Ent) {p pre rest : List UInt8}, p = pre ++ (encEs l ++ rest) → (∀ e ∈ l, VEnt e) → (∀ e ∈ l, e.s < 4294967296) →
    entsU p l.length ((pre.length : Nat), false) = (l, (((pre ++ encEs l).length : Nat) : Int), false)
  | [], p, pre, rest, hp, _, _ => by simp [entsU, encEs]
  | e :: l, p, pre, rest, hp, hv, hs => by
    have h1 := ent_at (p := p) (pre := pre) (rest := encEs l ++ rest) (e := e) (by rw [hp, encEs_cons, List.append_assoc]) (hv e (by simp)) (hs e (by simp))
    have h2 := ents_at l (p := p) (pre := pre ++ encN (enN e)) (rest := rest) (by rw [hp, encEs_cons]; simp [List.append_assoc]) (fun x hx => hv x (by simp [hx])) (fun x hx => hs x (by simp [hx]))
    rw [List.length_cons, entsU_good, h1]
    dsimp only
    rw [h2, encEs_cons]
    simp [List.append_assoc]
theorem hdN_small {h : Hdr} (hv : VHdr h) : ∀ x ∈ hdN h, 0 ≤ x ∧ x ≤ 1125899906842624 := by
  have hc := VEs.count hv
  obtain ⟨⟨⟨a1, a2⟩, ⟨b1, b2⟩, ⟨c1, c2⟩, ⟨d1, d2⟩⟩, hp, hi, _⟩ := hv
  intro x hx
  unfold VId at hi
  unfold VPlc at hp
  simp only [hdN, List.mem_cons, List.not_mem_nil, or_false] at hx
  have hid : 0 ≤ h.id ∧ h.id ≤ 1125899906842624 := by split at hi <;> omega
  have hpl : (0 ≤ h.st ∧ h.st ≤ 1125899906842624) ∧ (0 ≤ h.ix ∧ h.ix ≤ 100) ∧ (0 ≤ h.da ∧ h.da ≤ 16) ∧ (0 ≤ h.pa ∧ h.pa ≤ 16) := by
    split at hp
    · omega
    · obtain ⟨p1, p2, p3, p4, p5, p6⟩ := hp
      split at p6 <;> omega
  rcases hx with rfl | rfl | rfl | rfl | rfl | rfl | rfl | rfl | rfl <;> omega
theorem hdr_of_N (h : Hdr) (hl : (hdN h).length = 9) : (⟨(hdN h)[0]'(by omega), (hdN h)[1]'(by omega), (hdN h)[2]'(by omega), (hdN h)[3]'(by omega), (hdN h)[4]'(by omega), (hdN h)[5]'(by omega), (hdN h)[6]'(by omega), (hdN h)[7]'(by omega), h.es, h.sz, h.sm⟩ : Hdr) = h := by
  cases h; rfl
theorem encH_at (h : Hdr) : encH h = [] ++ (encN (hdN h) ++ (encEs h.es ++ encN (tlN h))) := by rw [encH_eq, List.nil_append, List.append_assoc]
theorem hdN_len (h : Hdr) : (hdN h).length = 9 := rfl
theorem tlN_len (h : Hdr) : (tlN h).length = 2 := rfl
theorem nk_step (p : List UInt8) (k : Nat) : nk p (k + 1) = nsI p (nk p k) := rfl
theorem nk_gen {p rest : List UInt8} {ns : List Int} (hp : p = [] ++ (encN ns ++ rest)) (hb : ∀ x ∈ ns, 0 ≤ x ∧ x ≤ 1125899906842624) : ∀ k, k ≤ ns.length → nk p k = ((((([] : List UInt8) ++ encN (ns.take k)).length : Nat) : Int), false)
  | 0, _ => by simp [nk, encN]
  | k + 1, hk9 => by
    have hi : k < ns.length := hk9
    have hm : ns[k] ∈ ns := List.getElem_mem _
    rw [nk_step, nk_gen hp hb k (by omega), (nx_at hp k hi (hb _ hm).1 (hb _ hm).2).2]
theorem nk_at {h : Hdr} (hv : VHdr h) (k : Nat) (hk : k ≤ 9) : nk (encH h) k = ((((([] : List UInt8) ++ encN ((hdN h).take k)).length : Nat) : Int), false) :=
  nk_gen (encH_at h) (hdN_small hv) k hk
theorem hx_at {h : Hdr} (hv : VHdr h) (k : Nat) (hi : k < (hdN h).length) : nxI (encH h) (nk (encH h) k) = (hdN h)[k] := by
  have hm : (hdN h)[k] ∈ hdN h := List.getElem_mem _
  rw [nk_at hv k (by rw [hdN_len] at hi; omega)]
  exact (nx_at (encH_at h) k hi (hdN_small hv _ hm).1 (hdN_small hv _ hm).2).1
theorem hdN_8 (h : Hdr) (hi : 8 < (hdN h).length) : ((hdN h)[8]).toNat = h.es.length := by
  show ((h.es.length : Int)).toNat = _
  omega
attribute [local irreducible] nk nxI nsI cksU entsU entU encN encEs
theorem dec9_at {h : Hdr} (hv : VHdr h) (hs : ∀ e ∈ h.es, e.s < 4294967296) : dec9 (encH h) = (h.es, (((encN (hdN h) ++ encEs h.es).length : Nat) : Int), false) := by
  have h9 : (hdN h).take 9 = hdN h := List.take_of_length_le (by rw [hdN_len]; omega)
  unfold dec9
  rw [hx_at hv 8 (by rw [hdN_len]; omega), nk_at hv 9 (Nat.le_refl _), h9, List.nil_append, hdN_8]
  exact ents_at h.es (rest := encN (tlN h)) (by rw [encH_eq, List.append_assoc]) (VEs.all hv) hs
theorem tail_at {h : Hdr} (hv : VHdr h) (hsm : h.sm < 4294967296) : nxI (encH h) ((((encN (hdN h) ++ encEs h.es).length : Nat) : Int), false) = h.sz ∧
    cksU (encH h) (nsI (encH h) ((((encN (hdN h) ++ encEs h.es).length : Nat) : Int), false)).1 (nsI (encH h) ((((encN (hdN h) ++ encEs h.es).length : Nat) : Int), false)).2 = (h.sm, ((encH h).length : Int), false) := by
  have hp2 : encH h = (encN (hdN h) ++ encEs h.es) ++ (encN (tlN h) ++ []) := by rw [encH_eq, List.append_nil]
  have hsz := hv.1.2.2.2
  have t0 := nx_at hp2 0 (by rw [tlN_len]; omega) (by show 0 ≤ h.sz; omega) (by show h.sz ≤ _; omega)
  have t1 := ck_at hp2 1 (by rw [tlN_len]; omega) h.sm hsm rfl
  rw [List.take_zero, encN_nil, List.append_nil] at t0
  have z2 : (tlN h).take (1 + 1) = tlN h := List.take_of_length_le (by rw [tlN_len]; omega)
  rw [z2, ← encH_eq] at t1
  rw [t0.2]
  exact ⟨t0.1, t1⟩
/-- ROUND TRIP -/
theorem dec_enc_hdr {h : Hdr} (hv : VHdr h) (hsm : h.sm < 4294967296) (hs : ∀ e ∈ h.es, e.s < 4294967296) : decU (encH h) = (h, true) := by
  have hl : (hdN h).length = 9 := hdN_len h
  have hd9 := dec9_at hv hs
  obtain ⟨t0, t1⟩ := tail_at hv hsm
  have hsm2 : hdD (encH h) = h := by
    unfold hdD
    rw [hd9]
    dsimp only
    rw [t0, t1, hx_at hv 0 (by omega), hx_at hv 1 (by omega), hx_at hv 2 (by omega), hx_at hv 3 (by omega), hx_at hv 4 (by omega), hx_at hv 5 (by omega), hx_at hv 6 (by omega), hx_at hv 7 (by omega)]
    exact hdr_of_N h hl
  unfold decU decS
  rw [hsm2, hd9]
  dsimp only
  rw [t1, vldH_yes hv]
  simp
end Go.Proofs.YtjiijjdmkeeilaaDoor
namespace Go.Proofs.YtjiijjdmkeeilaaDoor
open Go.RowKit
set_option linter.unusedVariables false
/-- the bytes from a to b -/
structure Seg (p : List UInt8) (a b : Nat) (xs : List UInt8) : Prop where
  le : a ≤ b
  mx : b ≤ p.length
  eq : (p.drop a).take (b - a) = xs
theorem Seg.trans {p xs ys : List UInt8} {a b c : Nat} (h : Seg p a b xs) (k : Seg p b c ys) : Seg p a c (xs ++ ys) := by
  refine ⟨Nat.le_trans h.le k.le, k.mx, ?_⟩
  have e : c - a = (b - a) + (c - b) := by have := h.le; have := k.le; omega
  rw [e, List.take_add, h.eq, List.drop_drop, show a + (b - a) = b by have := h.le; omega, k.eq]
theorem Seg.all {p xs : List UInt8} (h : Seg p 0 p.length xs) : p = xs := by
  have := h.eq
  rw [Nat.sub_zero, List.drop_zero, List.take_length] at this
  exact this
theorem nx_seg {p : List UInt8} {s : Int × Bool} (h : (nsI p s).2 = false) : Seg p s.1.toNat (nsI p s).1.toNat (enc (nxI p s).toNat) ∧ 0 ≤ nxI p s := by
  obtain ⟨A, bad⟩ := s
  unfold nsI nxI at *
  dsimp only at *
  obtain ⟨hb, h0, h1, h2⟩ := nxtU_ok h
  unfold nxtU at *
  split at h
  · simp at h
  · rename_i hc
    rw [if_neg hc] at *
    have he : (uR p A).2.2 = 0 := Decidable.byContradiction fun h' => hc (.inr (.inl h'))
    obtain ⟨a, q, e1, e2, e3, e4, -, e5⟩ := uR_form (xs := p) (at_ := A) (n := (uR p A).1) (p := (uR p A).2.1) (by rw [← he])
    dsimp only at *
    rw [e2, Int.toNat_natCast, Int.toNat_natCast, e5, e1, Int.toNat_natCast]
    exact ⟨⟨by omega, e4, rfl⟩, by omega⟩
theorem ck_seg {p : List UInt8} {s : Int × Bool} (h : (cksU p s.1 s.2).2.2 = false) : Seg p s.1.toNat (cksU p s.1 s.2).2.1.toNat (enc (((cksU p s.1 s.2).1 : Int) + 4294967296).toNat) := by
  obtain ⟨h1, e1⟩ := cksU_ok h
  obtain ⟨hs, h0⟩ := nx_seg (p := p) (s := s) h1
  have e2 : ((cksU p s.1 s.2).1 : Int) + 4294967296 = nxI p s := by
    unfold nxI
    unfold cksU at h ⊢
    split at h
    · simp at h
    · rename_i hc
      rw [if_neg hc]
      dsimp only
      omega
  rw [e1, e2]
  exact hs
theorem ent_seg {p : List UInt8} {s : Int × Bool} (h : (entU p s).2.2 = false) : Seg p s.1.toNat (entU p s).2.1.toNat (encN (enN (entU p s).1)) := by
  have h5 : (cksU p (nsI p (nsI p (nsI p (nsI p s)))).1 (nsI p (nsI p (nsI p (nsI p s)))).2).2.2 = false := h
  obtain ⟨h4', _⟩ := cksU_ok h5
  obtain ⟨h4, _⟩ := nxtU_ok h4'
  obtain ⟨h3, _⟩ := nsI_ok h4
  obtain ⟨h2, _⟩ := nsI_ok h3
  obtain ⟨h1, _⟩ := nsI_ok h2
  have a1 := (nx_seg h1).1
  have a2 := (nx_seg h2).1
  have a3 := (nx_seg h3).1
  have a4 := (nx_seg h4).1
  have a5 := ck_seg h5
  have := (((a1.trans a2).trans a3).trans a4).trans a5
  have e : encN (enN (entU p s).1) = (((enc (nxI p s).toNat ++ enc (nxI p (nsI p s)).toNat) ++ enc (nxI p (nsI p (nsI p s))).toNat) ++ enc (nxI p (nsI p (nsI p (nsI p s)))).toNat) ++ enc (((cksU p (nsI p (nsI p (nsI p (nsI p s)))).1 (nsI p (nsI p (nsI p (nsI p s)))).2).1 : Int) + 4294967296).toNat := by
    simp [entU, enN, encN]
  rw [e]
  exact this
theorem ents_seg {p : List UInt8} : ∀ (k : Nat) {s : Int × Bool}, 0 ≤ s.1 → s.1.toNat ≤ p.length → (entsU p k s).2.2 = false → s.2 = false ∧ (entsU p k s).1.length = k ∧ Seg p s.1.toNat (entsU p k s).2.1.toNat (encEs (entsU p k s).1)
  | 0, s, h0, hm, h => ⟨h, rfl, ⟨Nat.le_refl _, hm, by simp [entsU, encEs]⟩⟩
  | k + 1, (A, bad), h0, hm, h => by
    cases bad
    · rw [entsU_good] at h ⊢
      dsimp only at h ⊢
      have hb : (entU p (A, false)).2.2 = false := by
        cases hq : (entU p (A, false)).2.2 with
        | false => rfl
        | true =>
          have e : (entU p (A, false)).2 = ((entU p (A, false)).2.1, true) := by rw [← hq]
          rw [e, entsU_bad] at h
          cases h
      obtain ⟨_, b0, b1, b2⟩ := entU_ok hb
      obtain ⟨_, hl, hs⟩ := ents_seg k (s := (entU p (A, false)).2) (by omega) (by omega) h
      refine ⟨rfl, by rw [List.length_cons, hl], ?_⟩
      rw [encEs_cons]
      exact (ent_seg hb).trans hs
    · rw [entsU_bad] at h
      cases h
theorem nk_good {p : List UInt8} : ∀ (k : Nat), (nk p k).2 = false → (nk p k).1.toNat ≤ p.length ∧ 0 ≤ (nk p k).1 ∧ (∀ j, j < k → (nk p j).2 = false) ∧ Seg p 0 (nk p k).1.toNat (encN ((List.range k).map fun j => nxI p (nk p j)))
  | 0, _ => ⟨Nat.zero_le _, Int.le_refl _, fun j h => by omega, ⟨Nat.zero_le _, Nat.zero_le _, by simp [encN, nk]⟩⟩
  | k + 1, h => by
    have h' : (nsI p (nk p k)).2 = false := h
    obtain ⟨g1, g2, g3, g4⟩ := nsI_ok h'
    obtain ⟨i1, i2, i3, i4⟩ := nk_good k g1
    refine ⟨?_, ?_, ?_, ?_⟩
    · show (nsI p (nk p k)).1.toNat ≤ _; omega
    · show 0 ≤ (nsI p (nk p k)).1; omega
    · intro j hj
      rcases Nat.lt_or_ge j k with hk | hk
      · exact i3 j hk
      · obtain rfl : j = k := by omega
        exact g1
    · rw [List.range_succ, List.map_append, encN_append]
      have := i4.trans (nx_seg h').1
      rw [show encN (List.map (fun j => nxI p (nk p j)) [k]) = enc (nxI p (nk p k)).toNat by simp [encN]]
      exact this
/-- ONE FORM -/
theorem dec_form {p : List UInt8} (h : (decU p).2 = true) : p = encH (decU p).1 ∧ VHdr (decU p).1 := by
  unfold decU at h ⊢
  dsimp only at h ⊢
  rw [Bool.and_eq_true, Bool.and_eq_true, decide_eq_true_iff, Bool.not_eq_true'] at h
  obtain ⟨⟨hb, hl⟩, hv⟩ := h
  refine ⟨?_, vldH_iff.1 hv⟩
  have hb5 : (cksU p (nsI p (dec9 p).2).1 (nsI p (dec9 p).2).2).2.2 = false := hb
  obtain ⟨h4', _⟩ := cksU_ok hb5
  obtain ⟨h4, _⟩ := nxtU_ok h4'
  obtain ⟨h3, _⟩ := nsI_ok h4
  have h9 : (nk p 9).2 = false := by
    unfold dec9 at h3
    cases hq : (nk p 9).2 with
    | false => rfl
    | true =>
      have e : nk p 9 = ((nk p 9).1, true) := by rw [← hq]
      rw [e, entsU_bad] at h3
      cases h3
  obtain ⟨i1, i2, i3, i4⟩ := nk_good 9 h9
  obtain ⟨_, hlen, hseg⟩ := ents_seg (nxI p (nk p 8)).toNat i2 i1 h3
  have hseg2 : Seg p (nk p 9).1.toNat (dec9 p).2.1.toNat (encEs (dec9 p).1) := hseg
  have a1 := (nx_seg h4).1
  have a2 := ck_seg hb5
  have hall := ((i4.trans hseg2).trans a1).trans a2
  have h8 := (nx_seg (p := p) (s := nk p 8) h9).2
  have hl2 : (cksU p (nsI p (dec9 p).2).1 (nsI p (dec9 p).2).2).2.1.toNat = p.length := by
    have : (decS p).1 = (p.length : Int) := hl
    unfold decS at this
    rw [this, Int.toNat_natCast]
  have e8 : ((dec9 p).1.length : Int) = nxI p (nk p 8) := by
    show ((entsU p (nxI p (nk p 8)).toNat (nk p 9)).1.length : Int) = _
    rw [hlen, Int.toNat_of_nonneg h8]
  have hh : hdN (hdD p) = (List.range 9).map fun j => nxI p (nk p j) := by
    have e : (List.range 9).map (fun j => nxI p (nk p j)) = [nxI p (nk p 0), nxI p (nk p 1), nxI p (nk p 2), nxI p (nk p 3), nxI p (nk p 4), nxI p (nk p 5), nxI p (nk p 6), nxI p (nk p 7), nxI p (nk p 8)] := rfl
    rw [e, ← e8]
    rfl
  have ht : encN (tlN (hdD p)) = enc (nxI p (dec9 p).2).toNat ++ enc (((cksU p (nsI p (dec9 p).2).1 (nsI p (dec9 p).2).2).1 : Int) + 4294967296).toNat := by
    simp [tlN, hdD, encN]
  rw [encH_eq, hh, ht, ← List.append_assoc]
  rw [hl2] at hall
  exact hall.all
end Go.Proofs.YtjiijjdmkeeilaaDoor
