/-
  Steps of a region that draws its order: an operation that its guard passes over, two that may come up, and what goes on behind one.
  The specification's put, mark, encode.
  The specification's encode.
-/
import Derived.Test.YtjiijjdmkeeilaaDoorCAD
import Derived.Deep.RegionWith
import Derived.Test.YtjiijjdmkeeilaaDoorCAC
import Derived.IntWalk
namespace Go.Proofs.YtjiijjdmkeeilaaDoor
open Go.RowKit
theorem held_go {P : Program} {md : Region.Mode} {ops : Array Oper} {Q : Exit → Act → World → Prop} {S : World → Prop} {fuel : Nat} {listed : Array Bool} {K' : Act → World → Prop} {a : Act} {w : World}
    (hK : Shut (∀ a w, S w → (S w → wpAnyH P md ops Q S fuel listed a w) → K' a w)) (hS : S w) (h : wpAnyH P md ops Q S fuel listed a w) : K' a w := hK.out a w hS (fun _ => h)
theorem held_skip {P : Program} {md : Region.Mode} {l : List Oper} {Q : Exit → Act → World → Prop} {S : World → Prop} {i : Nat} {oi : Oper} {fuel : Nat} {listed : Array Bool} {a : Act} {w : World} (hi : l[i]? = some oi)
    (hs : Region.noSelect l.toArray = true) (hf : Region.free md l.toArray listed i = true) (hr : (Region.ready md l.toArray listed).contains i = true)
    (hQ : ∀ c a w, Q (.panic c) (a.put oi.dst undef) w → Q (.panic c) a w) (hw : Region.wanted oi (yielded l.toArray a.tmps) = false) (hS : S w)
    (h : wpAnyH P md l.toArray Q S fuel (listed.setIfInBounds i true) (a.put oi.dst undef) w) : wpAnyH P md l.toArray Q S (fuel + 1) listed a w :=
  wpAnyH_take (by rw [List.getElem?_toArray]; exact hi) hs hf hr hQ (Or.inr ⟨hw, rfl⟩) hS h
theorem held_two {P : Program} {md : Region.Mode} {l : List Oper} {Q : Exit → Act → World → Prop} {S : World → Prop} {i j : Nat} {oi oj : Oper} {fuel : Nat} {listed : Array Bool} {a : Act} {w : World} (hi : l[i]? = some oi) (hj : l[j]? = some oj)
    (hr : Region.ready md l.toArray listed = [i, j]) (hwi : Region.wanted oi (yielded l.toArray a.tmps) = true) (hwj : Region.wanted oj (yielded l.toArray a.tmps) = true)
    (h1 : ∀ K' : Act → World → Prop, Shut (∀ a w, S w → (S w → wpAnyH P md l.toArray Q S fuel (listed.setIfInBounds i true) a w) → K' a w) → Oper.wp P oi a w K' Q)
    (h2 : ∀ K' : Act → World → Prop, Shut (∀ a w, S w → (S w → wpAnyH P md l.toArray Q S fuel (listed.setIfInBounds j true) a w) → K' a w) → Oper.wp P oj a w K' Q) :
    wpAnyH P md l.toArray Q S (fuel + 1) listed a w :=
  wpAnyH_ready hr (by simp) (AllReadyH.cons (by rw [List.getElem?_toArray]; exact hi) (fun K hK => by rw [if_pos hwi]; exact h1 K hK)
    (AllReadyH.cons (by rw [List.getElem?_toArray]; exact hj) (fun K hK => by rw [if_pos hwj]; exact h2 K hK) AllReadyH.nil))
end Go.Proofs.YtjiijjdmkeeilaaDoor
namespace Go.Proofs.YtjiijjdmkeeilaaDoor
open Go.RowKit
set_option linter.unusedVariables false
set_option linter.unusedSimpArgs false
def inC (x : Int) : List Value := [.int .i64 x]
theorem celI : Cel inC 1 := ⟨fun _ => rfl, fun x u hu => by simp [inC] at hu; subst hu; rfl, by decide⟩
/-- the bytes of some numbers -/
def encN (l : List Int) : List UInt8 := l.flatMap fun x => enc x.toNat
def hdN (h : Hdr) : List Int := [h.id, h.kd, h.vr, h.st, h.ix, h.da, h.pa, h.cm, (h.es.length : Int)]
def enN (e : Ent) : List Int := [e.f, e.v, e.o, e.n, (e.s : Int) + 4294967296]
def tlN (h : Hdr) : List Int := [h.sz, (h.sm : Int) + 4294967296]
/-- the encoding of a header -/
def encH (h : Hdr) : List UInt8 := (encN (hdN h) ++ (h.es.flatMap fun e => encN (enN e))) ++ encN (tlN h)
theorem encN_snoc (l : List Int) (x : Int) : encN (l ++ [x]) = encN l ++ enc x.toNat := by simp [encN]
theorem encN_len (l : List Int) (h : ∀ x ∈ l, 0 ≤ x ∧ x ≤ 4611686018427387904) : (encN l).length ≤ 10 * l.length := by
  induction l with
  | nil => simp [encN]
  | cons x l ih =>
    have h1 := h x (by simp)
    have h2 := ih (fun y hy => h y (by simp [hy]))
    have h3 := enc_len x.toNat (by omega)
    unfold encN at h2 ⊢
    rw [List.flatMap_cons, List.length_append, List.length_cons]
    omega
set_option maxRecDepth 100000 in
set_option maxHeartbeats 2000000 in
theorem rput_any (ad : Option Addr) (n cap : Nat) (xs : List UInt8) (ld : Option Addr) (m lcap : Nat) (ls : List Int) (w : World) (hl : Lie w ad xs) (hn : n = xs.length) (ha : ad = none → cap = 0) (hls : Lf inC w ld ls) (hm : m = ls.length) (hm1 : 1 ≤ m) (hmc : m ≤ lcap) (hb : ∀ x ∈ ls, 0 ≤ x ∧ x ≤ 4611686018427387904) (hlen : xs.length + 10 * m ≤ 900000) :
    Calls Tryd.prog 98 #[.slice ad n cap, .slice ld m lcap] w (Gives w (xs ++ encN ls)) := by
  have HL := Lib.hid hl
  have HA := Lib.hid ha
  have HLS := Lib.hid hls
  have HM := Lib.hid hm
  have HB := Lib.hid hb
  subst hn
  clear hl ha hls hm hb
  go_enter Tryd.func98, Tryd.ntmps98
  go_wp2
  go_loopg [0, 5] m (fun gk v0 v5 wx => ∃ (i : Nat) (ys : List UInt8) (ad' : Option Addr) (cap' : Nat), v5 = .int .i64 i ∧ v0 = .slice ad' ys.length cap' ∧ i + gk = m ∧ ys.length ≤ xs.length + 10 * i ∧ Hid (ys = xs ++ encN (ls.take i)) ∧ Hid (Lie wx ad' ys) ∧ Hid (ad' = none → cap' = 0) ∧ Hid (1 ≤ i → Own wx w.heap.size (.slice ad' ys.length cap') ys) ∧ Hid (Below w.heap.size w wx))
  case atStart => exact ⟨0, xs, ad, cap, rfl, rfl, by omega, by omega, Lib.hid (by simp [encN]), HL, HA, Lib.hid (fun h => by omega), Lib.hid (Below.refl _ _)⟩
  case round =>
    obtain ⟨i, ys, ad', cap', rfl, rfl, hi, hyl, hys, hL, hA, hO, hB⟩ := hrel
    cases gk with
    | zero =>
      obtain rfl : i = m := by omega
      have HT := Lib.hid (show ys = xs ++ encN ls by rw [hys.out, List.take_of_length_le (by have := HM.out; omega)])
      go_wp2
      go_ret
      exact ⟨_, rfl, by rw [← HT.out]; exact hO.out hm1, hB.out⟩
    | succ gk0 =>
      have him : i < m := by omega
      have hil : i < ls.length := by have := HM.out; omega
      obtain ⟨b, off, rfl, hlt, hcell⟩ := (HLS.out.below hB.out).get celI hil
      have c0 : wr.cell? ⟨b, off + i, none⟩ = some (.int .i64 ls[i]) := by have := hcell 0 _ (by decide) rfl; rwa [Nat.mul_one, Nat.add_zero] at this
      have hx := HB.out _ (List.getElem_mem hil)
      have HSN := Lib.hid (show ls.take (i + 1) = ls.take i ++ [ls[i]] by rw [List.take_succ_eq_append_getElem hil])
      clear hcell hlt
      generalize ls[i] = x at *
      clear hil
      obtain ⟨k, rfl⟩ := Int.eq_ofNat_of_zero_le hx.1
      have hk2 : (k : Int) ≤ 4611686018427387904 := hx.2
      have hkk : k < 18446744073709551616 := by omega
      have HEL := Lib.hid (enc_len k hkk)
      clear hx
      go_wp2_with fail
      refine (rpuint_any ad' cap' ys k _ hL.out hA.out (by omega) hkk).mono ?_
      rintro e w1 ⟨v1, rfl, ho1, hb1⟩
      have hyl2 : (ys ++ enc k).length ≤ xs.length + 10 * (i + 1) := by rw [List.length_append]; have := HEL.out; omega
      have HY2 := Lib.hid (show ys ++ enc k = xs ++ encN (ls.take (i + 1)) by rw [HSN.out, encN_snoc, hys.out, List.append_assoc]; rfl)
      generalize ys ++ enc k = zs at *
      obtain ⟨ad1, cap1, rfl, hl1, -, -, ha1⟩ := ho1.slice
      have HL1 := Lib.hid hl1
      have HA1 := Lib.hid ha1
      have HO1 := Lib.hid (ho1.mono hB.out.size)
      have HB1 := Lib.hid (hB.out.trans (hb1.mono hB.out.size))
      clear ho1 hl1 ha1 hb1 c0 hyl
      go_wp2
      go_roundg gk0
      case rel => exact ⟨i + 1, zs, ad1, cap1, by go_num, rfl, by omega, hyl2, HY2, HL1, HA1, Lib.hid (fun _ => HO1.out), HB1⟩
      case measure => omega
set_option maxRecDepth 100000 in
set_option maxHeartbeats 400000 in
theorem rmark_any (s : Nat) (w : World) (hs : s < 4294967296) :
    Calls Tryd.prog 99 #[.int .u32 (s : Int)] w fun e w' => e = .returned (.int .i64 ((s : Int) + 4294967296)) ∧ w = w' := by
  go_enter Tryd.func99, Tryd.ntmps99
  go_wp2
  go_ret
  exact ⟨rfl, rfl⟩
end Go.Proofs.YtjiijjdmkeeilaaDoor
namespace Go.Proofs.YtjiijjdmkeeilaaDoor
open Go.RowKit
set_option linter.unusedVariables false
set_option linter.unusedSimpArgs false
theorem VEs.count {h : Hdr} (hv : VHdr h) : h.es.length ≤ 64 := by
  have := hv.2.2.2
  unfold VEs at this
  split at this
  · rw [this]; simp
  · exact this.1
theorem VEs.all {h : Hdr} (hv : VHdr h) : ∀ e ∈ h.es, VEnt e := by
  have := hv.2.2.2
  unfold VEs at this
  split at this
  · rw [this]; intro e he; simp at he
  · exact this.2.1
theorem hdN_ok {h : Hdr} (hv : VHdr h) : ∀ x ∈ hdN h, 0 ≤ x ∧ x ≤ 4611686018427387904 := by
  obtain ⟨⟨h1, h2, h3, h4⟩, h5, h6, h7⟩ := id hv
  have h8 := VEs.count hv
  have hid : 0 ≤ h.id ∧ h.id ≤ 1125899906842624 := by
    unfold VId at h6
    split at h6 <;> omega
  have hpl : (0 ≤ h.st ∧ h.st ≤ 1125899906842624) ∧ (0 ≤ h.ix ∧ h.ix ≤ 32) ∧ (0 ≤ h.da ∧ h.da ≤ 16) ∧ (0 ≤ h.pa ∧ h.pa ≤ 16) := by
    unfold VPlc at h5
    split at h5
    · omega
    · split at h5 <;> omega
  intro x hx
  simp only [hdN, List.mem_cons, List.not_mem_nil, or_false] at hx
  rcases hx with rfl | rfl | rfl | rfl | rfl | rfl | rfl | rfl | rfl <;> omega
theorem enN_ok {e : Ent} (hv : VEnt e) (hs : e.s < 4294967296) : ∀ x ∈ enN e, 0 ≤ x ∧ x ≤ 4611686018427387904 := by
  obtain ⟨h1, h2, h3, h4, h5⟩ := hv
  intro x hx
  simp only [enN, List.mem_cons, List.not_mem_nil, or_false] at hx
  rcases hx with rfl | rfl | rfl | rfl | rfl <;> omega
theorem tlN_ok {h : Hdr} (hv : VHdr h) (hs : h.sm < 4294967296) : ∀ x ∈ tlN h, 0 ≤ x ∧ x ≤ 4611686018427387904 := by
  have := hv.1.2.2.2
  intro x hx
  simp only [tlN, List.mem_cons, List.not_mem_nil, or_false] at hx
  rcases hx with rfl | rfl <;> omega
/-- the entries' bytes -/
def encEs (l : List Ent) : List UInt8 := l.flatMap fun e => encN (enN e)
theorem encEs_snoc (l : List Ent) (e : Ent) : encEs (l ++ [e]) = encEs l ++ encN (enN e) := by simp [encEs]
theorem encH_eq (h : Hdr) : encH h = (encN (hdN h) ++ encEs h.es) ++ encN (tlN h) := rfl
attribute [local irreducible] encN
set_option maxRecDepth 100000 in
set_option maxHeartbeats 2000000 in
theorem rencode_any (h : Hdr) (ad : Option Addr) (n cap : Nat) (w : World) (hin : HdIn w h ad n cap) (hv : VHdr h) (hsm : h.sm < 4294967296) (hs : ∀ e ∈ h.es, e.s < 4294967296) :
    Calls Tryd.prog 77 #[hdV h ad n cap] w (Gives w (encH h)) := by
  have HX0 := Lib.hid (HdRow.new w h ad n cap)
  have HB0 := Lib.hid (co_box1 w (boxH h ad n cap))
  have HI0 := Lib.hid (hin.below (co_box1 w (boxH h ad n cap)))
  have HNL := Lib.hid hin.len
  have HC := Lib.hid (VEs.count hv)
  have HE := Lib.hid (VEs.all hv)
  have HO := Lib.hid (hdN_ok hv)
  have HT := Lib.hid (tlN_ok hv hsm)
  have HS := Lib.hid hs
  have HSM := Lib.hid hsm
  have HH := Lib.hid (encN_len _ (hdN_ok hv))
  have hn64 : n ≤ 64 := by have := HC.out; have := HNL.out; omega
  clear hin hv hsm hs
  obtain ⟨-, c0, c1, c2, c3, c4, c5, c6, c7, c8, c9, c10⟩ := HX0.out.at_
  go_enter Tryd.func77, Tryd.ntmps77
  go_wp2_with fail
  have HD := Lib.hid (show hdN h = [h.id, h.kd, h.vr, h.st, h.ix, h.da, h.pa, h.cm, (n : Int)] by unfold hdN; rw [HNL.out])
  have hx0 := HX0.out.lt
  have hx1 := HB0.out.size
  have HSZ := Lib.hid (show w.heap.size + 1 = (w.alloc (boxH h ad n cap)).heap.size by simp)
  generalize World.alloc w _ = X0 at *
  have HLS := Lib.hid (Lf.lits (c := inC) X0 #[.int .i64 h.id, .int .i64 h.kd, .int .i64 h.vr, .int .i64 h.st, .int .i64 h.ix, .int .i64 h.da, .int .i64 h.pa, .int .i64 h.cm, .int .i64 (n : Int)] 3 (l := hdN h) (by rw [HD.out]; rfl) _ HSZ.out)
  have HB1 := Lib.hid (HB0.out.alloc hx1 (.cells #[.int .i64 h.id, .int .i64 h.kd, .int .i64 h.vr, .int .i64 h.st, .int .i64 h.ix, .int .i64 h.da, .int .i64 h.pa, .int .i64 h.cm, .int .i64 (n : Int)] 3))
  have HX1 := Lib.hid (HX0.out.below (co_box1 X0 (.cells #[.int .i64 h.id, .int .i64 h.kd, .int .i64 h.vr, .int .i64 h.st, .int .i64 h.ix, .int .i64 h.da, .int .i64 h.pa, .int .i64 h.cm, .int .i64 (n : Int)] 3)) hx0)
  have HI1 := Lib.hid (HI0.out.below (co_box1 X0 (.cells #[.int .i64 h.id, .int .i64 h.kd, .int .i64 h.vr, .int .i64 h.st, .int .i64 h.ix, .int .i64 h.da, .int .i64 h.pa, .int .i64 h.cm, .int .i64 (n : Int)] 3)))
  refine (rput_any none 0 0 [] _ 9 9 (hdN h) _ (.nil _ _) rfl (fun _ => rfl) HLS.out rfl (by decide) (by decide) HO.out (by simp)).mono ?_
  rintro e X2 ⟨v2, rfl, ho2, hb2⟩
  rw [List.nil_append] at ho2
  have hsz1 := HB1.out.size
  have HB2 := Lib.hid (HB1.out.trans (hb2.mono HB1.out.size))
  have HX2 := Lib.hid (HX1.out.below hb2 HX1.out.lt)
  have HI2 := Lib.hid (HI1.out.below hb2)
  have HO2 := Lib.hid (ho2.mono HB1.out.size)
  have HHL : Hid ((encN (hdN h)).length ≤ 90) := Lib.hid (by have := HH.out; rw [HD.out] at this; simpa [HD.out] using this)
  clear ho2 hb2 HX0 HB0 HI0 HX1 HB1 HI1 HLS hx0 hx1 hsz1 c0 c1 c2 c3 c4 c5 c6 c7 c8 c9 c10 HH
  go_wp2
  go_loopg [3, 4] n (fun gk v3 v4 wx => ∃ (i : Nat) (ys : List UInt8) (ad' : Option Addr) (cap' : Nat), v4 = .int .i64 i ∧ v3 = .slice ad' ys.length cap' ∧ i + gk = n ∧ ys.length ≤ 90 + 50 * i ∧ Hid (ys = encN (hdN h) ++ encEs (h.es.take i)) ∧ Hid (Own wx w.heap.size (.slice ad' ys.length cap') ys) ∧ Hid (Below w.heap.size w wx) ∧ Hid (HdRow wx w.heap.size h ad n cap) ∧ Hid (HdIn wx h ad n cap))
  case atStart =>
    obtain ⟨ad2, cap2, rfl, -⟩ := HO2.out.slice
    exact ⟨0, encN (hdN h), ad2, cap2, rfl, rfl, by omega, by have := HHL.out; omega, Lib.hid (by simp [encEs]), HO2, HB2, HX2, HI2⟩
  case round =>
    obtain ⟨i, ys, ad', cap', rfl, rfl, hi, hyl, hys, hO, hB, hX, hN⟩ := hrel
    obtain ⟨-, c0, c1, c2, c3, c4, c5, c6, c7, c8, c9, c10⟩ := hX.out.at_
    cases gk with
    | zero =>
      obtain rfl : i = n := by omega
      have HT3 := Lib.hid (show ys = encN (hdN h) ++ encEs h.es by rw [hys.out, List.take_of_length_le (by have := HNL.out; omega)])
      obtain ⟨ad3, cap3, e3, hl3, -, -, ha3⟩ := hO.out.slice
      cases e3
      have HL3 := Lib.hid hl3
      have HA3 := Lib.hid ha3
      have HBX := Lib.hid (Below.refl wr.heap.size wr).drew
      clear hl3 ha3
      go_wp2_with fail
      clear c0 c1 c2 c3 c4 c5 c6 c7 c8 c9 c10
      refine wp_region_noPanic ?_
      refine wp_region_held_drew (S := fun X => Below wr.heap.size wr X) (by kernel_rfl) (HBX.out) (fun hS0 => ?_)
      refine held_take (i := 0) (v := ?_) rfl (by kernel_rfl) (by kernel_rfl) (by kernel_rfl) (fun _ _ _ h => h) (by rfl) ?_ (by assumption) ?_
      rotate_left
      · intro X hSX
        try dsimp only at hSX
        go_simp <;> with_reducible rfl
      simp only [Act.put, List.setIfInBounds_toArray, List.set_cons_zero, List.set_cons_succ]
      refine held_take (i := 1) (v := ?_) rfl (by kernel_rfl) (by kernel_rfl) (by kernel_rfl) (fun _ _ _ h => h) (by rfl) ?_ (by assumption) ?_
      rotate_left
      · intro X hSX
        try dsimp only at hSX
        go_simp <;> with_reducible rfl
      simp only [Act.put, List.setIfInBounds_toArray, List.set_cons_zero, List.set_cons_succ]
      refine held_take (i := 3) (v := ?_) rfl (by kernel_rfl) (by kernel_rfl) (by kernel_rfl) (fun _ _ _ h => h) (by rfl) ?_ (by assumption) ?_
      rotate_left
      · intro X hSX
        try dsimp only at hSX
        go_simp <;> with_reducible rfl
      simp only [Act.put, List.setIfInBounds_toArray, List.set_cons_zero, List.set_cons_succ]
      refine held_take (i := 2) (v := ?_) rfl (by kernel_rfl) (by kernel_rfl) (by kernel_rfl) (fun _ _ _ h => h) (by rfl) ?_ (by assumption) ?_
      rotate_left
      · intro X hSX
        try dsimp only at hSX
        obtain ⟨-, c0, c1, c2, c3, c4, c5, c6, c7, c8, c9, c10⟩ := (hX.out.below hSX hX.out.lt).at_
        go_simp <;> with_reducible rfl
      simp only [Act.put, List.setIfInBounds_toArray, List.set_cons_zero, List.set_cons_succ]
      refine held_take (i := 4) (v := ?_) rfl (by kernel_rfl) (by kernel_rfl) (by kernel_rfl) (fun _ _ _ h => h) (by rfl) ?_ (by assumption) ?_
      rotate_left
      · intro X hSX
        try dsimp only at hSX
        obtain ⟨-, c0, c1, c2, c3, c4, c5, c6, c7, c8, c9, c10⟩ := (hX.out.below hSX hX.out.lt).at_
        go_simp <;> with_reducible rfl
      simp only [Act.put, List.setIfInBounds_toArray, List.set_cons_zero, List.set_cons_succ]
      refine held_call (i := 5) rfl (by kernel_rfl) (by rfl) (fun K' hK' => ?_)
      go_simp
      refine (rmark_any h.sm _ HSM.out).mono ?_
      rintro e w' ⟨rfl, rfl⟩
      refine held_go hK' (HBX.out) ?_
      try simp only [Act.put, List.setIfInBounds_toArray, List.set_cons_zero, List.set_cons_succ]
      refine held_call (i := 6) rfl (by kernel_rfl) (by rfl) (fun K' hK' => ?_)
      go_simp
      have hb6 : Below wr.heap.size wr (wr.drew.alloc (.cells #[.int .i64 h.sz, .int .i64 ((h.sm : Int) + 4294967296)] 3)) := HBX.out.alloc (by simp) _
      refine held_go hK' (hb6) ?_
      try simp only [Act.put, List.setIfInBounds_toArray, List.set_cons_zero, List.set_cons_succ]
      refine held_call (i := 7) rfl (by kernel_rfl) (by rfl) (fun K' hK' => ?_)
      go_simp
      refine (rput_any ad' _ cap' ys _ 2 2 (tlN h) _ (HL3.out.below hb6 rfl) rfl HA3.out (Lf.lits wr.drew #[.int .i64 h.sz, .int .i64 ((h.sm : Int) + 4294967296)] 3 (l := tlN h) rfl _ rfl) rfl (by decide) (by decide) HT.out (by omega)).mono ?_
      rintro e X3 ⟨v3, rfl, ho3, hb3⟩
      have hS3 : Below wr.heap.size wr X3 := hb6.trans (hb3.mono hb6.size)
      refine held_go hK' (hS3) ?_
      try simp only [Act.put, List.setIfInBounds_toArray, List.set_cons_zero, List.set_cons_succ]
      refine held_take (i := 8) (v := ?_) rfl (by kernel_rfl) (by kernel_rfl) (by kernel_rfl) (fun _ _ _ h => h) (by rfl) ?_ (by assumption) ?_
      rotate_left
      · intro X hSX
        try dsimp only at hSX
        go_simp <;> with_reducible rfl
      simp only [Act.put, List.setIfInBounds_toArray, List.set_cons_zero, List.set_cons_succ]
      refine wpAnyH_done (by kernel_rfl) ?_ _
      refine NoPanic.normal ?_
      have HF := Lib.hid (show ys ++ encN (tlN h) = encH h by rw [encH_eq, HT3.out])
      have HB3 := Lib.hid (hB.out.trans (hS3.mono hB.out.size))
      have HO3 := Lib.hid (ho3.mono (Nat.le_trans hB.out.size hb6.size))
      clear ho3 hb3 hb6 hS3 HBX
      go_wp2
      go_ret
      exact ⟨_, rfl, by rw [← HF.out]; exact HO3.out, HB3.out⟩
    | succ gk0 =>
      have hin : i < n := by omega
      have hil : i < h.es.length := by have := HNL.out; omega
      obtain ⟨b, off, rfl, hlt, hcell⟩ := hN.out.lf.get celE hil
      have e0 : wr.cell? ⟨b, off + i * 5, none⟩ = _ := hcell 0 _ (by decide) rfl
      have e1 := hcell 1 _ (by decide) rfl
      have e2 := hcell 2 _ (by decide) rfl
      have e3 := hcell 3 _ (by decide) rfl
      have e4 := hcell 4 _ (by decide) rfl
      have HSN := Lib.hid (show h.es.take (i + 1) = h.es.take i ++ [h.es[i]] by rw [List.take_succ_eq_append_getElem hil])
      have HEO := Lib.hid (enN_ok (HE.out _ (List.getElem_mem hil)) (HS.out _ (List.getElem_mem hil)))
      have HES := Lib.hid (HS.out _ (List.getElem_mem hil))
      clear hcell hlt
      generalize h.es[i] = x at *
      clear hil
      obtain ⟨ad3, cap3, e3', hl3, -, -, ha3⟩ := hO.out.slice
      cases e3'
      have HL3 := Lib.hid (hl3.below (co_box1 wr (.cells #[.int .i64 x.f, .int .i64 x.v, .int .i64 x.o, .int .i64 x.n, .int .u32 (x.s : Int)] 54)) rfl)
      have HA3 := Lib.hid ha3
      have HX1 := Lib.hid (hX.out.below (co_box1 wr (.cells #[.int .i64 x.f, .int .i64 x.v, .int .i64 x.o, .int .i64 x.n, .int .u32 (x.s : Int)] 54)) hX.out.lt)
      have HN1 := Lib.hid (hN.out.below (co_box1 wr (.cells #[.int .i64 x.f, .int .i64 x.v, .int .i64 x.o, .int .i64 x.n, .int .u32 (x.s : Int)] 54)))
      have HB1 := Lib.hid (hB.out.alloc hB.out.size (.cells #[.int .i64 x.f, .int .i64 x.v, .int .i64 x.o, .int .i64 x.n, .int .u32 (x.s : Int)] 54))
      have HRW := Lib.hid (heap_alloc_new wr (.cells #[.int .i64 x.f, .int .i64 x.v, .int .i64 x.o, .int .i64 x.n, .int .u32 (x.s : Int)] 54))
      have HZ1 := Lib.hid (show wr.heap.size < (wr.alloc (.cells #[.int .i64 x.f, .int .i64 x.v, .int .i64 x.o, .int .i64 x.n, .int .u32 (x.s : Int)] 54)).heap.size by simp)
      clear hl3 ha3
      go_wp2_with fail
      clear c0 c1 c2 c3 c4 c5 c6 c7 c8 c9 c10 e0 e1 e2 e3 e4
      generalize World.alloc wr _ = X1 at *
      generalize wr.heap.size = g1 at *
      have HBX := Lib.hid (Below.refl X1.heap.size X1).drew
      have HSW := Lib.hid HB1.out.size
      refine wp_region_noPanic ?_
      refine wp_region_held_drew (S := fun X => Below X1.heap.size X1 X) (by kernel_rfl) (HBX.out) (fun hS0 => ?_)
      refine held_take (i := 0) (v := ?_) rfl (by kernel_rfl) (by kernel_rfl) (by kernel_rfl) (fun _ _ _ h => h) (by rfl) ?_ (by assumption) ?_
      rotate_left
      · intro X hSX
        try dsimp only at hSX
        go_simp <;> with_reducible rfl
      simp only [Act.put, List.setIfInBounds_toArray, List.set_cons_zero, List.set_cons_succ]
      refine held_take (i := 1) (v := ?_) rfl (by kernel_rfl) (by kernel_rfl) (by kernel_rfl) (fun _ _ _ h => h) (by rfl) ?_ (by assumption) ?_
      rotate_left
      · intro X hSX
        try dsimp only at hSX
        go_simp <;> with_reducible rfl
      simp only [Act.put, List.setIfInBounds_toArray, List.set_cons_zero, List.set_cons_succ]
      refine held_take (i := 3) (v := ?_) rfl (by kernel_rfl) (by kernel_rfl) (by kernel_rfl) (fun _ _ _ h => h) (by rfl) ?_ (by assumption) ?_
      rotate_left
      · intro X hSX
        try dsimp only at hSX
        go_simp <;> with_reducible rfl
      simp only [Act.put, List.setIfInBounds_toArray, List.set_cons_zero, List.set_cons_succ]
      refine held_take (i := 5) (v := ?_) rfl (by kernel_rfl) (by kernel_rfl) (by kernel_rfl) (fun _ _ _ h => h) (by rfl) ?_ (by assumption) ?_
      rotate_left
      · intro X hSX
        try dsimp only at hSX
        go_simp <;> with_reducible rfl
      simp only [Act.put, List.setIfInBounds_toArray, List.set_cons_zero, List.set_cons_succ]
      refine held_take (i := 7) (v := ?_) rfl (by kernel_rfl) (by kernel_rfl) (by kernel_rfl) (fun _ _ _ h => h) (by rfl) ?_ (by assumption) ?_
      rotate_left
      · intro X hSX
        try dsimp only at hSX
        go_simp <;> with_reducible rfl
      simp only [Act.put, List.setIfInBounds_toArray, List.set_cons_zero, List.set_cons_succ]
      refine held_take (i := 9) (v := ?_) rfl (by kernel_rfl) (by kernel_rfl) (by kernel_rfl) (fun _ _ _ h => h) (by rfl) ?_ (by assumption) ?_
      rotate_left
      · intro X hSX
        try dsimp only at hSX
        go_simp <;> with_reducible rfl
      simp only [Act.put, List.setIfInBounds_toArray, List.set_cons_zero, List.set_cons_succ]
      refine held_take (i := 2) (v := ?_) rfl (by kernel_rfl) (by kernel_rfl) (by kernel_rfl) (fun _ _ _ h => h) (by rfl) ?_ (by assumption) ?_
      rotate_left
      · intro X hSX
        try dsimp only at hSX
        have f0 : X.cell? ⟨g1, 0, none⟩ = some (.int .i64 x.f) := cell_of_row X g1 0 _ _ _ ((hSX.block g1 HZ1.out).trans HRW.out)
        go_simp <;> with_reducible rfl
      simp only [Act.put, List.setIfInBounds_toArray, List.set_cons_zero, List.set_cons_succ]
      refine held_take (i := 4) (v := ?_) rfl (by kernel_rfl) (by kernel_rfl) (by kernel_rfl) (fun _ _ _ h => h) (by rfl) ?_ (by assumption) ?_
      rotate_left
      · intro X hSX
        try dsimp only at hSX
        have f0 : X.cell? ⟨g1, 1, none⟩ = some (.int .i64 x.v) := cell_of_row X g1 1 _ _ _ ((hSX.block g1 HZ1.out).trans HRW.out)
        go_simp <;> with_reducible rfl
      simp only [Act.put, List.setIfInBounds_toArray, List.set_cons_zero, List.set_cons_succ]
      refine held_take (i := 6) (v := ?_) rfl (by kernel_rfl) (by kernel_rfl) (by kernel_rfl) (fun _ _ _ h => h) (by rfl) ?_ (by assumption) ?_
      rotate_left
      · intro X hSX
        try dsimp only at hSX
        have f0 : X.cell? ⟨g1, 2, none⟩ = some (.int .i64 x.o) := cell_of_row X g1 2 _ _ _ ((hSX.block g1 HZ1.out).trans HRW.out)
        go_simp <;> with_reducible rfl
      simp only [Act.put, List.setIfInBounds_toArray, List.set_cons_zero, List.set_cons_succ]
      refine held_take (i := 8) (v := ?_) rfl (by kernel_rfl) (by kernel_rfl) (by kernel_rfl) (fun _ _ _ h => h) (by rfl) ?_ (by assumption) ?_
      rotate_left
      · intro X hSX
        try dsimp only at hSX
        have f0 : X.cell? ⟨g1, 3, none⟩ = some (.int .i64 x.n) := cell_of_row X g1 3 _ _ _ ((hSX.block g1 HZ1.out).trans HRW.out)
        go_simp <;> with_reducible rfl
      simp only [Act.put, List.setIfInBounds_toArray, List.set_cons_zero, List.set_cons_succ]
      refine held_take (i := 10) (v := ?_) rfl (by kernel_rfl) (by kernel_rfl) (by kernel_rfl) (fun _ _ _ h => h) (by rfl) ?_ (by assumption) ?_
      rotate_left
      · intro X hSX
        try dsimp only at hSX
        have f0 : X.cell? ⟨g1, 4, none⟩ = some (.int .u32 (x.s : Int)) := cell_of_row X g1 4 _ _ _ ((hSX.block g1 HZ1.out).trans HRW.out)
        go_simp <;> with_reducible rfl
      simp only [Act.put, List.setIfInBounds_toArray, List.set_cons_zero, List.set_cons_succ]
      refine held_call (i := 11) rfl (by kernel_rfl) (by rfl) (fun K' hK' => ?_)
      go_simp
      refine (rmark_any x.s _ HES.out).mono ?_
      rintro e w' ⟨rfl, rfl⟩
      refine held_go hK' (HBX.out) ?_
      try simp only [Act.put, List.setIfInBounds_toArray, List.set_cons_zero, List.set_cons_succ]
      refine held_call (i := 12) rfl (by kernel_rfl) (by rfl) (fun K' hK' => ?_)
      go_simp
      have hb6 : Below X1.heap.size X1 (X1.drew.alloc (.cells #[.int .i64 x.f, .int .i64 x.v, .int .i64 x.o, .int .i64 x.n, .int .i64 ((x.s : Int) + 4294967296)] 3)) := HBX.out.alloc (by simp) _
      refine held_go hK' (hb6) ?_
      try simp only [Act.put, List.setIfInBounds_toArray, List.set_cons_zero, List.set_cons_succ]
      refine held_call (i := 13) rfl (by kernel_rfl) (by rfl) (fun K' hK' => ?_)
      go_simp
      refine (rput_any ad' _ cap' ys _ 5 5 (enN x) _ (HL3.out.below hb6 rfl) rfl HA3.out (Lf.lits X1.drew #[.int .i64 x.f, .int .i64 x.v, .int .i64 x.o, .int .i64 x.n, .int .i64 ((x.s : Int) + 4294967296)] 3 (l := enN x) rfl _ rfl) rfl (by decide) (by decide) HEO.out (by omega)).mono ?_
      rintro e X3 ⟨v3, rfl, ho3, hb3⟩
      have hS3 : Below X1.heap.size X1 X3 := hb6.trans (hb3.mono hb6.size)
      refine held_go hK' (hS3) ?_
      try simp only [Act.put, List.setIfInBounds_toArray, List.set_cons_zero, List.set_cons_succ]
      refine held_take (i := 14) (v := ?_) rfl (by kernel_rfl) (by kernel_rfl) (by kernel_rfl) (fun _ _ _ h => h) (by rfl) ?_ (by assumption) ?_
      rotate_left
      · intro X hSX
        try dsimp only at hSX
        go_simp <;> with_reducible rfl
      simp only [Act.put, List.setIfInBounds_toArray, List.set_cons_zero, List.set_cons_succ]
      refine wpAnyH_done (by kernel_rfl) ?_ _
      refine NoPanic.normal ?_
      have hyl2 : (ys ++ encN (enN x)).length ≤ 90 + 50 * (i + 1) := by
        have := encN_len _ HEO.out
        rw [show (enN x).length = 5 from rfl] at this
        rw [List.length_append]
        omega
      have HY2 := Lib.hid (show ys ++ encN (enN x) = encN (hdN h) ++ encEs (h.es.take (i + 1)) by rw [HSN.out, encEs_snoc, hys.out, List.append_assoc])
      have HB3 := Lib.hid (HB1.out.trans (hS3.mono HSW.out))
      have HO3 := Lib.hid (ho3.mono (Nat.le_trans HSW.out hb6.size))
      have HX3 := Lib.hid (HX1.out.below hS3 HX1.out.lt)
      have HN3 := Lib.hid (HN1.out.below hS3)
      clear ho3 hb3 hb6 hS3 HBX
      generalize ys ++ encN (enN x) = zs at *
      obtain ⟨ad4, cap4, rfl, -⟩ := HO3.out.slice
      go_wp2
      go_roundg gk0
      case rel => exact ⟨i + 1, zs, ad4, cap4, by go_num, rfl, by omega, hyl2, HY2, HO3, HB3, HX3, HN3⟩
      case measure => omega
end Go.Proofs.YtjiijjdmkeeilaaDoor
