/-
  The document's Form: the form of tokens.
-/
import Derived.Test.YtihiccccpjakgaaZOpen
import Derived.Test.YtihiccccpjakgaaKLz
import Derived.Test.YtihiccccpjakgaaCRPutU
import Derived.Test.YtihiccccpjakgaaZEmit
import Derived.Test.YtihiccccpjakgaaNHeld
namespace Go.Proofs.Ytihiccccpjakgaa
open Go.RowKit
set_option linter.unusedVariables false
set_option linter.unusedSimpArgs false
/-- the token that a struct is -/
def Tkn.tk (x : Tkn) : Tk := if 0 < x.l.length then .lit x.l else .cp x.c.toNat x.d.toNat
/-- what the law allows of it -/
def Tkn.Fine (x : Tkn) : Prop := x.l.length ≤ 4096 ∧ (x.l.length = 0 → 1 ≤ x.c ∧ x.c ≤ 4096 ∧ 1 ≤ x.d ∧ x.d ≤ 200000)
theorem Tkn.form_len (x : Tkn) (h : x.Fine) : x.tk.form.length ≤ 4120 := by
  obtain ⟨h1, h2⟩ := h
  unfold Tkn.tk
  split
  · show (enc _ ++ _).length ≤ _
    have := enc_len (2 * x.l.length) (by omega)
    rw [List.length_append]; omega
  · obtain ⟨a, b, c, d⟩ := h2 (by omega)
    show (enc _ ++ enc _).length ≤ _
    have := enc_len (2 * x.c.toNat + 1) (by omega)
    have := enc_len x.d.toNat (by omega)
    rw [List.length_append]; omega
theorem forms_len (ts : List Tkn) (h : ∀ x ∈ ts, x.Fine) : (forms (ts.map Tkn.tk)).length ≤ ts.length * 4120 := by
  induction ts with
  | nil => exact Nat.zero_le _
  | cons x ts ih =>
    have h1 := Tkn.form_len x (h x (List.mem_cons_self ..))
    have h2 := ih (fun y hy => h y (List.mem_cons_of_mem _ hy))
    show (x.tk.form ++ forms (ts.map Tkn.tk)).length ≤ _
    rw [List.length_append, List.length_cons]
    omega
/-- the box of a token -/
def Bt (X : World) (g : Nat) (s : Value) (c d : Int) : Prop := X.heap[g]? = some (.cells #[s, .int .i64 c, .int .i64 d] 32 (0, 0))
theorem Bt.c0 {X : World} {g : Nat} {s : Value} {c d : Int} (h : Bt X g s c d) : X.cell? ⟨g, 0, none⟩ = some s := by rw [cell_of_row _ _ 0 _ _ _ h]; rfl
theorem Bt.c1 {X : World} {g : Nat} {s : Value} {c d : Int} (h : Bt X g s c d) : X.cell? ⟨g, 1, none⟩ = some (.int .i64 c) := by rw [cell_of_row _ _ 1 _ _ _ h]; rfl
theorem Bt.c2 {X : World} {g : Nat} {s : Value} {c d : Int} (h : Bt X g s c d) : X.cell? ⟨g, 2, none⟩ = some (.int .i64 d) := by rw [cell_of_row _ _ 2 _ _ _ h]; rfl
theorem Bt.below {X Y : World} {g : Nat} {s : Value} {c d : Int} (h : Bt X g s c d) (hb : Below X.heap.size X Y) : Bt Y g s c d := (hb.block _ (Array.getElem?_eq_some_iff.1 h).1).trans h
theorem Bt.u {X Y : World} {B g : Nat} {s : Value} {c d : Int} (h : Bt X g s c d) (hk : KeepU B X Y) : Bt Y g s c d := hk.cell h (by decide)
theorem rput (ad : Option Addr) (cap N : Nat) (xs : List UInt8) (n : Nat) (w : World) (hN : N = xs.length) (hl : Lie w ad xs) (hac : ad = none → cap = 0) (hs : xs.length ≤ 1000000) (hn : n < 18446744073709551616) :
    Calls Try.prog 32 #[.slice ad N cap, .int .u64 n] w (Gives w (xs ++ enc n)) := by subst hN; exact rpuint_any ad cap xs n w hl hac hs hn
set_option maxRecDepth 100000 in
set_option maxHeartbeats 1000000 in
theorem form_any (ad : Option Addr) (cap : Nat) (ts : List Tkn) (w : World) (hl : ToksAt w ad ts) (hn : ts.length ≤ cap) (h200 : ts.length ≤ 200) (hok : ∀ x ∈ ts, x.Ok) (hf : ∀ x ∈ ts, x.Fine) :
    Calls Try.prog 14 #[.slice ad ts.length cap] w (Gives w (forms (ts.map Tkn.tk))) := by
  have HOE := Lib.hid (Own.made w)
  have HL := Lib.hid hl
  have HOK := Lib.hid hok
  have HF := Lib.hid hf
  clear hl hok hf
  go_enter Try.func14, Try.ntmps14
  go_wp2
  go_loopw [3, 4] (fun u3 u4 wr => ∃ i : Nat, u4 = .int .i64 i ∧ i ≤ ts.length ∧ Hid (Own wr w.heap.size u3 (forms ((ts.take i).map Tkn.tk))) ∧ Hid (Below w.heap.size w wr)) (fun _ u4 _ => ts.length - (intOf u4).toNat)
  case atStart => exact ⟨0, rfl, Nat.zero_le _, HOE, Lib.hid ((Below.refl _ _).alloc (Nat.le_refl _) _)⟩
  case round =>
    obtain ⟨i, rfl, hi, ho, hb⟩ := hrel
    by_cases hlt : i < ts.length
    · rcases (HL.out.below hb.out rfl).at_ with h0 | ⟨b, off, rfl, hbl, hat⟩
      · subst h0; rw [List.length_nil] at hlt; omega
      have hx := hat i hlt
      obtain ⟨x, hxe⟩ : ∃ x, ts[i] = x := ⟨_, rfl⟩
      have hxm : x ∈ ts := by rw [← hxe]; exact List.getElem_mem hlt
      rw [hxe] at hx
      have hok := HOK.out x hxm
      have hfi := HF.out x hxm
      have hfl := forms_len (ts.take i) (fun y hy => HF.out y (List.mem_of_mem_take hy))
      have hsn : forms ((ts.take (i + 1)).map Tkn.tk) = forms ((ts.take i).map Tkn.tk) ++ x.tk.form := by
        rw [List.take_succ_eq_append_getElem hlt, List.map_append, List.map_cons, List.map_nil, forms_snoc, hxe]
      rw [List.length_take] at hfl
      obtain ⟨out, hout⟩ : ∃ out, forms ((ts.take i).map Tkn.tk) = out := ⟨_, rfl⟩
      rw [hout] at ho hfl hsn
      obtain ⟨xl, xad, xlc, xc, xd⟩ := x
      have hc0 := hx.c0
      have hc1 := hx.c1
      have hc2 := hx.c2
      have hli := hx.li
      have hna := hok.na
      have hfi1 := hfi.1
      have hfi2 := hfi.2
      have k0 := hok.c0
      have k1 := hok.c1
      have k2 := hok.d0
      have k3 := hok.d1
      dsimp only at hc0 hc1 hc2 hli hna hfi1 hfi2 k0 k1 k2 k3
      obtain ⟨n, hnl⟩ : ∃ n, xl.length = n := ⟨_, rfl⟩
      rw [hnl] at hc0 hfi1 hfi2
      have HNL := Lib.hid hnl
      obtain ⟨a1, c1, rfl, hl1, _, _, hn1⟩ := ho.out.slice
      have hol : out.length ≤ 900000 := by omega
      have hba : Below wr.heap.size wr (wr.alloc (.cells #[.slice xad n xlc, .int .i64 xc, .int .i64 xd] 32)) := (Below.refl _ _).alloc (Nat.le_refl _) _
      have hbt : Bt (wr.alloc (.cells #[.slice xad n xlc, .int .i64 xc, .int .i64 xd] 32)) wr.heap.size (.slice xad n xlc) xc xd := heap_new _ _
      have HSN := Lib.hid hsn
      have HX := Lib.hid (hli.below hba rfl)
      have HL1 := Lib.hid (hl1.below hba rfl)
      have HN1 := Lib.hid hn1
      have HNA := Lib.hid hna
      have HBW := Lib.hid (hb.out.trans (hba.mono hb.out.size))
      obtain ⟨W, hW⟩ : ∃ W, wr.alloc (.cells #[.slice xad n xlc, .int .i64 xc, .int .i64 xd] 32) = W := ⟨_, rfl⟩
      obtain ⟨g, hg⟩ : ∃ g, wr.heap.size = g := ⟨_, rfl⟩
      have hdr := fun X : World => Below.drew (Below.refl X.heap.size X)
      rw [hW] at HX HL1 HBW hba hbt
      rw [hg] at hbt
      have hcw0 := hbt.c0
      have HBT : Hid (Bt W.drew g (.slice xad n xlc) xc xd) := Lib.hid (hbt.below (hdr W))
      have HXD := Lib.hid (HX.out.below (hdr W) rfl)
      have HLD := Lib.hid (HL1.out.below (hdr W) rfl)
      have HBD := Lib.hid (HBW.out.trans ((hdr W).mono HBW.out.size))
      clear hat hx hxe hxm hl1 hn1 hsn hba hbt hdr hout HX HL1 hok hfi hli hna hnl
      by_cases hl0 : 0 < n
      · have htk : Tk.form (Tkn.tk ⟨xl, xad, xlc, xc, xd⟩) = enc (2 * n) ++ xl := by
          unfold Tkn.tk
          dsimp only
          rw [HNL.out, if_pos hl0]
          show enc _ ++ _ = _
          rw [HNL.out]
        rw [htk] at HSN
        have hw1 : IntKind.i64.wrap (2 * (n : Int)) = 2 * (n : Int) := by rw [IntKind.wrap_i64]; omega
        have hw2 : IntKind.u64.wrap (2 * (n : Int)) = 2 * (n : Int) := by rw [IntKind.wrap_u64]; omega
        have hpu := rput a1 c1 out.length out (2 * n) W.drew rfl HLD.out HN1.out (by omega) (by omega)
        push_cast at hpu
        have HPU := Lib.hid hpu
        clear hpu htk
        go_wp2_with fail
        refine wp_region_noPanic ?_
        refine wp_region_held_drew (S := fun X => Bt X g (.slice xad n xlc) xc xd) (by kernel_rfl) (HBT.out) (fun hS0 => ?_)
        refine held_take (i := 0) (v := ?_) rfl (by kernel_rfl) (by kernel_rfl) (by kernel_rfl) (fun _ _ _ h => h) (by rfl) ?_ (by assumption) ?_
        rotate_left
        · intro X hSX
          try dsimp only at hSX
          go_simp <;> with_reducible rfl
        simp only [Act.put, List.setIfInBounds_toArray, List.set_cons_zero, List.set_cons_succ]
        refine held_take (i := 1) (v := ?_) rfl (by kernel_rfl) (by kernel_rfl) (by kernel_rfl) (fun _ _ _ h => h) (by rfl) ?_ (by assumption) ?_
        rotate_left
        · intro X hSX
          try dsimp only at hSX
          go_simp <;> with_reducible rfl
        simp only [Act.put, List.setIfInBounds_toArray, List.set_cons_zero, List.set_cons_succ]
        refine held_take (i := 2) (v := ?_) rfl (by kernel_rfl) (by kernel_rfl) (by kernel_rfl) (fun _ _ _ h => h) (by rfl) ?_ (by assumption) ?_
        rotate_left
        · intro X hSX
          try dsimp only at hSX
          have hcell := hSX.c0
          go_simp <;> with_reducible rfl
        simp only [Act.put, List.setIfInBounds_toArray, List.set_cons_zero, List.set_cons_succ]
        refine held_take (i := 3) (v := ?_) rfl (by kernel_rfl) (by kernel_rfl) (by kernel_rfl) (fun _ _ _ h => h) (by rfl) ?_ (by assumption) ?_
        rotate_left
        · intro X hSX
          try dsimp only at hSX
          go_simp <;> with_reducible rfl
        simp only [Act.put, List.setIfInBounds_toArray, List.set_cons_zero, List.set_cons_succ]
        refine held_take (i := 4) (v := ?_) rfl (by kernel_rfl) (by kernel_rfl) (by kernel_rfl) (fun _ _ _ h => h) (by rfl) ?_ (by assumption) ?_
        rotate_left
        · intro X hSX
          try dsimp only at hSX
          go_simp <;> with_reducible rfl
        simp only [Act.put, List.setIfInBounds_toArray, List.set_cons_zero, List.set_cons_succ]
        refine held_take (i := 5) (v := ?_) rfl (by kernel_rfl) (by kernel_rfl) (by kernel_rfl) (fun _ _ _ h => h) (by rfl) ?_ (by assumption) ?_
        rotate_left
        · intro X hSX
          try dsimp only at hSX
          go_simp <;> with_reducible rfl
        simp only [Act.put, List.setIfInBounds_toArray, List.set_cons_zero, List.set_cons_succ]
        refine held_take (i := 7) (v := ?_) rfl (by kernel_rfl) (by kernel_rfl) (by kernel_rfl) (fun _ _ _ h => h) (by rfl) ?_ (by assumption) ?_
        rotate_left
        · intro X hSX
          try dsimp only at hSX
          go_simp <;> with_reducible rfl
        simp only [Act.put, List.setIfInBounds_toArray, List.set_cons_zero, List.set_cons_succ]
        refine held_take (i := 8) (v := ?_) rfl (by kernel_rfl) (by kernel_rfl) (by kernel_rfl) (fun _ _ _ h => h) (by rfl) ?_ (by assumption) ?_
        rotate_left
        · intro X hSX
          try dsimp only at hSX
          have hcell := hSX.c0
          go_simp <;> with_reducible rfl
        simp only [Act.put, List.setIfInBounds_toArray, List.set_cons_zero, List.set_cons_succ]
        refine held_call (i := 6) rfl (by kernel_rfl) (by rfl) (fun K' hK' => ?_)
        go_simp
        refine HPU.out.mono ?_
        rintro e w2 ⟨v2, rfl, ho2, hb2⟩
        have HB2 := Lib.hid (HBT.out.below hb2)
        have HX2 := Lib.hid (HXD.out.below hb2 rfl)
        have HO2 := Lib.hid ho2
        have HBW2 := Lib.hid (HBD.out.trans (hb2.mono HBD.out.size))
        have HS2 := Lib.hid hb2.size
        clear hb2 ho2
        refine held_go hK' (HB2.out) ?_
        try simp only [Act.put, List.setIfInBounds_toArray, List.set_cons_zero, List.set_cons_succ]
        refine held_call (i := 9) rfl (by kernel_rfl) (by rfl) (fun K' hK' => ?_)
        obtain ⟨bx, ox, hxa, _⟩ := HX2.out.some_of (by rw [HNL.out]; exact hl0)
        subst hxa
        refine wp_append_us (.tmp 27) (.tmp 29) rfl W.drew.heap.size _ _ rfl HO2.out bx ox n xlc xl HX2.out HNL.out.symm rfl (by have := enc_len (2 * n) (by omega); rw [List.length_append]; omega) HS2.out ?_
        intro v3 w3 ho3 hg3
        have HK3 := Lib.hid (KeepU.grown HO2.out hg3 HS2.out)
        have HB3 := Lib.hid (HB2.out.u HK3.out)
        have HBW3 := Lib.hid (HBW2.out.trans (HK3.out.below.mono HBD.out.size))
        have HO3 := Lib.hid (ho3.mono HBD.out.size)
        clear ho3 hg3
        refine held_go hK' (HB3.out) ?_
        try simp only [Act.put, List.setIfInBounds_toArray, List.set_cons_zero, List.set_cons_succ]
        refine held_take (i := 10) (v := ?_) rfl (by kernel_rfl) (by kernel_rfl) (by kernel_rfl) (fun _ _ _ h => h) (by rfl) ?_ (by assumption) ?_
        rotate_left
        · intro X hSX
          try dsimp only at hSX
          go_simp <;> with_reducible rfl
        simp only [Act.put, List.setIfInBounds_toArray, List.set_cons_zero, List.set_cons_succ]
        refine wpAnyH_done (by kernel_rfl) ?_ _
        refine NoPanic.normal ?_
        go_wp2
        refine ⟨⟨i + 1, by rw [Int.natCast_add]; rfl, by omega, Lib.hid (by rw [HSN.out, ← List.append_assoc]; exact HO3.out), HBW3⟩, ?_⟩
        show ts.length - ((i : Int) + 1).toNat < ts.length - (i : Int).toNat
        omega
      · obtain rfl : n = 0 := by omega
        obtain ⟨q0, q1, q2, q3⟩ := hfi2 rfl
        obtain ⟨c, rfl⟩ : ∃ c : Nat, xc = c := ⟨xc.toNat, by omega⟩
        obtain ⟨d, rfl⟩ : ∃ d : Nat, xd = d := ⟨xd.toNat, by omega⟩
        have htk : Tk.form (Tkn.tk ⟨xl, xad, xlc, (c : Int), (d : Int)⟩) = enc (2 * c + 1) ++ enc d := by
          unfold Tkn.tk
          dsimp only
          rw [HNL.out, if_neg (by omega), Int.toNat_natCast, Int.toNat_natCast]
          rfl
        rw [htk] at HSN
        have hw1 : IntKind.i64.wrap (2 * (c : Int)) = 2 * (c : Int) := by rw [IntKind.wrap_i64]; omega
        have hw2 : IntKind.i64.wrap (2 * (c : Int) + 1) = 2 * (c : Int) + 1 := by rw [IntKind.wrap_i64]; omega
        have hw3 : IntKind.u64.wrap (2 * (c : Int) + 1) = 2 * (c : Int) + 1 := by rw [IntKind.wrap_u64]; omega
        have hw4 : IntKind.u64.wrap (d : Int) = (d : Int) := by rw [IntKind.wrap_u64]; omega
        have hpu := rput a1 c1 out.length out (2 * c + 1) W.drew rfl HLD.out HN1.out (by omega) (by omega)
        push_cast at hpu
        have HPU := Lib.hid hpu
        clear hpu htk
        go_wp2_with fail
        refine wp_region_noPanic ?_
        refine wp_region_held_drew (S := fun X => Bt X g (.slice xad 0 xlc) c d) (by kernel_rfl) (HBT.out) (fun hS0 => ?_)
        refine held_take (i := 0) (v := ?_) rfl (by kernel_rfl) (by kernel_rfl) (by kernel_rfl) (fun _ _ _ h => h) (by rfl) ?_ (by assumption) ?_
        rotate_left
        · intro X hSX
          try dsimp only at hSX
          go_simp <;> with_reducible rfl
        simp only [Act.put, List.setIfInBounds_toArray, List.set_cons_zero, List.set_cons_succ]
        refine held_take (i := 1) (v := ?_) rfl (by kernel_rfl) (by kernel_rfl) (by kernel_rfl) (fun _ _ _ h => h) (by rfl) ?_ (by assumption) ?_
        rotate_left
        · intro X hSX
          try dsimp only at hSX
          go_simp <;> with_reducible rfl
        simp only [Act.put, List.setIfInBounds_toArray, List.set_cons_zero, List.set_cons_succ]
        refine held_take (i := 2) (v := ?_) rfl (by kernel_rfl) (by kernel_rfl) (by kernel_rfl) (fun _ _ _ h => h) (by rfl) ?_ (by assumption) ?_
        rotate_left
        · intro X hSX
          try dsimp only at hSX
          have hcell := hSX.c1
          go_simp <;> with_reducible rfl
        simp only [Act.put, List.setIfInBounds_toArray, List.set_cons_zero, List.set_cons_succ]
        refine held_take (i := 3) (v := ?_) rfl (by kernel_rfl) (by kernel_rfl) (by kernel_rfl) (fun _ _ _ h => h) (by rfl) ?_ (by assumption) ?_
        rotate_left
        · intro X hSX
          try dsimp only at hSX
          go_simp <;> with_reducible rfl
        simp only [Act.put, List.setIfInBounds_toArray, List.set_cons_zero, List.set_cons_succ]
        refine held_take (i := 4) (v := ?_) rfl (by kernel_rfl) (by kernel_rfl) (by kernel_rfl) (fun _ _ _ h => h) (by rfl) ?_ (by assumption) ?_
        rotate_left
        · intro X hSX
          try dsimp only at hSX
          go_simp <;> with_reducible rfl
        simp only [Act.put, List.setIfInBounds_toArray, List.set_cons_zero, List.set_cons_succ]
        refine held_take (i := 5) (v := ?_) rfl (by kernel_rfl) (by kernel_rfl) (by kernel_rfl) (fun _ _ _ h => h) (by rfl) ?_ (by assumption) ?_
        rotate_left
        · intro X hSX
          try dsimp only at hSX
          go_simp <;> with_reducible rfl
        simp only [Act.put, List.setIfInBounds_toArray, List.set_cons_zero, List.set_cons_succ]
        refine held_take (i := 7) (v := ?_) rfl (by kernel_rfl) (by kernel_rfl) (by kernel_rfl) (fun _ _ _ h => h) (by rfl) ?_ (by assumption) ?_
        rotate_left
        · intro X hSX
          try dsimp only at hSX
          go_simp <;> with_reducible rfl
        simp only [Act.put, List.setIfInBounds_toArray, List.set_cons_zero, List.set_cons_succ]
        refine held_take (i := 8) (v := ?_) rfl (by kernel_rfl) (by kernel_rfl) (by kernel_rfl) (fun _ _ _ h => h) (by rfl) ?_ (by assumption) ?_
        rotate_left
        · intro X hSX
          try dsimp only at hSX
          have hcell := hSX.c2
          go_simp <;> with_reducible rfl
        simp only [Act.put, List.setIfInBounds_toArray, List.set_cons_zero, List.set_cons_succ]
        refine held_take (i := 9) (v := ?_) rfl (by kernel_rfl) (by kernel_rfl) (by kernel_rfl) (fun _ _ _ h => h) (by rfl) ?_ (by assumption) ?_
        rotate_left
        · intro X hSX
          try dsimp only at hSX
          go_simp <;> with_reducible rfl
        simp only [Act.put, List.setIfInBounds_toArray, List.set_cons_zero, List.set_cons_succ]
        refine held_call (i := 6) rfl (by kernel_rfl) (by rfl) (fun K' hK' => ?_)
        go_simp
        refine HPU.out.mono ?_
        rintro e w2 ⟨v2, rfl, ho2, hb2⟩
        have HB2 := Lib.hid (HBT.out.below hb2)
        have hel := enc_len (2 * c + 1) (by omega)
        obtain ⟨o2, ho2e⟩ : ∃ o2, out ++ enc (2 * c + 1) = o2 := ⟨_, rfl⟩
        have ho2l : o2.length ≤ 1000000 := by rw [← ho2e, List.length_append]; omega
        rw [ho2e] at ho2
        obtain ⟨a2, c2, rfl, hl2, _, _, hn2⟩ := ho2.slice
        have hpv := rput a2 c2 o2.length o2 d w2 rfl hl2 hn2 ho2l (by omega)
        have HO2E := Lib.hid ho2e
        have HPV := Lib.hid hpv
        have HBW2 := Lib.hid (HBD.out.trans (hb2.mono HBD.out.size))
        clear hb2 ho2 hpv hl2 hn2 ho2e
        refine held_go hK' (HB2.out) ?_
        try simp only [Act.put, List.setIfInBounds_toArray, List.set_cons_zero, List.set_cons_succ]
        refine held_call (i := 10) rfl (by kernel_rfl) (by rfl) (fun K' hK' => ?_)
        go_simp
        refine HPV.out.mono ?_
        rintro e w3 ⟨v3, rfl, ho3, hb3⟩
        have HB3 := Lib.hid (HB2.out.below hb3)
        have HO3 := Lib.hid (ho3.mono HBW2.out.size)
        have HBW3 := Lib.hid (HBW2.out.trans (hb3.mono HBW2.out.size))
        clear hb3 ho3
        refine held_go hK' (HB3.out) ?_
        try simp only [Act.put, List.setIfInBounds_toArray, List.set_cons_zero, List.set_cons_succ]
        refine held_take (i := 11) (v := ?_) rfl (by kernel_rfl) (by kernel_rfl) (by kernel_rfl) (fun _ _ _ h => h) (by rfl) ?_ (by assumption) ?_
        rotate_left
        · intro X hSX
          try dsimp only at hSX
          go_simp <;> with_reducible rfl
        simp only [Act.put, List.setIfInBounds_toArray, List.set_cons_zero, List.set_cons_succ]
        refine wpAnyH_done (by kernel_rfl) ?_ _
        refine NoPanic.normal ?_
        go_wp2
        refine ⟨⟨i + 1, by rw [Int.natCast_add]; rfl, by omega, Lib.hid (by rw [HSN.out, ← List.append_assoc, HO2E.out]; exact HO3.out), HBW3⟩, ?_⟩
        show ts.length - ((i : Int) + 1).toNat < ts.length - (i : Int).toNat
        omega
    · obtain rfl : i = ts.length := by omega
      obtain ⟨a1, c1, rfl, hl1, _, _, _⟩ := ho.out.slice
      have hta : (ts.take ts.length).map Tkn.tk = ts.map Tkn.tk := by rw [List.take_length]
      have HO := ho.out
      rw [hta] at HO
      have HO2 := Lib.hid HO
      rw [hta]
      clear HO hl1 hta ho
      go_wp2
      go_ret
      exact ⟨_, rfl, HO2.out, hb.out⟩
end Go.Proofs.Ytihiccccpjakgaa
