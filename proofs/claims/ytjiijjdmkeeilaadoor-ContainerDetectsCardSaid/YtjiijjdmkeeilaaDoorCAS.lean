/-
  The specification's reader of numbers.
  Loads of a region that draws, taken first although a later operation of the region writes what they read: the condition on the world is asked until that operation (number st) comes up, which waits for them.
  The specification's decode: what it gives.
-/
import Derived.Test.YtjiijjdmkeeilaaDoorCAB
import Derived.Test.YtjiijjdmkeeilaaDoorCAR
import Derived.Test.YtjiijjdmkeeilaaDoorCAK
import Derived.Test.YtjiijjdmkeeilaaDoorCAE
import Derived.BigQuiet
import Derived.Test.YtjiijjdmkeeilaaDoorCAC
import Derived.Test.YtjiijjdmkeeilaaDoorCAO
namespace Go.Proofs.YtjiijjdmkeeilaaDoor
open Go.RowKit
set_option linter.unusedVariables false
set_option linter.unusedSimpArgs false
/-- what a reader at A reads next: the number, the offset behind it, whether it is bad -/
noncomputable def nxtU (p : List UInt8) (A : Int) (bad : Bool) : Int × Int × Bool :=
  if bad = true ∨ (uR p A).2.2 ≠ 0 ∨ 1125899906842624 < (uR p A).1 then (0, A, true) else (((uR p A).1 : Int), (uR p A).2.1, false)
/-- and as a checksum -/
noncomputable def cksU (p : List UInt8) (A : Int) (bad : Bool) : Nat × Int × Bool :=
  if (nxtU p A bad).1 < 4294967296 ∨ 8589934592 ≤ (nxtU p A bad).1 then (0, (nxtU p A bad).2.1, true) else (((nxtU p A bad).1 - 4294967296).toNat, (nxtU p A bad).2.1, (nxtU p A bad).2.2)
/-- a reader lies in block g -/
def RdRow (w : World) (g : Nat) (ad : Option Addr) (n cap : Nat) (A : Int) (bad : Bool) : Prop := w.heap[g]? = some (.cells #[.slice ad n cap, .int .i64 A, .bool bad] 110 (0, 0))
theorem RdRow.lt {w : World} {g : Nat} {ad : Option Addr} {n cap : Nat} {A : Int} {bad : Bool} (h : RdRow w g ad n cap A bad) : g < w.heap.size := (Array.getElem?_eq_some_iff.1 h).1
theorem RdRow.below {W w : World} {g B : Nat} {ad : Option Addr} {n cap : Nat} {A : Int} {bad : Bool} (h : RdRow W g ad n cap A bad) (hb : Below B W w) (hB : g < B) : RdRow w g ad n cap A bad := (hb.block g hB).trans h
theorem RdRow.at_ {w : World} {g : Nat} {ad : Option Addr} {n cap : Nat} {A : Int} {bad : Bool} (h : RdRow w g ad n cap A bad) :
    w.cell? ⟨g, 0, none⟩ = some (.slice ad n cap) ∧ w.cell? ⟨g, 1, none⟩ = some (.int .i64 A) ∧ w.cell? ⟨g, 2, none⟩ = some (.bool bad) :=
  ⟨cell_of_row w g 0 _ _ _ h, cell_of_row w g 1 _ _ _ h, cell_of_row w g 2 _ _ _ h⟩
theorem RdRow.frozen {w : World} {g : Nat} {ad : Option Addr} {n cap : Nat} {A : Int} {bad : Bool} (h : RdRow w g ad n cap A bad) (j : Nat) : w.frozen? ⟨g, j, none⟩ = false := by
  simp [World.frozen?, show w.heap[g]? = _ from h]
theorem RdRow.setA {w : World} {g : Nat} {ad : Option Addr} {n cap : Nat} {A : Int} {bad : Bool} (h : RdRow w g ad n cap A bad) (A2 : Int) : RdRow (w.setCell ⟨g, 1, none⟩ (.int .i64 A2)) g ad n cap A2 bad :=
  hd_set w g 1 _ _ _ _ h
theorem RdRow.setB {w : World} {g : Nat} {ad : Option Addr} {n cap : Nat} {A : Int} {bad : Bool} (h : RdRow w g ad n cap A bad) (b2 : Bool) : RdRow (w.setCell ⟨g, 2, none⟩ (.bool b2)) g ad n cap A b2 :=
  hd_set w g 2 _ _ _ _ h
set_option maxRecDepth 100000 in
set_option maxHeartbeats 2000000 in
theorem rdnext_any (g : Nat) (ad : Option Addr) (n cap : Nat) (p : List UInt8) (A : Int) (bad : Bool) (w : World) (hr : RdRow w g ad n cap A bad) (hl : Lie w ad p) (hn : n = p.length) (hs : p.length ≤ 1000000) :
    Calls Tryd.prog 89 #[.pointer (some ⟨g, 0, none⟩)] w fun e w' =>
      e = .returned (.int .i64 (nxtU p A bad).1) ∧ RdRow w' g ad n cap (nxtU p A bad).2.1 (nxtU p A bad).2.2 ∧ RdKeep g w w' := by
  subst hn
  have HR := Lib.hid hr
  have HL := Lib.hid hl
  have HBX := Lib.hid (Below.refl w.heap.size w).drew
  have HS := Lib.hid hs
  have HX := Lib.hid (show nxtU p A bad = if bad = true ∨ (uR p A).2.2 ≠ 0 ∨ 1125899906842624 < (uR p A).1 then (0, A, true) else (((uR p A).1 : Int), (uR p A).2.1, false) from rfl)
  have HU := Lib.hid (fun w hl => ruint_any ad cap p A w hl hs)
  clear hr hl hs
  generalize nxtU p A bad = F at *
  rcases hq : uR p A with ⟨N, Q, E⟩
  rw [hq] at HU HX
  clear hq
  dsimp only at HU HX
  go_enter Tryd.func89, Tryd.ntmps89
  go_wp2_with fail
  refine wp_region_noPanic ?_
  refine wp_region_held_drew (S := fun X => Below w.heap.size w X) (by kernel_rfl) (HBX.out) (fun hS0 => ?_)
  refine held_take (i := 0) (v := ?_) rfl (by kernel_rfl) (by kernel_rfl) (by kernel_rfl) (fun _ _ _ h => h) (by rfl) ?_ (by assumption) ?_
  rotate_left
  · intro X hSX
    try dsimp only at hSX
    go_simp <;> with_reducible rfl
  simp only [Act.put, List.setIfInBounds_toArray, List.set_cons_zero, List.set_cons_succ]
  refine held_take (i := 1) (v := ?_) rfl (by kernel_rfl) (by kernel_rfl) (by kernel_rfl) (fun _ _ _ h => h) (by rfl) ?_ (by assumption) ?_
  rotate_left
  · intro X hSX
    try dsimp only at hSX
    go_simp <;> with_reducible rfl
  simp only [Act.put, List.setIfInBounds_toArray, List.set_cons_zero, List.set_cons_succ]
  refine held_take (i := 2) (v := ?_) rfl (by kernel_rfl) (by kernel_rfl) (by kernel_rfl) (fun _ _ _ h => h) (by rfl) ?_ (by assumption) ?_
  rotate_left
  · intro X hSX
    try dsimp only at hSX
    go_simp <;> with_reducible rfl
  simp only [Act.put, List.setIfInBounds_toArray, List.set_cons_zero, List.set_cons_succ]
  refine held_take (i := 3) (v := ?_) rfl (by kernel_rfl) (by kernel_rfl) (by kernel_rfl) (fun _ _ _ h => h) (by rfl) ?_ (by assumption) ?_
  rotate_left
  · intro X hSX
    try dsimp only at hSX
    obtain ⟨c0, c1, c2⟩ := (HR.out.below hSX HR.out.lt).at_
    go_simp <;> with_reducible rfl
  simp only [Act.put, List.setIfInBounds_toArray, List.set_cons_zero, List.set_cons_succ]
  refine held_take (i := 4) (v := ?_) rfl (by kernel_rfl) (by kernel_rfl) (by kernel_rfl) (fun _ _ _ h => h) (by rfl) ?_ (by assumption) ?_
  rotate_left
  · intro X hSX
    try dsimp only at hSX
    go_simp <;> with_reducible rfl
  simp only [Act.put, List.setIfInBounds_toArray, List.set_cons_zero, List.set_cons_succ]
  refine held_take (i := 5) (v := ?_) rfl (by kernel_rfl) (by kernel_rfl) (by kernel_rfl) (fun _ _ _ h => h) (by rfl) ?_ (by assumption) ?_
  rotate_left
  · intro X hSX
    try dsimp only at hSX
    go_simp <;> with_reducible rfl
  simp only [Act.put, List.setIfInBounds_toArray, List.set_cons_zero, List.set_cons_succ]
  refine held_take (i := 6) (v := ?_) rfl (by kernel_rfl) (by kernel_rfl) (by kernel_rfl) (fun _ _ _ h => h) (by rfl) ?_ (by assumption) ?_
  rotate_left
  · intro X hSX
    try dsimp only at hSX
    go_simp <;> with_reducible rfl
  simp only [Act.put, List.setIfInBounds_toArray, List.set_cons_zero, List.set_cons_succ]
  refine held_take (i := 7) (v := ?_) rfl (by kernel_rfl) (by kernel_rfl) (by kernel_rfl) (fun _ _ _ h => h) (by rfl) ?_ (by assumption) ?_
  rotate_left
  · intro X hSX
    try dsimp only at hSX
    obtain ⟨c0, c1, c2⟩ := (HR.out.below hSX HR.out.lt).at_
    go_simp <;> with_reducible rfl
  simp only [Act.put, List.setIfInBounds_toArray, List.set_cons_zero, List.set_cons_succ]
  refine held_call (i := 8) rfl (by kernel_rfl) (by rfl) (fun K' hK' => ?_)
  go_simp
  refine (HU.out _ (HL.out.below HBX.out rfl)).mono ?_
  rintro e w' ⟨rfl, rfl⟩
  refine held_go hK' (HBX.out) ?_
  try simp only [Act.put, List.setIfInBounds_toArray, List.set_cons_zero, List.set_cons_succ]
  refine held_take (i := 9) (v := ?_) rfl (by kernel_rfl) (by kernel_rfl) (by kernel_rfl) (fun _ _ _ h => h) (by rfl) ?_ (by assumption) ?_
  rotate_left
  · intro X hSX
    try dsimp only at hSX
    go_simp <;> with_reducible rfl
  simp only [Act.put, List.setIfInBounds_toArray, List.set_cons_zero, List.set_cons_succ]
  refine held_take (i := 10) (v := ?_) rfl (by kernel_rfl) (by kernel_rfl) (by kernel_rfl) (fun _ _ _ h => h) (by rfl) ?_ (by assumption) ?_
  rotate_left
  · intro X hSX
    try dsimp only at hSX
    go_simp <;> with_reducible rfl
  simp only [Act.put, List.setIfInBounds_toArray, List.set_cons_zero, List.set_cons_succ]
  refine held_take (i := 11) (v := ?_) rfl (by kernel_rfl) (by kernel_rfl) (by kernel_rfl) (fun _ _ _ h => h) (by rfl) ?_ (by assumption) ?_
  rotate_left
  · intro X hSX
    try dsimp only at hSX
    go_simp <;> with_reducible rfl
  simp only [Act.put, List.setIfInBounds_toArray, List.set_cons_zero, List.set_cons_succ]
  refine held_take (i := 12) (v := ?_) rfl (by kernel_rfl) (by kernel_rfl) (by kernel_rfl) (fun _ _ _ h => h) (by rfl) ?_ (by assumption) ?_
  rotate_left
  · intro X hSX
    try dsimp only at hSX
    go_simp <;> with_reducible rfl
  simp only [Act.put, List.setIfInBounds_toArray, List.set_cons_zero, List.set_cons_succ]
  refine held_take (i := 13) (v := ?_) rfl (by kernel_rfl) (by kernel_rfl) (by kernel_rfl) (fun _ _ _ h => h) (by rfl) ?_ (by assumption) ?_
  rotate_left
  · intro X hSX
    try dsimp only at hSX
    go_simp <;> with_reducible rfl
  simp only [Act.put, List.setIfInBounds_toArray, List.set_cons_zero, List.set_cons_succ]
  refine held_take (i := 14) (v := ?_) rfl (by kernel_rfl) (by kernel_rfl) (by kernel_rfl) (fun _ _ _ h => h) (by rfl) ?_ (by assumption) ?_
  rotate_left
  · intro X hSX
    try dsimp only at hSX
    go_simp <;> with_reducible rfl
  simp only [Act.put, List.setIfInBounds_toArray, List.set_cons_zero, List.set_cons_succ]
  refine held_take (i := 15) (v := ?_) rfl (by kernel_rfl) (by kernel_rfl) (by kernel_rfl) (fun _ _ _ h => h) (by rfl) ?_ (by assumption) ?_
  rotate_left
  · intro X hSX
    try dsimp only at hSX
    go_simp <;> with_reducible rfl
  simp only [Act.put, List.setIfInBounds_toArray, List.set_cons_zero, List.set_cons_succ]
  refine wpAnyH_done (by kernel_rfl) ?_ _
  refine NoPanic.normal ?_
  have HR2 := Lib.hid (HR.out.below HBX.out HR.out.lt)
  have HK2 := Lib.hid (RdKeep.of_below HBX.out HR.out.lt)
  clear HR HL HBX HU
  generalize World.drew w = W at *
  obtain ⟨c0, c1, c2⟩ := HR2.out.at_
  have f2 := HR2.out.frozen 2
  have f1 := HR2.out.frozen 1
  cases bad
  · by_cases hE : E = 0
    · subst hE
      by_cases hN : 1125899906842624 < N
      · have hN1 : (1125899906842624 : Int) < (N : Int) := by omega
        have HF : Hid (F = (0, A, true)) := Lib.hid (HX.out.trans (if_pos (.inr (.inr hN))))
        clear hN
        go_wp2
        go_ret
        exact ⟨by rw [HF.out]; rfl, by rw [HF.out]; exact HR2.out.setB true, HK2.out.set 2 _⟩
      · have hN1 : (N : Int) ≤ (1125899906842624 : Int) := by omega
        have HF : Hid (F = ((N : Int), Q, false)) := Lib.hid (HX.out.trans (if_neg (fun h => h.elim (fun h => by cases h) (fun h => h.elim (fun h => h rfl) hN))))
        have hw : IntKind.i64.wrap (N : Int) = (N : Int) := IntWalk.i64_in _ (by omega)
        clear hN
        go_wp2
        go_ret
        exact ⟨by rw [HF.out]; rfl, by rw [HF.out]; exact HR2.out.setA Q, HK2.out.set 1 _⟩
    · have HF : Hid (F = (0, A, true)) := Lib.hid (HX.out.trans (if_pos (.inr (.inl hE))))
      have k2 := ne_t hE
      clear hE
      go_wp2
      go_ret
      exact ⟨by rw [HF.out]; rfl, by rw [HF.out]; exact HR2.out.setB true, HK2.out.set 2 _⟩
  · have HF : Hid (F = (0, A, true)) := Lib.hid (HX.out.trans (if_pos (.inl rfl)))
    go_wp2
    go_ret
    exact ⟨by rw [HF.out]; rfl, by rw [HF.out]; exact HR2.out.setB true, HK2.out.set 2 _⟩
theorem nxtU_in {p : List UInt8} {A : Int} {bad : Bool} : 0 ≤ (nxtU p A bad).1 ∧ (nxtU p A bad).1 ≤ 1125899906842624 := by
  unfold nxtU
  split
  · exact ⟨Int.le_refl _, (by decide : (0 : Int) ≤ 1125899906842624)⟩
  · rename_i h
    have : ¬ 1125899906842624 < (uR p A).1 := fun h' => h (.inr (.inr h'))
    refine ⟨?_, ?_⟩ <;> dsimp only <;> omega
set_option maxRecDepth 100000 in
set_option maxHeartbeats 2000000 in
theorem rdsum_any (g : Nat) (ad : Option Addr) (n cap : Nat) (p : List UInt8) (A : Int) (bad : Bool) (w : World) (hr : RdRow w g ad n cap A bad) (hl : Lie w ad p) (hn : n = p.length) (hs : p.length ≤ 1000000) :
    Calls Tryd.prog 90 #[.pointer (some ⟨g, 0, none⟩)] w fun e w' =>
      e = .returned (.int .u32 ((cksU p A bad).1 : Int)) ∧ RdRow w' g ad n cap (cksU p A bad).2.1 (cksU p A bad).2.2 ∧ RdKeep g w w' := by
  have H := Lib.hid (rdnext_any g ad n cap p A bad w hr hl hn hs)
  have HI := Lib.hid (@nxtU_in p A bad)
  have HX := Lib.hid (show cksU p A bad = if (nxtU p A bad).1 < 4294967296 ∨ 8589934592 ≤ (nxtU p A bad).1 then (0, (nxtU p A bad).2.1, true) else (((nxtU p A bad).1 - 4294967296).toNat, (nxtU p A bad).2.1, (nxtU p A bad).2.2) from rfl)
  clear hr hl hn hs
  generalize cksU p A bad = F at *
  rcases hq : nxtU p A bad with ⟨N, Q, b2⟩
  rw [hq] at H HX HI
  clear hq
  dsimp only at H HX HI
  go_enter Tryd.func90, Tryd.ntmps90
  go_wp2_with fail
  refine H.out.mono ?_
  rintro e W ⟨rfl, hr2, hk2⟩
  have HR2 := Lib.hid hr2
  have HK2 := Lib.hid hk2
  have f2 := HR2.out.frozen 2
  obtain ⟨c0, c1, c2⟩ := HR2.out.at_
  clear hr2 hk2 H
  have hi := HI.out
  obtain ⟨M, hM⟩ : ∃ M, M = N - 4294967296 := ⟨_, rfl⟩
  have hw : IntKind.i64.wrap (N - 4294967296) = M := by rw [hM]; exact IntWalk.i64_in _ (by omega)
  have HM := Lib.hid hM
  clear hM hi
  by_cases h0 : M < 0
  · have HF : Hid (F = (0, Q, true)) := Lib.hid (HX.out.trans (if_pos (.inl (by have := HM.out; omega))))
    go_wp2
    go_ret
    exact ⟨by rw [HF.out]; rfl, by rw [HF.out]; exact HR2.out.setB true, HK2.out.set 2 _⟩
  by_cases h1 : 4294967296 ≤ M
  · have HF : Hid (F = (0, Q, true)) := Lib.hid (HX.out.trans (if_pos (.inr (by have := HM.out; omega))))
    go_wp2
    go_ret
    exact ⟨by rw [HF.out]; rfl, by rw [HF.out]; exact HR2.out.setB true, HK2.out.set 2 _⟩
  have HF : Hid (F = (M.toNat, Q, b2)) := Lib.hid (HX.out.trans ((if_neg (by have := HM.out; omega)).trans (by rw [HM.out])))
  have hu : IntKind.u32.wrap M = M := IntWalk.u32_in _ (by omega)
  have HT := Lib.hid (show ((M.toNat : Nat) : Int) = M by omega)
  go_wp2
  go_ret
  exact ⟨by rw [HF.out, HT.out]; rfl, by rw [HF.out]; exact HR2.out, HK2.out⟩
end Go.Proofs.YtjiijjdmkeeilaaDoor
namespace Go.Proofs.YtjiijjdmkeeilaaDoor
open Go.RowKit
set_option linter.unusedVariables false
section
variable {P : Program} {md : Region.Mode} {ops : Array Oper} {Q : Exit → Act → World → Prop} {st : Nat} {S : World → Prop}
/-- whatever comes up, S holds behind it as long as number st has not come up -/
def untl (P : Program) (md : Region.Mode) (ops : Array Oper) (Q : Exit → Act → World → Prop) (st : Nat) (S : World → Prop) : Nat → Array Bool → Act → World → Prop
  | 0, l, a, w => Region.ready md ops l = [] ∧ Q .normal a w
  | n + 1, l, a, w => (Region.ready md ops l = [] → Q .normal a w) ∧ ∀ i ∈ Region.ready md ops l, wpOp P ops Q i (fun a' w' => ((l.setIfInBounds i true).getD st true = false → S w') ∧ untl P md ops Q st S n (l.setIfInBounds i true) a' w') a w
theorem untl_any : ∀ (n : Nat) (l : Array Bool) (a : Act) (w : World), untl P md ops Q st S n l a w → wpAny P md ops Q n l a w
  | 0, _, _, _, h => h
  | n + 1, _, _, _, h => ⟨h.1, fun i hi => wpOp_mono (fun a' w' h' => untl_any n _ a' w' h'.2) (h.2 i hi)⟩
theorem getD_set_self {l : Array Bool} {i j : Nat} (h : l.getD j true = true) : (l.setIfInBounds i true).getD j true = true := by
  by_cases hij : i = j
  · subst hij
    rcases Nat.lt_or_ge i l.size with h' | h'
    · simp [h']
    · simp [Array.getElem?_eq_none (show (l.setIfInBounds i true).size ≤ i by simpa using h')]
  · rw [getD_set_ne true hij]; exact h
/-- behind number st nothing is asked any more -/
theorem untl_past : ∀ (n : Nat) (l : Array Bool) (a : Act) (w : World), l.getD st true = true → wpAnyH P md ops Q (fun _ => True) n l a w → untl P md ops Q st S n l a w
  | 0, _, _, _, _, h => h
  | n + 1, l, _, _, hl, h => ⟨h.1, fun i hi => wpOp_mono (fun a' w' h' => ⟨fun hf => (by rw [getD_set_self hl] at hf; cases hf), untl_past n _ a' w' (getD_set_self hl) h'.2⟩) (h.2 i hi)⟩
/-- number k waits for number i -/
def waits (md : Region.Mode) (ops : Array Oper) (k i : Nat) : Bool := match ops[k]? with | some o => o.after.any fun e => Region.binds md e && e.on == i | none => false
theorem waits_not {k i : Nat} (h : waits md ops k i = true) {l : Array Bool} (hl : l.getD i true = false) : k ∉ Region.ready md ops l := by
  intro hk
  obtain ⟨_, o, ho, hall⟩ := mem_ready.1 hk
  unfold waits at h
  rw [ho] at h
  obtain ⟨e, he, hb⟩ := Array.any_eq_true'.1 h
  rw [Bool.and_eq_true, beq_iff_eq] at hb
  have h1 := hall e he hb.1
  rw [hb.2] at h1
  rcases Nat.lt_or_ge i l.size with h' | h'
  · simp [h'] at hl h1; rw [hl] at h1; cases h1
  · simp [Array.getElem?_eq_none h'] at hl
/-- number i is taken first: number st waits for j, and j for i (or i is j) -/
theorem untl_first {i j : Nat} {oi : Oper} {v : Value} (hi : ops[i]? = some oi) (hsel : ∀ (k : Nat) (o : Oper) cs b, ops[k]? = some o → o.op ≠ .select cs b)
    (hQ : ∀ c a w, Q (.panic c) (a.put oi.dst v) w → Q (.panic c) a w) (hj : waits md ops st j = true) (hji : j = i ∨ waits md ops j i = true) (his : i ≠ st) :
    ∀ (n : Nat) (l : Array Bool) (a : Act) (w : World),
      (∀ k ok, ops[k]? = some ok → k ≠ i → l.getD k true = false → (∀ e ∈ ok.after, Region.binds md e = true → e.on ≠ i) → oi.apart ops ok = true) →
      i ∈ Region.ready md ops l → YieldsIf P ops S oi v a → S w → l.getD st true = false → l.getD j true = false →
      untl P md ops Q st S n (l.setIfInBounds i true) (a.put oi.dst v) w → untl P md ops Q st S (n + 1) l a w := by
  intro n
  induction n with
  | zero =>
    intro l a w hfree hr hy hS hst hlj H
    refine ⟨fun h => (by rw [h] at hr; cases hr), fun k hk => ?_⟩
    by_cases hki : k = i
    · subst hki; exact hy.wpOp hi hS ⟨fun _ => hS, H⟩
    · have := ready_mono hk hki
      rw [H.1] at this
      cases this
  | succ n ih =>
    intro l a w hfree hr hy hS hst hlj H
    have hli : l.getD i true = false := (mem_ready.1 hr).1
    refine ⟨fun h => (by rw [h] at hr; cases hr), fun k hk => ?_⟩
    by_cases hki : k = i
    · subst hki; exact hy.wpOp hi hS ⟨fun _ => hS, H⟩
    · have hks : st ≠ k := fun e => waits_not hj hlj (e ▸ hk)
      have hkj : k ≠ j := fun e => by
        rcases hji with h | h
        · exact hki (e.trans h)
        · exact waits_not h hli (e ▸ hk)
      obtain ⟨hkun, ok, hok, hall⟩ := mem_ready.1 hk
      have hnot : ∀ e ∈ ok.after, Region.binds md e = true → e.on ≠ i := fun e he hb heq => by
        have h1 := hall e he hb
        rw [heq] at h1
        rcases Nat.lt_or_ge i l.size with h' | h'
        · simp [h'] at hli h1; rw [hli] at h1; cases h1
        · simp [Array.getElem?_eq_none h'] at h1
      have h2 := wpOp_putIf hok (hfree k ok hok hki hkun hnot) (fun cs b => hsel i oi cs b hi) (fun cs b => hsel k ok cs b hok) hQ hy (H.2 k (ready_mono hk hki))
      refine wpOp_mono (fun a' w' h3 => ?_) h2
      have hS' : S w' := h3.2.1 (by rw [getD_set_ne true (Ne.symm hks), getD_set_ne true his]; exact hst)
      refine ⟨fun _ => hS', ih (l.setIfInBounds k true) a' w' (fun q oq hq hqi hun hno => hfree q oq hq hqi ?_ hno) (ready_mono hr (Ne.symm hki)) h3.1 hS' ?_ ?_ ?_⟩
      · by_cases hkq : k = q
        · subst hkq; exact hkun
        · rw [getD_set_ne true hkq] at hun; exact hun
      · rw [getD_set_ne true (Ne.symm hks)]; exact hst
      · rw [getD_set_ne true hkj]; exact hlj
      · rw [Array.setIfInBounds_comm _ _ hki]; exact h3.2.2
theorem untl_take {l : List Oper} {i : Nat} (j : Nat) {oi : Oper} {v : Value} {n : Nat} {listed : Array Bool} {a : Act} {w : World} (hi : l[i]? = some oi)
    (hs : Region.noSelect l.toArray = true) (hf : Region.free md l.toArray listed i = true) (hr : (Region.ready md l.toArray listed).contains i = true)
    (hj : waits md l.toArray st j = true) (hji : (j == i || waits md l.toArray j i) = true) (his : (i == st) = false) (hst : listed.getD st true = false) (hlj : listed.getD j true = false)
    (hQ : ∀ c a w, Q (.panic c) (a.put oi.dst v) w → Q (.panic c) a w) (hw : Region.wanted oi (yielded l.toArray a.tmps) = true)
    (hy : ∀ w, S w → (execOp a.eval oi).run P w = .ok (.value v) w) (hS : S w)
    (h : untl P md l.toArray Q st S n (listed.setIfInBounds i true) (a.put oi.dst v) w) : untl P md l.toArray Q st S (n + 1) listed a w :=
  untl_first (i := i) (j := j) (oi := oi) (v := v) (by rw [List.getElem?_toArray]; exact hi) (Region.noSelect_spec hs) hQ hj (by simpa using hji) (by simpa using his) n listed a w (Region.free_spec (by rw [List.getElem?_toArray]; exact hi) hf) (by simpa using hr) (.inl ⟨hw, hy⟩) hS hst hlj h
/-- what depends on no world is taken first, whatever else comes up -/
theorem untl_pure_first {i : Nat} {oi : Oper} {v : Value} (hi : ops[i]? = some oi) (hsel : ∀ (k : Nat) (o : Oper) cs b, ops[k]? = some o → o.op ≠ .select cs b)
    (hQ : ∀ c a w, Q (.panic c) (a.put oi.dst v) w → Q (.panic c) a w) (his : i ≠ st) :
    ∀ (n : Nat) (l : Array Bool) (a : Act) (w : World),
      (∀ k ok, ops[k]? = some ok → k ≠ i → l.getD k true = false → (∀ e ∈ ok.after, Region.binds md e = true → e.on ≠ i) → oi.apart ops ok = true) →
      i ∈ Region.ready md ops l → YieldsIf P ops (fun _ => True) oi v a → (l.getD st true = false → S w) →
      untl P md ops Q st S n (l.setIfInBounds i true) (a.put oi.dst v) w → untl P md ops Q st S (n + 1) l a w := by
  intro n
  induction n with
  | zero =>
    intro l a w hfree hr hy hS H
    refine ⟨fun h => (by rw [h] at hr; cases hr), fun k hk => ?_⟩
    by_cases hki : k = i
    · subst hki; exact hy.wpOp hi trivial ⟨fun h => hS (by rwa [getD_set_ne true his] at h), H⟩
    · have := ready_mono hk hki
      rw [H.1] at this
      cases this
  | succ n ih =>
    intro l a w hfree hr hy hS H
    have hli : l.getD i true = false := (mem_ready.1 hr).1
    refine ⟨fun h => (by rw [h] at hr; cases hr), fun k hk => ?_⟩
    by_cases hki : k = i
    · subst hki; exact hy.wpOp hi trivial ⟨fun h => hS (by rwa [getD_set_ne true his] at h), H⟩
    · obtain ⟨hkun, ok, hok, hall⟩ := mem_ready.1 hk
      have hnot : ∀ e ∈ ok.after, Region.binds md e = true → e.on ≠ i := fun e he hb heq => by
        have h1 := hall e he hb
        rw [heq] at h1
        rcases Nat.lt_or_ge i l.size with h' | h'
        · simp [h'] at hli h1; rw [hli] at h1; cases h1
        · simp [Array.getElem?_eq_none h'] at h1
      have h2 := wpOp_putIf hok (hfree k ok hok hki hkun hnot) (fun cs b => hsel i oi cs b hi) (fun cs b => hsel k ok cs b hok) hQ hy (H.2 k (ready_mono hk hki))
      refine wpOp_mono (fun a' w' h3 => ?_) h2
      have hS' : (l.setIfInBounds k true).getD st true = false → S w' := fun h => h3.2.1 (by rw [Array.setIfInBounds_comm _ _ (Ne.symm hki), getD_set_ne true his]; exact h)
      refine ⟨hS', ih (l.setIfInBounds k true) a' w' (fun q oq hq hqi hun hno => hfree q oq hq hqi ?_ hno) (ready_mono hr (Ne.symm hki)) h3.1 hS' ?_⟩
      · by_cases hkq : k = q
        · subst hkq; exact hkun
        · rw [getD_set_ne true hkq] at hun; exact hun
      · rw [Array.setIfInBounds_comm _ _ hki]; exact h3.2.2
theorem untl_pure {l : List Oper} {i : Nat} {oi : Oper} {v : Value} {n : Nat} {listed : Array Bool} {a : Act} {w : World} (hi : l[i]? = some oi)
    (hs : Region.noSelect l.toArray = true) (hf : Region.free md l.toArray listed i = true) (hr : (Region.ready md l.toArray listed).contains i = true)
    (his : (i == st) = false) (hQ : ∀ c a w, Q (.panic c) (a.put oi.dst v) w → Q (.panic c) a w) (hw : Region.wanted oi (yielded l.toArray a.tmps) = true)
    (hy : ∀ w, (execOp a.eval oi).run P w = .ok (.value v) w) (hS : S w)
    (h : untl P md l.toArray Q st S n (listed.setIfInBounds i true) (a.put oi.dst v) w) : untl P md l.toArray Q st S (n + 1) listed a w :=
  untl_pure_first (i := i) (oi := oi) (v := v) (by rw [List.getElem?_toArray]; exact hi) (Region.noSelect_spec hs) hQ (by simpa using his) n listed a w (Region.free_spec (by rw [List.getElem?_toArray]; exact hi) hf) (by simpa using hr) (.inl ⟨hw, fun w _ => hy w⟩) (fun _ => hS) h
theorem untl_call {l : List Oper} {i : Nat} {oi : Oper} {n : Nat} {listed : Array Bool} {a : Act} {w : World} (hi : l[i]? = some oi)
    (hr : Region.ready md l.toArray listed = [i]) (hw : Region.wanted oi (yielded l.toArray a.tmps) = true)
    (h : ∀ K' : Act → World → Prop, Shut (∀ a w, ((listed.setIfInBounds i true).getD st true = false → S w) → untl P md l.toArray Q st S n (listed.setIfInBounds i true) a w → K' a w) → Oper.wp P oi a w K' Q) :
    untl P md l.toArray Q st S (n + 1) listed a w := by
  refine ⟨fun h0 => (by rw [hr] at h0; cases h0), fun k hk => ?_⟩
  rw [hr] at hk
  obtain rfl : k = i := by simpa using hk
  exact wpOp_step (by rw [List.getElem?_toArray]; exact hi) (fun K' hK => by
    rw [if_pos hw]
    exact h K' (fun a w hS hU => hK a w ⟨hS, hU⟩))
theorem untl_go {n : Nat} {listed : Array Bool} {K' : Act → World → Prop} {a : Act} {w : World}
    (hK : Shut (∀ a w, (listed.getD st true = false → S w) → untl P md ops Q st S n listed a w → K' a w)) (hS : listed.getD st true = false → S w) (h : untl P md ops Q st S n listed a w) : K' a w := hK.out a w hS h
theorem region_untl {id : Nat} {a : Act} {w : World} (hm : P.follows .mixedOrders = true) (st : Nat) (S : World → Prop) (hS : S w.drew)
    (h : S w.drew → untl P .any ops Q st S ops.size (Array.replicate ops.size false) a w.drew) : (Code.region id ops true).wp P Q a w :=
  wp_region_any hm (untl_any _ _ _ _ (h hS))
end
end Go.Proofs.YtjiijjdmkeeilaaDoor
namespace Go.Proofs.YtjiijjdmkeeilaaDoor
open Go.RowKit
set_option linter.unusedVariables false
set_option linter.unusedSimpArgs false
/-- the next number, and the reader behind it -/
noncomputable def nxI (p : List UInt8) (s : Int × Bool) : Int := (nxtU p s.1 s.2).1
noncomputable def nsI (p : List UInt8) (s : Int × Bool) : Int × Bool := (nxtU p s.1 s.2).2
/-- the next entry, and the reader behind it -/
noncomputable def entU (p : List UInt8) (s : Int × Bool) : Ent × Int × Bool :=
  (⟨nxI p s, nxI p (nsI p s), nxI p (nsI p (nsI p s)), nxI p (nsI p (nsI p (nsI p s))), (cksU p (nsI p (nsI p (nsI p (nsI p s)))).1 (nsI p (nsI p (nsI p (nsI p s)))).2).1⟩, (cksU p (nsI p (nsI p (nsI p (nsI p s)))).1 (nsI p (nsI p (nsI p (nsI p s)))).2).2)
/-- at most so many entries, as long as the reader is good -/
noncomputable def entsU (p : List UInt8) : Nat → Int × Bool → List Ent × Int × Bool
  | 0, s => ([], s)
  | k + 1, s => if s.2 = true then ([], s) else ((entU p s).1 :: (entsU p k (entU p s).2).1, (entsU p k (entU p s).2).2)
/-- the reader behind k numbers -/
noncomputable def nk (p : List UInt8) : Nat → Int × Bool
  | 0 => (0, false)
  | k + 1 => nsI p (nk p k)
/-- the header that bytes give -/
noncomputable def dec9 (p : List UInt8) : List Ent × Int × Bool := entsU p (nxI p (nk p 8)).toNat (nk p 9)
noncomputable def hdD (p : List UInt8) : Hdr :=
  ⟨nxI p (nk p 0), nxI p (nk p 1), nxI p (nk p 2), nxI p (nk p 3), nxI p (nk p 4), nxI p (nk p 5), nxI p (nk p 6), nxI p (nk p 7), (dec9 p).1, nxI p (dec9 p).2, (cksU p (nsI p (dec9 p).2).1 (nsI p (dec9 p).2).2).1⟩
noncomputable def decS (p : List UInt8) : Int × Bool := (cksU p (nsI p (dec9 p).2).1 (nsI p (dec9 p).2).2).2
noncomputable def decU (p : List UInt8) : Hdr × Bool := (hdD p, !(decS p).2 && decide ((decS p).1 = (p.length : Int)) && vldH (hdD p))
theorem nxtU_ok {p : List UInt8} {A : Int} {bad : Bool} (h : (nxtU p A bad).2.2 = false) : bad = false ∧ 0 ≤ A ∧ A < (nxtU p A bad).2.1 ∧ (nxtU p A bad).2.1 ≤ p.length := by
  unfold nxtU at h ⊢
  split at h
  · simp at h
  · rename_i hc
    rw [if_neg hc]
    have hb : bad = false := by cases bad; rfl; exact (hc (.inl rfl)).elim
    have he : (uR p A).2.2 = 0 := Decidable.byContradiction fun h' => hc (.inr (.inl h'))
    obtain ⟨-, a, q, h1, h2, h3, h4, -⟩ := uR_ok (xs := p) (at_ := A) (n := (uR p A).1) (p := (uR p A).2.1) (by rw [← he])
    refine ⟨hb, by omega, ?_, ?_⟩ <;> dsimp only <;> omega
theorem cksU_ok {p : List UInt8} {A : Int} {bad : Bool} (h : (cksU p A bad).2.2 = false) : (nxtU p A bad).2.2 = false ∧ (cksU p A bad).2.1 = (nxtU p A bad).2.1 := by
  unfold cksU at h ⊢
  split at h
  · simp at h
  · rename_i hc
    rw [if_neg hc]
    exact ⟨h, rfl⟩
theorem cksU_lt {p : List UInt8} {A : Int} {bad : Bool} : (cksU p A bad).1 < 4294967296 := by
  unfold cksU
  split
  · exact (by decide : (0 : Nat) < 4294967296)
  · dsimp only
    omega
theorem nsI_ok {p : List UInt8} {s : Int × Bool} (h : (nsI p s).2 = false) : s.2 = false ∧ 0 ≤ s.1 ∧ s.1 < (nsI p s).1 ∧ (nsI p s).1 ≤ p.length := nxtU_ok h
theorem entU_ok {p : List UInt8} {s : Int × Bool} (h : (entU p s).2.2 = false) : s.2 = false ∧ 0 ≤ s.1 ∧ s.1 < (entU p s).2.1 ∧ (entU p s).2.1 ≤ p.length := by
  obtain ⟨h5, e5⟩ := cksU_ok h
  obtain ⟨h4, a5, b5, c5⟩ := nxtU_ok h5
  obtain ⟨h3, a4, b4, c4⟩ := nsI_ok h4
  obtain ⟨h2, a3, b3, c3⟩ := nsI_ok h3
  obtain ⟨h1, a2, b2, c2⟩ := nsI_ok h2
  obtain ⟨h0, a1, b1, c1⟩ := nsI_ok h1
  have e : (entU p s).2.1 = (nxtU p (nsI p (nsI p (nsI p (nsI p s)))).1 (nsI p (nsI p (nsI p (nsI p s)))).2).2.1 := e5
  refine ⟨h0, a1, ?_, ?_⟩ <;> rw [e] <;> omega
theorem entU_lt {p : List UInt8} {s : Int × Bool} : (entU p s).1.s < 4294967296 := cksU_lt
theorem entsU_bad {p : List UInt8} {k : Nat} {A : Int} : entsU p k (A, true) = ([], A, true) := by
  cases k with
  | zero => rfl
  | succ k => exact if_pos rfl
theorem entsU_good {p : List UInt8} {k : Nat} {A : Int} : entsU p (k + 1) (A, false) = ((entU p (A, false)).1 :: (entsU p k (entU p (A, false)).2).1, (entsU p k (entU p (A, false)).2).2) := if_neg (by simp)
end Go.Proofs.YtjiijjdmkeeilaaDoor
