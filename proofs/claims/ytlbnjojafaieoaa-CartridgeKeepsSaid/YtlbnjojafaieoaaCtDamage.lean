/-
  The specification's Damage.
-/
import Derived.Test.YtlbnjojafaieoaaCtErase
import Derived.Test.YtlbnjojafaieoaaCtCopy
namespace Go.Proofs.Ytlbnjojafaieoaa
open Go.RowKit
set_option linter.unusedVariables false
/-- a list of the call's own stays where blocks below it are written -/
theorem Kq.keep {w w' : World} {D : Nat} {v : Value} {l : List Blk} (h : Kq w D D v l) (hb : ∀ k, D ≤ k → k < w.heap.size → w'.heap[k]? = w.heap[k]?) (hs : w.heap.size ≤ w'.heap.size) : Kq w' D D v l := by
  obtain ⟨E, e, h1, h2⟩ := h
  refine ⟨E, e, ⟨h1.1, ?_⟩, fun k hk => ⟨?_, (h2 k hk).le, (h2 k hk).mx, (h2 k hk).nn⟩⟩
  · rcases h1.2 with h0 | ⟨g, cap, cur, hv, hB, hg, h4⟩
    · exact .inl h0
    · exact .inr ⟨g, cap, cur, hv, hB, (hb g hB (Array.getElem?_eq_some_iff.1 hg).1).trans hg, h4⟩
  · rcases (h2 k hk).lie with h0 | ⟨b, off, e, h3, h4, h5, h6⟩
    · exact .inl h0
    · exact .inr ⟨b, off, e, h3, Nat.lt_of_lt_of_le h4 hs, h5, fun j hj => (World.cell?_of_block (a := ⟨b, off + j, none⟩) (hb b h3 h4)).trans (h6 j hj)⟩
/-- the block i lies in the span -/
def ins (i : Nat) (f c : Int) : Bool := decide (1 ≤ c) && ((decide (f < 0) && decide ((i : Int) < f + c)) || (decide (0 ≤ f) && (decide (f ≤ (i : Int)) && decide ((i : Int) - f < c))))
def mkBad (l : List Blk) (i : Nat) : List Blk := if h : i < l.length then l.set i ⟨l[i].m, true, l[i].d⟩ else l
/-- the first n blocks damaged -/
def dmN (l : List Blk) (f c : Int) : Nat → List Blk
  | 0 => l
  | n + 1 => if ins n f c = true then mkBad (dmN l f c n) n else dmN l f c n
theorem dmN_succ (l : List Blk) (f c : Int) (n : Nat) : dmN l f c (n + 1) = if ins n f c = true then mkBad (dmN l f c n) n else dmN l f c n := rfl
theorem dmN_zero (l : List Blk) (f c : Int) : dmN l f c 0 = l := rfl
theorem dmN_length (l : List Blk) (f c : Int) (n : Nat) : (dmN l f c n).length = l.length := by
  induction n with
  | zero => rfl
  | succ n ih =>
    rw [dmN]
    split
    · unfold mkBad
      split
      · rw [List.length_set, ih]
      · exact ih
    · exact ih
theorem dmN_get (l : List Blk) (f c : Int) (n : Nat) : ∀ j (h : j < l.length) (h' : j < (dmN l f c n).length), (dmN l f c n)[j] = ⟨l[j].m, l[j].bad || (decide (j < n) && ins j f c), l[j].d⟩ := by
  induction n with
  | zero => intro j h h'; simp [dmN]
  | succ n ih =>
    intro j h h'
    have hl := dmN_length l f c n
    have hj : j < (dmN l f c n).length := by omega
    have h0 := ih j h hj
    have key : dmN l f c (n + 1) = if ins n f c = true then mkBad (dmN l f c n) n else dmN l f c n := rfl
    simp only [key]
    by_cases hi : ins n f c = true
    · simp only [hi, if_true]
      unfold mkBad
      by_cases hn : n < (dmN l f c n).length
      · simp only [hn, dif_pos]
        rw [List.getElem_set]
        by_cases e : n = j
        · subst e
          rw [if_pos rfl]
          rw [h0]
          simp [hi]
        · rw [if_neg e, h0]
          have : (decide (j < n + 1)) = decide (j < n) := by simp; omega
          rw [this]
      · simp only [hn, dif_neg, not_false_eq_true]
        rw [h0]
        have : (decide (j < n + 1)) = decide (j < n) := by simp; omega
        rw [this]
    · simp only [hi, if_false, Bool.false_eq_true]
      rw [h0]
      by_cases e : n = j
      · subst e
        simp [hi]
      · have : (decide (j < n + 1)) = decide (j < n) := by simp; omega
        rw [this]
def dmgC (v : Bool) (c : Crt) (f n : Int) : Crt := if v = true then {c with l := dmN c.l f n c.l.length} else crZ
/-- a call hands back a cartridge -/
def RetD (w : World) (r : Crt) (e : Ending) (w' : World) : Prop := ∃ ad cap, e = .returned (crV r ad cap) ∧ CrIn w' r ad cap ∧ Below w.heap.size w w'
theorem post_cellD {P : Program} {fn : Func} {R : Ending → World → Prop} {p : Tmp} {ty : TypeId} (h : fn.results = #[.cell p ty]) {a : Act} {w : World} {g : Nat} {cs : Array Value} {t : TypeId} {d : TypeDesc}
    (hp : a.tmps.getD p undef = .pointer (some ⟨g, 0, none⟩)) (hg : w.heap[g]? = some (.cells cs t (0, 0))) (hu : P.underlying ty = some d) (hd : (match d with | .struct _ | .array _ _ => true | _ => false) = true)
    (hi : (P.info? ty).map (·.size) = some cs.size) (hdef : a.defers = []) (hR : R (.returned (.agg cs)) w) : bodyPost P fn R .ret a w := by
  refine bodyPost_ret (v := .agg cs) ?_ hdef hR
  have e : (results fn a.tmps).run P w = ((asAddr (a.tmps.getD p undef)).run P w).andThen fun b w1 => (loadVar ty b).run P w1 := by
    simp only [results, h]
    simp [Sem.run_bind, Result.andThen]
  rw [e, hp]
  simp only [asAddr, Sem.run_pure, Result.andThen, run_loadVar_row w g t ty cs (0, 0) d hg hu hd hi]
theorem allB_small {l : List Blk} (h : allB l = true) : ∀ b ∈ l, b.d.length ≤ 10000 := by
  intro b hb
  unfold allB at h
  rw [List.all_eq_true] at h
  have := h b hb
  unfold okB at this
  by_cases hm : b.m = true
  · rw [if_pos hm, beq_iff_eq] at this; omega
  · rw [if_neg hm, Bool.and_eq_true, decide_eq_true_iff, decide_eq_true_iff] at this; omega
/-- three boxes at a function's begin: the cartridge, a span, the result -/
theorem three_boxes (w : World) (bc : ByteArray) (W L S T J R : Int) (wo lk : Bool) (ad : Option Addr) (n cap : Nat) (ep lo pa f c : Int) :
    Below w.heap.size w (((w.alloc (boxK bc W L S T J R wo lk ad n cap ep lo pa)).alloc (.cells #[.int .i64 f, .int .i64 c] 40)).alloc (boxK ⟨#[]⟩ 0 0 0 0 0 0 false false none 0 0 0 0 0)) ∧
    CrBox w (((w.alloc (boxK bc W L S T J R wo lk ad n cap ep lo pa)).alloc (.cells #[.int .i64 f, .int .i64 c] 40)).alloc (boxK ⟨#[]⟩ 0 0 0 0 0 0 false false none 0 0 0 0 0)) bc W L S T J R wo lk ad n cap ep lo pa ∧
    SpAt (((w.alloc (boxK bc W L S T J R wo lk ad n cap ep lo pa)).alloc (.cells #[.int .i64 f, .int .i64 c] 40)).alloc (boxK ⟨#[]⟩ 0 0 0 0 0 0 false false none 0 0 0 0 0)) (w.heap.size + 1) f c ∧
    (((w.alloc (boxK bc W L S T J R wo lk ad n cap ep lo pa)).alloc (.cells #[.int .i64 f, .int .i64 c] 40)).alloc (boxK ⟨#[]⟩ 0 0 0 0 0 0 false false none 0 0 0 0 0)).heap[w.heap.size + 1 + 1]? = some (.cells (crK ⟨#[]⟩ 0 0 0 0 0 0 false false none 0 0 0 0 0) 26 (0, 0)) ∧
    w.heap.size + 3 ≤ (((w.alloc (boxK bc W L S T J R wo lk ad n cap ep lo pa)).alloc (.cells #[.int .i64 f, .int .i64 c] 40)).alloc (boxK ⟨#[]⟩ 0 0 0 0 0 0 false false none 0 0 0 0 0)).heap.size := by
  refine ⟨below_box3 _ _ _ _, ((CrBox.new w bc W L S T J R wo lk ad n cap ep lo pa).below (below_box1 _ _)).below (below_box1 _ _), ?_, ?_, by simp⟩
  · have := (SpAt.new (w.alloc (boxK bc W L S T J R wo lk ad n cap ep lo pa)) f c 40).alloc (boxK ⟨#[]⟩ 0 0 0 0 0 0 false false none 0 0 0 0 0)
    rwa [World.size_alloc] at this
  · have := heap_alloc_new ((w.alloc (boxK bc W L S T J R wo lk ad n cap ep lo pa)).alloc (.cells #[.int .i64 f, .int .i64 c] 40)) (boxK ⟨#[]⟩ 0 0 0 0 0 0 false false none 0 0 0 0 0)
    rwa [World.size_alloc, World.size_alloc] at this
/-- a function with a cartridge, a span and a result, on its way -/
structure Way3 (w w' : World) (bc : ByteArray) (W L S T J R : Int) (wo lk : Bool) (ad : Option Addr) (n cap : Nat) (ep lo pa f c : Int) : Prop where
  b : Below w.heap.size w w'
  cb : CrBox w w' bc W L S T J R wo lk ad n cap ep lo pa
  p : SpAt w' (w.heap.size + 1) f c
  z : w'.heap[w.heap.size + 1 + 1]? = some (.cells (crK ⟨#[]⟩ 0 0 0 0 0 0 false false none 0 0 0 0 0) 26 (0, 0))
  s : w.heap.size + 3 ≤ w'.heap.size
theorem Way3.start (w : World) (bc : ByteArray) (W L S T J R : Int) (wo lk : Bool) (ad : Option Addr) (n cap : Nat) (ep lo pa f c : Int) : Way3 w (((w.alloc (boxK bc W L S T J R wo lk ad n cap ep lo pa)).alloc (.cells #[.int .i64 f, .int .i64 c] 40)).alloc (boxK ⟨#[]⟩ 0 0 0 0 0 0 false false none 0 0 0 0 0)) bc W L S T J R wo lk ad n cap ep lo pa f c := by
  obtain ⟨h1, h2, h3, h4, h5⟩ := three_boxes w bc W L S T J R wo lk ad n cap ep lo pa f c
  exact ⟨h1, h2, h3, h4, h5⟩
theorem Way3.next {w X Y : World} {bc : ByteArray} {W L S T J R : Int} {wo lk : Bool} {ad : Option Addr} {n cap : Nat} {ep lo pa f c : Int} (h : Way3 w X bc W L S T J R wo lk ad n cap ep lo pa f c) (hb : Below X.heap.size X Y) : Way3 w Y bc W L S T J R wo lk ad n cap ep lo pa f c :=
  ⟨h.b.trans (hb.mono h.b.size), h.cb.below hb, h.p.below hb h.p.lt, (hb.block _ (by have := h.s; omega)).trans h.z, Nat.le_trans h.s hb.size⟩
attribute [local irreducible] tim vld bar cnt okB capU allB vldC eqK dmN ins mkBad
set_option maxRecDepth 100000 in
set_option maxHeartbeats 4000000 in
theorem rdamage_any (c : Crt) (ad : Option Addr) (cap : Nat) (f n : Int) (w : World) (hin : CrIn w c ad cap) (f0 : -9223372036854775808 ≤ f) (f1 : f ≤ 9223372036854775807) (n0 : -9223372036854775808 ≤ n) (n1 : n ≤ 9223372036854775807) :
    Calls Try.prog 31 #[crV c ad cap, .agg #[.int .i64 f, .int .i64 n]] w fun e w' => RetD w (dmgC (vldC c) c f n) e w' := by
  have HVX := Lib.hid (fun X (h : Below w.heap.size w X) => rvalc_any c ad cap X (hin.below h))
  have HKI := Lib.hid hin.ki
  have hbs := hin.bs
  have HPT := Lib.hid (fun h => vldC_parts (c := c) h)
  clear hin
  obtain ⟨bc, W, L, S, T, J, R, wo, lk, l, ep, lo, pa⟩ := c
  simp only at HKI HPT hbs
  generalize vldC ⟨bc, W, L, S, T, J, R, wo, lk, l, ep, lo, pa⟩ = vv at *
  have HD1 := Lib.hid (show dmgC false ⟨bc, W, L, S, T, J, R, wo, lk, l, ep, lo, pa⟩ f n = crZ from rfl)
  have HD2 := Lib.hid (show dmgC true ⟨bc, W, L, S, T, J, R, wo, lk, l, ep, lo, pa⟩ f n = ⟨bc, W, L, S, T, J, R, wo, lk, dmN l f n l.length, ep, lo, pa⟩ from rfl)
  obtain ⟨M, hM⟩ : ∃ M, M = l.length := ⟨_, rfl⟩
  show Calls Try.prog 31 #[crW bc W L S T J R wo lk ad l.length cap ep lo pa, .agg #[.int .i64 f, .int .i64 n]] w _
  have HX2 : Hid (∀ X, Below w.heap.size w X → Calls Try.prog 15 #[crW bc W L S T J R wo lk ad M cap ep lo pa] X fun e w' => e = .returned (.bool vv) ∧ Below X.heap.size X w') := Lib.hid (by rw [hM]; exact HVX.out)
  clear HVX
  have HM := Lib.hid hM
  rw [← hM] at HD2 ⊢
  clear hM
  have HW := Lib.hid (Way3.start w bc W L S T J R wo lk ad M cap ep lo pa f n)
  go_enter Try.func31, Try.ntmps31
  go_wp2_with fail
  generalize World.alloc _ _ = X0 at *
  refine (HX2.out X0 HW.out.b).mono ?_
  rintro e w1 ⟨rfl, hb⟩
  replace HW := Lib.hid (HW.out.next hb)
  clear hb
  cases vv
  · go_wp2_with (with_reducible refine wpList_store_cr rfl (.tmp 4) (.tmp 10) rfl (w.heap.size + 1 + 1) rfl _ _ _ _ _ _ _ _ _ _ _ _ _ _ _ rfl _ _ _ _ _ _ _ _ _ _ _ _ _ _ _ HW.out.z ?_)
    refine post_cellD rfl rfl (setRow_heap _ _ _ _ _ _ HW.out.z) Try.underlying26 rfl infoC rfl ?_
    rw [HD1.out]
    exact ⟨none, 0, rfl, ⟨Ki.nil _ _, Nat.le_refl _, Nat.zero_le _, fun _ => rfl, Nat.zero_le _⟩, below_set HW.out.b (by omega) _⟩
  obtain ⟨hv, hlen, hall, _⟩ := HPT.out rfl
  have hM2 : M ≤ 4096 := by have := HM.out; have := hv.c1; omega
  have HSM := Lib.hid (allB_small hall)
  clear hv hlen hall HPT
  obtain ⟨_, k0, k1, k2, k3, k4, k5, k6, k7, k8, k9, k10, k11, k12⟩ := HW.out.cb.at_
  go_wp2_with fail
  clear k0 k1 k2 k3 k4 k5 k6 k7 k8 k9 k10 k11 k12
  refine (rcopied_any ad M cap l w1 (HKI.out.below HW.out.b) HM.out hM2 HSM.out).mono ?_
  rintro e w2 ⟨v, rfl, hk, hb⟩
  have HK0 := Lib.hid hk
  have HB0 := Lib.hid hb
  have HLN := Lib.hid (fun i => (dmN_length l f n i).trans HM.out.symm)
  have HDS := Lib.hid (fun i => dmN_succ l f n i)
  have HD0 := Lib.hid (dmN_zero l f n)
  obtain ⟨ad5, cap5, rfl, -, hcl, hcm, hcn, -⟩ := hk.read
  rw [← HM.out] at HK0 hcl
  rw [← HM.out]
  clear hk hb
  go_wp2
  go_loopg [6] M (fun gk vi wx => ∃ i : Nat, i + gk = M ∧ vi = .int .i64 i ∧ Hid (Kq wx w1.heap.size w1.heap.size (.slice ad5 M cap5) (dmN l f n i)) ∧ Hid (Below w1.heap.size w1 wx))
  case atStart => exact ⟨0, by omega, rfl, by rw [HD0.out]; exact HK0, HB0⟩
  case round =>
    obtain ⟨i, hi, rfl, hK, hB⟩ := hrel
    have HW3 := Lib.hid (HW.out.next hB.out)
    cases gk with
    | zero =>
      obtain rfl : i = M := by omega
      obtain ⟨_, k0, k1, k2, k3, k4, k5, k6, k7, k8, k9, k10, k11, k12⟩ := HW3.out.cb.at_
      have f9 := HW3.out.cb.frozen 9
      have HZ : Hid ((wr.setCell ⟨w.heap.size, 9, none⟩ (.slice ad5 i cap5)).heap[w.heap.size + 1 + 1]? = some (.cells (crK ⟨#[]⟩ 0 0 0 0 0 0 false false none 0 0 0 0 0) 26 (0, 0))) := Lib.hid (by
        rw [Below.heap_setCell _ _ _ _ (by show w.heap.size + 1 + 1 ≠ w.heap.size; omega)]
        exact HW3.out.z)
      go_wp2_with (with_reducible refine wpList_store_cr rfl (.tmp 4) (.tmp 63) rfl (w.heap.size + 1 + 1) rfl _ _ _ _ _ _ _ _ _ _ _ _ _ _ _ rfl _ _ _ _ _ _ _ _ _ _ _ _ _ _ _ HZ.out ?_)
      refine post_cellD rfl rfl (setRow_heap _ _ _ _ _ _ HZ.out) Try.underlying26 rfl infoC rfl ?_
      have hsz : (wr.setCell ⟨w.heap.size, 9, none⟩ (.slice ad5 i cap5)).heap.size = wr.heap.size := by simp [World.setCell]
      have hk2 := hK.out.keep (w' := (wr.setCell ⟨w.heap.size, 9, none⟩ (.slice ad5 i cap5)).setRow (w.heap.size + 1 + 1) (crK bc W L S T J R wo lk ad5 i cap5 ep lo pa)) (fun k hk _ => by
        have := HW.out.s
        rw [setRow_other _ _ _ _ (by omega), Below.heap_setCell _ _ _ _ (by show k ≠ w.heap.size; omega)]) (by simp [World.setRow, World.setCell])
      obtain ⟨ad6, cap6, e6, hx6, h61, h62, h63, _⟩ := hk2.read
      rw [HLN.out i] at e6 h61
      cases e6
      rw [HD2.out]
      refine ⟨ad5, cap5, by show _ = Ending.returned (crW bc W L S T J R wo lk ad5 (dmN l f n i).length cap5 ep lo pa); rw [HLN.out i], ⟨hx6.ki, by rw [HLN.out i]; exact h61, h62, h63, hbs⟩, below_set ((HW3.out.b).setCell (Nat.le_refl _) _) (by omega) _⟩
    | succ gk0 =>
      have hiM : i < M := by omega
      obtain ⟨_, p0, p1⟩ := HW3.out.p
      have part : n < 1 ∨ (1 ≤ n ∧ f < 0 ∧ (i : Int) < f + n) ∨ (1 ≤ n ∧ f < 0 ∧ f + n ≤ (i : Int)) ∨ (1 ≤ n ∧ 0 ≤ f ∧ (i : Int) < f) ∨ (1 ≤ n ∧ 0 ≤ f ∧ f ≤ (i : Int) ∧ (i : Int) - f < n) ∨ (1 ≤ n ∧ 0 ≤ f ∧ f ≤ (i : Int) ∧ n ≤ (i : Int) - f) := by omega
      rcases part with h1 | ⟨h1, h2, h3⟩ | ⟨h1, h2, h3⟩ | ⟨h1, h2, h3⟩ | ⟨h1, h2, h3, h4⟩ | ⟨h1, h2, h3, h4⟩
      · have HI := Lib.hid (show ins i f n = false by unfold ins; simp; omega)
        have HX := Lib.hid (HDS.out i)
        rw [HI.out] at HX
        clear HI
        go_wp2
        go_roundg gk0
        case rel => exact ⟨i + 1, by omega, by go_num, by rw [HX.out]; simp only [Bool.false_eq_true, if_false]; exact hK, hB⟩
        case measure => omega
      · have HI := Lib.hid (show ins i f n = true by unfold ins; simp; omega)
        have HX := Lib.hid (HDS.out i)
        rw [HI.out] at HX
        clear HI
        obtain ⟨g, cap6, hv, hg1, hg2, -, -, hc, hfz, hk2⟩ := hK.out.set_ i (by rw [HLN.out i]; exact hiM)
        rw [HLN.out i] at hv
        cases hv
        have HK2 := Lib.hid hk2
        have HB2 := Lib.hid (hB.out.setCell (p := ⟨g, i * 3 + 1, none⟩) hg1 (.bool true))
        have HMB := Lib.hid (show mkBad (dmN l f n i) i = (dmN l f n i).set i ⟨((dmN l f n i)[i]'(by rw [HLN.out i]; exact hiM)).m, true, ((dmN l f n i)[i]'(by rw [HLN.out i]; exact hiM)).d⟩ by unfold mkBad; rw [dif_pos (by rw [HLN.out i]; exact hiM)])
        clear hk2
        go_wp2
        go_roundg gk0
        case rel => exact ⟨i + 1, by omega, by go_num, by rw [HX.out]; simp only [if_true]; rw [HMB.out]; exact HK2, HB2⟩
        case measure => omega
      · have HI := Lib.hid (show ins i f n = false by unfold ins; simp; omega)
        have HX := Lib.hid (HDS.out i)
        rw [HI.out] at HX
        clear HI
        go_wp2
        go_roundg gk0
        case rel => exact ⟨i + 1, by omega, by go_num, by rw [HX.out]; simp only [Bool.false_eq_true, if_false]; exact hK, hB⟩
        case measure => omega
      · have HI := Lib.hid (show ins i f n = false by unfold ins; simp; omega)
        have HX := Lib.hid (HDS.out i)
        rw [HI.out] at HX
        clear HI
        go_wp2
        go_roundg gk0
        case rel => exact ⟨i + 1, by omega, by go_num, by rw [HX.out]; simp only [Bool.false_eq_true, if_false]; exact hK, hB⟩
        case measure => omega
      · have HI := Lib.hid (show ins i f n = true by unfold ins; simp; omega)
        have HX := Lib.hid (HDS.out i)
        rw [HI.out] at HX
        clear HI
        obtain ⟨g, cap6, hv, hg1, hg2, -, -, hc, hfz, hk2⟩ := hK.out.set_ i (by rw [HLN.out i]; exact hiM)
        rw [HLN.out i] at hv
        cases hv
        have HK2 := Lib.hid hk2
        have HB2 := Lib.hid (hB.out.setCell (p := ⟨g, i * 3 + 1, none⟩) hg1 (.bool true))
        have HMB := Lib.hid (show mkBad (dmN l f n i) i = (dmN l f n i).set i ⟨((dmN l f n i)[i]'(by rw [HLN.out i]; exact hiM)).m, true, ((dmN l f n i)[i]'(by rw [HLN.out i]; exact hiM)).d⟩ by unfold mkBad; rw [dif_pos (by rw [HLN.out i]; exact hiM)])
        clear hk2
        go_wp2
        go_roundg gk0
        case rel => exact ⟨i + 1, by omega, by go_num, by rw [HX.out]; simp only [if_true]; rw [HMB.out]; exact HK2, HB2⟩
        case measure => omega
      · have HI := Lib.hid (show ins i f n = false by unfold ins; simp; omega)
        have HX := Lib.hid (HDS.out i)
        rw [HI.out] at HX
        clear HI
        go_wp2
        go_roundg gk0
        case rel => exact ⟨i + 1, by omega, by go_num, by rw [HX.out]; simp only [Bool.false_eq_true, if_false]; exact hK, hB⟩
        case measure => omega
end Go.Proofs.Ytlbnjojafaieoaa
