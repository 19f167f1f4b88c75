/-
  The program's isBarcode, isBlock, and the functions that are handed to the searches.
  slices.IndexFunc and ContainsFunc over blocks.
  slices.ContainsFunc over blocks.
  Valid and Capacity of the program.
  The program's Valid.
-/
import Derived.Test.YtepmmlnopdjjdaaCtVal
import Derived.Lib.ConvBytes
import Derived.Test.YtepmmlnopdjjdaaQSerp
namespace Go.Proofs.Ytepmmlnopdjjdaa
open Go.RowKit
set_option linter.unusedVariables false
theorem below_bytes (w : World) (e : TypeId) (s : ByteArray) : Below w.heap.size w (Lib.bytesWorld w e s) :=
  ⟨rfl, rfl, rfl, by rw [Lib.bytesWorld_size]; omega, fun k hk => Lib.bytesWorld_at_old w e s k hk⟩
set_option maxRecDepth 100000 in
set_option maxHeartbeats 400000 in
theorem blk_any (m bad : Bool) (ad : Option Addr) (n cap : Nat) (w : World) :
    Calls Try.prog 70 #[.agg #[.bool m, .bool bad, .slice ad n cap]] w fun e w' => e = .returned (.bool (okB m n)) ∧ Below w.heap.size w w' := by
  cases m
  · by_cases h1 : 1 ≤ n
    · have hd : decide ((1 : Int) ≤ (n : Int)) = true := decide_eq_true (by omega)
      go_enter Try.func70, Try.ntmps70
      go_wp2
      go_ret
      exact ⟨by unfold okB; rw [if_neg (by decide), hd]; rfl, below_boxC _ _⟩
    · obtain rfl : n = 0 := by omega
      go_enter Try.func70, Try.ntmps70
      go_wp2
      go_ret
      exact ⟨by simp [okB], below_boxC _ _⟩
  · go_enter Try.func70, Try.ntmps70
    go_wp2
    go_ret
    exact ⟨by unfold okB; rw [if_pos rfl]; rfl, below_boxC _ _⟩
attribute [local irreducible] okB
/-- not a block -/
def pNot (m bad : Bool) (n : Nat) : Bool := !okB m n
/-- not to be written -/
def pUnfit (m bad : Bool) (n : Nat) : Bool := bad || !okB m n
def pBad (m bad : Bool) (n : Nat) : Bool := bad
def pMark (m bad : Bool) (n : Nat) : Bool := m && !bad
set_option maxRecDepth 100000 in
set_option maxHeartbeats 400000 in
theorem notblk_any (m bad : Bool) (ad : Option Addr) (n cap : Nat) (w : World) :
    Calls Try.prog 69 #[.agg #[.bool m, .bool bad, .slice ad n cap]] w fun e w' => e = .returned (.bool (pNot m bad n)) ∧ Below w.heap.size w w' := by
  have HP := Lib.hid (show pNot m bad n = !okB m n from rfl)
  have HB := Lib.hid (below_boxC w (.cells #[.bool m, .bool bad, .slice ad n cap] 61))
  go_enter Try.func69, Try.ntmps69
  go_wp2_with fail
  refine (blk_any m bad ad n cap _).mono ?_
  generalize okB m n = ok at *
  rintro e w1 ⟨rfl, hb⟩
  have HB1 := Lib.hid (HB.out.trans (hb.mono HB.out.size))
  clear hb
  go_wp2
  go_ret
  exact ⟨by rw [HP.out]; rfl, HB1.out⟩
set_option maxRecDepth 100000 in
set_option maxHeartbeats 400000 in
theorem unfit_any (m bad : Bool) (ad : Option Addr) (n cap : Nat) (w : World) :
    Calls Try.prog 91 #[.agg #[.bool m, .bool bad, .slice ad n cap]] w fun e w' => e = .returned (.bool (pUnfit m bad n)) ∧ Below w.heap.size w w' := by
  have HP := Lib.hid (show pUnfit m bad n = (bad || !okB m n) from rfl)
  have HB := Lib.hid (below_boxC w (.cells #[.bool m, .bool bad, .slice ad n cap] 61))
  cases bad
  · go_enter Try.func91, Try.ntmps91
    go_wp2_with fail
    refine (blk_any m false ad n cap _).mono ?_
    generalize okB m n = ok at *
    rintro e w1 ⟨rfl, hb⟩
    have HB1 := Lib.hid (HB.out.trans (hb.mono HB.out.size))
    clear hb
    go_wp2
    go_ret
    exact ⟨by rw [HP.out]; rfl, HB1.out⟩
  · go_enter Try.func91, Try.ntmps91
    go_wp2
    go_ret
    exact ⟨by rw [HP.out]; rfl, HB.out⟩
set_option maxRecDepth 100000 in
set_option maxHeartbeats 400000 in
theorem bad_any (m bad : Bool) (ad : Option Addr) (n cap : Nat) (w : World) :
    Calls Try.prog 78 #[.agg #[.bool m, .bool bad, .slice ad n cap]] w fun e w' => e = .returned (.bool (pBad m bad n)) ∧ Below w.heap.size w w' := by
  go_enter Try.func78, Try.ntmps78
  go_wp2
  go_ret
  exact ⟨rfl, below_boxC _ _⟩
set_option maxRecDepth 100000 in
set_option maxHeartbeats 1000000 in
theorem bar_any (s : ByteArray) (w : World) :
    Calls Try.prog 65 #[.string s] w fun e w' => e = .returned (.bool (bar s)) ∧ Below w.heap.size w w' := by
  obtain ⟨N, hN⟩ : ∃ N, N = s.size := ⟨_, rfl⟩
  have HN := Lib.hid hN
  have hcv : ∀ w : World, (convert 9 59 (.string s)).run Try.prog w = .ok (.slice (some ⟨w.heap.size, 0, none⟩) N (grownCap w N 0 5)) (Lib.bytesWorld w 5 s) := fun w => by
    have := Lib.run_convert_string_bytes (P := Try.prog) w 9 59 5 s Try.underlying9 Try.underlying59 Try.underlying5
    rw [← hN] at this
    exact this
  have HCE := Lib.hid (fun j (hj : j < N) => Lib.bytesWorld_cell w 5 s j (hN ▸ hj))
  have HB0 := Lib.hid (below_bytes w 5 s)
  have hnn : ((s.size : Nat) : Int) = (N : Int) := by omega
  by_cases h1 : N < 1
  · have HR := Lib.hid (show bar s = false by unfold bar; simp; omega)
    go_enter Try.func65, Try.ntmps65
    go_wp2
    go_ret
    exact ⟨by rw [HR.out]; rfl, Below.refl _ _⟩
  by_cases h2 : 24 < N
  · have HR := Lib.hid (show bar s = false by unfold bar; simp; omega)
    go_enter Try.func65, Try.ntmps65
    go_wp2
    go_ret
    exact ⟨by rw [HR.out]; rfl, Below.refl _ _⟩
  have HBR := Lib.hid (show bar s = s.data.toList.all chr by unfold bar; have e : (decide (1 ≤ s.size) && decide (s.size ≤ 24)) = true := (by simp; omega); rw [e, Bool.and_true])
  have hlen : s.data.toList.length = N := by rw [hN]; simp
  go_enter Try.func65, Try.ntmps65
  go_wp2
  generalize Lib.bytesWorld w 5 s = X1 at *
  generalize grownCap w N 0 5 = gc at *
  go_loopg [16] N (fun gk vk wx => ∃ k : Nat, vk = .int .i64 k ∧ k + gk = N ∧ wx = X1 ∧ Hid (∀ j (h : j < s.data.toList.length), j < k → chr s.data.toList[j] = true))
  case atStart => exact ⟨0, rfl, by omega, rfl, Lib.hid fun j _ hj => by omega⟩
  case round =>
    obtain ⟨k, rfl, hk, rfl, hall⟩ := hrel
    cases gk with
    | zero =>
      obtain rfl : k = N := by omega
      have HA := Lib.hid (show s.data.toList.all chr = true by
        rw [List.all_eq_true]
        intro x hx
        obtain ⟨j, hj, rfl⟩ := List.getElem_of_mem hx
        exact hall.out j hj (by omega))
      go_wp2
      go_ret
      exact ⟨by rw [HBR.out, HA.out]; rfl, HB0.out⟩
    | succ gk0 =>
      have hkN : k < N := by omega
      have hks : k < s.data.toList.length := by omega
      have q0 := HCE.out k hkN
      obtain ⟨x, hx⟩ : ∃ x, x = s.data.toList[k] := ⟨_, rfl⟩
      rw [show s.data.toList.getD k 0 = x by rw [hx, List.getD_eq_getElem?_getD, List.getElem?_eq_getElem hks]; rfl] at q0
      have HNX : chr x = true → Hid (∀ j (h : j < s.data.toList.length), j < k + 1 → chr s.data.toList[j] = true) := fun hc => Lib.hid fun j h hj => by
        rcases Nat.lt_or_ge j k with h3 | h3
        · exact hall.out j h h3
        · obtain rfl : j = k := by omega
          rw [← hx]
          exact hc
      have HBA : Hid (chr x = false → bar s = false) := Lib.hid fun hc => by
        rw [HBR.out, List.all_eq_false]
        exact ⟨x, by rw [hx]; exact List.getElem_mem hks, by rw [hc]; simp⟩
      have HC : chr x = (decide (65 ≤ x.toNat) && decide (x.toNat ≤ 90) || decide (48 ≤ x.toNat) && decide (x.toNat ≤ 57)) := rfl
      have HCH := Lib.hid HC
      clear HC hx hks
      generalize x.toNat = n at *
      have part : n < 48 ∨ (48 ≤ n ∧ n ≤ 57) ∨ (58 ≤ n ∧ n < 65) ∨ (65 ≤ n ∧ n ≤ 90) ∨ 91 ≤ n := by omega
      rcases part with h1 | ⟨h1, h2⟩ | ⟨h1, h2⟩ | ⟨h1, h2⟩ | h1
      · have HR := Lib.hid (HBA.out (by rw [HCH.out]; simp; omega))
        clear HNX
        go_wp2
        go_ret
        exact ⟨by rw [HR.out]; rfl, HB0.out⟩
      · have HNY := HNX (by rw [HCH.out]; simp; omega)
        clear HNX
        go_wp2
        go_roundg gk0
        case rel => exact ⟨k + 1, by go_num, by omega, rfl, HNY⟩
        case measure => omega
      · have HR := Lib.hid (HBA.out (by rw [HCH.out]; simp; omega))
        clear HNX
        go_wp2
        go_ret
        exact ⟨by rw [HR.out]; rfl, HB0.out⟩
      · have HNY := HNX (by rw [HCH.out]; simp; omega)
        clear HNX
        go_wp2
        go_roundg gk0
        case rel => exact ⟨k + 1, by go_num, by omega, rfl, HNY⟩
        case measure => omega
      · have HR := Lib.hid (HBA.out (by rw [HCH.out]; simp; omega))
        clear HNX
        go_wp2
        go_ret
        exact ⟨by rw [HR.out]; rfl, HB0.out⟩
end Go.Proofs.Ytepmmlnopdjjdaa
namespace Go.Proofs.Ytepmmlnopdjjdaa
open Go.RowKit
set_option linter.unusedVariables false
/-- the number of the first block that answers, or -1 -/
def fixI (p : Bool → Bool → Nat → Bool) (l : List Blk) : Int :=
  match l.findIdx? (fun b => p b.m b.bad b.d.length) with
  | some k => (k : Int)
  | none => -1
theorem fix_no {p : Bool → Bool → Nat → Bool} {l : List Blk} (h : ∀ j (h : j < l.length), p l[j].m l[j].bad l[j].d.length = false) : fixI p l = -1 := by
  have : l.findIdx? (fun b => p b.m b.bad b.d.length) = none := by
    rw [List.findIdx?_eq_none_iff]
    intro x hx
    obtain ⟨j, hj, rfl⟩ := List.getElem_of_mem hx
    exact h j hj
  unfold fixI
  rw [this]
theorem fix_at {p : Bool → Bool → Nat → Bool} {l : List Blk} {k : Nat} (hk : k < l.length) (h : p l[k].m l[k].bad l[k].d.length = true) (hall : ∀ j (h : j < l.length), j < k → p l[j].m l[j].bad l[j].d.length = false) : fixI p l = (k : Int) := by
  have : l.findIdx? (fun b => p b.m b.bad b.d.length) = some k := by
    rw [List.findIdx?_eq_some_iff_getElem]
    exact ⟨hk, h, fun j hj => by rw [hall j (by omega) hj]; simp⟩
  unfold fixI
  rw [this]
theorem fix_cases (p : Bool → Bool → Nat → Bool) (l : List Blk) : (fixI p l = -1 ∧ ∀ j (h : j < l.length), p l[j].m l[j].bad l[j].d.length = false) ∨
    ∃ k : Nat, fixI p l = (k : Int) ∧ ∃ hk : k < l.length, p l[k].m l[k].bad l[k].d.length = true ∧ ∀ j (h : j < l.length), j < k → p l[j].m l[j].bad l[j].d.length = false := by
  unfold fixI
  cases h : l.findIdx? (fun b => p b.m b.bad b.d.length) with
  | none =>
    rw [List.findIdx?_eq_none_iff] at h
    exact .inl ⟨rfl, fun j hj => h _ (List.getElem_mem hj)⟩
  | some k =>
    rw [List.findIdx?_eq_some_iff_getElem] at h
    obtain ⟨hk, h1, h2⟩ := h
    exact .inr ⟨k, rfl, hk, h1, fun j hj hjk => by simpa using h2 j hjk⟩
/-- does a block answer? -/
def anyI (p : Bool → Bool → Nat → Bool) (l : List Blk) : Bool := decide (0 ≤ fixI p l)
theorem anyI_eq (p : Bool → Bool → Nat → Bool) (l : List Blk) : anyI p l = l.any fun b => p b.m b.bad b.d.length := by
  unfold anyI
  rcases fix_cases p l with ⟨h1, h2⟩ | ⟨k, h1, hk, h2, _⟩
  · rw [h1]
    symm
    rw [show decide ((0 : Int) ≤ -1) = false from rfl, List.any_eq_false]
    intro x hx
    obtain ⟨j, hj, rfl⟩ := List.getElem_of_mem hx
    rw [h2 j hj]; simp
  · rw [h1]
    symm
    rw [show decide ((0 : Int) ≤ (k : Int)) = true from decide_eq_true (by omega), List.any_eq_true]
    exact ⟨l[k], List.getElem_mem hk, h2⟩
/-- what a function that is handed to a search owes -/
structure Says (fn : Nat) (p : Bool → Bool → Nat → Bool) : Prop where
  enter : ∀ args w, (callFunc fn args).run Try.prog w = .ok (.enter fn args) w
  calls : ∀ (m bad : Bool) (ad : Option Addr) (n cap : Nat) (w : World), Calls Try.prog fn #[.agg #[.bool m, .bool bad, .slice ad n cap]] w fun e w' => e = .returned (.bool (p m bad n)) ∧ Below w.heap.size w w'
theorem says_not : Says 69 pNot := ⟨fun args w => by go_simp, notblk_any⟩
theorem says_unfit : Says 91 pUnfit := ⟨fun args w => by go_simp, unfit_any⟩
theorem says_bad : Says 78 pBad := ⟨fun args w => by go_simp, bad_any⟩
attribute [local irreducible] fixI
set_option maxRecDepth 100000 in
set_option maxHeartbeats 1000000 in
theorem index_any (fn : Nat) (p : Bool → Bool → Nat → Bool) (hp : Says fn p) (ad : Option Addr) (n cap : Nat) (l : List Blk) (w : World) (hl : Ki w ad l) (hn : n = l.length) (hs : n ≤ 9223372036854775807) :
    Calls Try.prog 77 #[.slice ad n cap, .func (.func fn) #[] #[]] w fun e w' => e = .returned (.int .i64 (fixI p l)) ∧ Below w.heap.size w w' := by
  have HL := Lib.hid hl
  have HN := Lib.hid hn
  have HY := Lib.hid (fun k (hk : k < l.length) => fix_at (p := p) hk)
  have HZ := Lib.hid (@fix_no p l)
  have HP := Lib.hid hp
  clear hl hn hp
  go_enter Try.func77, Try.ntmps77
  go_wp2
  go_loopg [8] n (fun gk vk wx => ∃ k : Nat, vk = .int .i64 k ∧ k + gk = n ∧ Hid (Below w.heap.size w wx) ∧ Hid (∀ j (h : j < l.length), j < k → p l[j].m l[j].bad l[j].d.length = false))
  case atStart => exact ⟨0, rfl, by omega, Lib.hid (Below.refl _ _), Lib.hid fun j _ hj => by omega⟩
  case round =>
    obtain ⟨k, rfl, hk, hB, hall⟩ := hrel
    cases gk with
    | zero =>
      obtain rfl : k = n := by omega
      have HF := Lib.hid (HZ.out (fun j hj => hall.out j hj (by have := HN.out; omega)))
      go_wp2
      go_ret
      exact ⟨by rw [HF.out]; rfl, hB.out⟩
    | succ gk0 =>
      have hkn : k < n := by omega
      have hkl : k < l.length := by have := HN.out; omega
      obtain ⟨b, off, ad', cap', rfl, hlt, q0, q1, q2, qr⟩ := (HL.out.below hB.out).get hkl
      clear qr
      have HNX : p l[k].m l[k].bad l[k].d.length = false → Hid (∀ j (h : j < l.length), j < k + 1 → p l[j].m l[j].bad l[j].d.length = false) := fun hc => Lib.hid fun j h hj => by
        rcases Nat.lt_or_ge j k with h3 | h3
        · exact hall.out j h h3
        · obtain rfl : j = k := by omega
          exact hc
      have HNO : p l[k].m l[k].bad l[k].d.length = true → Hid (fixI p l = (k : Int)) := fun hc => Lib.hid (HY.out k hkl hc hall.out)
      generalize l[k].m = xm at *
      generalize l[k].bad = xb at *
      generalize l[k].d.length = xn at *
      clear hkl
      go_wp2_with fail
      rw [HP.out.enter]
      refine (HP.out.calls xm xb ad' xn cap' _).mono ?_
      rintro e w5 ⟨rfl, hb⟩
      have HB5 := Lib.hid (hB.out.trans (hb.mono hB.out.size))
      clear hb q0 q1 q2
      cases hok : p xm xb xn
      · have HR := HNX hok
        clear HNX HNO hok
        go_wp2
        go_roundg gk0
        case rel => exact ⟨k + 1, by go_num, by omega, HB5, HR⟩
        case measure => omega
      · have HR := HNO hok
        clear HNX HNO hok
        go_wp2
        go_ret
        exact ⟨by rw [HR.out]; rfl, HB5.out⟩
end Go.Proofs.Ytepmmlnopdjjdaa
namespace Go.Proofs.Ytepmmlnopdjjdaa
open Go.RowKit
set_option linter.unusedVariables false
attribute [local irreducible] fixI
attribute [local irreducible] anyI
set_option maxRecDepth 100000 in
set_option maxHeartbeats 1000000 in
theorem contains_any (fn : Nat) (p : Bool → Bool → Nat → Bool) (hp : Says fn p) (ad : Option Addr) (n cap : Nat) (l : List Blk) (w : World) (hl : Ki w ad l) (hn : n = l.length) (hs : n ≤ 9223372036854775807) :
    Calls Try.prog 68 #[.slice ad n cap, .func (.func fn) #[] #[]] w fun e w' => e = .returned (.bool (anyI p l)) ∧ Below w.heap.size w w' := by
  have HX := Lib.hid (fun X (h : Below w.heap.size w X) => index_any fn p hp ad n cap l X (hl.below h) hn hs)
  clear hp hl hn
  have HF := Lib.hid (show anyI p l = decide (0 ≤ fixI p l) by unfold anyI; rfl)
  go_enter Try.func68, Try.ntmps68
  go_wp2_with fail
  refine (HX.out w (Below.refl _ _)).mono ?_
  clear HX
  generalize fixI p l = r at *
  rintro e w1 ⟨rfl, hb⟩
  go_wp2
  go_ret
  exact ⟨by rw [HF.out]; rfl, hb⟩
end Go.Proofs.Ytepmmlnopdjjdaa
namespace Go.Proofs.Ytepmmlnopdjjdaa
open Go.RowKit
set_option linter.unusedVariables false
set_option maxRecDepth 100000
/-- the time k of the four -/
def nth4 (S T J R : Int) : Nat → Int
  | 0 => S
  | 1 => T
  | 2 => J
  | _ => R
theorem nth_all {S T J R : Int} (h : ∀ k, k < 4 → tim (nth4 S T J R k) = true) : (tim S && (tim T && (tim J && tim R))) = true := by
  have h0 := h 0 (by omega); have h1 := h 1 (by omega); have h2 := h 2 (by omega); have h3 := h 3 (by omega)
  simp only [nth4] at h0 h1 h2 h3
  rw [h0, h1, h2, h3]; rfl
theorem nth_no {S T J R : Int} {k : Nat} (hk : k < 4) (h : tim (nth4 S T J R k) = false) : (tim S && (tim T && (tim J && tim R))) = false := by
  match k, hk with
  | 0, _ => simp only [nth4] at h; rw [h]; rfl
  | 1, _ => simp only [nth4] at h; rw [h]; simp
  | 2, _ => simp only [nth4] at h; rw [h]; simp
  | 3, _ => simp only [nth4] at h; rw [h]; simp
theorem run_idx4 (a b c d : Int) (k : Nat) (hk : k < 4) (w : World) :
    (Instr.index 113 (.agg #[.int .i64 a, .int .i64 b, .int .i64 c, .int .i64 d]) (.int .i64 (k : Int))).run Try.prog w = .ok (.int .i64 (nth4 a b c d k)) w := by
  match k, hk with
  | 0, _ => with_unfolding_all rfl
  | 1, _ => with_unfolding_all rfl
  | 2, _ => with_unfolding_all rfl
  | 3, _ => with_unfolding_all rfl
theorem wpList_index {P : Program} {ops : Array Oper} {rest : List Oper} {o : Oper} {a : Act} {w : World} {Q : Exit → Act → World → Prop} (hgd : o.guard = none) (ty : TypeId) (x y : Operand) (ho : o.op = .index ty x y)
    (v : Value) (hr : (Instr.index ty (a.eval x) (a.eval y)).run P w = .ok v w)
    (h : wpList P ops Q rest (a.put o.dst v) w) : wpList P ops Q (o :: rest) a w := by
  refine wpList_plain hgd fun _ hK => ?_
  unfold Oper.wp execOp
  simp only [ho, Sem.run_bind, hr, Result.andThen_ok, Sem.run_pure]
  exact hK _ _ h
attribute [local irreducible] tim vld
set_option maxRecDepth 100000 in
set_option maxHeartbeats 1000000 in
theorem valid_any (W L S T J R : Int) (w : World) :
    Calls Try.prog 66 #[geV W L S T J R] w fun e w' => e = .returned (.bool (vld W L S T J R)) ∧ Below w.heap.size w w' := by
  have HB0 := Lib.hid (below_box1 w (.cells #[.int .i64 W, .int .i64 L, .int .i64 S, .int .i64 T, .int .i64 J, .int .i64 R] 27))
  have HG := Lib.hid (GeoAt.new w W L S T J R 27)
  by_cases hW : W < 1
  · rw [vld_no (by omega)]
    go_enter Try.func66, Try.ntmps66
    go_wp2
    go_ret
    exact ⟨rfl, HB0.out⟩
  by_cases hW2 : 32 < W
  · rw [vld_no (by omega)]
    go_enter Try.func66, Try.ntmps66
    go_wp2
    go_ret
    exact ⟨rfl, HB0.out⟩
  have hW0 : W ≠ 0 := by omega
  by_cases hL : L < 1
  · rw [vld_no (by omega)]
    have hd : decide (L < 1) = true := decide_eq_true hL
    go_enter Try.func66, Try.ntmps66
    go_wp2_with fail
    generalize World.alloc _ _ = X0 at HB0 HG ⊢
    obtain ⟨_, g0, g1, _, _, _, _⟩ := HG.out
    go_quiet (fail)
    go_wp2
    go_ret
    exact ⟨rfl, below_drewN HB0.out _⟩
  have hd : decide (L < 1) = false := decide_eq_false hL
  by_cases hq : 4096 / W < L
  · have hc : ¬ W * L ≤ 4096 := by rw [← quot_le (by omega)]; omega
    rw [vld_no (by omega)]
    have hd2 : decide (4096 / W < L) = true := decide_eq_true hq
    clear hc
    go_enter Try.func66, Try.ntmps66
    go_wp2_with fail
    generalize World.alloc _ _ = X0 at HB0 HG ⊢
    obtain ⟨_, g0, g1, _, _, _, _⟩ := HG.out
    go_quiet (fail)
    go_wp2
    go_ret
    exact ⟨rfl, below_drewN HB0.out _⟩
  have hc : W * L ≤ 4096 := by rw [← quot_le (by omega)]; omega
  rw [vld_eq (by omega) (by omega) (by omega) hc]
  have hd2 : decide (4096 / W < L) = false := decide_eq_false hq
  have hsz : ∀ h : 3 < Try.prog.types.size, (Try.prog.types[3]'h).size = 1 := fun _ => by kernel_rfl
  clear hc
  go_enter Try.func66, Try.ntmps66
  go_wp2_with fail
  generalize World.alloc _ _ = X0 at HB0 HG ⊢
  obtain ⟨_, g0, g1, g2, g3, g4, g5⟩ := HG.out
  go_quiet (fail)
  go_wp2
  generalize hX1 : World.drewN X0 _ = X1
  have HB1 := Lib.hid (show Below w.heap.size w X1 by rw [← hX1]; exact below_drewN HB0.out _)
  clear hX1 HB0 HG g0 g1 g2 g3 g4 g5
  go_loop [33] (fun vk => ∃ k : Nat, vk = .int .i64 k ∧ k ≤ 4 ∧ Hid (∀ j, j < k → tim (nth4 S T J R j) = true)) (fun vk => 4 - (intOf vk).toNat)
  case atStart => exact ⟨0, rfl, by omega, Lib.hid fun j hj => by omega⟩
  case round =>
    obtain ⟨k, rfl, hk, hall⟩ := hrel
    by_cases hlt : k < 4
    · have hI := run_idx4 S T J R k hlt X1
      obtain ⟨X, hX⟩ : ∃ X, X = nth4 S T J R k := ⟨_, rfl⟩
      rw [← hX] at hI
      by_cases hx : 0 ≤ X ∧ X ≤ 1000000
      · have HN : Hid (∀ j, j < k + 1 → tim (nth4 S T J R j) = true) := Lib.hid fun j hj => by
          rcases Nat.lt_or_ge j k with h | h
          · exact hall.out j h
          · obtain rfl : j = k := by omega
            rw [← hX]
            exact tim_yes hx
        clear hX
        obtain ⟨x0, x1⟩ := hx
        go_wp2
        go_round
        case rel => exact ⟨k + 1, by go_num, by omega, HN⟩
        case measure => simp [intOf]; omega
      · have HN := Lib.hid (nth_no hlt (hX ▸ tim_no hx))
        clear hX
        by_cases hx0 : X < 0
        · go_wp2
          go_ret
          exact ⟨by rw [HN.out]; rfl, HB1.out⟩
        · have hx1 : 1000000 < X := by omega
          clear hx
          go_wp2
          go_ret
          exact ⟨by rw [HN.out]; rfl, HB1.out⟩
    · obtain rfl : k = 4 := by omega
      have HN := Lib.hid (nth_all hall.out)
      go_wp2
      go_ret
      exact ⟨by rw [HN.out]; rfl, HB1.out⟩
set_option maxRecDepth 100000 in
set_option maxHeartbeats 1000000 in
theorem capacity_any (W L S T J R : Int) (w : World) :
    Calls Try.prog 67 #[geV W L S T J R] w fun e w' => e = .returned (.int .i64 (capU W L S T J R)) ∧ Below w.heap.size w w' := by
  have HB0 := Lib.hid (below_box1 w (.cells #[.int .i64 W, .int .i64 L, .int .i64 S, .int .i64 T, .int .i64 J, .int .i64 R] 27))
  have HG := Lib.hid (GeoAt.new w W L S T J R 27)
  by_cases hv : Vld W L S T J R
  · rw [capU_yes hv]
    have h0 : 0 ≤ W * L := Int.mul_nonneg (by have := hv.w0; omega) (by have := hv.l0; omega)
    have h1 := hv.c1
    have HV := Lib.hid (vld_iff.2 hv)
    clear hv
    go_enter Try.func67, Try.ntmps67
    go_wp2_with fail
    refine (valid_any W L S T J R _).mono ?_
    rw [HV.out]
    rintro e w1 ⟨rfl, hb⟩
    have HB := Lib.hid (HB0.out.trans (hb.mono HB0.out.size))
    obtain ⟨_, g0, g1, _, _, _, _⟩ := HG.out.below hb (by simp)
    clear hb
    go_wp2
    go_ret
    exact ⟨rfl, HB.out⟩
  · rw [capU_no hv]
    have HV := Lib.hid (vld_not.2 hv)
    clear hv
    go_enter Try.func67, Try.ntmps67
    go_wp2_with fail
    refine (valid_any W L S T J R _).mono ?_
    rw [HV.out]
    rintro e w1 ⟨rfl, hb⟩
    have HB := Lib.hid (HB0.out.trans (hb.mono HB0.out.size))
    clear hb
    go_wp2
    go_ret
    exact ⟨rfl, HB.out⟩
end Go.Proofs.Ytepmmlnopdjjdaa
namespace Go.Proofs.Ytepmmlnopdjjdaa
open Go.RowKit
set_option linter.unusedVariables false
set_option maxRecDepth 100000
/-- the counter k of the three -/
def nth3 (a b c : Int) : Nat → Int
  | 0 => a
  | 1 => b
  | _ => c
theorem cnt3_all {a b c : Int} (h : ∀ k, k < 3 → cnt (nth3 a b c k) = true) : (cnt a && (cnt b && cnt c)) = true := by
  have h0 := h 0 (by omega); have h1 := h 1 (by omega); have h2 := h 2 (by omega)
  simp only [nth3] at h0 h1 h2
  rw [h0, h1, h2]; rfl
theorem cnt3_no {a b c : Int} {k : Nat} (hk : k < 3) (h : cnt (nth3 a b c k) = false) : (cnt a && (cnt b && cnt c)) = false := by
  match k, hk with
  | 0, _ => simp only [nth3] at h; rw [h]; rfl
  | 1, _ => simp only [nth3] at h; rw [h]; simp
  | 2, _ => simp only [nth3] at h; rw [h]; simp
theorem run_idx3 (a b c : Int) (k : Nat) (hk : k < 3) (w : World) :
    (Instr.index 100 (.agg #[.int .i64 a, .int .i64 b, .int .i64 c]) (.int .i64 (k : Int))).run Try.prog w = .ok (.int .i64 (nth3 a b c k)) w := by
  match k, hk with
  | 0, _ => with_unfolding_all rfl
  | 1, _ => with_unfolding_all rfl
  | 2, _ => with_unfolding_all rfl
theorem cnt_yes {a : Int} (h0 : 0 ≤ a) (h1 : a ≤ 1125899906842624) : cnt a = true := by unfold cnt; rw [decide_eq_true h0, decide_eq_true h1]; rfl
theorem cnt_no {a : Int} (h : a < 0 ∨ 1125899906842624 < a) : cnt a = false := by
  unfold cnt
  rcases h with h | h
  · rw [decide_eq_false (by omega)]; rfl
  · rw [decide_eq_false (by omega : ¬ a ≤ 1125899906842624), Bool.and_false]
theorem all_of_any (l : List Blk) : (!anyI pNot l) = allB l := by
  rw [anyI_eq]
  unfold allB pNot
  rw [List.not_any_eq_all_not]
  simp
theorem valc_math (bc : ByteArray) (W L S T J R : Int) (wo lk : Bool) (l : List Blk) (ep lo pa : Int) : vldC ⟨bc, W, L, S, T, J, R, wo, lk, l, ep, lo, pa⟩ = (bar bc && (vld W L S T J R && ((cnt ep && (cnt lo && cnt pa)) && (decide ((l.length : Int) ≤ capU W L S T J R) && (!anyI pNot l))))) := by
  rw [vldC_eq, all_of_any]
  cases bar bc <;> cases vld W L S T J R <;> cases decide ((l.length : Int) ≤ capU W L S T J R) <;> cases allB l <;> cases cnt ep <;> cases cnt lo <;> cases cnt pa <;> rfl
attribute [local irreducible] tim vld bar cnt okB capU allB vldC anyI fixI
set_option maxRecDepth 100000 in
set_option maxHeartbeats 4000000 in
theorem valc_any (c : Crt) (ad : Option Addr) (cap : Nat) (w : World) (hin : CrIn w c ad cap) :
    Calls Try.prog 38 #[crV c ad cap] w fun e w' => e = .returned (.bool (vldC c)) ∧ Below w.heap.size w w' := by
  obtain ⟨bc, W, L, S, T, J, R, wo, lk, l, ep, lo, pa⟩ := c
  obtain ⟨M, hM⟩ : ∃ M, M = l.length := ⟨_, rfl⟩
  have HV := Lib.hid (valc_math bc W L S T J R wo lk l ep lo pa)
  have HI := Lib.hid hin.ki
  have hlm : l.length ≤ 9223372036854775807 := Nat.le_trans hin.le hin.mx
  clear hin
  simp only at HI
  show Calls Try.prog 38 #[crW bc W L S T J R wo lk ad l.length cap ep lo pa] w _
  rw [← hM] at hlm HV ⊢
  have HCO := Lib.hid (fun X (h : Below w.heap.size w X) => contains_any _ pNot says_not ad M cap l X (HI.out.below h) hM hlm)
  generalize anyI pNot l = an at *
  clear hM HI
  have HB0 := Lib.hid (below_box1 w (boxK bc W L S T J R wo lk ad M cap ep lo pa))
  have HC := Lib.hid (CrAt.new w bc W L S T J R wo lk ad M cap ep lo pa 30)
  have hcu : 0 ≤ capU W L S T J R ∧ capU W L S T J R ≤ 4096 := by
    unfold capU
    split
    · rename_i hv
      have v := vld_iff.1 hv
      have := cap_pos v.w0 v.l0; have := v.l0; have := v.c1
      omega
    · omega
  obtain ⟨c0, c1⟩ := hcu
  cases hbar : bar bc
  · rw [hbar] at HV
    have HBR := Lib.hid hbar
    clear hbar
    go_enter Try.func38, Try.ntmps38
    go_wp2_with fail
    generalize World.alloc _ _ = X0 at *
    obtain ⟨_, k0, k1, k2, k3, k4, k5, k6, k7, k8, k9, k10, k11, k12⟩ := HC.out
    go_wp2_with fail
    refine (bar_any bc _).mono ?_
    rw [HBR.out]
    rintro e w2 ⟨rfl, hb⟩
    have HB1 := Lib.hid (HB0.out.trans (hb.mono HB0.out.size))
    clear hb
    go_wp2
    go_ret
    exact ⟨by rw [HV.out]; rfl, HB1.out⟩
  rw [hbar] at HV
  have HBR := Lib.hid hbar
  clear hbar
  go_enter Try.func38, Try.ntmps38
  go_wp2_with fail
  generalize World.alloc _ _ = X0 at *
  obtain ⟨_, k0, k1, k2, k3, k4, k5, k6, k7, k8, k9, k10, k11, k12⟩ := HC.out
  go_wp2_with fail
  clear k0 k1 k2 k3 k4 k5 k6 k7 k8 k9 k10 k11 k12
  refine (bar_any bc _).mono ?_
  rw [HBR.out]
  rintro e w2 ⟨rfl, hb⟩
  have HB1 := Lib.hid (HB0.out.trans (hb.mono HB0.out.size))
  replace HC := Lib.hid (HC.out.below hb HC.out.lt)
  clear hb
  obtain ⟨_, k0, k1, k2, k3, k4, k5, k6, k7, k8, k9, k10, k11, k12⟩ := HC.out
  go_wp2_with fail
  clear k0 k1 k2 k3 k4 k5 k6 k7 k8 k9 k10 k11 k12
  refine (valid_any W L S T J R _).mono ?_
  generalize vld W L S T J R = vl at *
  rintro e w3 ⟨rfl, hb⟩
  replace HB1 := Lib.hid (HB1.out.trans (hb.mono HB1.out.size))
  replace HC := Lib.hid (HC.out.below hb HC.out.lt)
  clear hb
  obtain ⟨_, k0, k1, k2, k3, k4, k5, k6, k7, k8, k9, k10, k11, k12⟩ := HC.out
  cases vl
  · go_wp2
    go_ret
    exact ⟨by rw [HV.out]; rfl, HB1.out⟩
  go_wp2
  clear k0 k1 k2 k3 k4 k5 k6 k7 k8 k9 k10 k11 k12
  go_loop [22] (fun vk => ∃ k : Nat, vk = .int .i64 k ∧ k ≤ 3 ∧ Hid (∀ j, j < k → cnt (nth3 ep lo pa j) = true)) (fun vk => 3 - (intOf vk).toNat)
  case atStart => exact ⟨0, rfl, by omega, Lib.hid fun j hj => by omega⟩
  case round =>
    obtain ⟨k, rfl, hk, hall⟩ := hrel
    by_cases hlt : k < 3
    · have hI := run_idx3 ep lo pa k hlt w3
      obtain ⟨X, hX⟩ : ∃ X, X = nth3 ep lo pa k := ⟨_, rfl⟩
      rw [← hX] at hI
      by_cases hx : 0 ≤ X ∧ X ≤ 1125899906842624
      · have HN : Hid (∀ j, j < k + 1 → cnt (nth3 ep lo pa j) = true) := Lib.hid fun j hj => by
          rcases Nat.lt_or_ge j k with h | h
          · exact hall.out j h
          · obtain rfl : j = k := by omega
            rw [← hX]
            exact cnt_yes hx.1 hx.2
        clear hX
        obtain ⟨x0, x1⟩ := hx
        go_wp2
        go_round
        case rel => exact ⟨k + 1, by go_num, by omega, HN⟩
        case measure => simp [intOf]; omega
      · have HN := Lib.hid (cnt3_no hlt (hX ▸ cnt_no (a := X) (by omega)))
        clear hX
        by_cases hx0 : X < 0
        · go_wp2
          go_ret
          exact ⟨by rw [HV.out, HN.out]; rfl, HB1.out⟩
        · have hx1 : 1125899906842624 < X := by omega
          clear hx
          go_wp2
          go_ret
          exact ⟨by rw [HV.out, HN.out]; rfl, HB1.out⟩
    · obtain rfl : k = 3 := by omega
      have HN := Lib.hid (cnt3_all hall.out)
      have HBX := Lib.hid (Below.refl w3.heap.size w3).drew
      go_wp2_with fail
      refine wp_region_noPanic ?_
      refine wp_region_held_drew (S := fun X => Below w3.heap.size w3 X) (by kernel_rfl) (HBX.out) (fun hS0 => ?_)
      refine held_take (i := 0) (v := ?_) rfl (by kernel_rfl) (by kernel_rfl) (by kernel_rfl) (fun _ _ _ h => h) (by rfl) ?_ (by assumption) ?_
      rotate_left
      · intro X hSX
        try dsimp only at hSX
        go_simp <;> with_reducible rfl
      simp only [Act.put, List.setIfInBounds_toArray, List.set_cons_zero, List.set_cons_succ]
      refine held_take (i := 1) (v := ?_) rfl (by kernel_rfl) (by kernel_rfl) (by kernel_rfl) (fun _ _ _ h => h) (by rfl) ?_ (by assumption) ?_
      rotate_left
      · intro X hSX
        try dsimp only at hSX
        obtain ⟨_, k0, k1, k2, k3, k4, k5, k6, k7, k8, k9, k10, k11, k12⟩ := HC.out.below hSX HC.out.lt
        go_simp <;> with_reducible rfl
      simp only [Act.put, List.setIfInBounds_toArray, List.set_cons_zero, List.set_cons_succ]
      refine held_take (i := 2) (v := ?_) rfl (by kernel_rfl) (by kernel_rfl) (by kernel_rfl) (fun _ _ _ h => h) (by rfl) ?_ (by assumption) ?_
      rotate_left
      · intro X hSX
        try dsimp only at hSX
        go_simp <;> with_reducible rfl
      simp only [Act.put, List.setIfInBounds_toArray, List.set_cons_zero, List.set_cons_succ]
      refine held_take (i := 3) (v := ?_) rfl (by kernel_rfl) (by kernel_rfl) (by kernel_rfl) (fun _ _ _ h => h) (by rfl) ?_ (by assumption) ?_
      rotate_left
      · intro X hSX
        try dsimp only at hSX
        go_simp <;> with_reducible rfl
      simp only [Act.put, List.setIfInBounds_toArray, List.set_cons_zero, List.set_cons_succ]
      refine held_take (i := 4) (v := ?_) rfl (by kernel_rfl) (by kernel_rfl) (by kernel_rfl) (fun _ _ _ h => h) (by rfl) ?_ (by assumption) ?_
      rotate_left
      · intro X hSX
        try dsimp only at hSX
        obtain ⟨_, k0, k1, k2, k3, k4, k5, k6, k7, k8, k9, k10, k11, k12⟩ := HC.out.below hSX HC.out.lt
        go_simp <;> with_reducible rfl
      simp only [Act.put, List.setIfInBounds_toArray, List.set_cons_zero, List.set_cons_succ]
      refine held_call (i := 5) rfl (by kernel_rfl) (by rfl) (fun K' hK' => ?_)
      go_simp
      refine (capacity_any W L S T J R _).mono ?_
      rintro e w4 ⟨rfl, hb⟩
      replace HBX := Lib.hid (HBX.out.trans (hb.mono HBX.out.size))
      have hS4 := HBX.out
      clear hb
      refine held_go hK' (HBX.out) ?_
      try simp only [Act.put, List.setIfInBounds_toArray, List.set_cons_zero, List.set_cons_succ]
      refine held_take (i := 6) (v := ?_) rfl (by kernel_rfl) (by kernel_rfl) (by kernel_rfl) (fun _ _ _ h => h) (by rfl) ?_ (by assumption) ?_
      rotate_left
      · intro X hSX
        try dsimp only at hSX
        go_simp <;> with_reducible rfl
      simp only [Act.put, List.setIfInBounds_toArray, List.set_cons_zero, List.set_cons_succ]
      refine wpAnyH_done (by kernel_rfl) ?_ _
      refine NoPanic.normal ?_
      replace HB1 := Lib.hid (HB1.out.trans (HBX.out.mono HB1.out.size))
      replace HC := Lib.hid (HC.out.below HBX.out HC.out.lt)
      obtain ⟨_, k0, k1, k2, k3, k4, k5, k6, k7, k8, k9, k10, k11, k12⟩ := HC.out
      clear HBX hS4
      by_cases hcp : (M : Int) ≤ capU W L S T J R
      rotate_left
      · have hcp2 : capU W L S T J R < (M : Int) := by omega
        have HD := Lib.hid (decide_eq_false hcp)
        clear hcp
        go_wp2
        go_ret
        exact ⟨by rw [HV.out, HN.out, HD.out]; rfl, HB1.out⟩
      have HD := Lib.hid (decide_eq_true hcp)
      go_wp2_with fail
      refine (HCO.out _ HB1.out).mono ?_
      rintro e w5 ⟨rfl, hb⟩
      have HB2 := Lib.hid (HB1.out.trans (hb.mono HB1.out.size))
      clear hb
      go_wp2
      go_ret
      exact ⟨by rw [HV.out, HN.out, HD.out]; rfl, HB2.out⟩
end Go.Proofs.Ytepmmlnopdjjdaa
