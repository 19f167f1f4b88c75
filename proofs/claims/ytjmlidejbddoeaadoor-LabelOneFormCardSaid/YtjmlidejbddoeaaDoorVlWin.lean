/-
  The program's generic function within, for bytes and for ints.
-/
import Derived.Test.YtjmlidejbddoeaaDoorLP
import Derived.Test.YtjmlidejbddoeaaDoorLH
import Derived.Lib.ConvBytes
namespace Go.Proofs.YtjmlidejbddoeaaDoor
open Go.RowKit
set_option linter.unusedVariables false
/-- between two bounds -/
def inB (p : Int × Int) (x : Int) : Bool := decide (p.1 ≤ x) && decide (x ≤ p.2)
/-- inside at least one of them -/
def anyP (ps : List (Int × Int)) (x : Int) : Bool := ps.any fun p => inB p x
/-- the number of the first one inside which it is, or -1 -/
def fixP (ps : List (Int × Int)) (x : Int) : Int := match ps.findIdx? (fun p => inB p x) with | some k => (k : Int) | none => -1
theorem fixP_no {ps : List (Int × Int)} {x : Int} (h : ∀ j (h : j < ps.length), inB ps[j] x = false) : fixP ps x = -1 := by
  have : ps.findIdx? (fun p => inB p x) = none := by
    rw [List.findIdx?_eq_none_iff]
    intro p hp
    obtain ⟨j, hj, rfl⟩ := List.getElem_of_mem hp
    exact h j hj
  unfold fixP; rw [this]
theorem fixP_at {ps : List (Int × Int)} {x : Int} {k : Nat} (hk : k < ps.length) (h : inB ps[k] x = true) (hall : ∀ j (h : j < ps.length), j < k → inB ps[j] x = false) : fixP ps x = (k : Int) := by
  have : ps.findIdx? (fun p => inB p x) = some k := by
    rw [List.findIdx?_eq_some_iff_getElem]
    exact ⟨hk, h, fun j hj => by rw [hall j (by omega) hj]; simp⟩
  unfold fixP; rw [this]
theorem anyP_fix (ps : List (Int × Int)) (x : Int) : anyP ps x = decide (0 ≤ fixP ps x) := by
  unfold anyP fixP
  cases h : ps.findIdx? (fun p => inB p x) with
  | none =>
    rw [List.findIdx?_eq_none_iff] at h
    rw [show decide ((0 : Int) ≤ -1) = false from rfl, List.any_eq_false]
    intro p hp
    rw [h p hp]; simp
  | some k =>
    rw [List.findIdx?_eq_some_iff_getElem] at h
    obtain ⟨hk, h1, _⟩ := h
    rw [show decide ((0 : Int) ≤ (k : Int)) = true from decide_eq_true (by omega), List.any_eq_true]
    exact ⟨_, List.getElem_mem hk, h1⟩
/-- bounds lie in memory -/
def Prs (k : IntKind) (w : World) (ad : Option Addr) (ps : List (Int × Int)) : Prop :=
  ∃ b off, ad = some ⟨b, off, none⟩ ∧ b < w.heap.size ∧ ∀ i (h : i < ps.length), w.cell? ⟨b, off + i * 2, none⟩ = some (.int k ps[i].1) ∧ w.cell? ⟨b, off + i * 2 + 1, none⟩ = some (.int k ps[i].2)
theorem Prs.below {k : IntKind} {w w' : World} {ad : Option Addr} {ps : List (Int × Int)} (h : Prs k w ad ps) (hb : Below w.heap.size w w') : Prs k w' ad ps := by
  obtain ⟨b, off, e, hlt, hc⟩ := h
  exact ⟨b, off, e, Nat.lt_of_lt_of_le hlt hb.size, fun i hi => ⟨(hb.cell hlt).trans (hc i hi).1, (hb.cell hlt).trans (hc i hi).2⟩⟩
/-- numbers lie in memory -/
def Ezs (k : IntKind) (w : World) (ad : Option Addr) (xs : List Int) : Prop :=
  xs = [] ∨ ∃ b off, ad = some ⟨b, off, none⟩ ∧ b < w.heap.size ∧ ∀ i (h : i < xs.length), w.cell? ⟨b, off + i, none⟩ = some (.int k xs[i])
theorem Ezs.below {k : IntKind} {w w' : World} {ad : Option Addr} {xs : List Int} (h : Ezs k w ad xs) (hb : Below w.heap.size w w') : Ezs k w' ad xs := by
  rcases h with h | ⟨b, off, e, hlt, hc⟩
  · exact .inl h
  · exact .inr ⟨b, off, e, Nat.lt_of_lt_of_le hlt hb.size, fun i hi => (hb.cell hlt).trans (hc i hi)⟩
/-- the bytes of a string, as numbers -/
def strI (s : ByteArray) : List Int := s.data.toList.map fun x => (x.toNat : Int)
def winB (ps : List (Int × Int)) (xs : List Int) : Bool := xs.all (anyP ps)
theorem winB_no {ps : List (Int × Int)} {xs : List Int} {k : Nat} (hk : k < xs.length) (h : anyP ps xs[k] = false) : winB ps xs = false := by
  unfold winB
  rw [List.all_eq_false]
  exact ⟨_, List.getElem_mem hk, by rw [h]; simp⟩
theorem winB_yes {ps : List (Int × Int)} {xs : List Int} (h : ∀ j (h : j < xs.length), anyP ps xs[j] = true) : winB ps xs = true := by
  unfold winB
  rw [List.all_eq_true]
  intro x hx
  obtain ⟨j, hj, rfl⟩ := List.getElem_of_mem hx
  exact h j hj
attribute [local irreducible] fixP anyP winB inB
theorem vl_boxw (w : World) (o : Obj) : Below w.heap.size w (w.alloc o) := (Below.refl _ _).alloc (Nat.le_refl _) _
theorem eq2b (a b c d : Int) (w : World) : (Op.equalIn 10000 53 (.agg #[.int .u8 a, .int .u8 b]) (.agg #[.int .u8 c, .int .u8 d])).run Tryd.prog w = .ok (a == c && b == d) w := by
  have u3 := Tryd.underlying5
  have a3 : ∀ w, (isAgg 5).run Tryd.prog w = .ok false w := fun w => by unfold isAgg; rw [Sem.run_bind, run_underlying u3 w]; rfl
  have z3 : ∀ w, (sizeOf 5).run Tryd.prog w = .ok 1 w := fun w => by kernel_rfl
  rw [show (10000 : Nat) = 9999 + 1 from rfl, Op.equalIn]
  simp only [Sem.run_bind, run_underlying Tryd.underlying53, Result.andThen_ok]
  simp only [Std.Legacy.Range.forIn_eq_forIn_range', Std.Legacy.Range.size, Nat.sub_zero, Nat.add_sub_cancel, Nat.div_one, List.range'_succ, List.range'_zero, List.forIn_cons, List.forIn_nil]
  go_simp
  by_cases h1 : a = c <;> by_cases h2 : b = d <;> simp [h1, h2]
theorem eql2b (a b c d : Int) (w : World) : (binOp .eql 53 (.agg #[.int .u8 a, .int .u8 b]) (.agg #[.int .u8 c, .int .u8 d])).run Tryd.prog w = .ok (.bool (a == c && b == d)) w := by
  rw [run_eql_struct, eq2b]
  rfl
theorem info2b : (Tryd.prog.info? 53).map (·.size) = some 2 := by kernel_rfl
theorem load2b (w : World) (b o : Nat) (x y : Int) (h0 : w.cell? ⟨b, o, none⟩ = some (.int .u8 x)) (h1 : w.cell? ⟨b, o + 1, none⟩ = some (.int .u8 y)) :
    (Instr.loadAt 53 (.pointer (some ⟨b, o, none⟩))).run Tryd.prog w = .ok (.agg #[.int .u8 x, .int .u8 y]) w := by
  refine run_loadAt_mid w b o 53 [.int .u8 x, .int .u8 y] _ ?_ Tryd.underlying53 rfl info2b
  intro j v hj
  match j, hj with
  | 0, hj => cases hj; exact h0
  | 1, hj => cases hj; exact h1
set_option maxRecDepth 100000 in
set_option maxHeartbeats 1000000 in
theorem insideb_any (p : Int × Int) (x : Int) (g : Nat) (w : World) (hg : w.cell? ⟨g, 0, none⟩ = some (.int .u8 x)) :
    Calls Tryd.prog 53 #[.agg #[.int .u8 p.1, .int .u8 p.2], .pointer (some ⟨g, 0, none⟩)] w fun e w' => e = .returned (.bool (inB p x)) ∧ Below w.heap.size w w' := by
  obtain ⟨a, b⟩ := p
  dsimp only
  obtain ⟨X, hX⟩ : ∃ X, X = w.alloc (.cells #[.int .u8 a, .int .u8 b] 53) := ⟨_, rfl⟩
  have hE := fun c d W => eql2b a b c d W
  have HB := Lib.hid (vl_boxw w (.cells #[.int .u8 a, .int .u8 b] 53))
  have hl := cell_lt hg
  have hc := (HB.out.cell (p := ⟨g, 0, none⟩) hl).trans hg
  have HI := Lib.hid (show inB (a, b) x = (decide (a ≤ x) && decide (x ≤ b)) by unfold inB; rfl)
  go_enter Tryd.func53, Tryd.ntmps53
  go_wp2
  all_goals
    go_ret
    refine ⟨?_, HB.out⟩
    show Ending.returned (Value.bool _) = Ending.returned (Value.bool _)
    rw [HI.out]
    congr 2
    rw [Bool.eq_iff_iff]
    simp <;> omega
set_option maxRecDepth 100000 in
set_option maxHeartbeats 1000000 in
theorem indexPb_any (g : Nat) (x : Int) (ad : Option Addr) (n cap : Nat) (ps : List (Int × Int)) (w : World) (hl : Prs .u8 w ad ps) (hn : n = ps.length) (hs : n ≤ 1000000) (hg : w.cell? ⟨g, 0, none⟩ = some (.int .u8 x)) :
    Calls Tryd.prog 74 #[.slice ad n cap, .func (.func 53) #[] #[.pointer (some ⟨g, 0, none⟩)]] w fun e w' => e = .returned (.int .i64 (fixP ps x)) ∧ Below w.heap.size w w' := by
  have HL := Lib.hid hl
  have HN := Lib.hid hn
  have HG := Lib.hid hg
  have HGL := Lib.hid (cell_lt hg)
  have HY := Lib.hid (fun k (hk : k < ps.length) => fixP_at (x := x) hk)
  have HZ := Lib.hid (@fixP_no ps x)
  clear hl hn hg
  go_enter Tryd.func74, Tryd.ntmps74
  go_wp2
  go_loopg [8] n (fun gk vk wx => ∃ k : Nat, vk = .int .i64 k ∧ k + gk = n ∧ Hid (Below w.heap.size w wx) ∧ Hid (∀ j (h : j < ps.length), j < k → inB ps[j] x = false))
  case atStart => exact ⟨0, rfl, by omega, Lib.hid (Below.refl _ _), Lib.hid fun j _ hj => by omega⟩
  case round =>
    obtain ⟨k, rfl, hk, hB, hall⟩ := hrel
    cases gk with
    | zero =>
      obtain rfl : k = n := by omega
      have HF := Lib.hid (HZ.out (fun j hj => hall.out j hj (by have := HN.out; omega)))
      go_wp2
      go_ret
      exact ⟨by rw [HF.out]; rfl, hB.out⟩
    | succ gk0 =>
      have hkn : k < n := by omega
      have hkl : k < ps.length := by have := HN.out; omega
      obtain ⟨b, off, rfl, hlt, hc⟩ := HL.out.below hB.out
      obtain ⟨q0, q1⟩ := hc k hkl
      clear hc
      have HNX : inB ps[k] x = false → Hid (∀ j (h : j < ps.length), j < k + 1 → inB ps[j] x = false) := fun hc => Lib.hid fun j h hj => by
        rcases Nat.lt_or_ge j k with h3 | h3
        · exact hall.out j h h3
        · obtain rfl : j = k := by omega
          exact hc
      have HNO : inB ps[k] x = true → Hid (fixP ps x = (k : Int)) := fun hc => Lib.hid (HY.out k hkl hc hall.out)
      have HC := Lib.hid (insideb_any ps[k] x g wr ((hB.out.cell (p := ⟨g, 0, none⟩) HGL.out).trans HG.out))
      generalize ps[k] = pk at *
      obtain ⟨pa, pb⟩ := pk
      dsimp only at q0 q1 HC
      clear hkl
      go_wp2_with fail
      refine HC.out.mono ?_
      rintro e w5 ⟨rfl, hb⟩
      have HB5 := Lib.hid (hB.out.trans (hb.mono hB.out.size))
      clear hb q0 q1 HC
      cases hok : inB (pa, pb) x
      · have HR := HNX hok
        clear HNX HNO hok
        go_wp2
        go_roundg gk0
        case rel => exact ⟨k + 1, by go_num, by omega, HB5, HR⟩
        case measure => omega
      · have HR := HNO hok
        clear HNX HNO hok
        go_wp2
        go_ret
        exact ⟨by rw [HR.out]; rfl, HB5.out⟩
set_option maxRecDepth 100000 in
set_option maxHeartbeats 1000000 in
theorem containsPb_any (g : Nat) (x : Int) (ad : Option Addr) (n cap : Nat) (ps : List (Int × Int)) (w : World) (hl : Prs .u8 w ad ps) (hn : n = ps.length) (hs : n ≤ 1000000) (hg : w.cell? ⟨g, 0, none⟩ = some (.int .u8 x)) :
    Calls Tryd.prog 54 #[.slice ad n cap, .func (.func 53) #[] #[.pointer (some ⟨g, 0, none⟩)]] w fun e w' => e = .returned (.bool (anyP ps x)) ∧ Below w.heap.size w w' := by
  have HX := Lib.hid (indexPb_any g x ad n cap ps w hl hn hs hg)
  have HF := Lib.hid (anyP_fix ps x)
  clear hl hn hg
  go_enter Tryd.func54, Tryd.ntmps54
  go_wp2_with fail
  refine HX.out.mono ?_
  clear HX
  generalize fixP ps x = r at *
  rintro e w1 ⟨rfl, hb⟩
  go_wp2
  go_ret
  exact ⟨by rw [HF.out]; rfl, hb⟩
set_option maxRecDepth 100000 in
set_option maxHeartbeats 2000000 in
theorem withinb_any (ad pd : Option Addr) (n cap m pcap : Nat) (xs : List Int) (ps : List (Int × Int)) (w : World) (hl : Ezs .u8 w ad xs) (hn : n = xs.length) (hs : (n : Int) ≤ 9223372036854775807) (hp : Prs .u8 w pd ps) (hm : m = ps.length) (hms : m ≤ 1000000) :
    Calls Tryd.prog 33 #[.slice ad n cap, .slice pd m pcap] w fun e w' => e = .returned (.bool (winB ps xs)) ∧ Below w.heap.size w w' := by
  have HL := Lib.hid hl
  have HN := Lib.hid hn
  have HP := Lib.hid hp
  have HM := Lib.hid hm
  have HY := Lib.hid (@winB_yes ps xs)
  have HZ := Lib.hid (fun k (hk : k < xs.length) => winB_no (ps := ps) hk)
  clear hl hn hp hm
  go_enter Tryd.func33, Tryd.ntmps33
  go_wp2
  go_loopg [10] n (fun gk vk wx => ∃ k : Nat, vk = .int .i64 k ∧ k + gk = n ∧ Hid (Below w.heap.size w wx) ∧ Hid (∀ j (h : j < xs.length), j < k → anyP ps xs[j] = true))
  case atStart => exact ⟨0, rfl, by omega, Lib.hid (Below.refl _ _), Lib.hid fun j _ hj => by omega⟩
  case round =>
    obtain ⟨k, rfl, hk, hB, hall⟩ := hrel
    cases gk with
    | zero =>
      obtain rfl : k = n := by omega
      have HF := Lib.hid (HY.out (fun j hj => hall.out j hj (by have := HN.out; omega)))
      go_wp2
      go_ret
      exact ⟨by rw [HF.out]; rfl, hB.out⟩
    | succ gk0 =>
      have hkn : k < n := by omega
      have hkl : k < xs.length := by have := HN.out; omega
      obtain ⟨b, off, rfl, hlt, hc⟩ := (HL.out.below hB.out).resolve_left (fun h => by have := HN.out; rw [h] at this; simp at this; omega)
      have q0 := hc k hkl
      clear hc
      have HNX : anyP ps xs[k] = true → Hid (∀ j (h : j < xs.length), j < k + 1 → anyP ps xs[j] = true) := fun hc => Lib.hid fun j h hj => by
        rcases Nat.lt_or_ge j k with h3 | h3
        · exact hall.out j h h3
        · obtain rfl : j = k := by omega
          exact hc
      have HNO : anyP ps xs[k] = false → Hid (winB ps xs = false) := fun hc => Lib.hid (HZ.out k hkl hc)
      generalize xs[k] = x at *
      have HBX := Lib.hid (vl_boxw wr (.cells #[.int .u8 x] 5))
      have HC := Lib.hid (containsPb_any wr.heap.size x pd m pcap ps (wr.alloc (.cells #[.int .u8 x] 5)) ((HP.out.below hB.out).below HBX.out) HM.out hms (by rw [World.cell?_alloc_mark]; rfl))
      clear hkl
      go_wp2_with fail
      refine HC.out.mono ?_
      clear HC
      rintro e w5 ⟨rfl, hb⟩
      have HB5 := Lib.hid ((hB.out.trans (HBX.out.mono hB.out.size)).trans (hb.mono (hB.out.trans (HBX.out.mono hB.out.size)).size))
      clear hb q0 HBX
      cases hok : anyP ps x
      · have HR := HNO hok
        clear HNX HNO hok
        go_wp2
        go_ret
        exact ⟨by rw [HR.out]; rfl, HB5.out⟩
      · have HR := HNX hok
        clear HNX HNO hok
        go_wp2
        go_roundg gk0
        case rel => exact ⟨k + 1, by go_num, by omega, HB5, HR⟩
        case measure => omega
theorem eq2i (a b c d : Int) (w : World) : (Op.equalIn 10000 51 (.agg #[.int .i64 a, .int .i64 b]) (.agg #[.int .i64 c, .int .i64 d])).run Tryd.prog w = .ok (a == c && b == d) w := by
  have u3 := Tryd.underlying3
  have a3 : ∀ w, (isAgg 3).run Tryd.prog w = .ok false w := fun w => by unfold isAgg; rw [Sem.run_bind, run_underlying u3 w]; rfl
  have z3 : ∀ w, (sizeOf 3).run Tryd.prog w = .ok 1 w := fun w => by kernel_rfl
  rw [show (10000 : Nat) = 9999 + 1 from rfl, Op.equalIn]
  simp only [Sem.run_bind, run_underlying Tryd.underlying51, Result.andThen_ok]
  simp only [Std.Legacy.Range.forIn_eq_forIn_range', Std.Legacy.Range.size, Nat.sub_zero, Nat.add_sub_cancel, Nat.div_one, List.range'_succ, List.range'_zero, List.forIn_cons, List.forIn_nil]
  go_simp
  by_cases h1 : a = c <;> by_cases h2 : b = d <;> simp [h1, h2]
theorem eql2i (a b c d : Int) (w : World) : (binOp .eql 51 (.agg #[.int .i64 a, .int .i64 b]) (.agg #[.int .i64 c, .int .i64 d])).run Tryd.prog w = .ok (.bool (a == c && b == d)) w := by
  rw [run_eql_struct, eq2i]
  rfl
theorem info2i : (Tryd.prog.info? 51).map (·.size) = some 2 := by kernel_rfl
theorem load2i (w : World) (b o : Nat) (x y : Int) (h0 : w.cell? ⟨b, o, none⟩ = some (.int .i64 x)) (h1 : w.cell? ⟨b, o + 1, none⟩ = some (.int .i64 y)) :
    (Instr.loadAt 51 (.pointer (some ⟨b, o, none⟩))).run Tryd.prog w = .ok (.agg #[.int .i64 x, .int .i64 y]) w := by
  refine run_loadAt_mid w b o 51 [.int .i64 x, .int .i64 y] _ ?_ Tryd.underlying51 rfl info2i
  intro j v hj
  match j, hj with
  | 0, hj => cases hj; exact h0
  | 1, hj => cases hj; exact h1
set_option maxRecDepth 100000 in
set_option maxHeartbeats 1000000 in
theorem insidei_any (p : Int × Int) (x : Int) (g : Nat) (w : World) (hg : w.cell? ⟨g, 0, none⟩ = some (.int .i64 x)) :
    Calls Tryd.prog 51 #[.agg #[.int .i64 p.1, .int .i64 p.2], .pointer (some ⟨g, 0, none⟩)] w fun e w' => e = .returned (.bool (inB p x)) ∧ Below w.heap.size w w' := by
  obtain ⟨a, b⟩ := p
  dsimp only
  obtain ⟨X, hX⟩ : ∃ X, X = w.alloc (.cells #[.int .i64 a, .int .i64 b] 51) := ⟨_, rfl⟩
  have hE := fun c d W => eql2i a b c d W
  have HB := Lib.hid (vl_boxw w (.cells #[.int .i64 a, .int .i64 b] 51))
  have hl := cell_lt hg
  have hc := (HB.out.cell (p := ⟨g, 0, none⟩) hl).trans hg
  have HI := Lib.hid (show inB (a, b) x = (decide (a ≤ x) && decide (x ≤ b)) by unfold inB; rfl)
  go_enter Tryd.func51, Tryd.ntmps51
  go_wp2
  all_goals
    go_ret
    refine ⟨?_, HB.out⟩
    show Ending.returned (Value.bool _) = Ending.returned (Value.bool _)
    rw [HI.out]
    congr 2
    rw [Bool.eq_iff_iff]
    simp <;> omega
set_option maxRecDepth 100000 in
set_option maxHeartbeats 1000000 in
theorem indexPi_any (g : Nat) (x : Int) (ad : Option Addr) (n cap : Nat) (ps : List (Int × Int)) (w : World) (hl : Prs .i64 w ad ps) (hn : n = ps.length) (hs : n ≤ 1000000) (hg : w.cell? ⟨g, 0, none⟩ = some (.int .i64 x)) :
    Calls Tryd.prog 73 #[.slice ad n cap, .func (.func 51) #[] #[.pointer (some ⟨g, 0, none⟩)]] w fun e w' => e = .returned (.int .i64 (fixP ps x)) ∧ Below w.heap.size w w' := by
  have HL := Lib.hid hl
  have HN := Lib.hid hn
  have HG := Lib.hid hg
  have HGL := Lib.hid (cell_lt hg)
  have HY := Lib.hid (fun k (hk : k < ps.length) => fixP_at (x := x) hk)
  have HZ := Lib.hid (@fixP_no ps x)
  clear hl hn hg
  go_enter Tryd.func73, Tryd.ntmps73
  go_wp2
  go_loopg [8] n (fun gk vk wx => ∃ k : Nat, vk = .int .i64 k ∧ k + gk = n ∧ Hid (Below w.heap.size w wx) ∧ Hid (∀ j (h : j < ps.length), j < k → inB ps[j] x = false))
  case atStart => exact ⟨0, rfl, by omega, Lib.hid (Below.refl _ _), Lib.hid fun j _ hj => by omega⟩
  case round =>
    obtain ⟨k, rfl, hk, hB, hall⟩ := hrel
    cases gk with
    | zero =>
      obtain rfl : k = n := by omega
      have HF := Lib.hid (HZ.out (fun j hj => hall.out j hj (by have := HN.out; omega)))
      go_wp2
      go_ret
      exact ⟨by rw [HF.out]; rfl, hB.out⟩
    | succ gk0 =>
      have hkn : k < n := by omega
      have hkl : k < ps.length := by have := HN.out; omega
      obtain ⟨b, off, rfl, hlt, hc⟩ := HL.out.below hB.out
      obtain ⟨q0, q1⟩ := hc k hkl
      clear hc
      have HNX : inB ps[k] x = false → Hid (∀ j (h : j < ps.length), j < k + 1 → inB ps[j] x = false) := fun hc => Lib.hid fun j h hj => by
        rcases Nat.lt_or_ge j k with h3 | h3
        · exact hall.out j h h3
        · obtain rfl : j = k := by omega
          exact hc
      have HNO : inB ps[k] x = true → Hid (fixP ps x = (k : Int)) := fun hc => Lib.hid (HY.out k hkl hc hall.out)
      have HC := Lib.hid (insidei_any ps[k] x g wr ((hB.out.cell (p := ⟨g, 0, none⟩) HGL.out).trans HG.out))
      generalize ps[k] = pk at *
      obtain ⟨pa, pb⟩ := pk
      dsimp only at q0 q1 HC
      clear hkl
      go_wp2_with fail
      refine HC.out.mono ?_
      rintro e w5 ⟨rfl, hb⟩
      have HB5 := Lib.hid (hB.out.trans (hb.mono hB.out.size))
      clear hb q0 q1 HC
      cases hok : inB (pa, pb) x
      · have HR := HNX hok
        clear HNX HNO hok
        go_wp2
        go_roundg gk0
        case rel => exact ⟨k + 1, by go_num, by omega, HB5, HR⟩
        case measure => omega
      · have HR := HNO hok
        clear HNX HNO hok
        go_wp2
        go_ret
        exact ⟨by rw [HR.out]; rfl, HB5.out⟩
set_option maxRecDepth 100000 in
set_option maxHeartbeats 1000000 in
theorem containsPi_any (g : Nat) (x : Int) (ad : Option Addr) (n cap : Nat) (ps : List (Int × Int)) (w : World) (hl : Prs .i64 w ad ps) (hn : n = ps.length) (hs : n ≤ 1000000) (hg : w.cell? ⟨g, 0, none⟩ = some (.int .i64 x)) :
    Calls Tryd.prog 52 #[.slice ad n cap, .func (.func 51) #[] #[.pointer (some ⟨g, 0, none⟩)]] w fun e w' => e = .returned (.bool (anyP ps x)) ∧ Below w.heap.size w w' := by
  have HX := Lib.hid (indexPi_any g x ad n cap ps w hl hn hs hg)
  have HF := Lib.hid (anyP_fix ps x)
  clear hl hn hg
  go_enter Tryd.func52, Tryd.ntmps52
  go_wp2_with fail
  refine HX.out.mono ?_
  clear HX
  generalize fixP ps x = r at *
  rintro e w1 ⟨rfl, hb⟩
  go_wp2
  go_ret
  exact ⟨by rw [HF.out]; rfl, hb⟩
set_option maxRecDepth 100000 in
set_option maxHeartbeats 2000000 in
theorem withini_any (ad pd : Option Addr) (n cap m pcap : Nat) (xs : List Int) (ps : List (Int × Int)) (w : World) (hl : Ezs .i64 w ad xs) (hn : n = xs.length) (hs : (n : Int) ≤ 9223372036854775807) (hp : Prs .i64 w pd ps) (hm : m = ps.length) (hms : m ≤ 1000000) :
    Calls Tryd.prog 30 #[.slice ad n cap, .slice pd m pcap] w fun e w' => e = .returned (.bool (winB ps xs)) ∧ Below w.heap.size w w' := by
  have HL := Lib.hid hl
  have HN := Lib.hid hn
  have HP := Lib.hid hp
  have HM := Lib.hid hm
  have HY := Lib.hid (@winB_yes ps xs)
  have HZ := Lib.hid (fun k (hk : k < xs.length) => winB_no (ps := ps) hk)
  clear hl hn hp hm
  go_enter Tryd.func30, Tryd.ntmps30
  go_wp2
  go_loopg [10] n (fun gk vk wx => ∃ k : Nat, vk = .int .i64 k ∧ k + gk = n ∧ Hid (Below w.heap.size w wx) ∧ Hid (∀ j (h : j < xs.length), j < k → anyP ps xs[j] = true))
  case atStart => exact ⟨0, rfl, by omega, Lib.hid (Below.refl _ _), Lib.hid fun j _ hj => by omega⟩
  case round =>
    obtain ⟨k, rfl, hk, hB, hall⟩ := hrel
    cases gk with
    | zero =>
      obtain rfl : k = n := by omega
      have HF := Lib.hid (HY.out (fun j hj => hall.out j hj (by have := HN.out; omega)))
      go_wp2
      go_ret
      exact ⟨by rw [HF.out]; rfl, hB.out⟩
    | succ gk0 =>
      have hkn : k < n := by omega
      have hkl : k < xs.length := by have := HN.out; omega
      obtain ⟨b, off, rfl, hlt, hc⟩ := (HL.out.below hB.out).resolve_left (fun h => by have := HN.out; rw [h] at this; simp at this; omega)
      have q0 := hc k hkl
      clear hc
      have HNX : anyP ps xs[k] = true → Hid (∀ j (h : j < xs.length), j < k + 1 → anyP ps xs[j] = true) := fun hc => Lib.hid fun j h hj => by
        rcases Nat.lt_or_ge j k with h3 | h3
        · exact hall.out j h h3
        · obtain rfl : j = k := by omega
          exact hc
      have HNO : anyP ps xs[k] = false → Hid (winB ps xs = false) := fun hc => Lib.hid (HZ.out k hkl hc)
      generalize xs[k] = x at *
      have HBX := Lib.hid (vl_boxw wr (.cells #[.int .i64 x] 3))
      have HC := Lib.hid (containsPi_any wr.heap.size x pd m pcap ps (wr.alloc (.cells #[.int .i64 x] 3)) ((HP.out.below hB.out).below HBX.out) HM.out hms (by rw [World.cell?_alloc_mark]; rfl))
      clear hkl
      go_wp2_with fail
      refine HC.out.mono ?_
      clear HC
      rintro e w5 ⟨rfl, hb⟩
      have HB5 := Lib.hid ((hB.out.trans (HBX.out.mono hB.out.size)).trans (hb.mono (hB.out.trans (HBX.out.mono hB.out.size)).size))
      clear hb q0 HBX
      cases hok : anyP ps x
      · have HR := HNO hok
        clear HNX HNO hok
        go_wp2
        go_ret
        exact ⟨by rw [HR.out]; rfl, HB5.out⟩
      · have HR := HNX hok
        clear HNX HNO hok
        go_wp2
        go_roundg gk0
        case rel => exact ⟨k + 1, by go_num, by omega, HB5, HR⟩
        case measure => omega
end Go.Proofs.YtjmlidejbddoeaaDoor
