/-
  The checksum of a frame, and what begins at an offset: the program's functions.
-/
import Derived.Test.YtbbdkghkdmaolaaDoorFSmall
import Derived.Deep.RegionWith
import Derived.Deep.MidRow
import Derived.Laws.StructEq
import Derived.Laws.Cover3
namespace Go.Proofs.YtbbdkghkdmaolaaDoor
open Go.RowKit
set_option linter.unusedVariables false

theorem Lie.drop {w : World} {b off : Nat} {xs : List UInt8} (h : Lie w (some ⟨b, off, none⟩) xs) (k : Nat) : Lie w (some ⟨b, off + k, none⟩) (xs.drop k) := by
  rcases h.at_ with rfl | ⟨b', off', h0, hb, hc⟩
  · exact ⟨.inl (by simp)⟩
  · cases h0
    refine ⟨.inr ⟨b, off + k, rfl, hb, fun j hj => ?_⟩⟩
    rw [List.length_drop] at hj
    rw [Nat.add_assoc, hc (k + j) (by omega), List.getElem_drop]
theorem Lie.take {w : World} {ad : Option Addr} {xs : List UInt8} (h : Lie w ad xs) (k : Nat) : Lie w ad (xs.take k) := by
  rcases h.at_ with rfl | ⟨b, off, h0, hb, hc⟩
  · exact ⟨.inl (by simp)⟩
  · refine ⟨.inr ⟨b, off, h0, hb, fun j hj => ?_⟩⟩
    rw [List.length_take] at hj
    rw [hc j (by omega), List.getElem_take]

/-- The program's two magic bytes lie in their variable. -/
structure Mag (w : World) : Prop where
  c0 : w.cell? ⟨0, 0, none⟩ = some (.int .u8 167)
  c1 : w.cell? ⟨0, 1, none⟩ = some (.int .u8 60)
theorem Mag.pos {w : World} (h : Mag w) : 0 < w.heap.size := by
  rcases Nat.lt_or_ge 0 w.heap.size with h' | h'
  · exact h'
  · have := h.c0
    simp [World.cell?, Array.getElem?_eq_none h'] at this
theorem Mag.below {w w' : World} {B : Nat} (h : Mag w) (hb : Below B w w') (hB : 0 < B) : Mag w' :=
  ⟨(hb.cell (p := ⟨0, 0, none⟩) hB).trans h.c0, (hb.cell (p := ⟨0, 1, none⟩) hB).trans h.c1⟩
theorem Mag.step {w w' : World} (h : Mag w) (hb : Below w.heap.size w w') : Mag w' := h.below hb h.pos

set_option maxRecDepth 100000 in
set_option maxHeartbeats 400000 in
theorem fsum_any (ad1 ad2 : Option Addr) (n1 c1 n2 c2 : Nat) (l xs : List UInt8) (w : World) (h1 : Lie w ad1 l) (h2 : Lie w ad2 xs) (e1 : n1 = l.length) (e2 : n2 = xs.length) (m1 : l.length ≤ 10000000) (m2 : xs.length ≤ 10000000) :
    Calls Tryd.prog 26 #[.slice ad1 n1 c1, .slice ad2 n2 c2] w fun e w' => e = .returned (.int .u32 (crc (l ++ xs) : Int)) ∧ Below w.heap.size w w' := by
  have E1 := Lib.hid e1
  have E2 := Lib.hid e2
  clear e1 e2
  go_enter Tryd.func26, Tryd.ntmps26
  go_wp2_with fail
  refine (csum_any ad1 n1 c1 l _ h1 E1.out m1).mono ?_
  rintro e w1 ⟨rfl, hb1⟩
  have HB1 := Lib.hid hb1
  clear hb1
  have H2 := Lib.hid (h2.below HB1.out rfl)
  go_wp2_with fail
  refine (cupd_any ad2 n2 c2 l xs _ H2.out E2.out m2).mono ?_
  rintro e w2 ⟨rfl, hb2⟩
  have HB2 := Lib.hid hb2
  clear hb2
  go_wp2
  go_ret
  exact ⟨rfl, HB1.out.trans (HB2.out.mono HB1.out.size)⟩

theorem eqMag (a b c d : Int) (w : World) : (Op.equalIn 10000 45 (.agg #[.int .u8 a, .int .u8 b]) (.agg #[.int .u8 c, .int .u8 d])).run Tryd.prog w = .ok (a == c && b == d) w := by
  have u3 := Tryd.underlying5
  have a3 : ∀ w, (isAgg 5).run Tryd.prog w = .ok false w := fun w => by unfold isAgg; rw [Sem.run_bind, run_underlying u3 w]; rfl
  have z3 : ∀ w, (sizeOf 5).run Tryd.prog w = .ok 1 w := fun w => by kernel_rfl
  rw [show (10000 : Nat) = 9999 + 1 from rfl, Op.equalIn]
  simp only [Sem.run_bind, run_underlying Tryd.underlying45, Result.andThen_ok]
  simp only [Std.Legacy.Range.forIn_eq_forIn_range', Std.Legacy.Range.size, Nat.sub_zero, Nat.add_sub_cancel, Nat.div_one, List.range'_succ, List.range'_zero, List.forIn_cons, List.forIn_nil]
  go_simp
  by_cases h1 : a = c <;> by_cases h2 : b = d <;> simp [h1, h2]
theorem neqMag (a b c d : Int) (w : World) : (binOp .neq 45 (.agg #[.int .u8 a, .int .u8 b]) (.agg #[.int .u8 c, .int .u8 d])).run Tryd.prog w = .ok (.bool (!(a == c && b == d))) w := by
  rw [run_neq_struct, eqMag]
  rfl
theorem infoM : (Tryd.prog.info? 45).map (·.size) = some 2 := by kernel_rfl
theorem arrMag (w : World) (a : Option Addr) (n c : Nat) (h : 2 ≤ n) : (Instr.arrayAt 45 (.slice a n c)).run Tryd.prog w = .ok (.pointer a) w := run_arrayAt w _ _ 2 a n c Tryd.underlying45 h
theorem loadMag (w : World) (b o : Nat) (x y : Int) (h0 : w.cell? ⟨b, o, none⟩ = some (.int .u8 x)) (h1 : w.cell? ⟨b, o + 1, none⟩ = some (.int .u8 y)) :
    (Instr.loadAt 45 (.pointer (some ⟨b, o, none⟩))).run Tryd.prog w = .ok (.agg #[.int .u8 x, .int .u8 y]) w := by
  refine run_loadAt_mid w b o 45 [.int .u8 x, .int .u8 y] _ ?_ Tryd.underlying45 rfl infoM
  intro j v hj
  match j, hj with
  | 0, hj => cases hj; exact h0
  | 1, hj => cases hj; exact h1

theorem below_drewN {B : Nat} {a w : World} (h : Below B a w) (n : Nat) : Below B a (w.drewN n) := ⟨h.os, h.tape, h.output, h.size, h.block⟩
/-- What check answers. -/
def ChkP (w : World) (x e : Int) (en : Ending) (w' : World) : Prop := en = .returned (.tuple #[.int .i64 x, .int .i64 e]) ∧ Below w.heap.size w w'

set_option maxRecDepth 100000 in
set_option maxHeartbeats 400000 in
theorem chk_range (ad : Option Addr) (n cap : Nat) (at_ : Int) (w : World) (h : at_ < 0 ∨ n < at_) (hn : n ≤ 10000000) :
    Calls Tryd.prog 29 #[.slice ad n cap, .int .i64 at_] w (ChkP w 0 7) := by
  rcases (show at_ < 0 ∨ (0 ≤ at_ ∧ n < at_) by omega) with h1 | ⟨h1, h2⟩
  all_goals
    clear h
    go_enter Tryd.func29, Tryd.ntmps29
    go_wp2
    go_ret2
    exact ⟨rfl, .refl _ _⟩
set_option maxRecDepth 100000 in
set_option maxHeartbeats 400000 in
theorem chk_short (ad : Option Addr) (n cap a : Nat) (w : World) (h1 : a ≤ n) (h2 : n < a + 10) (hn : n ≤ 10000000) (hc : n ≤ cap) (hcm : cap ≤ maxLen) (had : ad = none → cap = 0) :
    Calls Tryd.prog 29 #[.slice ad n cap, .int .i64 a] w (ChkP w 0 2) := by
  have h3 : n - a < 10 := by omega
  unfold maxLen at hcm
  cases ad with
  | none =>
    obtain rfl := had rfl
    obtain rfl : n = 0 := by omega
    obtain rfl : a = 0 := by omega
    go_enter Tryd.func29, Tryd.ntmps29
    go_wp2
    go_ret2
    exact ⟨rfl, .refl _ _⟩
  | some x =>
    clear had
    by_cases hca : cap = a
    · subst hca
      obtain rfl : n = cap := by omega
      clear h1 h2 hc
      go_enter Tryd.func29, Tryd.ntmps29
      go_wp2
      go_ret2
      exact ⟨rfl, .refl _ _⟩
    · go_enter Tryd.func29, Tryd.ntmps29
      go_wp2
      go_ret2
      exact ⟨rfl, .refl _ _⟩
set_option maxRecDepth 100000 in
set_option maxHeartbeats 1000000 in
theorem chk_magic (b off n cap a : Nat) (x0 x1 : Nat) (w : World) (hm : Mag w) (h10 : a + 10 ≤ n) (hnc : n ≤ cap) (hcm : cap ≤ maxLen) (hn : n ≤ 10000000)
   (hc0 : w.cell? ⟨b, off + a, none⟩ = some (.int .u8 x0)) (hc1 : w.cell? ⟨b, off + a + 1, none⟩ = some (.int .u8 x1)) (hx : ¬ (x0 = 167 ∧ x1 = 60)) :
    Calls Tryd.prog 29 #[.slice (some ⟨b, off, none⟩) n cap, .int .i64 a] w (ChkP w 0 1) := by
  have hA := fun W : World => arrMag W (some ⟨b, off + a, none⟩) (n - a) (cap - a) (by omega)
  have hL1 : ∀ nq, _ := fun nq => loadMag (w.drewN nq) b (off + a) x0 x1 hc0 hc1
  have hg0 := hm.c0
  have hg1 := hm.c1
  have hN := fun W : World => neqMag x0 x1 167 60 W
  have hX : (!((x0 : Int) == 167 && (x1 : Int) == 60)) = true := by
    rw [Bool.not_eq_true', Bool.and_eq_false_iff]
    simp only [beq_eq_false_iff_ne]
    omega
  rw [hX] at hN
  clear hX hx
  unfold maxLen at hcm
  have h3 : 10 ≤ n - a := by omega
  have h4 : ¬ n < a := by omega
  go_enter Tryd.func29, Tryd.ntmps29
  go_wp2_with fail
  go_quiet (fail)
  go_wp2
  go_ret2
  exact ⟨rfl, below_drewN (.refl _ _) _⟩
set_option maxRecDepth 100000 in
set_option maxHeartbeats 1000000 in
theorem chk_long (b off n cap a N : Nat) (r : List UInt8) (w : World) (hm : Mag w) (h10 : a + 10 ≤ n) (hnc : n ≤ cap) (hcm : cap ≤ maxLen) (hn : n ≤ 10000000)
   (hc0 : w.cell? ⟨b, off + a, none⟩ = some (.int .u8 167)) (hc1 : w.cell? ⟨b, off + a + 1, none⟩ = some (.int .u8 60)) (hl : Lie w (some ⟨b, off + a + 2, none⟩) r) (hr : r.length = 4) (hN : num4 r = N) (hbig : 65536 < N) :
    Calls Tryd.prog 29 #[.slice (some ⟨b, off, none⟩) n cap, .int .i64 a] w (ChkP w 0 6) := by
  have hA := fun W : World => arrMag W (some ⟨b, off + a, none⟩) (n - a) (cap - a) (by omega)
  have hL1 : ∀ nq, _ := fun nq => loadMag (w.drewN nq) b (off + a) 167 60 hc0 hc1
  have hg0 := hm.c0
  have hg1 := hm.c1
  have hQ := fun W : World => neqMag 167 60 167 60 W
  have hNl := num4_lt r
  rw [hN] at hNl
  have HN := Lib.hid hN
  have HR := Lib.hid hr
  clear hN hr
  unfold maxLen at hcm
  have h3 : 10 ≤ n - a := by omega
  have h4 : ¬ n < a := by omega
  go_enter Tryd.func29, Tryd.ntmps29
  go_wp2_with fail
  go_quiet (fail)
  go_wp2_with fail
  refine (num_any _ _ _ r _ (hl.drewN _) HR.out.symm (by rw [HR.out]; decide) (by rw [HR.out]; decide)).mono ?_
  rintro e w' ⟨rfl, k, rfl⟩
  rw [HN.out]
  go_wp2
  go_ret2
  exact ⟨rfl, below_drewN (.refl _ _) _⟩
set_option maxRecDepth 100000 in
set_option maxHeartbeats 1000000 in
theorem chk_cut (b off n cap a N : Nat) (r : List UInt8) (w : World) (hm : Mag w) (h10 : a + 10 ≤ n) (hnc : n ≤ cap) (hcm : cap ≤ maxLen) (hn : n ≤ 10000000)
   (hc0 : w.cell? ⟨b, off + a, none⟩ = some (.int .u8 167)) (hc1 : w.cell? ⟨b, off + a + 1, none⟩ = some (.int .u8 60)) (hl : Lie w (some ⟨b, off + a + 2, none⟩) r) (hr : r.length = 4) (hN : num4 r = N) (hbig : N ≤ 65536) (hcut : n < a + N + 10) :
    Calls Tryd.prog 29 #[.slice (some ⟨b, off, none⟩) n cap, .int .i64 a] w (ChkP w 0 2) := by
  have hA := fun W : World => arrMag W (some ⟨b, off + a, none⟩) (n - a) (cap - a) (by omega)
  have hL1 : ∀ nq, _ := fun nq => loadMag (w.drewN nq) b (off + a) 167 60 hc0 hc1
  have hg0 := hm.c0
  have hg1 := hm.c1
  have hQ := fun W : World => neqMag 167 60 167 60 W
  have hNl := num4_lt r
  rw [hN] at hNl
  have HN := Lib.hid hN
  have HR := Lib.hid hr
  clear hN hr
  unfold maxLen at hcm
  have h3 : 10 ≤ n - a := by omega
  have h4 : ¬ n < a := by omega
  go_enter Tryd.func29, Tryd.ntmps29
  go_wp2_with fail
  go_quiet (fail)
  go_wp2_with fail
  refine (num_any _ _ _ r _ (hl.drewN _) HR.out.symm (by rw [HR.out]; decide) (by rw [HR.out]; decide)).mono ?_
  rintro e w' ⟨rfl, k, rfl⟩
  rw [HN.out]
  have hlen : lenF (N : Int) = (N : Int) + 10 := by unfold lenF; rw [if_neg (by omega)]
  have HL := Lib.hid hlen
  clear hlen
  go_wp2_with fail
  refine (len_any (N : Int) _ (by omega) (by omega)).mono ?_
  rintro e w' ⟨rfl, rfl⟩
  rw [HL.out]
  have h5 : n - a < N + 10 := by omega
  go_wp2
  go_ret2
  exact ⟨rfl, below_drewN (.refl _ _) _⟩
end Go.Proofs.YtbbdkghkdmaolaaDoor
