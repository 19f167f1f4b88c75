/-
  Places on a tape, the times of motions, of reading, and the greatest time: plain mathematics.
  Geometries and spans in memory; which geometries are valid, and how many blocks they have.
-/
import Derived.RowKit
import Derived.Test.YtjiijjdmkeeilaaDoorRows
import Derived.WalkKit
import Derived.Lib.Hide
import Derived.WalkSpells
import Derived.WalkLawsBesides
import Derived.Below
import Derived.Deep.Draws
import Derived.BigQuiet
namespace Go.Proofs.YtjiijjdmkeeilaaDoor
/-- the geometry is valid -/
structure Vld (W L S T J R : Int) : Prop where
  w0 : 1 ≤ W
  w1 : W ≤ 32
  l0 : 1 ≤ L
  l1 : L ≤ 4096
  c1 : W * L ≤ 4096
  s0 : 0 ≤ S
  s1 : S ≤ 1000000
  t0 : 0 ≤ T
  t1 : T ≤ 1000000
  j0 : 0 ≤ J
  j1 : J ≤ 1000000
  r0 : 0 ≤ R
  r1 : R ≤ 1000000
noncomputable instance (W L S T J R : Int) : Decidable (Vld W L S T J R) := Classical.propDecidable _
noncomputable def vld (W L S T J R : Int) : Bool := decide (Vld W L S T J R)
theorem vld_iff {W L S T J R : Int} : vld W L S T J R = true ↔ Vld W L S T J R := by unfold vld; exact decide_eq_true_iff
theorem vld_not {W L S T J R : Int} : vld W L S T J R = false ↔ ¬ Vld W L S T J R := by unfold vld; exact decide_eq_false_iff_not
theorem quot_le {W L : Int} (h : 1 ≤ W) : L ≤ 4096 / W ↔ W * L ≤ 4096 := by
  rw [Int.le_ediv_iff_mul_le (by omega), Int.mul_comm]
/-- the wrap, the position and the direction of block b -/
def wr (W L b : Int) : Int := min (b / L) (W - 1)
def po (W L b : Int) : Int := if wr W L b % 2 = 1 then L - 1 - (b - wr W L b * L) else b - wr W L b * L
def bk (W L b : Int) : Bool := decide (wr W L b % 2 = 1)
theorem cap_pos {W L : Int} (w0 : 1 ≤ W) (l0 : 1 ≤ L) : L ≤ W * L := by
  have := Int.mul_le_mul_of_nonneg_right w0 (show 0 ≤ L by omega)
  omega
theorem wr_of {W L w o : Int} (l0 : 1 ≤ L) (h0 : 0 ≤ o) (h1 : o < L ∨ o = L ∧ w = W - 1) (hw : w ≤ W - 1) : wr W L (w * L + o) = w := by
  unfold wr
  have e : (w * L + o) / L = w + o / L := by rw [Int.add_comm, Int.add_mul_ediv_right _ _ (by omega)]; omega
  rw [e]
  rcases h1 with h | ⟨rfl, rfl⟩
  · rw [Int.ediv_eq_zero_of_lt h0 h]; omega
  · rw [Int.ediv_self (by omega)]; omega
/-- where block b lies: in the wrap w, o blocks from its begin -/
theorem wr_spec {W L b : Int} (w0 : 1 ≤ W) (l0 : 1 ≤ L) (b0 : 0 ≤ b) (b1 : b ≤ W * L) :
    ∃ w o, wr W L b = w ∧ b = w * L + o ∧ 0 ≤ o ∧ (o < L ∨ o = L ∧ w = W - 1 ∧ b = W * L) ∧ 0 ≤ w ∧ w ≤ W - 1 := by
  have hd := Int.emod_add_mul_ediv b L
  have h0 := Int.emod_nonneg b (show L ≠ 0 by omega)
  have h1 := Int.emod_lt_of_pos b (show 0 < L by omega)
  have hq : 0 ≤ b / L := Int.ediv_nonneg b0 (by omega)
  rw [Int.mul_comm] at hd
  by_cases h : b / L ≤ W - 1
  · exact ⟨b / L, b % L, by unfold wr; omega, by omega, h0, .inl h1, hq, h⟩
  · have h2 : W * L ≤ b / L * L := Int.mul_le_mul_of_nonneg_right (by omega) (by omega)
    have h3 : b = W * L := by omega
    refine ⟨W - 1, L, by unfold wr; omega, ?_, by omega, .inr ⟨rfl, rfl, h3⟩, by omega, by omega⟩
    rw [Int.sub_mul]; omega
theorem wr_bd {W L b : Int} (w0 : 1 ≤ W) (l0 : 1 ≤ L) (b0 : 0 ≤ b) (b1 : b ≤ W * L) :
    0 ≤ wr W L b ∧ wr W L b ≤ W - 1 ∧ 0 ≤ b - wr W L b * L ∧ b - wr W L b * L ≤ L ∧ (b < W * L → b - wr W L b * L < L) := by
  obtain ⟨w, o, e, h1, h2, h3, h4, h5⟩ := wr_spec w0 l0 b0 b1
  rw [e]
  omega
theorem po_bd {W L b : Int} (w0 : 1 ≤ W) (l0 : 1 ≤ L) (b0 : 0 ≤ b) (b1 : b ≤ W * L) : -1 ≤ po W L b ∧ po W L b ≤ L := by
  have := wr_bd w0 l0 b0 b1
  unfold po
  split <;> omega
/-- the number of the block at a place, if there is one -/
def nu (L w p : Int) (k : Bool) : Int := w * L + (if k = true then L - 1 - p else p)
theorem nu_back (W L b : Int) : nu L (wr W L b) (po W L b) (bk W L b) = b := by
  unfold nu po bk
  by_cases h : wr W L b % 2 = 1 <;> simp [h] <;> omega
theorem place_inj {W L a b : Int} (h1 : wr W L a = wr W L b) (h2 : po W L a = po W L b) (h3 : bk W L a = bk W L b) : a = b := by
  rw [← nu_back W L a, ← nu_back W L b, h1, h2, h3]
/-- the distance of two numbers -/
def dis (a b : Int) : Int := max (a - b) (b - a)
theorem dis_comm (a b : Int) : dis a b = dis b a := by unfold dis; omega
theorem dis_nonneg (a b : Int) : 0 ≤ dis a b := by unfold dis; omega
/-- the motion to b is opposite -/
def opp (pa : Int) (ka : Bool) (pb : Int) (kb : Bool) : Bool := if pa = pb then (ka != kb) else (decide (pa < pb) == kb)
/-- the time of a motion from place to place -/
def mov (S T J wa pa : Int) (ka : Bool) (wb pb : Int) (kb : Bool) : Int :=
  S * dis pa pb + J * dis wa wb + (if opp pa ka pb kb = true then T else 0)
def mo (W L S T J a b : Int) : Int := mov S T J (wr W L a) (po W L a) (bk W L a) (wr W L b) (po W L b) (bk W L b)
theorem mo_self (W L S T J a : Int) : mo W L S T J a a = 0 := by
  simp [mo, mov, dis, opp]
theorem dis_bd {W L a b : Int} (w0 : 1 ≤ W) (l0 : 1 ≤ L) (l1 : L ≤ 4096) (a0 : 0 ≤ a) (a1 : a ≤ W * L) (b0 : 0 ≤ b) (b1 : b ≤ W * L) : dis (po W L a) (po W L b) ≤ 4097 ∧ dis (wr W L a) (wr W L b) ≤ W - 1 := by
  have h1 := po_bd w0 l0 a0 a1
  have h2 := po_bd w0 l0 b0 b1
  have h3 := wr_bd w0 l0 a0 a1
  have h4 := wr_bd w0 l0 b0 b1
  unfold dis
  omega
theorem mul_bd {x m : Int} (h0 : 0 ≤ x) (h1 : x ≤ 1000000) {y : Int} (y0 : 0 ≤ y) (y1 : y ≤ m) : 0 ≤ x * y ∧ x * y ≤ 1000000 * m := by
  refine ⟨Int.mul_nonneg h0 y0, ?_⟩
  have a1 : x * y ≤ 1000000 * y := Int.mul_le_mul_of_nonneg_right h1 y0
  have a2 : 1000000 * y ≤ 1000000 * m := Int.mul_le_mul_of_nonneg_left y1 (by omega)
  omega
theorem mo_bd {W L S T J R a b : Int} (v : Vld W L S T J R) (a0 : 0 ≤ a) (a1 : a ≤ W * L) (b0 : 0 ≤ b) (b1 : b ≤ W * L) : 0 ≤ mo W L S T J a b ∧ mo W L S T J a b ≤ 5000000000 := by
  have hd := dis_bd v.w0 v.l0 v.l1 a0 a1 b0 b1
  have h1 := mul_bd v.s0 v.s1 (dis_nonneg (po W L a) (po W L b)) hd.1
  have h2 := mul_bd (m := 31) v.j0 v.j1 (dis_nonneg (wr W L a) (wr W L b)) (by have := v.w1; omega)
  have := v.t0; have := v.t1
  unfold mo mov
  split <;> omega
/-- both ways differ by a turn at the most -/
theorem mo_back {W L S T J R a b : Int} (v : Vld W L S T J R) : mo W L S T J a b - mo W L S T J b a ≤ T ∧ mo W L S T J b a - mo W L S T J a b ≤ T := by
  have := v.t0
  unfold mo mov
  rw [dis_comm (po W L b), dis_comm (wr W L b)]
  split <;> split <;> omega
/-- the greatest of the values in a row, and of all rows -/
def row (f : Int → Int → Int) (a : Int) (l : List Int) : Nat → Int → Int
  | 0, m => m
  | n + 1, m => max (row f a l n m) (f a (l.getD n 0))
def all (f : Int → Int → Int) (l : List Int) : Nat → Int
  | 0 => 0
  | n + 1 => row f (l.getD n 0) l l.length (all f l n)
theorem row_ge (f : Int → Int → Int) (a : Int) (l : List Int) (n : Nat) (m : Int) : m ≤ row f a l n m ∧ ∀ j, j < n → f a (l.getD j 0) ≤ row f a l n m := by
  induction n with
  | zero => exact ⟨by simp [row], fun j hj => by omega⟩
  | succ n ih =>
    refine ⟨by have := ih.1; rw [row]; omega, fun j hj => ?_⟩
    rw [row]
    rcases Nat.lt_or_ge j n with h | h
    · have := ih.2 j h; omega
    · obtain rfl : j = n := by omega
      omega
theorem row_some (f : Int → Int → Int) (a : Int) (l : List Int) (n : Nat) (m : Int) (P : Int → Prop) (hm : P m) (h : ∀ j, j < n → P (f a (l.getD j 0))) : P (row f a l n m) := by
  induction n with
  | zero => exact hm
  | succ n ih =>
    rw [row]
    have h1 := ih fun j hj => h j (by omega)
    have h2 := h n (by omega)
    rcases Int.le_total (row f a l n m) (f a (l.getD n 0)) with h3 | h3
    · rw [Int.max_eq_right h3]; exact h2
    · rw [Int.max_eq_left h3]; exact h1
theorem all_ge (f : Int → Int → Int) (l : List Int) (n : Nat) : 0 ≤ all f l n ∧ ∀ i, i < n → ∀ j, j < l.length → f (l.getD i 0) (l.getD j 0) ≤ all f l n := by
  induction n with
  | zero => exact ⟨by simp [all], fun i hi => by omega⟩
  | succ n ih =>
    have hr := row_ge f (l.getD n 0) l l.length (all f l n)
    refine ⟨by have := ih.1; have := hr.1; rw [all]; omega, fun i hi j hj => ?_⟩
    rw [all]
    rcases Nat.lt_or_ge i n with h | h
    · have := ih.2 i h j hj; have := hr.1; omega
    · obtain rfl : i = n := by omega
      exact hr.2 j hj
theorem all_some (f : Int → Int → Int) (l : List Int) (n : Nat) (P : Int → Prop) (hm : P 0) (h : ∀ i, i < n → ∀ j, j < l.length → P (f (l.getD i 0) (l.getD j 0))) : P (all f l n) := by
  induction n with
  | zero => exact hm
  | succ n ih =>
    rw [all]
    exact row_some f _ l _ _ P (ih fun i hi => h i (by omega)) fun j hj => h n (by omega) j hj
/-- a bound of all values bounds the greatest one -/
theorem all_le {f : Int → Int → Int} {l : List Int} {M : Int} (hM : 0 ≤ M) (h : ∀ a ∈ l, ∀ b ∈ l, f a b ≤ M) : all f l l.length ≤ M :=
  all_some f l _ (fun x => x ≤ M) hM fun i hi j hj => by
    rw [List.getD_eq_getElem?_getD, List.getD_eq_getElem?_getD, List.getElem?_eq_getElem hi, List.getElem?_eq_getElem hj]
    exact h _ (List.getElem_mem hi) _ (List.getElem_mem hj)
theorem le_all {f : Int → Int → Int} {l : List Int} {a b : Int} (ha : a ∈ l) (hb : b ∈ l) : f a b ≤ all f l l.length := by
  obtain ⟨i, hi, rfl⟩ := List.getElem_of_mem ha
  obtain ⟨j, hj, rfl⟩ := List.getElem_of_mem hb
  have := (all_ge f l l.length).2 i hi j hj
  rwa [List.getD_eq_getElem?_getD, List.getD_eq_getElem?_getD, List.getElem?_eq_getElem hi, List.getElem?_eq_getElem hj] at this
/-- lists with the same members give the same -/
theorem all_same {f : Int → Int → Int} {l k : List Int} (h : ∀ x, x ∈ l ↔ x ∈ k) : all f l l.length = all f k k.length := by
  have h1 := all_le (f := f) (l := l) (all_ge f k k.length).1 fun a ha b hb => le_all ((h a).1 ha) ((h b).1 hb)
  have h2 := all_le (f := f) (l := k) (all_ge f l l.length).1 fun a ha b hb => le_all ((h a).2 ha) ((h b).2 hb)
  omega
/-- the first and the last block of the first n wraps -/
def endL (L : Int) : Nat → List Int
  | 0 => []
  | n + 1 => endL L n ++ [n * L, n * L + L - 1]
theorem endL_length (L : Int) (n : Nat) : (endL L n).length = 2 * n := by
  induction n with
  | zero => rfl
  | succ n ih => simp [endL, ih]; omega
theorem mem_endL {L x : Int} {n : Nat} : x ∈ endL L n ↔ ∃ w : Nat, w < n ∧ (x = w * L ∨ x = w * L + L - 1) := by
  induction n with
  | zero => simp [endL]
  | succ n ih =>
    rw [endL, List.mem_append, ih]
    constructor
    · rintro (⟨w, hw, h⟩ | h)
      · exact ⟨w, by omega, h⟩
      · exact ⟨n, by omega, by simpa using h⟩
    · rintro ⟨w, hw, h⟩
      rcases Nat.lt_or_ge w n with h' | h'
      · exact .inl ⟨w, h', h⟩
      · obtain rfl : w = n := by omega
        exact .inr (by simpa using h)
/-- the ends as the program lists them -/
def ends (W L : Int) : List Int := endL L W.toNat ++ [W * L]
def rends (W L : Int) : List Int := [W * L] ++ endL L W.toNat
theorem ends_same (W L x : Int) : x ∈ ends W L ↔ x ∈ rends W L := by
  unfold ends rends
  rw [List.mem_append, List.mem_append, Or.comm]
/-- the greatest time of a motion -/
def far (W L S T J : Int) : Int := all (mo W L S T J) (ends W L) (ends W L).length
theorem ends_bd {W L x : Int} (w0 : 1 ≤ W) (l0 : 1 ≤ L) (h : x ∈ ends W L) : 0 ≤ x ∧ x ≤ W * L := by
  unfold ends at h
  rcases List.mem_append.1 h with h | h
  · obtain ⟨w, hw, h⟩ := mem_endL.1 h
    have h1 : 0 ≤ (w : Int) * L := Int.mul_nonneg (by omega) (by omega)
    have h2 : ((w : Int) + 1) * L ≤ W * L := Int.mul_le_mul_of_nonneg_right (by omega) (by omega)
    rw [Int.add_mul] at h2
    omega
  · simp at h
    have := cap_pos w0 l0
    omega
theorem far_bd {W L S T J R : Int} (v : Vld W L S T J R) : 0 ≤ far W L S T J ∧ far W L S T J ≤ 5000000000 := by
  refine ⟨(all_ge _ _ _).1, all_le (by omega) fun a ha b hb => ?_⟩
  have h1 := ends_bd v.w0 v.l0 ha
  have h2 := ends_bd v.w0 v.l0 hb
  exact (mo_bd v h1.1 h1.2 h2.1 h2.2).2
/-- a greater distance in a direction that is as opposite takes at least as long -/
theorem mov_le {S T J wa pa wb pb pa' pb' : Int} {ka kb : Bool} (s0 : 0 ≤ S) (t0 : 0 ≤ T) (hd : dis pa pb ≤ dis pa' pb') (ho : opp pa ka pb kb = true → opp pa' ka pb' kb = true) :
    mov S T J wa pa ka wb pb kb ≤ mov S T J wa pa' ka wb pb' kb := by
  have h := Int.mul_le_mul_of_nonneg_left hd s0
  unfold mov
  by_cases h1 : opp pa ka pb kb = true
  · rw [if_pos h1, if_pos (ho h1)]; omega
  · rw [if_neg h1]; split <;> omega
/-- each wrap has ends at both positions -/
theorem ends_at {W L w : Int} (l0 : 1 ≤ L) (h0 : 0 ≤ w) (h1 : w ≤ W - 1) (p : Int) (hp : p = 0 ∨ p = L - 1) : ∃ e, e ∈ ends W L ∧ wr W L e = w ∧ po W L e = p ∧ bk W L e = decide (w % 2 = 1) := by
  have ha : w * L ∈ ends W L := List.mem_append.2 (.inl (mem_endL.2 ⟨w.toNat, by omega, .inl (by rw [Int.toNat_of_nonneg h0])⟩))
  have hb : w * L + (L - 1) ∈ ends W L := List.mem_append.2 (.inl (mem_endL.2 ⟨w.toNat, by omega, .inr (by rw [Int.toNat_of_nonneg h0]; omega)⟩))
  have ea : wr W L (w * L) = w := by have := wr_of (W := W) (w := w) l0 (Int.le_refl 0) (.inl (by omega)) h1; rwa [Int.add_zero] at this
  have eb : wr W L (w * L + (L - 1)) = w := wr_of l0 (by omega) (.inl (by omega)) h1
  by_cases ho : w % 2 = 1
  · rcases hp with rfl | rfl
    · exact ⟨_, hb, eb, by unfold po; rw [eb, if_pos ho]; omega, by unfold bk; rw [eb]⟩
    · exact ⟨_, ha, ea, by unfold po; rw [ea, if_pos ho]; omega, by unfold bk; rw [ea]⟩
  · rcases hp with rfl | rfl
    · exact ⟨_, ha, ea, by unfold po; rw [ea, if_neg ho]; omega, by unfold bk; rw [ea]⟩
    · exact ⟨_, hb, eb, by unfold po; rw [eb, if_neg ho]; omega, by unfold bk; rw [eb]⟩
/-- a block is an end (that behind the last one), or lies between both ends of its wrap -/
theorem near {W L a : Int} (w0 : 1 ≤ W) (l0 : 1 ≤ L) (a0 : 0 ≤ a) (a1 : a ≤ W * L) :
    (0 ≤ po W L a ∧ po W L a ≤ L - 1 ∧ ∀ p, p = 0 ∨ p = L - 1 → ∃ e, e ∈ ends W L ∧ wr W L e = wr W L a ∧ po W L e = p ∧ bk W L e = bk W L a) ∨
    (a ∈ ends W L ∧ (po W L a = -1 ∨ po W L a = L)) := by
  have hb := wr_bd w0 l0 a0 a1
  rcases Int.lt_or_le a (W * L) with h | h
  · left
    have := hb.2.2.2.2 h
    refine ⟨by unfold po; split <;> omega, by unfold po; split <;> omega, fun p hp => ?_⟩
    obtain ⟨e, h1, h2, h3, h4⟩ := ends_at (W := W) l0 hb.1 hb.2.1 p hp
    exact ⟨e, h1, h2, h3, h4⟩
  · right
    obtain rfl : a = W * L := by omega
    refine ⟨List.mem_append.2 (.inr (by simp)), ?_⟩
    have e : wr W L (W * L) = W - 1 := by
      have := wr_of (W := W) (w := W - 1) (o := L) l0 (by omega) (.inr ⟨rfl, rfl⟩) (by omega)
      rwa [Int.sub_mul, show W * L - 1 * L + L = W * L by omega] at this
    have e2 : W * L - (W - 1) * L = L := by rw [Int.sub_mul]; omega
    unfold po
    rw [e, e2]
    split <;> omega
/-- no motion takes longer than one between two ends -/
theorem mo_far {W L S T J R a b : Int} (v : Vld W L S T J R) (a0 : 0 ≤ a) (a1 : a ≤ W * L) (b0 : 0 ≤ b) (b1 : b ≤ W * L) : mo W L S T J a b ≤ far W L S T J := by
  have key : ∃ e f, e ∈ ends W L ∧ f ∈ ends W L ∧ wr W L e = wr W L a ∧ wr W L f = wr W L b ∧ bk W L e = bk W L a ∧ bk W L f = bk W L b ∧
      dis (po W L a) (po W L b) ≤ dis (po W L e) (po W L f) ∧ (opp (po W L a) (bk W L a) (po W L b) (bk W L b) = true → opp (po W L e) (bk W L a) (po W L f) (bk W L b) = true) := by
    have l0 := v.l0
    rcases near v.w0 v.l0 a0 a1 with ⟨p0, p1, ha⟩ | ⟨ha, hp⟩ <;> rcases near v.w0 v.l0 b0 b1 with ⟨q0, q1, hb⟩ | ⟨hb, hq⟩
    · generalize po W L a = p at *
      generalize po W L b = q at *
      rcases Int.lt_trichotomy p q with h | h | h
      · obtain ⟨e, e1, e2, e3, e4⟩ := ha 0 (.inl rfl)
        obtain ⟨f, f1, f2, f3, f4⟩ := hb (L - 1) (.inr rfl)
        refine ⟨e, f, e1, f1, e2, f2, e4, f4, by rw [e3, f3]; unfold dis; omega, ?_⟩
        rw [e3, f3]; unfold opp
        rw [if_neg (by omega), if_neg (by omega), decide_eq_true h, decide_eq_true (show (0 : Int) < L - 1 by omega)]
        exact id
      · subst h
        cases hk : bk W L b
        · obtain ⟨e, e1, e2, e3, e4⟩ := ha (L - 1) (.inr rfl)
          obtain ⟨f, f1, f2, f3, f4⟩ := hb 0 (.inl rfl)
          refine ⟨e, f, e1, f1, e2, f2, e4, by rw [f4, hk], by rw [e3, f3]; unfold dis; omega, ?_⟩
          rw [e3, f3]; unfold opp
          rw [if_pos rfl]
          by_cases hl : L - 1 = 0
          · rw [if_pos hl]; exact id
          · rw [if_neg hl, decide_eq_false (by omega)]; exact fun _ => rfl
        · obtain ⟨e, e1, e2, e3, e4⟩ := ha 0 (.inl rfl)
          obtain ⟨f, f1, f2, f3, f4⟩ := hb (L - 1) (.inr rfl)
          refine ⟨e, f, e1, f1, e2, f2, e4, by rw [f4, hk], by rw [e3, f3]; unfold dis; omega, ?_⟩
          rw [e3, f3]; unfold opp
          rw [if_pos rfl]
          by_cases hl : 0 = L - 1
          · rw [if_pos hl]; exact id
          · rw [if_neg hl, decide_eq_true (by omega)]; exact fun _ => rfl
      · obtain ⟨e, e1, e2, e3, e4⟩ := ha (L - 1) (.inr rfl)
        obtain ⟨f, f1, f2, f3, f4⟩ := hb 0 (.inl rfl)
        refine ⟨e, f, e1, f1, e2, f2, e4, f4, by rw [e3, f3]; unfold dis; omega, ?_⟩
        rw [e3, f3]; unfold opp
        rw [if_neg (by omega), if_neg (by omega), decide_eq_false (show ¬ p < q by omega), decide_eq_false (show ¬ (L - 1 : Int) < 0 by omega)]
        exact id
    · generalize po W L a = p at *
      rcases hq with hq | hq
      · obtain ⟨e, e1, e2, e3, e4⟩ := ha (L - 1) (.inr rfl)
        refine ⟨e, b, e1, hb, e2, rfl, e4, rfl, by rw [e3, hq]; unfold dis; omega, ?_⟩
        rw [e3, hq]; unfold opp
        rw [if_neg (by omega), if_neg (by omega), decide_eq_false (by omega), decide_eq_false (by omega)]
        exact id
      · obtain ⟨e, e1, e2, e3, e4⟩ := ha 0 (.inl rfl)
        refine ⟨e, b, e1, hb, e2, rfl, e4, rfl, by rw [e3, hq]; unfold dis; omega, ?_⟩
        rw [e3, hq]; unfold opp
        rw [if_neg (by omega), if_neg (by omega), decide_eq_true (by omega), decide_eq_true (by omega)]
        exact id
    · generalize po W L b = q at *
      rcases hp with hp | hp
      · obtain ⟨f, f1, f2, f3, f4⟩ := hb (L - 1) (.inr rfl)
        refine ⟨a, f, ha, f1, rfl, f2, rfl, f4, by rw [f3, hp]; unfold dis; omega, ?_⟩
        rw [f3, hp]; unfold opp
        rw [if_neg (by omega), if_neg (by omega), decide_eq_true (by omega), decide_eq_true (by omega)]
        exact id
      · obtain ⟨f, f1, f2, f3, f4⟩ := hb 0 (.inl rfl)
        refine ⟨a, f, ha, f1, rfl, f2, rfl, f4, by rw [f3, hp]; unfold dis; omega, ?_⟩
        rw [f3, hp]; unfold opp
        rw [if_neg (by omega), if_neg (by omega), decide_eq_false (by omega), decide_eq_false (by omega)]
        exact id
    · exact ⟨a, b, ha, hb, rfl, rfl, rfl, rfl, Int.le_refl _, id⟩
  obtain ⟨e, f, he, hf, h1, h2, h3, h4, h5, h6⟩ := key
  refine Int.le_trans ?_ (le_all (f := mo W L S T J) he hf)
  unfold mo
  rw [h1, h2, h3, h4]
  exact mov_le v.s0 v.t0 h5 h6
/-- the time of reading n blocks from a on -/
def rea (L T J R a n : Int) : Int := if n = 0 then 0 else R * n + (J + T) * ((a + n - 1) / L - a / L)
/-- a change of the wrap is there where its length divides the number -/
theorem quot_next {L x : Int} (l0 : 1 ≤ L) : x / L = (x - 1) / L + (if x % L = 0 then 1 else 0) := by
  have hd := Int.emod_add_mul_ediv x L
  have h0 := Int.emod_nonneg x (show L ≠ 0 by omega)
  have h1 := Int.emod_lt_of_pos x (show 0 < L by omega)
  by_cases h : x % L = 0
  · rw [if_pos h]
    have e : x - 1 = (L - 1) + (x / L - 1) * L := by rw [Int.sub_mul, Int.mul_comm (x / L)]; omega
    rw [e, Int.add_mul_ediv_right _ _ (by omega), Int.ediv_eq_zero_of_lt (a := L - 1) (b := L) (by omega) (by omega)]
    omega
  · rw [if_neg h]
    have e : x - 1 = (x % L - 1) + (x / L) * L := by rw [Int.mul_comm (x / L)]; omega
    rw [e, Int.add_mul_ediv_right _ _ (by omega), Int.ediv_eq_zero_of_lt (a := x % L - 1) (b := L) (by omega) (by omega)]
    omega
theorem rea_next {L T J R a i : Int} (l0 : 1 ≤ L) (i0 : 0 ≤ i) : rea L T J R a (i + 1) = rea L T J R a i + R + (if 0 < i ∧ (a + i) % L = 0 then J + T else 0) := by
  unfold rea
  rw [if_neg (by omega)]
  rw [show a + (i + 1) - 1 = a + i by omega, Int.mul_add]
  by_cases h : i = 0
  · subst h
    simp
  · rw [if_neg h, quot_next (x := a + i) l0]
    by_cases h2 : (a + i) % L = 0
    · rw [if_pos h2, if_pos ⟨by omega, h2⟩, show (a + i - 1) / L + 1 - a / L = ((a + i - 1) / L - a / L) + 1 by omega, Int.mul_add (J + T)]; omega
    · rw [if_neg h2, if_neg (by rintro ⟨_, h3⟩; exact h2 h3)]
      rw [show (a + i - 1) / L + 0 - a / L = ((a + i - 1) / L - a / L) by omega]; omega
theorem quot_bd {W L x : Int} (l0 : 1 ≤ L) (x0 : 0 ≤ x) (x1 : x ≤ W * L) : 0 ≤ x / L ∧ x / L ≤ W := by
  refine ⟨Int.ediv_nonneg x0 (by omega), ?_⟩
  have := Int.ediv_le_ediv (show 0 < L by omega) x1
  rwa [Int.mul_ediv_cancel _ (by omega)] at this
theorem rea_bd {W L S T J R a n : Int} (v : Vld W L S T J R) (a0 : 0 ≤ a) (n0 : 0 ≤ n) (h : a + n ≤ W * L) : 0 ≤ rea L T J R a n ∧ rea L T J R a n ≤ 5000000000 := by
  unfold rea
  by_cases hn : n = 0
  · rw [if_pos hn]; omega
  · rw [if_neg hn]
    have l0 := v.l0
    have h1 := quot_bd (W := W) (x := a + n - 1) v.l0 (by omega) (by omega)
    have h2 := quot_bd (W := W) (x := a) v.l0 a0 (by omega)
    have h3 : a / L ≤ (a + n - 1) / L := Int.ediv_le_ediv (by omega) (by omega)
    have h4 := mul_bd (m := 4096) v.r0 v.r1 n0 (by have := v.c1; omega)
    have h5 := mul_bd (m := 32) v.j0 v.j1 (y := (a + n - 1) / L - a / L) (by omega) (by have := v.w1; omega)
    have h6 := mul_bd (m := 32) v.t0 v.t1 (y := (a + n - 1) / L - a / L) (by omega) (by have := v.w1; omega)
    rw [Int.add_mul]
    omega
/-- the parts of a span -/
theorem rea_parts {L T J R a n m : Int} (l0 : 1 ≤ L) (n0 : 0 ≤ n) (m0 : 0 ≤ m) :
    rea L T J R a (n + m) = rea L T J R a n + rea L T J R (a + n) m + (if 0 < n ∧ 0 < m ∧ (a + n) % L = 0 then J + T else 0) := by
  by_cases hn : n = 0
  · subst hn; simp [rea]
  by_cases hm : m = 0
  · subst hm; simp [rea]
  unfold rea
  rw [if_neg hn, if_neg hm, if_neg (by omega), quot_next (x := a + n) l0, show a + (n + m) - 1 = a + n + m - 1 by omega]
  by_cases h2 : (a + n) % L = 0
  · rw [if_pos h2, if_pos ⟨by omega, by omega, h2⟩]
    generalize (a + n + m - 1) / L = x
    generalize (a + n - 1) / L = y
    generalize a / L = z
    rw [show x - z = (x - (y + 1)) + (y - z) + 1 by omega, Int.mul_add, Int.mul_add, Int.mul_add]
    omega
  · rw [if_neg h2, if_neg (by rintro ⟨_, _, h3⟩; exact h2 h3)]
    generalize (a + n + m - 1) / L = x
    generalize (a + n - 1) / L = y
    generalize a / L = z
    rw [show x - z = (x - (y + 0)) + (y - z) by omega, Int.mul_add, Int.mul_add]
    omega
/-- within a wrap the positions run on: a motion to a block that lies behind takes a step a block -/
theorem mo_within {W L S T J a b : Int} (ab : a ≤ b) (h : a / L = b / L) : mo W L S T J a b = S * (b - a) := by
  have hw : wr W L a = wr W L b := by unfold wr; rw [h]
  unfold mo mov
  rw [show dis (wr W L a) (wr W L b) = 0 by rw [hw]; simp [dis]]
  have hd : dis (po W L a) (po W L b) = b - a := by
    unfold po dis; rw [hw]; split <;> omega
  have hk : bk W L a = bk W L b := by unfold bk; rw [hw]
  have ho : opp (po W L a) (bk W L a) (po W L b) (bk W L b) = false := by
    unfold opp
    rw [hk]
    by_cases hp : po W L a = po W L b
    · rw [if_pos hp]; simp
    · rw [if_neg hp]
      unfold bk po at *
      rw [hw] at *
      by_cases h2 : wr W L b % 2 = 1
      · simp only [h2, if_true] at hp ⊢
        rw [decide_eq_false (by omega)]; rfl
      · simp only [h2, if_false] at hp ⊢
        rw [decide_eq_true (by omega)]; rfl
  rw [hd, ho]
  simp
end Go.Proofs.YtjiijjdmkeeilaaDoor
namespace Go.Proofs.YtjiijjdmkeeilaaDoor
open Go.RowKit
set_option linter.unusedVariables false
theorem ret_i64s {a b : Int} (h : a = b) : Ending.returned (.int .i64 a) = .returned (.int .i64 b) := by rw [h]
theorem ret_bools {a b : Bool} (h : a = b) : Ending.returned (.bool a) = .returned (.bool b) := by rw [h]
theorem below_box1 (w : World) (o : Obj) : Below w.heap.size w (w.alloc o) := (Below.refl _ _).alloc (Nat.le_refl _) _
theorem below_box2 (w : World) (o p : Obj) : Below w.heap.size w ((w.alloc o).alloc p) := (below_box1 w o).alloc (by simp) _
theorem below_box3 (w : World) (o p q : Obj) : Below w.heap.size w (((w.alloc o).alloc p).alloc q) := (below_box2 w o p).alloc (by simp; omega) _
/-- the time of a geometry is valid -/
def tim (a : Int) : Bool := decide (0 ≤ a) && decide (a ≤ 1000000)
abbrev geV (W L S T J R : Int) : Value := .agg #[.int .i64 W, .int .i64 L, .int .i64 S, .int .i64 T, .int .i64 J, .int .i64 R]
/-- the geometry lies in block g -/
structure GeoAt (w : World) (g : Nat) (W L S T J R : Int) : Prop where
  lt : g < w.heap.size
  c0 : w.cell? ⟨g, 0, none⟩ = some (.int .i64 W)
  c1 : w.cell? ⟨g, 1, none⟩ = some (.int .i64 L)
  c2 : w.cell? ⟨g, 2, none⟩ = some (.int .i64 S)
  c3 : w.cell? ⟨g, 3, none⟩ = some (.int .i64 T)
  c4 : w.cell? ⟨g, 4, none⟩ = some (.int .i64 J)
  c5 : w.cell? ⟨g, 5, none⟩ = some (.int .i64 R)
theorem GeoAt.below {W' w : World} {B g : Nat} {W L S T J R : Int} (h : GeoAt W' g W L S T J R) (hb : Below B W' w) (hB : g < B) : GeoAt w g W L S T J R :=
  ⟨Nat.lt_of_lt_of_le h.lt hb.size, (hb.cell hB).trans h.c0, (hb.cell hB).trans h.c1, (hb.cell hB).trans h.c2, (hb.cell hB).trans h.c3, (hb.cell hB).trans h.c4, (hb.cell hB).trans h.c5⟩
theorem GeoAt.new (w : World) (W L S T J R : Int) (t : TypeId) : GeoAt (w.alloc (.cells #[.int .i64 W, .int .i64 L, .int .i64 S, .int .i64 T, .int .i64 J, .int .i64 R] t)) w.heap.size W L S T J R := by
  refine ⟨by simp, ?_, ?_, ?_, ?_, ?_, ?_⟩ <;> (rw [World.cell?_alloc_mark]; rfl)
theorem GeoAt.alloc {w : World} {g : Nat} {W L S T J R : Int} (h : GeoAt w g W L S T J R) (o : Obj) : GeoAt (w.alloc o) g W L S T J R := h.below (below_box1 w o) h.lt
/-- a span lies in block g -/
structure SpAt (w : World) (g : Nat) (a b : Int) : Prop where
  lt : g < w.heap.size
  c0 : w.cell? ⟨g, 0, none⟩ = some (.int .i64 a)
  c1 : w.cell? ⟨g, 1, none⟩ = some (.int .i64 b)
theorem SpAt.below {W' w : World} {B g : Nat} {a b : Int} (h : SpAt W' g a b) (hb : Below B W' w) (hB : g < B) : SpAt w g a b :=
  ⟨Nat.lt_of_lt_of_le h.lt hb.size, (hb.cell hB).trans h.c0, (hb.cell hB).trans h.c1⟩
theorem SpAt.new (w : World) (a b : Int) (t : TypeId) : SpAt (w.alloc (.cells #[.int .i64 a, .int .i64 b] t)) w.heap.size a b := by
  refine ⟨by simp, ?_, ?_⟩ <;> (rw [World.cell?_alloc_mark]; rfl)
theorem SpAt.alloc {w : World} {g : Nat} {a b : Int} (h : SpAt w g a b) (o : Obj) : SpAt (w.alloc o) g a b := h.below (below_box1 w o) h.lt
theorem tim_yes {a : Int} (h : 0 ≤ a ∧ a ≤ 1000000) : tim a = true := by unfold tim; rw [decide_eq_true h.1, decide_eq_true h.2]; rfl
theorem tim_no {a : Int} (h : ¬ (0 ≤ a ∧ a ≤ 1000000)) : tim a = false := by
  unfold tim
  by_cases h0 : 0 ≤ a
  · rw [decide_eq_false (show ¬ a ≤ 1000000 by omega), Bool.and_false]
  · rw [decide_eq_false h0, Bool.false_and]
theorem tim_iff {a : Int} : tim a = true ↔ 0 ≤ a ∧ a ≤ 1000000 := by
  by_cases h : 0 ≤ a ∧ a ≤ 1000000
  · rw [tim_yes h]; simp [h]
  · rw [tim_no h]; simp [h]
theorem vld_eq {W L S T J R : Int} (hW : 1 ≤ W) (hW2 : W ≤ 32) (hL : 1 ≤ L) (hc : W * L ≤ 4096) : vld W L S T J R = (tim S && (tim T && (tim J && tim R))) := by
  have h1 := cap_pos hW hL
  by_cases h : vld W L S T J R = true
  · have v := vld_iff.1 h
    rw [h, tim_yes ⟨v.s0, v.s1⟩, tim_yes ⟨v.t0, v.t1⟩, tim_yes ⟨v.j0, v.j1⟩, tim_yes ⟨v.r0, v.r1⟩]; rfl
  · rw [Bool.not_eq_true] at h
    rw [h]
    refine (Bool.eq_false_iff.2 fun h2 => ?_).symm
    simp only [Bool.and_eq_true, tim_iff] at h2
    obtain ⟨⟨s0, s1⟩, ⟨t0, t1⟩, ⟨j0, j1⟩, r0, r1⟩ := h2
    exact (vld_not.1 h) ⟨hW, hW2, hL, by omega, hc, s0, s1, t0, t1, j0, j1, r0, r1⟩
theorem vld_no {W L S T J R : Int} (h : ¬ (1 ≤ W ∧ W ≤ 32 ∧ 1 ≤ L ∧ W * L ≤ 4096)) : vld W L S T J R = false := vld_not.2 fun v => h ⟨v.w0, v.w1, v.l0, v.c1⟩
/-- the capacity; 0 if the geometry is not valid -/
noncomputable def capU (W L S T J R : Int) : Int := if vld W L S T J R = true then W * L else 0
theorem capU_yes {W L S T J R : Int} (v : Vld W L S T J R) : capU W L S T J R = W * L := if_pos (vld_iff.2 v)
theorem capU_no {W L S T J R : Int} (v : ¬ Vld W L S T J R) : capU W L S T J R = 0 := if_neg (fun h => v (vld_iff.1 h))
end Go.Proofs.YtjiijjdmkeeilaaDoor
