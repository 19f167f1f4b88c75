/-
  What results from a link, as plain mathematics over the program's hash.
  What results from a link, by the program.
  What the calls of the package give, for any arguments.
  Proof, Prefix, Verify and Extends, by the program.
-/
import Derived.Test.YtihiccccpjakgaaNFollow
import Derived.Test.YtihiccccpjakgaaNPath
import Derived.Test.YtihiccccpjakgaaNLink
namespace Go.Proofs.Ytihiccccpjakgaa
open Go.RowKit
abbrev growU (old : UInt64) (m n : Nat) (f : Bool) (p : List UInt64) : UInt64 × UInt64 × Bool := growM nodeU 0 old m n f p
theorem growU_all (old : UInt64) (m n : Nat) (p : List UInt64) (h : m = n) : growU old m n true p = (old, old, decide (p.length = 0)) := by unfold growU; rw [growM, if_pos h]; rfl
theorem growU_no (old : UInt64) (m n : Nat) (p : List UInt64) (h : m = n) (hp : p.length ≠ 1) : growU old m n false p = (0, 0, false) := by
  unfold growU; rw [growM, if_pos h]; simp [hp]
theorem growU_yes (old : UInt64) (m n q : Nat) (p : List UInt64) (h : m = n) (hp : p.length = q + 1) (hq : q = 0) : growU old m n false p = (p[q]'(by omega), p[q]'(by omega), true) := by
  subst hq
  unfold growU; rw [growM, if_pos h]
  obtain ⟨y, rfl⟩ := List.length_eq_one_iff.1 hp
  simp
theorem growU_nil (old : UInt64) (m n : Nat) (f : Bool) (p : List UInt64) (h : m ≠ n) (h2 : 2 ≤ n) (hp : p.length = 0) : growU old m n f p = (0, 0, false) := by
  unfold growU; rw [List.eq_nil_of_length_eq_zero hp, growM, if_neg h, dif_pos h2]; rfl
theorem growU_left (old : UInt64) (m n q : Nat) (f : Bool) (p : List UInt64) (h : m ≠ n) (h2 : 2 ≤ n) (hp : p.length = q + 1) (hi : m ≤ spl n) :
    growU old m n f p = ((growU old m (spl n) f (p.take q)).1, nodeU (growU old m (spl n) f (p.take q)).2.1 (p[q]'(by omega)), (growU old m (spl n) f (p.take q)).2.2) := by
  obtain ⟨e1, e2⟩ := last_take hp
  unfold growU
  rw [growM, if_neg h, dif_pos h2, e1]
  simp only [e2, if_pos hi]
theorem growU_right (old : UInt64) (m n q : Nat) (f : Bool) (p : List UInt64) (h : m ≠ n) (h2 : 2 ≤ n) (hp : p.length = q + 1) (hi : ¬ m ≤ spl n) :
    growU old m n f p = (nodeU (p[q]'(by omega)) (growU old (m - spl n) (n - spl n) false (p.take q)).1, nodeU (p[q]'(by omega)) (growU old (m - spl n) (n - spl n) false (p.take q)).2.1, (growU old (m - spl n) (n - spl n) false (p.take q)).2.2) := by
  obtain ⟨e1, e2⟩ := last_take hp
  unfold growU
  rw [growM, if_neg h, dif_pos h2, e1]
  simp only [e2, if_neg hi]
/-- a call gives two hashes and a Boolean: the hashes are told where the Boolean is true -/
def GivesHH (w : World) (x : UInt64 × UInt64 × Bool) (e : Ending) (w' : World) : Prop :=
  ∃ a b c, e = .returned (.tuple #[.int .u64 (gv a), .int .u64 (gv b), .bool c]) ∧ c = x.2.2 ∧ (c = true → a = x.1 ∧ b = x.2.1) ∧ Below w.heap.size w w'
theorem GivesHH.mk' {w w' : World} {a b : UInt64} {c : Bool} {x : UInt64 × UInt64 × Bool} (h : x = (a, b, c)) (hb : Below w.heap.size w w') : GivesHH w x (.returned (.tuple #[.int .u64 (gv a), .int .u64 (gv b), .bool c])) w' := ⟨a, b, c, rfl, by rw [h], fun _ => by rw [h]; exact ⟨rfl, rfl⟩, hb⟩
theorem GivesHH.zero {w w' : World} {x : UInt64 × UInt64 × Bool} (h : x = (0, 0, false)) (hb : Below w.heap.size w w') : GivesHH w x (.returned (.tuple #[.int .u64 0, .int .u64 0, .bool false])) w' := ⟨0, 0, false, by rw [gv_zero], by rw [h], (fun h => nomatch h), hb⟩
theorem GivesHH.no {w w' : World} {a b : UInt64} {x y : UInt64 × UInt64 × Bool} (h : x = y) (hy : y.2.2 = false) (hb : Below w.heap.size w w') : GivesHH w x (.returned (.tuple #[.int .u64 (gv a), .int .u64 (gv b), .bool false])) w' := ⟨a, b, false, rfl, by rw [h, hy], (fun h => nomatch h), hb⟩
theorem GivesHH.of {w w' : World} {a b : UInt64} {c : Bool} {x : UInt64 × UInt64 × Bool} (h : c = x.2.2 ∧ (c = true → a = x.1 ∧ b = x.2.1)) (hb : Below w.heap.size w w') : GivesHH w x (.returned (.tuple #[.int .u64 (gv a), .int .u64 (gv b), .bool c])) w' := ⟨a, b, c, rfl, h.1, h.2, hb⟩
theorem both_left {α : Type} {nd : α → α → α} {g r : α × α × Bool} {x x1 y1 : α} {c1 : Bool} (hg : g = (r.1, nd r.2.1 x, r.2.2)) (h1 : c1 = r.2.2) (h2 : c1 = true → x1 = r.1 ∧ y1 = r.2.1) : c1 = g.2.2 ∧ (c1 = true → x1 = g.1 ∧ nd y1 x = g.2.1) := by
  subst hg
  exact ⟨h1, fun h => ⟨(h2 h).1, by rw [(h2 h).2]⟩⟩
theorem both_right {α : Type} {nd : α → α → α} {g r : α × α × Bool} {x x1 y1 : α} {c1 : Bool} (hg : g = (nd x r.1, nd x r.2.1, r.2.2)) (h1 : c1 = r.2.2) (h2 : c1 = true → x1 = r.1 ∧ y1 = r.2.1) : c1 = g.2.2 ∧ (c1 = true → nd x x1 = g.1 ∧ nd x y1 = g.2.1) := by
  subst hg
  exact ⟨h1, fun h => ⟨by rw [(h2 h).1], by rw [(h2 h).2]⟩⟩
end Go.Proofs.Ytihiccccpjakgaa
namespace Go.Proofs.Ytihiccccpjakgaa
open Go.RowKit
attribute [local irreducible] accU fnv basis byteU beU hashU nodeU spl
end Go.Proofs.Ytihiccccpjakgaa
namespace Go.Proofs.Ytihiccccpjakgaa
open Go.RowKit
def proI (xs : List UInt64) (i : Int) : List UInt64 × Bool := if 0 ≤ i ∧ i < xs.length then (pathU xs i.toNat, true) else ([], false)
def preI (xs : List UInt64) (m : Int) : List UInt64 × Bool := if 1 ≤ m ∧ m ≤ xs.length then (linkU xs m.toNat true, true) else ([], false)
def verI (root leaf : UInt64) (i n : Int) (p : List UInt64) : Bool := if 0 ≤ i ∧ i < n then (reachU leaf i.toNat n.toNat p).2 && decide ((reachU leaf i.toNat n.toNat p).1 = root) else false
def extI (old root : UInt64) (m n : Int) (p : List UInt64) : Bool :=
  if 1 ≤ m ∧ m ≤ n then (growU old m.toNat n.toNat true p).2.2 && (decide ((growU old m.toNat n.toNat true p).1 = old) && decide ((growU old m.toNat n.toNat true p).2.1 = root)) else false
theorem proI_no (xs : List UInt64) (i : Int) (h : ¬ (0 ≤ i ∧ i < xs.length)) : proI xs i = ([], false) := if_neg h
theorem proI_yes (xs : List UInt64) (i : Nat) (h : i < xs.length) : proI xs i = (pathU xs i, true) := by unfold proI; rw [if_pos (by omega), Int.toNat_natCast]
theorem preI_no (xs : List UInt64) (m : Int) (h : ¬ (1 ≤ m ∧ m ≤ xs.length)) : preI xs m = ([], false) := if_neg h
theorem preI_yes (xs : List UInt64) (m : Nat) (h1 : 1 ≤ m) (h : m ≤ xs.length) : preI xs m = (linkU xs m true, true) := by unfold preI; rw [if_pos (by omega), Int.toNat_natCast]
theorem verI_no (root leaf : UInt64) (i n : Int) (p : List UInt64) (h : ¬ (0 ≤ i ∧ i < n)) : verI root leaf i n p = false := if_neg h
theorem verI_yes (root leaf : UInt64) (i n : Nat) (p : List UInt64) (h : i < n) : verI root leaf i n p = ((reachU leaf i n p).2 && decide ((reachU leaf i n p).1 = root)) := by unfold verI; rw [if_pos (by omega), Int.toNat_natCast, Int.toNat_natCast]
theorem extI_no (old root : UInt64) (m n : Int) (p : List UInt64) (h : ¬ (1 ≤ m ∧ m ≤ n)) : extI old root m n p = false := if_neg h
theorem extI_yes (old root : UInt64) (m n : Nat) (p : List UInt64) (h1 : 1 ≤ m) (h : m ≤ n) : extI old root m n p = ((growU old m n true p).2.2 && (decide ((growU old m n true p).1 = old) && decide ((growU old m n true p).2.1 = root))) := by unfold extI; rw [if_pos (by omega), Int.toNat_natCast, Int.toNat_natCast]
/-- a call gives a new list and a Boolean -/
def GivesNB (w : World) (x : List UInt64 × Bool) (e : Ending) (w' : World) : Prop := ∃ v, e = .returned (.tuple #[v, .bool x.2]) ∧ Onu w' w.heap.size v x.1 ∧ Below w.heap.size w w'
theorem GivesNB.no {w : World} {x : List UInt64 × Bool} (h : x = ([], false)) : GivesNB w x (.returned (.tuple #[.slice none 0 0, .bool false])) w := ⟨_, by rw [h], by rw [h]; exact Onu.ofNil _ _, Below.refl _ _⟩
theorem GivesNB.yes {w w' : World} {x : List UInt64 × Bool} {l : List UInt64} {v : Value} (h : x = (l, true)) (ho : Onu w' w.heap.size v l) (hb : Below w.heap.size w w') : GivesNB w x (.returned (.tuple #[v, .bool true])) w' := ⟨v, by rw [h], by rw [h]; exact ho, hb⟩
/-- a call gives a Boolean -/
def GivesB (w : World) (b : Bool) (e : Ending) (w' : World) : Prop := e = .returned (.bool b) ∧ Below w.heap.size w w'
theorem GivesB.mk' {w w' : World} {b c : Bool} (h : b = c) (hb : Below w.heap.size w w') : GivesB w b (.returned (.bool c)) w' := ⟨by rw [h], hb⟩
theorem ver_of {r : UInt64 × Bool} {root x : UInt64} {c b : Bool} (hr : r = (x, c)) (hb : b = (r.2 && decide (r.1 = root))) : b = (c && decide (x = root)) := by subst hr; exact hb
theorem and_no {c : Bool} {p : Prop} [Decidable p] (h : c = false) : (c && decide p) = false := by rw [h]; rfl
theorem ext_no {b c : Bool} {p q : Prop} [Decidable p] [Decidable q] (h : b = (c && (decide p && decide q))) (hc : c = false ∨ ¬ p ∨ ¬ q) : b = false := by
  rw [h]; rcases hc with rfl | hp | hq
  · rfl
  · simp [hp]
  · simp [hq]
theorem ext_yes {b c : Bool} {p q : Prop} [Decidable p] [Decidable q] (h : b = (c && (decide p && decide q))) (hc : c = true) (hp : p) (hq : q) : b = true := by
  rw [h, hc]; simp [hp, hq]
theorem gv_ne {a b : UInt64} (h : a ≠ b) : ¬ gv a = gv b := fun e => h (gv_inj e)
end Go.Proofs.Ytihiccccpjakgaa
namespace Go.Proofs.Ytihiccccpjakgaa
open Go.RowKit
attribute [local irreducible] accU fnv basis byteU beU hashU nodeU spl proI preI verI extI
set_option maxRecDepth 100000 in
set_option maxHeartbeats 400000 in
theorem proof_any (xs : List UInt64) (ad : Option Addr) (n cap : Nat) (i : Int) (w : World) (hl : Lin w ad xs) (hn : n = xs.length) (hs : n ≤ 1000000) (hc : n ≤ cap) (hm : cap ≤ maxLen) :
    Calls Try.prog 24 #[.slice ad n cap, .int .i64 i] w (GivesNB w (proI xs i)) := by
  by_cases h1 : i < 0
  · have HE := Lib.hid (proI_no xs i (by omega))
    clear hl hn
    go_enter Try.func24, Try.ntmps24
    go_wp2
    go_ret2
    exact GivesNB.no HE.out
  by_cases h2 : (n : Int) ≤ i
  · have HE := Lib.hid (proI_no xs i (by omega))
    clear hl hn
    go_enter Try.func24, Try.ntmps24
    go_wp2
    go_ret2
    exact GivesNB.no HE.out
  obtain ⟨k, rfl⟩ := Int.eq_ofNat_of_zero_le (show 0 ≤ i by omega)
  have HE := Lib.hid (proI_yes xs k (by omega))
  have HG := Lib.hid (fun W hl => path_go _ xs ad n cap k W (Nat.le_refl _) hl hn hs hc hm (by omega))
  have HL := Lib.hid hl
  clear hl hn
  go_enter Try.func24, Try.ntmps24
  go_wp2_with fail
  refine (HG.out _ HL.out).mono ?_
  rintro e w2 ⟨v, rfl, ho, hb⟩
  have HO := Lib.hid ho
  have HB := Lib.hid hb
  clear ho hb
  go_wp2
  go_ret2
  exact GivesNB.yes HE.out HO.out HB.out
set_option maxRecDepth 100000 in
set_option maxHeartbeats 400000 in
theorem verify_any (root leaf : UInt64) (i n : Int) (p : List UInt64) (ad : Option Addr) (m cap : Nat) (w : World) (hl : Lin w ad p) (hm : m = p.length) (hs : m ≤ 1000000) (hc : m ≤ cap) (hcm : cap ≤ maxLen) (i0 : -9223372036854775808 ≤ i) (i1 : i ≤ 9223372036854775807) (n0 : -9223372036854775808 ≤ n) (n1 : n ≤ 9223372036854775807) :
    Calls Try.prog 25 #[.int .u64 (gv root), .int .u64 (gv leaf), .int .i64 i, .int .i64 n, .slice ad m cap] w (GivesB w (verI root leaf i n p)) := by
  by_cases h1 : i < 0
  · have HE := Lib.hid (verI_no root leaf i n p (by omega))
    clear hl hm
    go_enter Try.func25, Try.ntmps25
    go_wp2
    go_ret
    exact GivesB.mk' HE.out (Below.refl _ _)
  by_cases h2 : n ≤ i
  · have HE := Lib.hid (verI_no root leaf i n p (by omega))
    clear hl hm
    go_enter Try.func25, Try.ntmps25
    go_wp2
    go_ret
    exact GivesB.mk' HE.out (Below.refl _ _)
  obtain ⟨k, rfl⟩ := Int.eq_ofNat_of_zero_le (show 0 ≤ i by omega)
  obtain ⟨N, rfl⟩ := Int.eq_ofNat_of_zero_le (show 0 ≤ n by omega)
  have HE := Lib.hid (verI_yes root leaf k N p (by omega))
  have HG := Lib.hid (fun W hl => follow_go leaf _ p ad m cap k N W rfl hl hm hs hc hcm (by omega) n1)
  have HL := Lib.hid hl
  have hkN : (k : Int) < (N : Int) := by omega
  obtain ⟨x, c, hr⟩ : ∃ x c, reachU leaf k N p = (x, c) := ⟨_, _, rfl⟩
  have HV := Lib.hid (ver_of hr HE.out)
  rw [hr] at HG
  clear hl hm hr HE
  cases c with
  | false =>
    go_enter Try.func25, Try.ntmps25
    go_wp2_with fail
    refine (HG.out _ HL.out).mono ?_
    rintro e w2 ⟨rfl, hb⟩
    have HB := Lib.hid hb
    clear hb
    go_wp2
    go_ret
    exact GivesB.mk' (HV.out.trans (and_no rfl)) HB.out
  | true =>
    by_cases hx : x = root
    · have HF : Hid (verI root leaf k N p = true) := Lib.hid (HV.out.trans (by simp [hx]))
      subst hx
      go_enter Try.func25, Try.ntmps25
      go_wp2_with fail
      refine (HG.out _ HL.out).mono ?_
      rintro e w2 ⟨rfl, hb⟩
      have HB := Lib.hid hb
      clear hb
      go_wp2
      go_ret
      exact GivesB.mk' HF.out HB.out
    · have HF : Hid (verI root leaf k N p = false) := Lib.hid (HV.out.trans (by simp [hx]))
      have hne : (gv x == gv root) = false := by simpa using gv_ne hx
      go_enter Try.func25, Try.ntmps25
      go_wp2_with fail
      refine (HG.out _ HL.out).mono ?_
      rintro e w2 ⟨rfl, hb⟩
      have HB := Lib.hid hb
      clear hb
      go_wp2
      go_ret
      exact GivesB.mk' HF.out HB.out
end Go.Proofs.Ytihiccccpjakgaa
