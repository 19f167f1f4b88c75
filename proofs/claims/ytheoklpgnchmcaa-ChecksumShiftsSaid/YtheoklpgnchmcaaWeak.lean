/-
  The program's weak checksum of a slice's bytes is that of the plain mathematics; so is the specification's.
-/
import Derived.Test.YtheoklpgnchmcaaUpd
import Derived.Test.YtheoklpgnchmcaaRoll
namespace Go.Proofs.Ytheoklpgnchmcaa
open Go.RowKit

/-- one byte more -/
def wkStep (p : Int × Int) (x : BitVec 32) : Int × Int := ((p.1 + iv x) % 65521, (p.2 + (p.1 + iv x) % 65521) % 65521)
def wk (l : List (BitVec 32)) : Int × Int := l.foldl wkStep (0, 0)
def weakI (l : List (BitVec 32)) : Int := (wk l).2 * 65536 + (wk l).1
theorem wk_take (l : List (BitVec 32)) (k : Nat) (h : k < l.length) : wk (l.take (k + 1)) = wkStep (wk (l.take k)) (l.getD k 0#32) := by
  unfold wk
  rw [List.take_succ_eq_append_getElem h, List.foldl_append]
  simp [h]
theorem wk_bd (l : List (BitVec 32)) : (0 ≤ (wk l).1 ∧ (wk l).1 < 65521) ∧ 0 ≤ (wk l).2 ∧ (wk l).2 < 65521 := by
  unfold wk
  generalize h : ((0 : Int), (0 : Int)) = p
  have hp : (0 ≤ p.1 ∧ p.1 < 65521) ∧ 0 ≤ p.2 ∧ p.2 < 65521 := by subst h; simp
  clear h
  induction l generalizing p with
  | nil => exact hp
  | cons x l ih => exact ih (wkStep p x) (by unfold wkStep; simp only; omega)

set_option maxRecDepth 100000 in
set_option maxHeartbeats 1000000 in
theorem weak_any (ad : Option Addr) (cap : Nat) (xs : List (BitVec 32)) (w : World) (hl : Lies w ad xs) (hm : xs.length ≤ 1152921504606846976) :
    Calls Try.prog 18 #[.slice ad xs.length cap] w fun e w' => e = .returned (.int .u32 (weakI xs)) ∧ w = w' := by
  go_enter Try.func18, Try.ntmps18
  go_wp2
  go_loop [3, 4, 9] (fun vs vt vk => ∃ k : Nat, k ≤ xs.length ∧ vk = .int .i64 k ∧ vs = .int .u32 (wk (xs.take k)).1 ∧ vt = .int .u32 (wk (xs.take k)).2) (fun _ _ i => xs.length - (intOf i).toNat)
  case atStart => exact ⟨0, Nat.zero_le _, rfl, rfl, rfl⟩
  case round =>
    obtain ⟨k, hk, rfl, rfl, rfl⟩ := hrel
    have hbd := wk_bd (xs.take k)
    by_cases hlt : k < xs.length
    · obtain ⟨b, off, rfl, hb, hc⟩ := hl.at_.resolve_left (by intro h; subst h; simp at hlt)
      have hx1 := hl.byte k hlt
      have hx0 := iv_lo (xs.getD k 0#32)
      have hcell := hc k hlt
      clear hc
      have hw := wk_take xs k hlt
      obtain ⟨x, hx⟩ : ∃ x, xs.getD k 0#32 = x := ⟨_, rfl⟩
      rw [hx] at hcell hx0 hx1 hw
      generalize wk (xs.take k) = p at hbd hw ⊢
      have HN := Lib.hid hw
      clear hx hl hw
      obtain ⟨⟨p0, p1⟩, q0, q1⟩ := hbd
      go_wp2
      go_round
      case rel => exact ⟨k + 1, by omega, by go_num, by rw [HN.out]; rfl, by rw [HN.out]; rfl⟩
      case measure => simp [intOf]; omega
    · obtain rfl : k = xs.length := by omega
      rw [List.take_length] at hbd ⊢
      have ho := or_pair (wk xs).2 (wk xs).1 hbd.2.1 (by omega) hbd.1.1 (by omega)
      obtain ⟨⟨p0, p1⟩, q0, q1⟩ := hbd
      go_wp2
      go_ret
      exact ⟨rfl, rfl⟩
set_option maxRecDepth 100000 in
set_option maxHeartbeats 1000000 in
theorem rweak_any (ad : Option Addr) (cap : Nat) (xs : List (BitVec 32)) (w : World) (hl : Lies w ad xs) (hm : xs.length ≤ 1152921504606846976) :
    Calls Try.prog 19 #[.slice ad xs.length cap] w fun e w' => e = .returned (.int .u32 (weakI xs)) ∧ w = w' := by
  go_enter Try.func19, Try.ntmps19
  go_wp2
  go_loop [3, 4, 5] (fun vs vt vk => ∃ k : Nat, k ≤ xs.length ∧ vk = .int .i64 k ∧ vs = .int .i64 (wk (xs.take k)).1 ∧ vt = .int .i64 (wk (xs.take k)).2) (fun _ _ i => xs.length - (intOf i).toNat)
  case atStart => exact ⟨0, Nat.zero_le _, rfl, rfl, rfl⟩
  case round =>
    obtain ⟨k, hk, rfl, rfl, rfl⟩ := hrel
    have hbd := wk_bd (xs.take k)
    by_cases hlt : k < xs.length
    · obtain ⟨b, off, rfl, hb, hc⟩ := hl.at_.resolve_left (by intro h; subst h; simp at hlt)
      have hx1 := hl.byte k hlt
      have hx0 := iv_lo (xs.getD k 0#32)
      have hcell := hc k hlt
      clear hc
      have hw := wk_take xs k hlt
      obtain ⟨x, hx⟩ : ∃ x, xs.getD k 0#32 = x := ⟨_, rfl⟩
      rw [hx] at hcell hx0 hx1 hw
      generalize wk (xs.take k) = p at hbd hw ⊢
      have HN := Lib.hid hw
      clear hx hl hw
      obtain ⟨⟨p0, p1⟩, q0, q1⟩ := hbd
      go_wp2
      go_round
      case rel => exact ⟨k + 1, by omega, by go_num, by rw [HN.out]; rfl, by rw [HN.out]; rfl⟩
      case measure => simp [intOf]; omega
    · obtain rfl : k = xs.length := by omega
      rw [List.take_length] at hbd ⊢
      have ho := or_pair (wk xs).2 (wk xs).1 hbd.2.1 (by omega) hbd.1.1 (by omega)
      obtain ⟨⟨p0, p1⟩, q0, q1⟩ := hbd
      go_wp2
      go_ret
      exact ⟨rfl, rfl⟩
end Go.Proofs.Ytheoklpgnchmcaa
