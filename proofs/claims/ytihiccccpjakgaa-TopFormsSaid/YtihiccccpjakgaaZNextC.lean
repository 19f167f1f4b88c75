/-
  The program's nextCopy: a token that copies.
-/
import Derived.Test.YtihiccccpjakgaaZNextL
namespace Go.Proofs.Ytihiccccpjakgaa
open Go.RowKit
set_option linter.unusedVariables false
set_option linter.unusedSimpArgs false
/-- Uint at an offset of the bytes -/
theorem uR_in (xs : List UInt8) (k : Nat) (h : k ≤ xs.length) : uR xs k = ((dec 0 0 (xs.drop k)).1, endOf k (dec 0 0 (xs.drop k)), (((dec 0 0 (xs.drop k)).2.2 : Nat) : Int)) := by
  unfold uR
  rw [if_neg (show ¬ ((k : Int) < 0 ∨ (xs.length : Int) < k) by omega), Int.toNat_natCast]
set_option maxRecDepth 100000 in
set_option maxHeartbeats 600000 in
theorem nextc_any (ad : Option Addr) (cap : Nat) (xs : List UInt8) (k hd n before room : Nat) (w : World) (hl : Lie w ad xs) (hn : xs.length ≤ cap) (hs : xs.length ≤ 1000000) (ha : ad = none → cap = 0) (hk : k + hd ≤ xs.length) (hb : before ≤ 1000000) (hr : room ≤ 1000000) (h0 : n < 9223372036854775808) :
    Calls Try.prog 60 #[.slice ad xs.length cap, .int .i64 ((k : Int) + (hd : Int)), .int .i64 n, .int .i64 before, .int .i64 room] w fun e w' => NxV ad xs k (nxc (xs.drop k) hd n before room) e ∧ Below w.heap.size w w' := by
  unfold nxc
  rw [List.drop_drop]
  have hu := uR_in xs (k + hd) hk
  have hbd := dec_bounds (xs.drop (k + hd))
  obtain ⟨q, hq⟩ : ∃ q, q = dec 0 0 (xs.drop (k + hd)) := ⟨_, rfl⟩
  rw [← hq] at hu hbd ⊢
  obtain ⟨d, m, er⟩ := q
  have hc := fun W (h : Lie W ad xs) => uint_any ad cap xs (k + hd : Nat) W h hn hs ha
  rw [hu, Int.natCast_add] at hc
  dsimp only at hbd hc ⊢
  have hl0 : Lie (w.alloc (.cells #[.int .i64 0, .int .i64 0, .slice none 0 0] 55)) ad xs := hl.below ((Below.refl _ _).alloc (Nat.le_refl _) _) rfl
  have HL := Lib.hid hl0
  have HC := Lib.hid hc
  have HQ := Lib.hid hq
  have HBD := Lib.hid hbd
  clear hq hc hl hl0 hu hbd ha
  by_cases h1 : er ≠ 0
  · rw [if_pos h1]
    have h1' : ((er : Int) == 0) = false := by rw [beq_eq_false_iff_ne]; omega
    have h1'' : endOf (k + hd) (d, m, er) = 0 := if_neg h1
    have HE := Lib.hid h1
    clear h1
    go_enter Try.func60, Try.ntmps60
    go_wp2_with fail
    refine (HC.out _ HL.out).mono ?_
    rintro e w' ⟨rfl, rfl⟩
    go_wp2
    refine post_cell3 rfl rfl (heap_new _ _) Try.underlying55 rfl sizeTok rfl rfl rfl ⟨NxV.err HE.out, (Below.refl _ _).alloc (Nat.le_refl _) _⟩
  rw [if_neg h1]
  obtain rfl : er = 0 := by omega
  obtain ⟨hm0, hm, hd64⟩ := HBD.out rfl
  rw [List.length_drop] at hm
  have hend : endOf (k + hd) (d, m, 0) = (k : Int) + hd + m := by unfold endOf; rw [if_pos rfl]; push_cast; rfl
  rw [hend] at HC
  clear hend h1
  by_cases h2 : d = 0 ∨ before < d
  · rw [if_pos h2]
    by_cases h3 : d = 0
    · subst h3
      go_enter Try.func60, Try.ntmps60
      go_wp2_with fail
      refine (HC.out _ HL.out).mono ?_
      rintro e w' ⟨rfl, rfl⟩
      go_wp2
      refine post_cell3 rfl rfl (heap_new _ _) Try.underlying55 rfl sizeTok rfl rfl rfl ⟨NxV.err (by decide), (Below.refl _ _).alloc (Nat.le_refl _) _⟩
    · have h4 : before < d := by omega
      have h5 : ((d : Int) == 0) = false := by rw [beq_eq_false_iff_ne]; omega
      clear h2 h3
      go_enter Try.func60, Try.ntmps60
      go_wp2_with fail
      refine (HC.out _ HL.out).mono ?_
      rintro e w' ⟨rfl, rfl⟩
      go_wp2
      refine post_cell3 rfl rfl (heap_new _ _) Try.underlying55 rfl sizeTok rfl rfl rfl ⟨NxV.err (by decide), (Below.refl _ _).alloc (Nat.le_refl _) _⟩
  rw [if_neg h2]
  have h5 : ((d : Int) == 0) = false := by rw [beq_eq_false_iff_ne]; omega
  have h6 : d ≤ before := by omega
  have h7 : decide (before < d) = false := by simpa using h6
  have h8 : 0 < d := by omega
  clear h2
  by_cases h3 : room < n
  · rw [if_pos h3]
    go_enter Try.func60, Try.ntmps60
    go_wp2_with fail
    refine (HC.out _ HL.out).mono ?_
    rintro e w' ⟨rfl, rfl⟩
    go_wp2
    refine post_cell3 rfl rfl (heap_new _ _) Try.underlying55 rfl sizeTok rfl rfl rfl ⟨NxV.err (by decide), (Below.refl _ _).alloc (Nat.le_refl _) _⟩
  · rw [if_neg h3]
    have e : ((k + (hd + m) : Nat) : Int) = (k : Int) + hd + m := by omega
    have HE := Lib.hid e
    have H8 := Lib.hid h8
    clear e h8
    go_enter Try.func60, Try.ntmps60
    go_wp2_with fail
    refine (HC.out _ HL.out).mono ?_
    rintro e w' ⟨rfl, rfl⟩
    go_wp2
    refine post_cell3 rfl rfl (heap_new _ _) Try.underlying55 rfl sizeTok rfl rfl rfl ⟨?_, (Below.refl _ _).alloc (Nat.le_refl _) _⟩
    refine ⟨none, 0, 0, ?_, (fun _ => rfl), fun _ h => absurd h (by have := H8.out; dsimp only; omega)⟩
    unfold Nx.to Nx.len
    dsimp only
    rw [if_pos rfl, if_neg (by have := H8.out; omega), HE.out]
    rfl
end Go.Proofs.Ytihiccccpjakgaa
