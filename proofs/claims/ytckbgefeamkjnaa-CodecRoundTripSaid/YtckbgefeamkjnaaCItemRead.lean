/-
  The function that reads an item: what was written is read.
-/
import Derived.Test.YtckbgefeamkjnaaCLawPre
import Derived.Deep.QuietTactic
import Derived.BigQuiet
namespace Go.Proofs.Ytckbgefeamkjnaa
open Go.RowKit

theorem ruint_back (ad : Option Addr) (cap n : Nat) (pre rest : List UInt8) (w : World) (hl : Lie w ad (pre ++ (enc n ++ rest))) (hn : (pre ++ (enc n ++ rest)).length ≤ cap) (hs : (pre ++ (enc n ++ rest)).length ≤ 1000000) (ha : ad = none → cap = 0) (h0 : n < 18446744073709551616) :
    Calls Try.prog 13 #[.slice ad (pre ++ (enc n ++ rest)).length cap, .int .i64 pre.length] w fun e w' => e = .returned (.tuple #[.int .u64 n, .int .i64 (pre.length + (enc n).length : Nat), .int .i64 0]) ∧ w = w' := by
  have h := uint_any ad cap _ (pre.length : Nat) w hl hn hs ha
  rw [uR_back pre rest n h0] at h
  exact h
theorem rint_back (ad : Option Addr) (cap : Nat) (n : Int) (pre rest : List UInt8) (w : World) (hl : Lie w ad (pre ++ (enc (cod n) ++ rest))) (hn : (pre ++ (enc (cod n) ++ rest)).length ≤ cap) (hs : (pre ++ (enc (cod n) ++ rest)).length ≤ 1000000) (ha : ad = none → cap = 0) (h0 : -9223372036854775808 ≤ n) (h1 : n ≤ 9223372036854775807) :
    Calls Try.prog 15 #[.slice ad (pre ++ (enc (cod n) ++ rest)).length cap, .int .i64 pre.length] w fun e w' => e = .returned (.tuple #[.int .i64 n, .int .i64 (pre.length + (enc (cod n)).length : Nat), .int .i64 0]) ∧ w = w' := by
  have h := int_any ad cap _ (pre.length : Nat) w hl hn hs ha
  rw [iR_back pre rest n h0 h1] at h
  exact h
theorem rtext_back (ad : Option Addr) (cap : Nat) (s : ByteArray) (pre rest : List UInt8) (w : World) (hl : Lie w ad (pre ++ (encT s ++ rest))) (hn : (pre ++ (encT s ++ rest)).length ≤ cap) (hs : (pre ++ (encT s ++ rest)).length ≤ 1000000) (ha : ad = none → cap = 0) (h0 : s.size ≤ 4096) :
    Calls Try.prog 17 #[.slice ad (pre ++ (encT s ++ rest)).length cap, .int .i64 pre.length, .int .i64 s.size] w fun e w' => e = .returned (.tuple #[.string s, .int .i64 (pre.length + (encT s).length : Nat), .int .i64 0]) ∧ w = w' := by
  have h := text_any ad cap _ (pre.length : Nat) (s.size : Nat) w hl hn hs ha (by omega)
  rw [tR_back pre rest s (by omega)] at h
  exact h
theorem rbool_back (ad : Option Addr) (cap : Nat) (v : Bool) (pre rest : List UInt8) (w : World) (hl : Lie w ad (pre ++ (encB v ++ rest))) (hs : (pre ++ (encB v ++ rest)).length ≤ 1000000) :
    Calls Try.prog 19 #[.slice ad (pre ++ (encB v ++ rest)).length cap, .int .i64 pre.length] w fun e w' => e = .returned (.tuple #[.bool v, .int .i64 (pre.length + (encB v).length : Nat), .int .i64 0]) ∧ w = w' := by
  have h := bool_any ad cap _ (pre.length : Nat) w hl hs
  rw [bR_back pre rest v] at h
  exact h

theorem below_quiet {B : Nat} {a w : World} (h : Below B a w) (n : Nat) : Below B a (w.drewN n) := ⟨h.os, h.tape, h.output, h.size, h.block⟩

set_option maxRecDepth 100000 in
set_option maxHeartbeats 400000 in
theorem read_any (ad : Option Addr) (cap N a m : Nat) (pre rest : List UInt8) (x : It) (w : World) (hx : x.Ok) (hsz : x.s.size ≤ 4096) (hl : Lie w ad (pre ++ (x.enc ++ rest))) (hN : N = (pre ++ (x.enc ++ rest)).length) (hpa : a = pre.length) (hm : m = x.enc.length) (hn : N ≤ cap) (hs : N ≤ 1000000) (ha : ad = none → cap = 0) :
    Calls Try.prog 21 #[.slice ad N cap, .int .i64 a, .agg x.cells] w fun e w' => e = .returned (.tuple #[.int .i64 ((a : Int) + (m : Int)), .bool true]) ∧ Below w.heap.size w w' := by
  have hb0 : Below w.heap.size w (w.alloc (.cells x.cells 29)) := (Below.refl _ _).alloc (Nat.le_refl _) _
  have hl0 := hl.below hb0 rfl
  have HB := Lib.hid hb0
  have hit := itAt_new w x 29
  obtain ⟨k, u, n, s, v⟩ := x
  dsimp only at hsz
  obtain ⟨hu, hn0, hn1⟩ := hx
  dsimp only at hu hn0 hn1
  unfold It.enc at hl0 hN hm
  dsimp only at hl0 hN hm
  unfold It.cells at hit hl0 HB ⊢
  dsimp only at hit hl0 HB ⊢
  clear hb0 hl
  by_cases h0 : k = 0
  · subst h0
    rw [if_pos rfl] at hl0 hN hm
    have h := ruint_back ad cap u pre rest _ hl0 (hN ▸ hn) (hN ▸ hs) ha hu
    rw [← hN, ← hpa, ← hm, Int.natCast_add] at h
    have H := Lib.hid h
    clear h hl0 ha hn hs hN hpa hm
    go_enter Try.func21, Try.ntmps21
    go_wp2_with fail
    refine (H.out).mono ?_
    rintro e w' ⟨rfl, rfl⟩
    go_wp2_with fail
    go_quiet (fail)
    go_wp2
    go_ret2
    exact ⟨rfl, below_quiet HB.out _⟩
  by_cases h1 : k = 1
  · subst h1
    rw [if_neg (by decide), if_pos rfl] at hl0 hN hm
    have h := rint_back ad cap n pre rest _ hl0 (hN ▸ hn) (hN ▸ hs) ha hn0 hn1
    rw [← hN, ← hpa, ← hm, Int.natCast_add] at h
    have H := Lib.hid h
    clear h hl0 ha hn hs hN hpa hm
    go_enter Try.func21, Try.ntmps21
    go_wp2_with fail
    refine (H.out).mono ?_
    rintro e w' ⟨rfl, rfl⟩
    go_wp2_with fail
    go_quiet (fail)
    go_wp2
    go_ret2
    exact ⟨rfl, below_quiet HB.out _⟩
  by_cases h2 : k = 2
  · subst h2
    rw [if_neg (by decide), if_neg (by decide), if_pos rfl] at hl0 hN hm
    have h := rtext_back ad cap s pre rest _ hl0 (hN ▸ hn) (hN ▸ hs) ha hsz
    rw [← hN, ← hpa, ← hm, Int.natCast_add] at h
    have H := Lib.hid h
    clear h hl0 ha hn hs hN hpa hm
    go_enter Try.func21, Try.ntmps21
    go_wp2_with fail
    refine (H.out).mono ?_
    rintro e w' ⟨rfl, rfl⟩
    go_wp2_with fail
    go_quiet (fail)
    go_wp2
    go_ret2
    exact ⟨rfl, below_quiet HB.out _⟩
  rw [if_neg h0, if_neg h1, if_neg h2] at hl0 hN hm
  have hk0 : (k == 0) = false := by simpa using h0
  have hk1 : (k == 1) = false := by simpa using h1
  have hk2 : (k == 2) = false := by simpa using h2
  have h := rbool_back ad cap v pre rest _ hl0 (hN ▸ hs)
  rw [← hN, ← hpa, ← hm, Int.natCast_add] at h
  have H := Lib.hid h
  clear h hl0 ha hn hs hN hpa hm
  go_enter Try.func21, Try.ntmps21
  go_wp2_with fail
  refine (H.out).mono ?_
  rintro e w' ⟨rfl, rfl⟩
  go_wp2_with fail
  go_quiet (fail)
  go_wp2
  go_ret2
  exact ⟨rfl, below_quiet HB.out _⟩
end Go.Proofs.Ytckbgefeamkjnaa
