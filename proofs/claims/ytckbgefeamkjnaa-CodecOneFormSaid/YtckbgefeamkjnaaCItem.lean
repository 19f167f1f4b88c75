/-
  Items: what is written for one, by the program and by the document.
-/
import Derived.Test.YtckbgefeamkjnaaCLives
namespace Go.Proofs.Ytckbgefeamkjnaa
open Go.RowKit

structure It where
  k : Int
  u : Nat
  n : Int
  s : ByteArray
  v : Bool
def It.cells (x : It) : Array Value := #[.int .i64 x.k, .int .u64 x.u, .int .i64 x.n, .string x.s, .bool x.v]
structure It.Ok (x : It) : Prop where
  u : x.u < 18446744073709551616
  n0 : -9223372036854775808 ≤ x.n
  n1 : x.n ≤ 9223372036854775807
/-- The bytes of an item. -/
def It.enc (x : It) : List UInt8 := if x.k = 0 then Go.Proofs.Ytckbgefeamkjnaa.enc x.u else if x.k = 1 then Go.Proofs.Ytckbgefeamkjnaa.enc (cod x.n) else if x.k = 2 then encT x.s else encB x.v

theorem Gives.of {w W w' : World} {l : List UInt8} {v : Value} (ho : Own w' W.heap.size v l) (hb : Below W.heap.size W w') (h : Below w.heap.size w W) : Gives w l (.returned v) w' := Gives.back (W := W) ⟨v, rfl, ho, hb⟩ h

set_option maxRecDepth 100000 in
set_option maxHeartbeats 600000 in
theorem put_any (ad : Option Addr) (cap : Nat) (xs : List UInt8) (x : It) (w : World) (hl : Lie w ad xs) (hac : ad = none → cap = 0) (hs : xs.length ≤ 1000000) (hx : x.Ok) (hss : x.s.size ≤ 100000) :
    Calls Try.prog 11 #[.slice ad xs.length cap, .agg x.cells] w (Gives w (xs ++ x.enc)) := by
  obtain ⟨k, u, n, s, v⟩ := x
  obtain ⟨hu, hn0, hn1⟩ := hx
  unfold It.enc It.cells
  dsimp only at hu hn0 hn1 hss ⊢
  have hb0 : Below w.heap.size w (w.alloc (.cells #[.int .i64 k, .int .u64 u, .int .i64 n, .string s, .bool v] 29)) := (Below.refl _ _).alloc (Nat.le_refl _) _
  have HL := Lib.hid (hl.below hb0 rfl)
  have HB := Lib.hid hb0
  have HA := Lib.hid hac
  clear hl hac hb0
  by_cases h0 : k = 0
  · subst h0
    rw [if_pos rfl]
    go_enter Try.func11, Try.ntmps11
    go_wp2_with fail
    refine (puint_any ad cap xs u _ HL.out HA.out hs hu).mono ?_
    rintro e w2 ⟨v, rfl, hown, hb⟩
    have HO := Lib.hid (Gives.of hown hb HB.out)
    clear hown hb
    go_wp2
    go_ret
    exact HO.out
  · rw [if_neg h0]
    by_cases h1 : k = 1
    · subst h1
      rw [if_pos rfl]
      go_enter Try.func11, Try.ntmps11
      go_wp2_with fail
      refine (pint_any ad cap xs n _ HL.out HA.out hs hn0 hn1).mono ?_
      rintro e w2 ⟨v, rfl, hown, hb⟩
      have HO := Lib.hid (Gives.of hown hb HB.out)
      clear hown hb
      go_wp2
      go_ret
      exact HO.out
    · rw [if_neg h1]
      by_cases h2 : k = 2
      · subst h2
        rw [if_pos rfl]
        go_enter Try.func11, Try.ntmps11
        go_wp2_with fail
        refine (ptext_any ad cap xs s _ HL.out HA.out hs hss).mono ?_
        rintro e w2 ⟨v, rfl, hown, hb⟩
        have HO := Lib.hid (Gives.of hown hb HB.out)
        clear hown hb
        go_wp2
        go_ret
        exact HO.out
      · rw [if_neg h2]
        have hk0 : (k == 0) = false := by simpa using h0
        have hk1 : (k == 1) = false := by simpa using h1
        have hk2 : (k == 2) = false := by simpa using h2
        go_enter Try.func11, Try.ntmps11
        go_wp2_with fail
        refine (pbool_any ad cap xs v _ HL.out HA.out hs).mono ?_
        rintro e w2 ⟨v, rfl, hown, hb⟩
        have HO := Lib.hid (Gives.of hown hb HB.out)
        clear hown hb
        go_wp2
        go_ret
        exact HO.out

set_option maxRecDepth 100000 in
set_option maxHeartbeats 600000 in
theorem define_any (ad : Option Addr) (cap : Nat) (xs : List UInt8) (x : It) (w : World) (hl : Lie w ad xs) (hac : ad = none → cap = 0) (hs : xs.length ≤ 1000000) (hx : x.Ok) (hss : x.s.size ≤ 100000) :
    Calls Try.prog 12 #[.slice ad xs.length cap, .agg x.cells] w (Gives w (xs ++ x.enc)) := by
  obtain ⟨k, u, n, s, v⟩ := x
  obtain ⟨hu, hn0, hn1⟩ := hx
  unfold It.enc It.cells
  dsimp only at hu hn0 hn1 hss ⊢
  have hb0 : Below w.heap.size w (w.alloc (.cells #[.int .i64 k, .int .u64 u, .int .i64 n, .string s, .bool v] 29)) := (Below.refl _ _).alloc (Nat.le_refl _) _
  have HL := Lib.hid (hl.below hb0 rfl)
  have HB := Lib.hid hb0
  have HA := Lib.hid hac
  clear hl hac hb0
  by_cases h0 : k = 0
  · subst h0
    rw [if_pos rfl]
    go_enter Try.func12, Try.ntmps12
    go_wp2_with fail
    refine (rpuint_any ad cap xs u _ HL.out HA.out hs hu).mono ?_
    rintro e w2 ⟨v, rfl, hown, hb⟩
    have HO := Lib.hid (Gives.of hown hb HB.out)
    clear hown hb
    go_wp2
    go_ret
    exact HO.out
  · rw [if_neg h0]
    by_cases h1 : k = 1
    · subst h1
      rw [if_pos rfl]
      go_enter Try.func12, Try.ntmps12
      go_wp2_with fail
      refine (rpint_any ad cap xs n _ HL.out HA.out hs hn0 hn1).mono ?_
      rintro e w2 ⟨v, rfl, hown, hb⟩
      have HO := Lib.hid (Gives.of hown hb HB.out)
      clear hown hb
      go_wp2
      go_ret
      exact HO.out
    · rw [if_neg h1]
      by_cases h2 : k = 2
      · subst h2
        rw [if_pos rfl]
        go_enter Try.func12, Try.ntmps12
        go_wp2_with fail
        refine (rptext_any ad cap xs s _ HL.out HA.out hs hss).mono ?_
        rintro e w2 ⟨v, rfl, hown, hb⟩
        have HO := Lib.hid (Gives.of hown hb HB.out)
        clear hown hb
        go_wp2
        go_ret
        exact HO.out
      · rw [if_neg h2]
        have hk0 : (k == 0) = false := by simpa using h0
        have hk1 : (k == 1) = false := by simpa using h1
        have hk2 : (k == 2) = false := by simpa using h2
        go_enter Try.func12, Try.ntmps12
        go_wp2_with fail
        refine (rpbool_any ad cap xs v _ HL.out HA.out hs).mono ?_
        rintro e w2 ⟨v, rfl, hown, hb⟩
        have HO := Lib.hid (Gives.of hown hb HB.out)
        clear hown hb
        go_wp2
        go_ret
        exact HO.out

end Go.Proofs.Ytckbgefeamkjnaa
