/-
  The functions that write, and the document's own.
-/
import Derived.Test.YtckbgefeamkjnaaCJoin
import Derived.Test.YtckbgefeamkjnaaCRead2
namespace Go.Proofs.Ytckbgefeamkjnaa
open Go.RowKit

/-- The code of an int. -/
def cod (n : Int) : Nat := if 0 ≤ n then 2 * n.toNat else 2 * (-(n + 1)).toNat + 1
theorem cod_lt (n : Int) (h0 : -9223372036854775808 ≤ n) (h1 : n ≤ 9223372036854775807) : cod n < 18446744073709551616 := by
  unfold cod
  split <;> omega
theorem dcd_cod (n : Int) : dcd (cod n) = n := by
  unfold dcd cod
  split <;> split <;> omega
theorem cod_dcd (c : Nat) : cod (dcd c) = c := by
  unfold dcd cod
  split <;> split <;> omega

theorem Gives.back {w W w' : World} {l : List UInt8} {e : Ending} (h : Gives W l e w') (hb : Below w.heap.size w W) : Gives w l e w' := by
  obtain ⟨v, rfl, ho, hb'⟩ := h
  exact ⟨v, rfl, ho.mono hb.size, hb.trans (hb'.mono hb.size)⟩
theorem Gives.eq {w w' : World} {l m : List UInt8} {e : Ending} (h : Gives w l e w') (hl : l = m) : Gives w m e w' := hl ▸ h

set_option maxRecDepth 100000 in
theorem code_any (n : Int) (w : World) (h0 : -9223372036854775808 ≤ n) (h1 : n ≤ 9223372036854775807) :
    Calls Try.prog 35 #[.int .i64 n] w fun e w' => e = .returned (.int .u64 (cod n)) ∧ w = w' := by
  unfold cod
  by_cases h : 0 ≤ n
  · obtain ⟨m, rfl⟩ : ∃ m : Nat, n = m := ⟨n.toNat, by omega⟩
    rw [if_pos h, Int.toNat_natCast]
    go_enter Try.func35, Try.ntmps35
    go_wp2
    go_ret
    exact ⟨rfl, rfl⟩
  · obtain ⟨m, rfl⟩ : ∃ m : Nat, n = -(m : Int) - 1 := ⟨(-(n + 1)).toNat, by omega⟩
    rw [if_neg h, show (-(-(m : Int) - 1 + 1)).toNat = m by omega]
    go_enter Try.func35, Try.ntmps35
    go_wp2
    go_ret
    exact ⟨rfl, rfl⟩
set_option maxRecDepth 100000 in
theorem rcode_any (n : Int) (w : World) (h0 : -9223372036854775808 ≤ n) (h1 : n ≤ 9223372036854775807) :
    Calls Try.prog 37 #[.int .i64 n] w fun e w' => e = .returned (.int .u64 (cod n)) ∧ w = w' := by
  unfold cod
  by_cases h : 0 ≤ n
  · obtain ⟨m, rfl⟩ : ∃ m : Nat, n = m := ⟨n.toNat, by omega⟩
    rw [if_pos h, Int.toNat_natCast]
    go_enter Try.func37, Try.ntmps37
    go_wp2
    go_ret
    exact ⟨rfl, rfl⟩
  · obtain ⟨m, rfl⟩ : ∃ m : Nat, n = -(m : Int) - 1 := ⟨(-(n + 1)).toNat, by omega⟩
    rw [if_neg h, show (-(-(m : Int) - 1 + 1)).toNat = m by omega]
    go_enter Try.func37, Try.ntmps37
    go_wp2
    go_ret
    exact ⟨rfl, rfl⟩

theorem part_one {w : World} {nd : Option Addr} {nc : Nat} {l : List UInt8} (hl : Lie w nd l) (hn : nd = none → nc = 0) (t : TypeId) :
    ∀ k (h : k < [(nd, nc, l)].length), (w.alloc (.cells #[.slice nd l.length nc] t)).cell? ⟨w.heap.size, k, none⟩ = some (.slice ([(nd, nc, l)][k]).1 ([(nd, nc, l)][k]).2.2.length ([(nd, nc, l)][k]).2.1) ∧ Lie (w.alloc (.cells #[.slice nd l.length nc] t)) ([(nd, nc, l)][k]).1 ([(nd, nc, l)][k]).2.2 ∧ (([(nd, nc, l)][k]).1 = none → ([(nd, nc, l)][k]).2.1 = 0) := by
  intro k h
  obtain rfl : k = 0 := by simpa using h
  refine ⟨?_, hl.below ((Below.refl _ _).alloc (Nat.le_refl _) _) rfl, hn⟩
  rw [World.cell?_alloc_mark]
  rfl
theorem join_one (ad : Option Addr) (cap g : Nat) (xs : List UInt8) (nd : Option Addr) (nc : Nat) (l : List UInt8) (w : World) (hl : Lie w ad xs) (hac : ad = none → cap = 0) (hl2 : Lie w nd l) (hn : nd = none → nc = 0) (hs : xs.length ≤ 1000000) (hs2 : l.length ≤ 1000000) (hg : g = w.heap.size) :
    Calls Try.prog 33 #[.slice ad xs.length cap, .slice (some ⟨g, 0, none⟩) 1 1] (w.alloc (.cells #[.slice nd l.length nc] 22)) (Gives w (xs ++ l)) := by
  have hb : Below w.heap.size w (w.alloc (.cells #[.slice nd l.length nc] 22)) := (Below.refl _ _).alloc (Nat.le_refl _) _
  subst hg
  refine (join_bytes ad cap w.heap.size xs [(nd, nc, l)] _ (hl.below hb rfl) hac (part_one hl2 hn _) hs (by simpa using hs2) (by simp)).mono ?_
  intro e w' h
  exact (h.back hb).eq (by simp)

set_option maxRecDepth 100000 in
set_option maxHeartbeats 600000 in
theorem puint_any (ad : Option Addr) (cap : Nat) (xs : List UInt8) (n : Nat) (w : World) (hl : Lie w ad xs) (hac : ad = none → cap = 0) (hs : xs.length ≤ 1000000) (hn : n < 18446744073709551616) :
    Calls Try.prog 22 #[.slice ad xs.length cap, .int .u64 n] w (Gives w (xs ++ enc n)) := by
  have HA := Lib.hid hac
  have hel := enc_len n hn
  clear hac
  go_enter Try.func22, Try.ntmps22
  go_wp2_with fail
  refine (number_any n _ hn).mono ?_
  rintro e w1 ⟨v, rfl, hown, hb⟩
  obtain ⟨nd, nc, rfl, hl2, _, _, hn2⟩ := hown.slice
  have HL := Lib.hid (hl.below hb rfl)
  have HL2 := Lib.hid hl2
  have HN2 := Lib.hid hn2
  have HB := Lib.hid hb
  clear hown hl hl2 hn2 hb
  go_wp2_with fail
  refine (join_one ad cap _ xs nd nc (enc n) _ HL.out HA.out HL2.out HN2.out hs (by omega) rfl).mono ?_
  rintro e w2 ⟨v, rfl, hown, hb⟩
  have HO := Lib.hid hown
  have HB2 := Lib.hid hb
  clear hown hb
  go_wp2
  go_ret
  exact ⟨v, rfl, HO.out.mono HB.out.size, HB.out.trans (HB2.out.mono HB.out.size)⟩

set_option maxRecDepth 100000 in
set_option maxHeartbeats 600000 in
theorem pint_any (ad : Option Addr) (cap : Nat) (xs : List UInt8) (n : Int) (w : World) (hl : Lie w ad xs) (hac : ad = none → cap = 0) (hs : xs.length ≤ 1000000) (h0 : -9223372036854775808 ≤ n) (h1 : n ≤ 9223372036854775807) :
    Calls Try.prog 23 #[.slice ad xs.length cap, .int .i64 n] w (Gives w (xs ++ enc (cod n))) := by
  have HA := Lib.hid hac
  have hcl := cod_lt n h0 h1
  have hel := enc_len _ hcl
  clear hac
  go_enter Try.func23, Try.ntmps23
  go_wp2_with fail
  refine (code_any n _ h0 h1).mono ?_
  rintro e w' ⟨rfl, rfl⟩
  go_wp2_with fail
  refine (number_any _ _ hcl).mono ?_
  rintro e w1 ⟨v, rfl, hown, hb⟩
  obtain ⟨nd, nc, rfl, hl2, _, _, hn2⟩ := hown.slice
  have HL := Lib.hid (hl.below hb rfl)
  have HL2 := Lib.hid hl2
  have HN2 := Lib.hid hn2
  have HB := Lib.hid hb
  clear hown hl hl2 hn2 hb
  go_wp2_with fail
  refine (join_one ad cap _ xs nd nc (enc (cod n)) _ HL.out HA.out HL2.out HN2.out hs (by omega) rfl).mono ?_
  rintro e w2 ⟨v, rfl, hown, hb⟩
  have HO := Lib.hid hown
  have HB2 := Lib.hid hb
  clear hown hb
  go_wp2
  go_ret
  exact ⟨v, rfl, HO.out.mono HB.out.size, HB.out.trans (HB2.out.mono HB.out.size)⟩

/-- The bytes of a text, and of a bool. -/
def encT (s : ByteArray) : List UInt8 := enc s.size ++ s.data.toList
def encB (v : Bool) : List UInt8 := [if v then 1 else 0]

theorem part_two (w : World) (s t : ByteArray) (ty : TypeId) :
    ∀ k (h : k < [s, t].length), (w.alloc (.cells #[.string s, .string t] ty)).cell? ⟨w.heap.size, k, none⟩ = some (.string ([s, t][k])) := by
  intro k h
  rw [World.cell?_alloc_mark]
  match k, h with
  | 0, _ => rfl
  | 1, _ => rfl
theorem join_two (ad : Option Addr) (cap : Nat) (xs : List UInt8) (s t : ByteArray) (w : World) (hl : Lie w ad xs) (hac : ad = none → cap = 0) (hs : xs.length ≤ 1000000) (hs2 : s.size + t.size ≤ 1000000) :
    Calls Try.prog 36 #[.slice ad xs.length cap, .slice (some ⟨w.heap.size, 0, none⟩) 2 2] (w.alloc (.cells #[.string s, .string t] 9)) (Gives w (xs ++ (s.data.toList ++ t.data.toList))) := by
  have hb : Below w.heap.size w (w.alloc (.cells #[.string s, .string t] 9)) := (Below.refl _ _).alloc (Nat.le_refl _) _
  have hsz : ∀ s : ByteArray, s.data.toList.length = s.size := fun s => by rw [Array.length_toList]; rfl
  refine (join_text ad cap w.heap.size xs [s, t] _ (hl.below hb rfl) hac (part_two w s t _) hs (by simp only [List.map_cons, List.map_nil, List.flatten_cons, List.flatten_nil, List.append_nil, List.length_append, hsz]; exact hs2) (by simp)).mono ?_
  intro e w' h
  exact (h.back hb).eq (by simp)

set_option maxRecDepth 100000 in
set_option maxHeartbeats 600000 in
theorem ptext_any (ad : Option Addr) (cap : Nat) (xs : List UInt8) (s : ByteArray) (w : World) (hl : Lie w ad xs) (hac : ad = none → cap = 0) (hs : xs.length ≤ 1000000) (hss : s.size ≤ 100000) :
    Calls Try.prog 24 #[.slice ad xs.length cap, .string s] w (Gives w (xs ++ encT s)) := by
  have HA := Lib.hid hac
  have hel := enc_len s.size (by omega)
  clear hac
  go_enter Try.func24, Try.ntmps24
  go_wp2_with fail
  refine (number_any _ _ (by omega)).mono ?_
  rintro e w1 ⟨v, rfl, hown, hb⟩
  obtain ⟨nd, nc, rfl, hl2, _, _, hn2⟩ := hown.slice
  have hcv := conv_lie nc hl2
  have HL := Lib.hid (hl.below hb rfl)
  have HB := Lib.hid hb
  clear hown hl hl2 hn2 hb
  go_wp2_with fail
  refine (join_two ad cap xs ⟨(enc s.size).toArray⟩ s _ HL.out HA.out hs (by simp only [ByteArray.size, List.size_toArray] at hel hss ⊢; omega)).mono ?_
  rintro e w2 ⟨v, rfl, hown, hb⟩
  have HO := Lib.hid hown
  have HB2 := Lib.hid hb
  clear hown hb
  go_wp2
  go_ret
  exact ⟨v, rfl, HO.out.mono HB.out.size, HB.out.trans (HB2.out.mono HB.out.size)⟩

set_option maxRecDepth 100000 in
set_option maxHeartbeats 600000 in
theorem pbool_any (ad : Option Addr) (cap : Nat) (xs : List UInt8) (b : Bool) (w : World) (hl : Lie w ad xs) (hac : ad = none → cap = 0) (hs : xs.length ≤ 1000000) :
    Calls Try.prog 25 #[.slice ad xs.length cap, .bool b] w (Gives w (xs ++ encB b)) := by
  have HA := Lib.hid hac
  clear hac
  cases b
  · have hb : Below w.heap.size w (w.alloc (.cells #[.int .u8 0] 5)) := (Below.refl _ _).alloc (Nat.le_refl _) _
    have HL := Lib.hid (hl.below hb rfl)
    have HL2 := Lib.hid (Lie.one w 0 (0 : UInt8) rfl)
    have HB := Lib.hid hb
    clear hl hb
    go_enter Try.func25, Try.ntmps25
    go_wp2_with fail
    refine (join_one ad cap _ xs _ 1 [(0 : UInt8)] _ HL.out HA.out HL2.out (fun h => by cases h) hs (by simp) (by simp)).mono ?_
    rintro e w2 ⟨v, rfl, hown, hb⟩
    have HO := Lib.hid hown
    have HB2 := Lib.hid hb
    clear hown hb
    go_wp2
    go_ret
    exact ⟨v, rfl, HO.out.mono HB.out.size, HB.out.trans (HB2.out.mono HB.out.size)⟩
  · have hb : Below w.heap.size w (w.alloc (.cells #[.int .u8 1] 5)) := (Below.refl _ _).alloc (Nat.le_refl _) _
    have HL := Lib.hid (hl.below hb rfl)
    have HL2 := Lib.hid (Lie.one w 1 (1 : UInt8) rfl)
    have HB := Lib.hid hb
    clear hl hb
    go_enter Try.func25, Try.ntmps25
    go_wp2_with fail
    refine (join_one ad cap _ xs _ 1 [(1 : UInt8)] _ HL.out HA.out HL2.out (fun h => by cases h) hs (by simp) (by simp)).mono ?_
    rintro e w2 ⟨v, rfl, hown, hb⟩
    have HO := Lib.hid hown
    have HB2 := Lib.hid hb
    clear hown hb
    go_wp2
    go_ret
    exact ⟨v, rfl, HO.out.mono HB.out.size, HB.out.trans (HB2.out.mono HB.out.size)⟩
end Go.Proofs.Ytckbgefeamkjnaa
