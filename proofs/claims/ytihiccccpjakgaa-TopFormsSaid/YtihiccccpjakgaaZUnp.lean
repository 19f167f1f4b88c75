/-
  The program's Size, Unpack and Bound.
-/
import Derived.Test.YtihiccccpjakgaaZScan
namespace Go.Proofs.Ytihiccccpjakgaa
open Go.RowKit
set_option linter.unusedVariables false
set_option linter.unusedSimpArgs false
theorem scan0_any (ad : Option Addr) (cap : Nat) (xs : List UInt8) (most : Int) (w : World) (hl : Lie w ad xs) (hn : xs.length ≤ cap) (hs : xs.length ≤ 1000000) (ha : ad = none → cap = 0) (hm : most ≤ 1000000) :
    Calls Try.prog 27 #[.slice ad xs.length cap, .int .i64 most, .func (.func 31) #[] #[]] w fun e w' => ScV (unq most.toNat xs []) e ∧ Below w.heap.size w w' := by
  by_cases h : most < 0
  · rw [show most.toNat = 0 by omega]
    exact scan0_neg ad cap xs most w hl hn hs ha h
  · obtain ⟨m, rfl⟩ : ∃ m : Nat, most = m := ⟨most.toNat, by omega⟩
    rw [Int.toNat_natCast]
    exact scan0_nat ad cap xs m w hl hn hs ha (by omega)
theorem scan1_any (ad : Option Addr) (cap : Nat) (xs : List UInt8) (most : Int) (w0 w : World) (B bx : Nat) (hl : Lie w0 ad xs) (h0 : Below w0.heap.size w0 w) (hbox : BoxU w B bx []) (hCB : w0.heap.size ≤ B) (hCb : w0.heap.size ≤ bx) (hBw : B ≤ w.heap.size) (hU : (unq most.toNat xs []).2 = 0)
    (hn : xs.length ≤ cap) (hs : xs.length ≤ 1000000) (ha : ad = none → cap = 0) (hm : most ≤ 1000000) :
    Calls Try.prog 27 #[.slice ad xs.length cap, .int .i64 most, .func (.func 28) #[] #[.pointer (some ⟨bx, 0, none⟩)]] w fun e w' => ScV (unq most.toNat xs []) e ∧ BoxU w' B bx (unq most.toNat xs []).1 ∧ Below w0.heap.size w0 w' := by
  by_cases h : most < 0
  · have e : most.toNat = 0 := by omega
    rw [e] at hU ⊢
    exact scan1_neg ad cap xs most w0 w B bx hl h0 hbox hCB hCb hBw hU hn hs ha h
  · obtain ⟨m, rfl⟩ : ∃ m : Nat, most = m := ⟨most.toNat, by omega⟩
    rw [Int.toNat_natCast] at hU ⊢
    exact scan1_nat ad cap xs m w0 w B bx hl h0 hbox hCB hCb hBw hU hn hs ha (by omega)
set_option maxRecDepth 100000 in
set_option maxHeartbeats 600000 in
theorem size_any (ad : Option Addr) (cap : Nat) (xs : List UInt8) (most : Int) (w : World) (hl : Lie w ad xs) (hn : xs.length ≤ cap) (hs : xs.length ≤ 1000000) (ha : ad = none → cap = 0) (hm : most ≤ 1000000) :
    Calls Try.prog 12 #[.slice ad xs.length cap, .int .i64 most] w fun e w' => ScV (unq most.toNat xs []) e ∧ Below w.heap.size w w' := by
  have H := Lib.hid (scan0_any ad cap xs most w hl hn hs ha hm)
  clear hl hn hs ha hm
  go_enter Try.func12, Try.ntmps12
  go_wp2_with fail
  refine H.out.mono ?_
  rintro e w2 ⟨hv, hb⟩
  unfold ScV at hv
  subst hv
  have HB := Lib.hid hb
  clear hb
  go_wp2
  go_ret2
  exact ⟨rfl, HB.out⟩
/-- what Unpack hands back: bytes that it owns, and the error -/
def UnV (w : World) (r : List UInt8 × Nat) (e : Ending) (w' : World) : Prop := ∃ v, e = .returned (.tuple #[v, .int .i64 (r.2 : Nat)]) ∧ Own w' w.heap.size v r.1 ∧ Below w.heap.size w w'
theorem unq_err (room : Nat) (N : Nat) : ∀ tl out, tl.length ≤ N → (unq room tl out).2 ≠ 0 → (unq room tl out).1 = [] := by
  induction N with
  | zero =>
    intro tl out h he
    rw [unq, dif_pos (by omega)] at he
    exact absurd rfl he
  | succ N ih =>
    intro tl out h he
    by_cases h0 : tl = []
    · subst h0; rw [unq_nil] at he; exact absurd rfl he
    rw [unq_nx room tl out h0] at he ⊢
    by_cases h1 : (nx tl out.length (room - out.length)).e ≠ 0
    · rw [if_pos h1]
    · rw [if_neg h1] at he ⊢
      have h2 := nx_ok (tl := tl) (before := out.length) (room := room - out.length) (by omega)
      exact ih _ _ (by rw [List.length_drop]; omega) he
set_option maxRecDepth 100000 in
set_option maxHeartbeats 600000 in
theorem unpack_any (ad : Option Addr) (cap : Nat) (xs : List UInt8) (most : Int) (w : World) (hl : Lie w ad xs) (hn : xs.length ≤ cap) (hs : xs.length ≤ 1000000) (ha : ad = none → cap = 0) (hm : most ≤ 1000000) :
    Calls Try.prog 10 #[.slice ad xs.length cap, .int .i64 most] w (UnV w (unq most.toNat xs [])) := by
  have H := Lib.hid (size_any ad cap xs most w hl hn hs ha hm)
  have H1 := Lib.hid (fun (W : World) (B bx : Nat) (h0 : Below w.heap.size w W) (hbox : BoxU W B bx []) (hCB : w.heap.size ≤ B) (hCb : w.heap.size ≤ bx) (hBw : B ≤ W.heap.size) (hU : (unq most.toNat xs []).2 = 0) => scan1_any ad cap xs most w W B bx hl h0 hbox hCB hCb hBw hU hn hs ha hm)
  have hr := unq_room most.toNat xs.length xs [] (Nat.le_refl _) (Nat.zero_le _)
  have hz := unq_err most.toNat xs.length xs [] (Nat.le_refl _)
  obtain ⟨r, hr0⟩ : ∃ r, unq most.toNat xs [] = r := ⟨_, rfl⟩
  rw [hr0] at H H1 hr hz ⊢
  obtain ⟨l, E⟩ := r
  dsimp only at hr hz H1
  have hl6 : l.length ≤ 1000000 := by omega
  have HZ := Lib.hid hz
  clear hl hn hs ha hr0 hr hz
  go_enter Try.func10, Try.ntmps10
  go_wp2_with fail
  refine H.out.mono ?_
  rintro e w2 ⟨hv, hb⟩
  unfold ScV at hv
  subst hv
  dsimp only
  have HB := Lib.hid hb
  clear hb
  by_cases hE : E = 0
  · subst hE
    go_wp2_with (first | (refine wpList_make_u rfl _ _ rfl w2.heap.size _ l.length rfl rfl rfl (by omega) (Nat.le_refl _) ?_; intro v1 w3 hown1 hgrow1; obtain ⟨a1, c1, rfl, _, _, _, _⟩ := hown1.slice))
    have hb3 : Below w2.heap.size w2 w3 := (Below.refl _ _).grown hgrow1 (Nat.le_refl _) (by intro k hk; cases hk)
    have hb3' : Below w.heap.size w (w3.alloc (.cells #[.slice a1 0 c1] 22)) := (HB.out.trans (hb3.mono HB.out.size)).alloc (Nat.le_trans HB.out.size hb3.size) _
    refine (H1.out _ w2.heap.size w3.heap.size hb3' ⟨_, heap_new _ _, hown1.below ((Below.refl _ _).alloc (Nat.le_refl _) _)⟩ HB.out.size (Nat.le_trans HB.out.size hb3.size) (Nat.le_trans hb3.size (Nat.le_of_lt (by simp))) (by first | trivial | rfl)).mono ?_
    rintro e w4 ⟨hv4, ⟨v4, h4, ho4⟩, hb4⟩
    unfold ScV at hv4
    subst hv4
    have hc4 := cell_of_one h4
    obtain ⟨a4, c4, rfl, _, _, _, _⟩ := ho4.slice
    have HO4 := Lib.hid ho4
    have HB4 := Lib.hid hb4
    clear h4 ho4 hb4 hb3 hb3' hown1 hgrow1
    go_wp2
    go_ret2
    exact ⟨_, rfl, HO4.out.mono HB.out.size, HB4.out⟩
  · have h2 : ((E : Int) == 0) = false := by rw [beq_eq_false_iff_ne]; omega
    have hl0 := HZ.out hE
    clear hE
    go_wp2
    go_ret2
    refine ⟨_, rfl, ?_, HB.out⟩
    dsimp only
    rw [hl0]
    exact Own.ofNil _ _
set_option maxRecDepth 100000 in
theorem bound_any (n : Int) (w : World) (h1 : n ≤ 9223372036854775797) : Calls Try.prog 16 #[.int .i64 n] w fun e w' => e = .returned (.int .i64 (if n ≤ 0 then 0 else n + 10)) ∧ w = w' := by
  by_cases h : n ≤ 0
  · rw [if_pos h]
    go_enter Try.func16, Try.ntmps16
    go_wp2
    go_ret
    exact ⟨rfl, rfl⟩
  · rw [if_neg h]
    obtain ⟨m, rfl⟩ : ∃ m : Nat, n = m := ⟨n.toNat, by omega⟩
    go_enter Try.func16, Try.ntmps16
    go_wp2
    go_ret
    exact ⟨rfl, rfl⟩
set_option maxRecDepth 100000 in
theorem rbound_any (n : Int) (w : World) (h1 : n ≤ 9223372036854775797) : Calls Try.prog 17 #[.int .i64 n] w fun e w' => e = .returned (.int .i64 (if n ≤ 0 then 0 else n + 10)) ∧ w = w' := by
  by_cases h : n ≤ 0
  · rw [if_pos h]
    go_enter Try.func17, Try.ntmps17
    go_wp2
    go_ret
    exact ⟨rfl, rfl⟩
  · rw [if_neg h]
    obtain ⟨m, rfl⟩ : ∃ m : Nat, n = m := ⟨n.toNat, by omega⟩
    go_enter Try.func17, Try.ntmps17
    go_wp2
    go_ret
    exact ⟨rfl, rfl⟩
end Go.Proofs.Ytihiccccpjakgaa
