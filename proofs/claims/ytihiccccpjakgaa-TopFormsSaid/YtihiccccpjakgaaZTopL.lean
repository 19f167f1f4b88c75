/-
  The statement TopForms.
-/
import Derived.Test.YtihiccccpjakgaaZTopF
import Derived.Test.YtihiccccpjakgaaNHeld
namespace Go.Proofs.Ytihiccccpjakgaa
open Go.RowKit
set_option linter.unusedVariables false
set_option linter.unusedSimpArgs false
attribute [local irreducible] packU updB accU fnv basis byteU beU hashU nodeU spl proI preI verI extI leafU
theorem path10 (xs : List UInt64) (k : Nat) (h : xs.length ≤ 1024) : (pathU xs k).length ≤ 10 := path_length 10 xs k h
theorem Lie.from {w : World} {b off cap c : Nat} {xs : List UInt8} (h : Lie w (some ⟨b, off, none⟩) xs) (hn : xs.length ≤ cap) : Lie w (if cap = c then some ⟨b, off, none⟩ else some ⟨b, off + c, none⟩) (xs.drop c) := by
  by_cases hc : cap = c
  · rw [if_pos hc, List.drop_eq_nil_of_le (by omega)]; exact .nil _ _
  · rw [if_neg hc]
    have := h.part2 c (xs.length - c)
    rwa [List.take_of_length_le (by rw [List.length_drop]; omega)] at this
theorem Lie.upto {w : World} {ad : Option Addr} {c : Nat} {xs : List UInt8} (h : Lie w ad xs) : Lie w ad (xs.take c) := by
  rcases h.at_ with h0 | ⟨b, off, e, hlt, hc⟩
  · subst h0; exact ⟨.inl (by simp)⟩
  · refine ⟨.inr ⟨b, off, e, hlt, fun j hj => ?_⟩⟩
    rw [List.length_take] at hj
    rw [hc j (by omega)]
    simp
set_option maxRecDepth 100000 in
set_option maxHeartbeats 4000000 in
theorem top_main (b off cap : Nat) (xs : List UInt8) (c s : Nat) (w : World) (hl : Lie w (some ⟨b, off, none⟩) xs) (hn : xs.length ≤ cap) (hcm : cap ≤ maxLen) (h0 : 0 < xs.length) (h6 : xs.length ≤ 600) (hc : c ≤ xs.length) (hs1 : 1 ≤ s) (hs2 : s ≤ 100) :
    Calls Try.prog 8 #[.slice (some ⟨b, off, none⟩) xs.length cap, .int .i64 c, .int .i64 s] w fun e w' => e = .returned (.bool true) ∧ Below w.heap.size w w' := by
  obtain ⟨N, hN⟩ : ∃ N, xs.length = N := ⟨_, rfl⟩
  have HN := Lib.hid hN
  have HL := Lib.hid hl
  have HP := Lib.hid (pack_any (some ⟨b, off, none⟩) cap xs w hl hn hcm (by omega) (fun h => by cases h))
  have hpu := pack_unq (xs := xs) (by omega) N
  have hpl := pack_len (xs := xs) (by omega)
  rw [if_neg (by omega)] at hpu
  obtain ⟨p, hp⟩ : ∃ p, packU xs = p := ⟨_, rfl⟩
  rw [hp] at HP hpu hpl
  have HU := Lib.hid (fun (a : Option Addr) (k : Nat) (W : World) (h : Lie W a p) (h1 : p.length ≤ k) (h3 : a = none → k = 0) => unpack_any a k p (N : Int) W h h1 (by omega) h3 (by omega))
  rw [Int.toNat_natCast, hpu] at HU
  have HSU := Lib.hid (fun (a : Option Addr) (n k : Nat) (l : List UInt8) (W : World) (h : Lie W a l) (h1 : n = l.length) (h2 : l.length ≤ 10000) => csum_any a n k l W h h1 (by omega))
  have HUP := Lib.hid (fun (a : Option Addr) (n k : Nat) (l0 l : List UInt8) (W : World) (h : Lie W a l) (h1 : n = l.length) (h2 : l.length ≤ 10000) => cupd_any a n k l0 l W h h1 (by omega))
  have HCB := Lib.hid (fun (x y : List UInt8) (n : Nat) (W : World) (h1 : n = y.length) (h2 : n ≤ 10000) => ccomb_any x y n W h1 (by omega))
  rw [hN] at HP hn h0 h6 hc ⊢
  unfold maxLen at hcm
  obtain ⟨D, hD⟩ : ∃ D : Nat, (N : Int) - (c : Int) = D := ⟨N - c, by omega⟩
  have hDn : N - c = D := by omega
  have hwD : IntKind.i64.wrap (D : Int) = (D : Int) := by rw [IntKind.wrap_i64]; omega
  have htk : (xs.take c).length = c := by rw [List.length_take, hN]; omega
  have hdr : (xs.drop c).length = D := by rw [List.length_drop, hN]; exact hDn
  have htd : xs.take c ++ xs.drop c = xs := List.take_append_drop c xs
  have HTK := Lib.hid htk
  have HDR := Lib.hid hdr
  have HTD := Lib.hid htd
  have HDN := Lib.hid hDn
  have hd1 : decide ((600 : Int) < (N : Int)) = false := by simp; omega
  have hd2 : decide ((c : Int) < 0) = false := by simp
  have hd3 : decide ((N : Int) < (c : Int)) = false := by simp; omega
  have hd4 : decide ((s : Int) < 1) = false := by simp; omega
  have hd5 : decide ((100 : Int) < (s : Int)) = false := by simp; omega
  have hccap : c ≤ cap := by omega
  have hNcap : N ≤ cap := hn
  clear hl hp hpu hpl hN htk hdr htd
  go_enter Try.func8, Try.ntmps8
  go_wp2_with fail
  refine HP.out.mono ?_
  rintro e w2 ⟨v2, rfl, ho2, hb2⟩
  obtain ⟨a2, c2, rfl, hl2, hn2, _, ha2⟩ := ho2.slice
  have HL2 := Lib.hid hl2
  have HN2 := Lib.hid hn2
  have HA2 := Lib.hid ha2
  have HB2 := Lib.hid hb2
  clear ho2 hl2 hn2 ha2 hb2
  go_wp2_with fail
  refine (HU.out a2 c2 w2 HL2.out HN2.out HA2.out).mono ?_
  rintro e w3 ⟨v3, rfl, ho3, hb3⟩
  obtain ⟨a3, c3, rfl, hl3, hn3, hm3, _⟩ := ho3.slice
  obtain ⟨b3, o3, rfl, _⟩ := hl3.some_of (by rw [HN.out]; exact h0)
  dsimp only at hl3 hn3 ⊢
  rw [HN.out] at hn3 ⊢
  unfold maxLen at hm3
  have HB3 := Lib.hid (HB2.out.trans (hb3.mono HB2.out.size))
  have hdd := fun X : World => Below.drew (Below.refl X.heap.size X)
  have HX := Lib.hid (hl3.below (hdd w3) rfl)
  have HBb := Lib.hid (HL.out.below (HB3.out.trans ((hdd w3).mono HB3.out.size)) rfl)
  have HBD := Lib.hid (HB3.out.trans ((hdd w3).mono HB3.out.size))
  have hc3 : c ≤ c3 := by omega
  have hL3 := Lib.hid hl3
  clear ho3 hl3 hb3 hdd
  go_wp2_with fail
  refine wp_region_noPanic ?_
  refine wp_region_held_drew (S := fun X => Below w3.drew.heap.size w3.drew X) (by kernel_rfl) (Below.refl _ _) (fun hS0 => ?_)
  refine held_take (i := 0) (v := ?_) rfl (by kernel_rfl) (by kernel_rfl) (by kernel_rfl) (fun _ _ _ h => h) (by rfl) ?_ (by assumption) ?_
  rotate_left
  · intro X hSX
    try dsimp only at hSX
    go_simp <;> with_reducible rfl
  simp only [Act.put, List.setIfInBounds_toArray, List.set_cons_zero, List.set_cons_succ]
  refine held_take (i := 1) (v := ?_) rfl (by kernel_rfl) (by kernel_rfl) (by kernel_rfl) (fun _ _ _ h => h) (by rfl) ?_ (by assumption) ?_
  rotate_left
  · intro X hSX
    try dsimp only at hSX
    go_simp <;> with_reducible rfl
  simp only [Act.put, List.setIfInBounds_toArray, List.set_cons_zero, List.set_cons_succ]
  refine held_take (i := 2) (v := ?_) rfl (by kernel_rfl) (by kernel_rfl) (by kernel_rfl) (fun _ _ _ h => h) (by rfl) ?_ (by assumption) ?_
  rotate_left
  · intro X hSX
    try dsimp only at hSX
    go_simp <;> with_reducible rfl
  simp only [Act.put, List.setIfInBounds_toArray, List.set_cons_zero, List.set_cons_succ]
  refine held_take (i := 3) (v := ?_) rfl (by kernel_rfl) (by kernel_rfl) (by kernel_rfl) (fun _ _ _ h => h) (by rfl) ?_ (by assumption) ?_
  rotate_left
  · intro X hSX
    try dsimp only at hSX
    go_simp <;> with_reducible rfl
  simp only [Act.put, List.setIfInBounds_toArray, List.set_cons_zero, List.set_cons_succ]
  refine held_take (i := 4) (v := ?_) rfl (by kernel_rfl) (by kernel_rfl) (by kernel_rfl) (fun _ _ _ h => h) (by rfl) ?_ (by assumption) ?_
  rotate_left
  · intro X hSX
    try dsimp only at hSX
    go_simp <;> with_reducible rfl
  simp only [Act.put, List.setIfInBounds_toArray, List.set_cons_zero, List.set_cons_succ]
  refine held_take (i := 5) (v := ?_) rfl (by kernel_rfl) (by kernel_rfl) (by kernel_rfl) (fun _ _ _ h => h) (by rfl) ?_ (by assumption) ?_
  rotate_left
  · intro X hSX
    try dsimp only at hSX
    go_simp <;> with_reducible rfl
  simp only [Act.put, List.setIfInBounds_toArray, List.set_cons_zero, List.set_cons_succ]
  refine held_take (i := 6) (v := ?_) rfl (by kernel_rfl) (by kernel_rfl) (by kernel_rfl) (fun _ _ _ h => h) (by rfl) ?_ (by assumption) ?_
  rotate_left
  · intro X hSX
    try dsimp only at hSX
    go_simp <;> with_reducible rfl
  simp only [Act.put, List.setIfInBounds_toArray, List.set_cons_zero, List.set_cons_succ]
  refine held_take (i := 7) (v := ?_) rfl (by kernel_rfl) (by kernel_rfl) (by kernel_rfl) (fun _ _ _ h => h) (by rfl) ?_ (by assumption) ?_
  rotate_left
  · intro X hSX
    try dsimp only at hSX
    go_simp <;> with_reducible rfl
  simp only [Act.put, List.setIfInBounds_toArray, List.set_cons_zero, List.set_cons_succ]
  refine held_take (i := 8) (v := ?_) rfl (by kernel_rfl) (by kernel_rfl) (by kernel_rfl) (fun _ _ _ h => h) (by rfl) ?_ (by assumption) ?_
  rotate_left
  · intro X hSX
    try dsimp only at hSX
    go_simp <;> with_reducible rfl
  simp only [Act.put, List.setIfInBounds_toArray, List.set_cons_zero, List.set_cons_succ]
  refine held_take (i := 9) (v := ?_) rfl (by kernel_rfl) (by kernel_rfl) (by kernel_rfl) (fun _ _ _ h => h) (by rfl) ?_ (by assumption) ?_
  rotate_left
  · intro X hSX
    try dsimp only at hSX
    go_simp <;> with_reducible rfl
  simp only [Act.put, List.setIfInBounds_toArray, List.set_cons_zero, List.set_cons_succ]
  refine held_take (i := 10) (v := ?_) rfl (by kernel_rfl) (by kernel_rfl) (by kernel_rfl) (fun _ _ _ h => h) (by rfl) ?_ (by assumption) ?_
  rotate_left
  · intro X hSX
    try dsimp only at hSX
    go_simp <;> with_reducible rfl
  simp only [Act.put, List.setIfInBounds_toArray, List.set_cons_zero, List.set_cons_succ]
  refine held_take (i := 12) (v := ?_) rfl (by kernel_rfl) (by kernel_rfl) (by kernel_rfl) (fun _ _ _ h => h) (by rfl) ?_ (by assumption) ?_
  rotate_left
  · intro X hSX
    try dsimp only at hSX
    go_simp <;> with_reducible rfl
  simp only [Act.put, List.setIfInBounds_toArray, List.set_cons_zero, List.set_cons_succ]
  refine held_take (i := 13) (v := ?_) rfl (by kernel_rfl) (by kernel_rfl) (by kernel_rfl) (fun _ _ _ h => h) (by rfl) ?_ (by assumption) ?_
  rotate_left
  · intro X hSX
    try dsimp only at hSX
    go_simp <;> with_reducible rfl
  simp only [Act.put, List.setIfInBounds_toArray, List.set_cons_zero, List.set_cons_succ]
  refine held_take (i := 14) (v := ?_) rfl (by kernel_rfl) (by kernel_rfl) (by kernel_rfl) (fun _ _ _ h => h) (by rfl) ?_ (by assumption) ?_
  rotate_left
  · intro X hSX
    try dsimp only at hSX
    go_simp <;> with_reducible rfl
  simp only [Act.put, List.setIfInBounds_toArray, List.set_cons_zero, List.set_cons_succ]
  refine held_take (i := 16) (v := ?_) rfl (by kernel_rfl) (by kernel_rfl) (by kernel_rfl) (fun _ _ _ h => h) (by rfl) ?_ (by assumption) ?_
  rotate_left
  · intro X hSX
    try dsimp only at hSX
    go_simp <;> with_reducible rfl
  simp only [Act.put, List.setIfInBounds_toArray, List.set_cons_zero, List.set_cons_succ]
  refine held_take (i := 17) (v := ?_) rfl (by kernel_rfl) (by kernel_rfl) (by kernel_rfl) (fun _ _ _ h => h) (by rfl) ?_ (by assumption) ?_
  rotate_left
  · intro X hSX
    try dsimp only at hSX
    go_simp <;> with_reducible rfl
  simp only [Act.put, List.setIfInBounds_toArray, List.set_cons_zero, List.set_cons_succ]
  refine held_take (i := 18) (v := ?_) rfl (by kernel_rfl) (by kernel_rfl) (by kernel_rfl) (fun _ _ _ h => h) (by rfl) ?_ (by assumption) ?_
  rotate_left
  · intro X hSX
    try dsimp only at hSX
    go_simp <;> with_reducible rfl
  simp only [Act.put, List.setIfInBounds_toArray, List.set_cons_zero, List.set_cons_succ]
  refine held_take (i := 20) (v := ?_) rfl (by kernel_rfl) (by kernel_rfl) (by kernel_rfl) (fun _ _ _ h => h) (by rfl) ?_ (by assumption) ?_
  rotate_left
  · intro X hSX
    try dsimp only at hSX
    go_simp <;> with_reducible rfl
  simp only [Act.put, List.setIfInBounds_toArray, List.set_cons_zero, List.set_cons_succ]
  refine held_take (i := 21) (v := ?_) rfl (by kernel_rfl) (by kernel_rfl) (by kernel_rfl) (fun _ _ _ h => h) (by rfl) ?_ (by assumption) ?_
  rotate_left
  · intro X hSX
    try dsimp only at hSX
    go_simp <;> with_reducible rfl
  simp only [Act.put, List.setIfInBounds_toArray, List.set_cons_zero, List.set_cons_succ]
  refine held_take (i := 22) (v := ?_) rfl (by kernel_rfl) (by kernel_rfl) (by kernel_rfl) (fun _ _ _ h => h) (by rfl) ?_ (by assumption) ?_
  rotate_left
  · intro X hSX
    try dsimp only at hSX
    go_simp <;> with_reducible rfl
  simp only [Act.put, List.setIfInBounds_toArray, List.set_cons_zero, List.set_cons_succ]
  refine held_take (i := 23) (v := ?_) rfl (by kernel_rfl) (by kernel_rfl) (by kernel_rfl) (fun _ _ _ h => h) (by rfl) ?_ (by assumption) ?_
  rotate_left
  · intro X hSX
    try dsimp only at hSX
    go_simp <;> with_reducible rfl
  simp only [Act.put, List.setIfInBounds_toArray, List.set_cons_zero, List.set_cons_succ]
  refine held_call (i := 11) rfl (by kernel_rfl) (by rfl) (fun K' hK' => ?_)
  go_simp
  refine (HSU.out _ N c3 xs _ HX.out HN.out.symm (by rw [HN.out]; omega)).mono ?_
  rintro e w4 ⟨rfl, hb4⟩
  have HB4 := Lib.hid hb4
  clear hb4
  refine held_go hK' (HB4.out) ?_
  try simp only [Act.put, List.setIfInBounds_toArray, List.set_cons_zero, List.set_cons_succ]
  refine held_call (i := 15) rfl (by kernel_rfl) (by rfl) (fun K' hK' => ?_)
  go_simp
  refine (HSU.out _ c cap (xs.take c) _ (HBb.out.below HB4.out rfl).upto HTK.out.symm (by rw [HTK.out]; omega)).mono ?_
  rintro e w5 ⟨rfl, hb5⟩
  have HB5 := Lib.hid (HB4.out.trans (hb5.mono HB4.out.size))
  clear hb5
  refine held_go hK' (HB5.out) ?_
  try simp only [Act.put, List.setIfInBounds_toArray, List.set_cons_zero, List.set_cons_succ]
  refine held_call (i := 19) rfl (by kernel_rfl) (by rfl) (fun K' hK' => ?_)
  go_simp
  refine (HSU.out _ D (cap - c) (xs.drop c) _ ((HBb.out.below HB5.out rfl).from (c := c) (by rw [HN.out]; exact hNcap)) HDR.out.symm (by rw [HDR.out]; omega)).mono ?_
  rintro e w6 ⟨rfl, hb6⟩
  have HB6 := Lib.hid (HB5.out.trans (hb6.mono HB5.out.size))
  clear hb6
  refine held_go hK' (HB6.out) ?_
  try simp only [Act.put, List.setIfInBounds_toArray, List.set_cons_zero, List.set_cons_succ]
  refine held_call (i := 24) rfl (by kernel_rfl) (by rfl) (fun K' hK' => ?_)
  go_simp
  refine (HCB.out (xs.take c) (xs.drop c) D _ HDR.out.symm (by omega)).mono ?_
  rintro e w7 ⟨rfl, rfl⟩
  rw [HTD.out]
  refine held_go hK' (HB6.out) ?_
  try simp only [Act.put, List.setIfInBounds_toArray, List.set_cons_zero, List.set_cons_succ]
  refine held_take (i := 25) (v := ?_) rfl (by kernel_rfl) (by kernel_rfl) (by kernel_rfl) (fun _ _ _ h => h) (by rfl) ?_ (by assumption) ?_
  rotate_left
  · intro X hSX
    try dsimp only at hSX
    go_simp <;> with_reducible rfl
  simp only [Act.put, List.setIfInBounds_toArray, List.set_cons_zero, List.set_cons_succ]
  refine held_take (i := 26) (v := ?_) rfl (by kernel_rfl) (by kernel_rfl) (by kernel_rfl) (fun _ _ _ h => h) (by rfl) ?_ (by assumption) ?_
  rotate_left
  · intro X hSX
    try dsimp only at hSX
    go_simp <;> with_reducible rfl
  simp only [Act.put, List.setIfInBounds_toArray, List.set_cons_zero, List.set_cons_succ]
  refine held_take (i := 27) (v := ?_) rfl (by kernel_rfl) (by kernel_rfl) (by kernel_rfl) (fun _ _ _ h => h) (by rfl) ?_ (by assumption) ?_
  rotate_left
  · intro X hSX
    try dsimp only at hSX
    go_simp <;> with_reducible rfl
  simp only [Act.put, List.setIfInBounds_toArray, List.set_cons_zero, List.set_cons_succ]
  refine held_take (i := 28) (v := ?_) rfl (by kernel_rfl) (by kernel_rfl) (by kernel_rfl) (fun _ _ _ h => h) (by rfl) ?_ (by assumption) ?_
  rotate_left
  · intro X hSX
    try dsimp only at hSX
    go_simp <;> with_reducible rfl
  simp only [Act.put, List.setIfInBounds_toArray, List.set_cons_zero, List.set_cons_succ]
  refine held_take (i := 29) (v := ?_) rfl (by kernel_rfl) (by kernel_rfl) (by kernel_rfl) (fun _ _ _ h => h) (by rfl) ?_ (by assumption) ?_
  rotate_left
  · intro X hSX
    try dsimp only at hSX
    go_simp <;> with_reducible rfl
  simp only [Act.put, List.setIfInBounds_toArray, List.set_cons_zero, List.set_cons_succ]
  refine held_take (i := 30) (v := ?_) rfl (by kernel_rfl) (by kernel_rfl) (by kernel_rfl) (fun _ _ _ h => h) (by rfl) ?_ (by assumption) ?_
  rotate_left
  · intro X hSX
    try dsimp only at hSX
    go_simp <;> with_reducible rfl
  simp only [Act.put, List.setIfInBounds_toArray, List.set_cons_zero, List.set_cons_succ]
  refine held_take (i := 32) (v := ?_) rfl (by kernel_rfl) (by kernel_rfl) (by kernel_rfl) (fun _ _ _ h => h) (by rfl) ?_ (by assumption) ?_
  rotate_left
  · intro X hSX
    try dsimp only at hSX
    go_simp <;> with_reducible rfl
  simp only [Act.put, List.setIfInBounds_toArray, List.set_cons_zero, List.set_cons_succ]
  refine held_take (i := 33) (v := ?_) rfl (by kernel_rfl) (by kernel_rfl) (by kernel_rfl) (fun _ _ _ h => h) (by rfl) ?_ (by assumption) ?_
  rotate_left
  · intro X hSX
    try dsimp only at hSX
    go_simp <;> with_reducible rfl
  simp only [Act.put, List.setIfInBounds_toArray, List.set_cons_zero, List.set_cons_succ]
  refine held_take (i := 34) (v := ?_) rfl (by kernel_rfl) (by kernel_rfl) (by kernel_rfl) (fun _ _ _ h => h) (by rfl) ?_ (by assumption) ?_
  rotate_left
  · intro X hSX
    try dsimp only at hSX
    go_simp <;> with_reducible rfl
  simp only [Act.put, List.setIfInBounds_toArray, List.set_cons_zero, List.set_cons_succ]
  refine held_take (i := 36) (v := ?_) rfl (by kernel_rfl) (by kernel_rfl) (by kernel_rfl) (fun _ _ _ h => h) (by rfl) ?_ (by assumption) ?_
  rotate_left
  · intro X hSX
    try dsimp only at hSX
    go_simp <;> with_reducible rfl
  simp only [Act.put, List.setIfInBounds_toArray, List.set_cons_zero, List.set_cons_succ]
  refine held_call (i := 31) rfl (by kernel_rfl) (by rfl) (fun K' hK' => ?_)
  go_simp
  refine (HSU.out _ c c3 (xs.take c) _ (HX.out.below HB6.out rfl).upto HTK.out.symm (by rw [HTK.out]; omega)).mono ?_
  rintro e w8 ⟨rfl, hb8⟩
  have HB8 := Lib.hid (HB6.out.trans (hb8.mono HB6.out.size))
  clear hb8
  refine held_go hK' (HB8.out) ?_
  try simp only [Act.put, List.setIfInBounds_toArray, List.set_cons_zero, List.set_cons_succ]
  refine held_call (i := 35) rfl (by kernel_rfl) (by rfl) (fun K' hK' => ?_)
  go_simp
  refine (HUP.out _ D (c3 - c) (xs.take c) (xs.drop c) _ ((HX.out.below HB8.out rfl).from (c := c) (by rw [HN.out]; exact hn3)) HDR.out.symm (by rw [HDR.out]; omega)).mono ?_
  rintro e w9 ⟨rfl, hb9⟩
  rw [HTD.out]
  have HB9 := Lib.hid (HB8.out.trans (hb9.mono HB8.out.size))
  clear hb9
  refine held_go hK' (HB9.out) ?_
  try simp only [Act.put, List.setIfInBounds_toArray, List.set_cons_zero, List.set_cons_succ]
  refine held_call (i := 37) rfl (by kernel_rfl) (by rfl) (fun K' hK' => ?_)
  go_simp
  refine (HSU.out _ N cap xs _ (HBb.out.below HB9.out rfl) HN.out.symm (by rw [HN.out]; omega)).mono ?_
  rintro e w10 ⟨rfl, hb10⟩
  have HB10 := Lib.hid (HB9.out.trans (hb10.mono HB9.out.size))
  clear hb10
  refine held_go hK' (HB10.out) ?_
  try simp only [Act.put, List.setIfInBounds_toArray, List.set_cons_zero, List.set_cons_succ]
  refine held_take (i := 38) (v := ?_) rfl (by kernel_rfl) (by kernel_rfl) (by kernel_rfl) (fun _ _ _ h => h) (by rfl) ?_ (by assumption) ?_
  rotate_left
  · intro X hSX
    try dsimp only at hSX
    go_simp <;> with_reducible rfl
  simp only [Act.put, List.setIfInBounds_toArray, List.set_cons_zero, List.set_cons_succ]
  refine held_take (i := 39) (v := ?_) rfl (by kernel_rfl) (by kernel_rfl) (by kernel_rfl) (fun _ _ _ h => h) (by rfl) ?_ (by assumption) ?_
  rotate_left
  · intro X hSX
    try dsimp only at hSX
    go_simp <;> with_reducible rfl
  simp only [Act.put, List.setIfInBounds_toArray, List.set_cons_zero, List.set_cons_succ]
  refine wpAnyH_done (by kernel_rfl) ?_ _
  refine NoPanic.normal ?_
  have HBA := Lib.hid (HBD.out.trans (HB10.out.mono HBD.out.size))
  have HXA := Lib.hid (HX.out.below HB10.out rfl)
  have HbA := Lib.hid (HBb.out.below HB10.out rfl)
  generalize (if cap = c then (some ⟨b, off, none⟩ : Option Addr) else some ⟨b, off + c, none⟩) = z1
  generalize (if c3 = c then (some ⟨b3, o3, none⟩ : Option Addr) else some ⟨b3, o3 + c, none⟩) = z3
  have hbk := blkU_yes xs s hs1
  have hbl := parts_length s hs1 xs.length xs (Nat.le_refl _)
  have hbg := fun i h => parts_get s hs1 i xs h
  obtain ⟨LS, hLS⟩ : ∃ LS, blkU xs (s : Int) = LS := ⟨_, rfl⟩
  have hlen : LS.length = (N + s - 1) / s := by rw [← hLS, hbk, List.length_map, hbl, HN.out]
  have hget : ∀ i (h : i < LS.length), LS[i] = leafU ((xs.drop (i * s)).take s) := by
    intro i h
    subst hLS
    have h2 : i < (partsF s xs).length := by rw [hbk, List.length_map] at h; exact h
    simp only [hbk, List.getElem_map]
    rw [hbg i h2]
  have HBK := Lib.hid (fun (a : Option Addr) (k : Nat) (W : World) (h : Lie W a xs) (h2 : N ≤ k) (h3 : k ≤ maxLen) => blocks_any a N k xs (s : Int) W h HN.out.symm (by omega) h2 h3 (by omega))
  rw [hLS] at HBK
  obtain ⟨K, hK⟩ : ∃ K, LS.length = K := ⟨_, rfl⟩
  rw [hK] at hlen
  have hKb : K ≤ 1000 := by rw [hlen]; exact Nat.le_trans (Nat.div_le_self _ _) (by omega)
  have HK := Lib.hid hK
  have HGT := Lib.hid hget
  have HLEN := Lib.hid hlen
  have HRT := Lib.hid (fun (a : Option Addr) (k : Nat) (W : World) (h : Lin W a LS) (h2 : K ≤ k) (h3 : k ≤ maxLen) => root_go K LS a K k W (Nat.le_of_eq HK.out) h HK.out.symm (by omega) h2 h3)
  obtain ⟨rt, hrt⟩ : ∃ rt, rootU LS = rt := ⟨_, rfl⟩
  rw [hrt] at HRT
  have HPV := Lib.hid (fun i h => pro_ver LS i h)
  clear hbk hbl hbg hLS hget hK hlen
  go_wp2_with fail
  refine (HBK.out _ cap _ HbA.out hNcap (by unfold maxLen; omega)).mono ?_
  rintro e w11 ⟨v11, rfl, ho11, hb11⟩
  obtain ⟨a11, c11, rfl, hl11, hn11, hm11, _⟩ := ho11.slice
  rw [HK.out] at hn11 ⊢
  have HB11 := Lib.hid hb11
  have HL11 := Lib.hid hl11
  clear ho11 hb11 hl11
  go_wp2_with fail
  refine (HRT.out a11 c11 _ HL11.out hn11 hm11).mono ?_
  rintro e w12 ⟨rfl, hb12⟩
  have HB12 := Lib.hid (HB11.out.trans (hb12.mono HB11.out.size))
  clear hb12
  go_wp2_with fail
  refine (HBK.out _ c3 _ (HXA.out.below HB12.out rfl) hn3 (by unfold maxLen; omega)).mono ?_
  rintro e w13 ⟨v13, rfl, ho13, hb13⟩
  obtain ⟨a13, c13, rfl, hl13, hn13, hm13, _⟩ := ho13.slice
  rw [HK.out] at hn13 ⊢
  have HB13 := Lib.hid (HB12.out.trans (hb13.mono HB12.out.size))
  have HL13 := Lib.hid hl13
  clear ho13 hb13 hl13
  have HPR := Lib.hid (fun (k : Nat) (W : World) (h : Lin W a13 LS) => proof_any LS a13 K c13 (k : Int) W h HK.out.symm (by omega) hn13 hm13)
  have HVF := Lib.hid (fun (y : UInt64) (k : Nat) (pt : List UInt64) (a : Option Addr) (n q : Nat) (W : World) (h : Lin W a pt) (h1 : n = pt.length) (h2 : n ≤ 1000000) (h3 : n ≤ q) (h4 : q ≤ maxLen) (hk : k ≤ 1000) => verify_any rt y (k : Int) (K : Int) pt a n q W h h1 h2 h3 h4 (by omega) (by omega) (by omega) (by omega))
  have HLF := Lib.hid (fun (a : Option Addr) (n q : Nat) (l : List UInt8) (W : World) (h : Lie W a l) (h1 : n = l.length) (h2 : n ≤ 10000) => leaf_any a n q l W h h1 (by omega))
  have HRTE := Lib.hid hrt
  have HbL := Lib.hid (HbA.out.below HB13.out rfl)
  clear hrt hm11 hm13
  go_wp2
  go_loopw [11] (fun u11 wr => ∃ i : Nat, u11 = .int .i64 i ∧ i ≤ K ∧ Hid (Below w13.heap.size w13 wr)) (fun u11 _ => K - (intOf u11).toNat)
  case atStart => exact ⟨0, rfl, Nat.zero_le _, Lib.hid (.refl _ _)⟩
  case round =>
    obtain ⟨i, rfl, hi, hb⟩ := hrel
    by_cases hlt : i < K
    · have hiL : i < LS.length := by rw [HK.out]; exact hlt
      obtain ⟨M, hM⟩ : ∃ M : Nat, i * s = M := ⟨_, rfl⟩
      have hMN : M < N := by
        have h1 : i + 1 ≤ (N + s - 1) / s := by rw [← HLEN.out]; exact hlt
        have h2 := (Nat.le_div_iff_mul_le (by omega : 0 < s)).1 h1
        rw [Nat.succ_mul, hM] at h2
        omega
      have hMi : (i : Int) * (s : Int) = (M : Int) := by rw [← hM, Int.natCast_mul]
      obtain ⟨y, hy⟩ : ∃ y, LS[i] = y := ⟨_, rfl⟩
      have hgt := HGT.out i hiL
      rw [hy, hM] at hgt
      have hpv := HPV.out i hiL
      rw [HRTE.out, hy, HK.out] at hpv
      obtain ⟨pt, hpt⟩ : ∃ pt, pathU LS i = pt := ⟨_, rfl⟩
      rw [hpt] at hpv
      have hpr := HPR.out i wr (HL13.out.below hb.out rfl)
      rw [proI_yes LS i hiL, hpt] at hpr
      have hptl : pt.length ≤ 1000 := by
        rw [← hpt]
        exact Nat.le_trans (path10 LS i (by rw [HK.out]; omega)) (by decide)
      have HPRR := Lib.hid hpr
      have HPVV := Lib.hid hpv
      have HGG := Lib.hid hgt
      have HPT := Lib.hid hptl
      have hMcap : M < cap := by omega
      have hMc : ¬ cap = M := by omega
      have hbW := HbL.out.below hb.out rfl
      have hp1 : N ≤ M + s → leafU ((xs.drop M).take (N - M)) = y := by
        intro h
        rw [hgt, List.take_of_length_le (by rw [List.length_drop, HN.out]; omega), List.take_of_length_le (by rw [List.length_drop, HN.out]; omega)]
      have HP1 := Lib.hid hp1
      clear hM hiL hy hgt hpv hpt hpr hptl hp1
      by_cases hms : N ≤ M + s
      · have hll : ((xs.drop M).take (N - M)).length = N - M := by rw [List.length_take, List.length_drop, HN.out]; omega
        have hlf := fun (q : Nat) (W : World) (h : Below wr.heap.size wr W) => HLF.out (some ⟨b, off + M, none⟩) (N - M) q ((xs.drop M).take (N - M)) W ((hbW.below h rfl).part2 M (N - M)) hll.symm (by omega)
        rw [HP1.out hms] at hlf
        have HLFF := Lib.hid hlf
        have hmin : min ((M : Int) + (s : Int)) (N : Int) = (N : Int) := by omega
        clear hlf hll hbW
        go_wp2_with fail
        refine HPRR.out.mono ?_
        rintro e w14 ⟨v14, rfl, ho14, hb14⟩
        obtain ⟨a14, c14, rfl, hl14, hn14, hm14, _⟩ := ho14.slice
        dsimp only at hl14 hn14 ⊢
        have HL14 := Lib.hid hl14
        have HB14 := Lib.hid hb14
        have HM14 := Lib.hid hm14
        have HN14 := Lib.hid hn14
        clear ho14 hl14 hb14 hm14 hn14
        go_wp2_with fail
        refine (HLFF.out _ _ HB14.out).mono ?_
        rintro e w15 ⟨rfl, rfl⟩
        go_wp2_with fail
        refine (HVF.out y i pt a14 pt.length c14 _ HL14.out rfl (by have := HPT.out; omega) HN14.out HM14.out (by omega)).mono ?_
        rintro e w16 ⟨rfl, hb16⟩
        rw [HPVV.out]
        have HB16 := Lib.hid (hb.out.trans ((HB14.out.trans (hb16.mono HB14.out.size)).mono hb.out.size))
        clear hb16
        go_wp2
        go_roundw
        case rel => exact ⟨i + 1, by rw [Int.natCast_add]; rfl, by omega, HB16⟩
        case measure => simp [intOf]; omega
      · obtain ⟨E, hE⟩ : ∃ E : Nat, M + s = E := ⟨_, rfl⟩
        have hmin : min ((M : Int) + (s : Int)) (N : Int) = (E : Int) := by omega
        have hll : ((xs.drop M).take s).length = E - M := by rw [List.length_take, List.length_drop, HN.out]; omega
        have hlf := fun (q : Nat) (W : World) (h : Below wr.heap.size wr W) => HLF.out (some ⟨b, off + M, none⟩) (E - M) q ((xs.drop M).take s) W ((hbW.below h rfl).part2 M s) hll.symm (by omega)
        rw [← HGG.out] at hlf
        have HLFF := Lib.hid hlf
        have hms2 : E < N := by omega
        clear hlf hll hbW hms
        go_wp2_with fail
        refine HPRR.out.mono ?_
        rintro e w14 ⟨v14, rfl, ho14, hb14⟩
        obtain ⟨a14, c14, rfl, hl14, hn14, hm14, _⟩ := ho14.slice
        dsimp only at hl14 hn14 ⊢
        have HL14 := Lib.hid hl14
        have HB14 := Lib.hid hb14
        have HM14 := Lib.hid hm14
        have HN14 := Lib.hid hn14
        clear ho14 hl14 hb14 hm14 hn14
        go_wp2_with fail
        refine (HLFF.out _ _ HB14.out).mono ?_
        rintro e w15 ⟨rfl, rfl⟩
        go_wp2_with fail
        refine (HVF.out y i pt a14 pt.length c14 _ HL14.out rfl (by have := HPT.out; omega) HN14.out HM14.out (by omega)).mono ?_
        rintro e w16 ⟨rfl, hb16⟩
        rw [HPVV.out]
        have HB16 := Lib.hid (hb.out.trans ((HB14.out.trans (hb16.mono HB14.out.size)).mono hb.out.size))
        clear hb16
        go_wp2
        go_roundw
        case rel => exact ⟨i + 1, by rw [Int.natCast_add]; rfl, by omega, HB16⟩
        case measure => simp [intOf]; omega
    · obtain rfl : i = K := by omega
      have HBE := Lib.hid (HBA.out.trans ((HB13.out.trans (hb.out.mono HB13.out.size)).mono HBA.out.size))
      have hq : ((N : Int) + (s : Int) - 1) / (s : Int) = (i : Int) := by
        rw [HLEN.out, show ((N : Int) + (s : Int) - 1) = ((N + s - 1 : Nat) : Int) by omega]
        exact (Int.natCast_ediv _ _).symm
      have HFR := Lib.hid (fun W => forms_any W)
      go_wp2_with fail
      refine (HFR.out _).mono ?_
      rintro e w20 ⟨rfl, hb20⟩
      go_wp2
      go_ret
      exact ⟨rfl, HBE.out.trans (hb20.mono HBE.out.size)⟩
end Go.Proofs.Ytihiccccpjakgaa
