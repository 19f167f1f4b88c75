/-
  The document's own functions that write.
-/
import Derived.Test.YtckbgefeamkjnaaCPut
namespace Go.Proofs.Ytckbgefeamkjnaa
open Go.RowKit

set_option maxRecDepth 100000 in
set_option maxHeartbeats 600000 in
theorem rpuint_any (ad : Option Addr) (cap : Nat) (xs : List UInt8) (n : Nat) (w : World) (hl : Lie w ad xs) (hac : ad = none → cap = 0) (hs : xs.length ≤ 1000000) (hn : n < 18446744073709551616) :
    Calls Try.prog 26 #[.slice ad xs.length cap, .int .u64 n] w (Gives w (xs ++ enc n)) := by
  have hown0 := Own.made w
  have hl0 : Lie (w.alloc (.cells #[] 5)) ad xs := hl.below ((Below.refl _ _).alloc (Nat.le_refl _) _) rfl
  have HA := Lib.hid hac
  clear hl hac
  go_enter Try.func26, Try.ntmps26
  go_wp2_with (at_builtin; refine wpList_append_u rfl (.tmp 6) (.tmp 7) rfl w.heap.size _ [] rfl hown0 ad _ cap xs HA.out hl0 rfl rfl (by simp; omega) (by simp) ?_; intro v1 w1 hown1 hgrow1)
  have hb1 : Below w.heap.size w w1 := below_own hgrow1 (fun k hk => (hown0.lt k hk).1)
  have HO1 := Lib.hid hown1
  have HB1 := Lib.hid hb1
  clear hown0 hl0 hown1 hgrow1 hb1
  go_loopw [1, 5] (fun vm v wr => ∃ (m : Nat) (l : List UInt8), vm = .int .u64 m ∧ m < 18446744073709551616 ∧ enc n = l ++ enc m ∧ Own wr w.heap.size v (xs ++ l) ∧ Below w.heap.size w wr) (fun vm _ _ => (intOf vm).toNat)
  case atStart => exact ⟨n, [], rfl, hn, rfl, by simpa using HO1.out, HB1.out⟩
  case round =>
    obtain ⟨m, l, rfl, hm, he, hown, hb⟩ := hrel
    have hel := enc_len n hn
    rw [he, List.length_append] at hel
    have hlen : (xs ++ l).length + 1 ≤ 10000000 := by rw [List.length_append]; omega
    have hsz := hb.size
    have HE := Lib.hid he
    clear he
    by_cases hlt : m < 128
    · have H1 := Lib.hid (Lie.one wr m (UInt8.ofNat m) (by rw [toNat8 m (by omega)]))
      have HO := Lib.hid (hown.below ((Below.refl _ _).alloc (Nat.le_refl _) (.cells #[.int .u8 (m : Int)] 5)))
      have HB := Lib.hid hb
      have HS := Lib.hid hsz
      clear hb hown
      go_wp2_with (at_builtin; refine wpList_append_u rfl (.tmp 20) (.tmp 23) rfl w.heap.size _ _ rfl HO.out _ 1 1 [UInt8.ofNat m] (fun h => by cases h) H1.out rfl rfl hlen (by simp; omega) ?_; intro v1 w1 hown1 hgrow1)
      go_ret
      refine ⟨v1, rfl, ?_, (HB.out.alloc HS.out _).grown hgrow1 (by simp; omega) (fun k hk => (HO.out.lt k hk).1)⟩
      rw [HE.out, enc_small m hlt, ← List.append_assoc]
      exact hown1
    · have hr : UInt8.toNat (UInt8.ofNat (m % 128 + 128)) = m % 128 + 128 := toNat8 _ (by omega)
      have H1 := Lib.hid (Lie.one wr ((m : Int) % 128 + 128) (UInt8.ofNat (m % 128 + 128)) (by rw [hr]; omega))
      have HO := Lib.hid (hown.below ((Below.refl _ _).alloc (Nat.le_refl _) (.cells #[.int .u8 ((m : Int) % 128 + 128)] 5)))
      have HB := Lib.hid hb
      have HS := Lib.hid hsz
      clear hb hown hr
      go_wp2_with (at_builtin; refine wpList_append_u rfl (.tmp 11) (.tmp 16) rfl w.heap.size _ _ rfl HO.out _ 1 1 [UInt8.ofNat (m % 128 + 128)] (fun h => by cases h) H1.out rfl rfl hlen (by simp; omega) ?_; intro v1 w1 hown1 hgrow1)
      refine ⟨⟨m / 128, l ++ [UInt8.ofNat (m % 128 + 128)], by simp, by omega, ?_, by rw [← List.append_assoc]; exact hown1, (HB.out.alloc HS.out _).grown hgrow1 (by simp; omega) (fun k hk => (HO.out.lt k hk).1)⟩, by simp [intOf]; omega⟩
      rw [HE.out, enc_big m hlt, List.append_assoc]
      rfl

set_option maxRecDepth 100000 in
set_option maxHeartbeats 600000 in
theorem rpint_any (ad : Option Addr) (cap : Nat) (xs : List UInt8) (n : Int) (w : World) (hl : Lie w ad xs) (hac : ad = none → cap = 0) (hs : xs.length ≤ 1000000) (h0 : -9223372036854775808 ≤ n) (h1 : n ≤ 9223372036854775807) :
    Calls Try.prog 27 #[.slice ad xs.length cap, .int .i64 n] w (Gives w (xs ++ enc (cod n))) := by
  have HA := Lib.hid hac
  have hcl := cod_lt n h0 h1
  clear hac
  go_enter Try.func27, Try.ntmps27
  go_wp2_with fail
  refine (rcode_any n _ h0 h1).mono ?_
  rintro e w' ⟨rfl, rfl⟩
  go_wp2_with fail
  refine (rpuint_any ad cap xs _ _ hl HA.out hs hcl).mono ?_
  rintro e w2 ⟨v, rfl, hown, hb⟩
  have HO := Lib.hid hown
  have HB2 := Lib.hid hb
  clear hown hb
  go_wp2
  go_ret
  exact ⟨v, rfl, HO.out, HB2.out⟩

set_option maxRecDepth 100000 in
set_option maxHeartbeats 600000 in
theorem rptext_any (ad : Option Addr) (cap : Nat) (xs : List UInt8) (s : ByteArray) (w : World) (hl : Lie w ad xs) (hac : ad = none → cap = 0) (hs : xs.length ≤ 1000000) (hss : s.size ≤ 100000) :
    Calls Try.prog 28 #[.slice ad xs.length cap, .string s] w (Gives w (xs ++ encT s)) := by
  have HA := Lib.hid hac
  have hel := enc_len s.size (by omega)
  have hlen : (xs ++ enc s.size).length + s.size ≤ 10000000 := by rw [List.length_append]; omega
  clear hac
  go_enter Try.func28, Try.ntmps28
  go_wp2_with fail
  refine (rpuint_any ad cap xs _ _ hl HA.out hs (by omega)).mono ?_
  rintro e w1 ⟨v, rfl, hown, hb⟩
  have HO := Lib.hid hown
  have HB := Lib.hid hb
  clear hown hb
  go_wp2_with (at_builtin; refine wpList_append_s rfl (.tmp 9) (.tmp 10) rfl w.heap.size _ _ rfl HO.out s rfl hlen HB.out.size ?_; intro v2 w2 hown2 hgrow2)
  go_ret
  refine ⟨_, rfl, ?_, HB.out.grown hgrow2 HB.out.size (fun k hk => (HO.out.lt k hk).1)⟩
  unfold encT
  rw [← List.append_assoc]
  exact hown2

set_option maxRecDepth 100000 in
set_option maxHeartbeats 600000 in
theorem rpbool_any (ad : Option Addr) (cap : Nat) (xs : List UInt8) (b : Bool) (w : World) (hl : Lie w ad xs) (hac : ad = none → cap = 0) (hs : xs.length ≤ 1000000) :
    Calls Try.prog 29 #[.slice ad xs.length cap, .bool b] w (Gives w (xs ++ encB b)) := by
  have hown0 := Own.made w
  have hl0 : Lie (w.alloc (.cells #[] 5)) ad xs := hl.below ((Below.refl _ _).alloc (Nat.le_refl _) _) rfl
  have HA := Lib.hid hac
  clear hl hac
  cases b
  · go_enter Try.func29, Try.ntmps29
    go_wp2_with (first
      | (at_builtin; refine wpList_append_u rfl (.tmp 6) (.tmp 7) rfl w.heap.size _ [] rfl hown0 ad _ cap xs HA.out hl0 rfl rfl (by simp; omega) (by simp) ?_; intro v1 w1 hown1 hgrow1)
      | (at_builtin; refine wpList_append_u rfl (.tmp 13) (.tmp 14) rfl w.heap.size _ _ rfl (hown1.below ((Below.refl _ _).alloc (Nat.le_refl _) (.cells #[.int .u8 0] 5))) _ 1 1 [(0 : UInt8)] (fun h => by cases h) (Lie.one w1 0 (0 : UInt8) rfl) rfl rfl (by simp; omega) (by have := hgrow1.size; simp at this ⊢; omega) ?_; intro v2 w2 hown2 hgrow2))
    go_ret
    have hb1 : Below w.heap.size w w1 := below_own hgrow1 (fun k hk => (hown0.lt k hk).1)
    exact ⟨v2, rfl, hown2, (hb1.alloc hb1.size _).grown hgrow2 (by have := hb1.size; simp; omega) (fun k hk => (hown1.lt k hk).1)⟩
  · go_enter Try.func29, Try.ntmps29
    go_wp2_with (first
      | (at_builtin; refine wpList_append_u rfl (.tmp 6) (.tmp 7) rfl w.heap.size _ [] rfl hown0 ad _ cap xs HA.out hl0 rfl rfl (by simp; omega) (by simp) ?_; intro v1 w1 hown1 hgrow1)
      | (at_builtin; refine wpList_append_u rfl (.tmp 10) (.tmp 11) rfl w.heap.size _ _ rfl (hown1.below ((Below.refl _ _).alloc (Nat.le_refl _) (.cells #[.int .u8 1] 5))) _ 1 1 [(1 : UInt8)] (fun h => by cases h) (Lie.one w1 1 (1 : UInt8) rfl) rfl rfl (by simp; omega) (by have := hgrow1.size; simp at this ⊢; omega) ?_; intro v2 w2 hown2 hgrow2))
    go_ret
    have hb1 : Below w.heap.size w w1 := below_own hgrow1 (fun k hk => (hown0.lt k hk).1)
    exact ⟨v2, rfl, hown2, (hb1.alloc hb1.size _).grown hgrow2 (by have := hb1.size; simp; omega) (fun k hk => (hown1.lt k hk).1)⟩
end Go.Proofs.Ytckbgefeamkjnaa
