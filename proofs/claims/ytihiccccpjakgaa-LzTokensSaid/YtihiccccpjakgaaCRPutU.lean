/-
  The document's own PutUint.
-/
import Derived.Test.YtihiccccpjakgaaCPutU
namespace Go.Proofs.Ytihiccccpjakgaa
open Go.RowKit

set_option maxRecDepth 100000 in
set_option maxHeartbeats 600000 in
theorem rpuint_any (ad : Option Addr) (cap : Nat) (xs : List UInt8) (n : Nat) (w : World) (hl : Lie w ad xs) (hac : ad = none → cap = 0) (hs : xs.length ≤ 1000000) (hn : n < 18446744073709551616) :
    Calls Try.prog 32 #[.slice ad xs.length cap, .int .u64 n] w (Gives w (xs ++ enc n)) := by
  have hown0 := Own.made w
  have hl0 : Lie (w.alloc (.cells #[] 5)) ad xs := hl.below ((Below.refl _ _).alloc (Nat.le_refl _) _) rfl
  have HA := Lib.hid hac
  clear hl hac
  go_enter Try.func32, Try.ntmps32
  go_wp2_with (at_builtin; refine wpList_append_u rfl (.tmp 6) (.tmp 7) rfl w.heap.size _ [] rfl hown0 ad _ cap xs HA.out hl0 rfl rfl (by simp; omega) (by simp) ?_; intro v1 w1 hown1 hgrow1)
  have hb1 : Below w.heap.size w w1 := below_new hgrow1 (fun k hk => (hown0.lt k hk).1)
  have HO1 := Lib.hid hown1
  have HB1 := Lib.hid hb1
  clear hown0 hl0 hown1 hgrow1 hb1
  go_loopw [1, 5] (fun vm v wr => ∃ (m : Nat) (l : List UInt8), vm = .int .u64 m ∧ m < 18446744073709551616 ∧ enc n = l ++ enc m ∧ Own wr w.heap.size v (xs ++ l) ∧ Below w.heap.size w wr) (fun vm _ _ => (intOf vm).toNat)
  case atStart => exact ⟨n, [], rfl, hn, rfl, by simpa using HO1.out, HB1.out⟩
  case round =>
    obtain ⟨m, l, rfl, hm, he, hown, hb⟩ := hrel
    have hel := enc_len n hn
    rw [he, List.length_append] at hel
    have hlen : (xs ++ l).length + 1 ≤ 10000000 := by rw [List.length_append]; omega
    have hsz := hb.size
    have HE := Lib.hid he
    clear he
    by_cases hlt : m < 128
    · have H1 := Lib.hid (Lie.one wr m (UInt8.ofNat m) (by rw [toNat8 m (by omega)]))
      have HO := Lib.hid (hown.below ((Below.refl _ _).alloc (Nat.le_refl _) (.cells #[.int .u8 (m : Int)] 5)))
      have HB := Lib.hid hb
      have HS := Lib.hid hsz
      clear hb hown
      go_wp2_with (at_builtin; refine wpList_append_u rfl (.tmp 20) (.tmp 23) rfl w.heap.size _ _ rfl HO.out _ 1 1 [UInt8.ofNat m] (fun h => by cases h) H1.out rfl rfl hlen (by simp; omega) ?_; intro v1 w1 hown1 hgrow1)
      go_ret
      refine ⟨v1, rfl, ?_, (HB.out.alloc HS.out _).grown hgrow1 (by simp; omega) (fun k hk => (HO.out.lt k hk).1)⟩
      rw [HE.out, enc_small m hlt, ← List.append_assoc]
      exact hown1
    · have hr : UInt8.toNat (UInt8.ofNat (m % 128 + 128)) = m % 128 + 128 := toNat8 _ (by omega)
      have H1 := Lib.hid (Lie.one wr ((m : Int) % 128 + 128) (UInt8.ofNat (m % 128 + 128)) (by rw [hr]; omega))
      have HO := Lib.hid (hown.below ((Below.refl _ _).alloc (Nat.le_refl _) (.cells #[.int .u8 ((m : Int) % 128 + 128)] 5)))
      have HB := Lib.hid hb
      have HS := Lib.hid hsz
      clear hb hown hr
      go_wp2_with (at_builtin; refine wpList_append_u rfl (.tmp 11) (.tmp 16) rfl w.heap.size _ _ rfl HO.out _ 1 1 [UInt8.ofNat (m % 128 + 128)] (fun h => by cases h) H1.out rfl rfl hlen (by simp; omega) ?_; intro v1 w1 hown1 hgrow1)
      refine ⟨⟨m / 128, l ++ [UInt8.ofNat (m % 128 + 128)], by simp, by omega, ?_, by rw [← List.append_assoc]; exact hown1, (HB.out.alloc HS.out _).grown hgrow1 (by simp; omega) (fun k hk => (HO.out.lt k hk).1)⟩, by simp [intOf]; omega⟩
      rw [HE.out, enc_big m hlt, List.append_assoc]
      rfl

end Go.Proofs.Ytihiccccpjakgaa
