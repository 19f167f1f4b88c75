/-
  The bytes of a number, made by the program.
-/
import Derived.Test.YtihiccccpjakgaaApp
import Derived.Test.YtihiccccpjakgaaCMath
import Derived.IntWalk
namespace Go.Proofs.Ytihiccccpjakgaa
open Go.RowKit

/-- A call gives a new slice with the bytes l, and what was there is as it was. -/
def Gives (w : World) (l : List UInt8) (e : Ending) (w' : World) : Prop := ∃ v, e = .returned v ∧ Own w' w.heap.size v l ∧ Below w.heap.size w w'

theorem enc_len (n : Nat) (h : n < 18446744073709551616) : (enc n).length ≤ 10 := by
  have aux : ∀ k m : Nat, m < 128 ^ k → (enc m).length ≤ max k 1 := by
    intro k
    induction k with
    | zero => intro m hm; rw [enc_small m (by omega)]; simp
    | succ k ih =>
      intro m hm
      by_cases h : m < 128
      · rw [enc_small m h]; simp
      · rw [enc_big m h, List.length_cons]
        rw [Nat.pow_succ] at hm
        have h1 := ih (m / 128) (by omega)
        have h2 : k ≠ 0 := by rintro rfl; simp at hm; omega
        omega
  exact aux 10 n (by omega)

set_option maxRecDepth 100000 in
set_option maxHeartbeats 600000 in
theorem number_any (n : Nat) (w : World) (hn : n < 18446744073709551616) :
    Calls Try.prog 49 #[.int .u64 n] w (Gives w (enc n)) := by
  go_enter Try.func49, Try.ntmps49
  go_wp2
  go_loopw [0, 3] (fun vm v wr => ∃ (m : Nat) (l : List UInt8), vm = .int .u64 m ∧ m < 18446744073709551616 ∧ enc n = l ++ enc m ∧ Own wr w.heap.size v l ∧ Below w.heap.size w wr) (fun vm _ _ => (intOf vm).toNat)
  case atStart => exact ⟨n, [], rfl, hn, rfl, .ofNil _ _, .refl _ _⟩
  case round =>
    obtain ⟨m, l, rfl, hm, he, hown, hb⟩ := hrel
    have hel := enc_len n hn
    rw [he, List.length_append] at hel
    have hsz := hb.size
    by_cases hlt : m < 128
    · have H1 := Lib.hid (Lie.one wr m (UInt8.ofNat m) (by rw [toNat8 m (by omega)]))
      have HO := Lib.hid (hown.below ((Below.refl _ _).alloc (Nat.le_refl _) (.cells #[.int .u8 (m : Int)] 5)))
      have HE := Lib.hid he
      have HB := Lib.hid hb
      have HS := Lib.hid hsz
      clear he hb hown
      go_wp2_with (at_builtin; refine wpList_append_u rfl (.tmp 15) (.tmp 18) rfl w.heap.size _ l rfl HO.out _ 1 1 [UInt8.ofNat m] (fun h => by cases h) H1.out rfl rfl (by omega) (by simp; omega) ?_; intro v1 w1 hown1 hgrow1)
      go_ret
      refine ⟨v1, rfl, ?_, (HB.out.alloc HS.out _).grown hgrow1 (by simp; omega) (fun k hk => (HO.out.lt k hk).1)⟩
      rw [HE.out, enc_small m hlt]
      exact hown1
    · have hr : UInt8.toNat (UInt8.ofNat (m % 128 + 128)) = m % 128 + 128 := toNat8 _ (by omega)
      have H1 := Lib.hid (Lie.one wr ((m : Int) % 128 + 128) (UInt8.ofNat (m % 128 + 128)) (by rw [hr]; omega))
      have HO := Lib.hid (hown.below ((Below.refl _ _).alloc (Nat.le_refl _) (.cells #[.int .u8 ((m : Int) % 128 + 128)] 5)))
      have HE := Lib.hid he
      have HB := Lib.hid hb
      have HS := Lib.hid hsz
      clear he hb hown hr
      go_wp2_with (at_builtin; refine wpList_append_u rfl (.tmp 8) (.tmp 13) rfl w.heap.size _ l rfl HO.out _ 1 1 [UInt8.ofNat (m % 128 + 128)] (fun h => by cases h) H1.out rfl rfl (by omega) (by simp; omega) ?_; intro v1 w1 hown1 hgrow1)
      refine ⟨⟨m / 128, l ++ [UInt8.ofNat (m % 128 + 128)], by simp, by omega, ?_, hown1, (HB.out.alloc HS.out _).grown hgrow1 (by simp; omega) (fun k hk => (HO.out.lt k hk).1)⟩, by simp [intOf]; omega⟩
      rw [HE.out, enc_big m hlt, List.append_assoc]
      rfl
end Go.Proofs.Ytihiccccpjakgaa
