/-
  The hash of a block, by the program and by the specification.
-/
import Derived.Test.YtihiccccpjakgaaNWith
namespace Go.Proofs.Ytihiccccpjakgaa
open Go.RowKit
/-- a string hashed on -/
def accU (h : UInt64) (b : List UInt8) : UInt64 := b.foldl fnv h
theorem accU_nil (h : UInt64) : accU h [] = h := rfl
theorem accU_snoc (h : UInt64) (b : List UInt8) (x : UInt8) : accU h (b ++ [x]) = fnv (accU h b) x := by unfold accU; rw [List.foldl_append]; rfl
theorem accU_append (h : UInt64) (b c : List UInt8) : accU h (b ++ c) = accU (accU h b) c := by unfold accU; rw [List.foldl_append]
theorem accU_next (h : UInt64) (b : List UInt8) (k : Nat) (hk : k < b.length) : fnv (accU h (b.take k)) b[k] = accU h (b.take (k + 1)) := by
  rw [List.take_succ_eq_append_getElem hk, accU_snoc]
theorem hashU_acc (b : List UInt8) : hashU b = accU basis b := rfl
theorem leafU_acc (b : List UInt8) : leafU b = accU (fnv basis 0) b := rfl
theorem with_lit0 (w : World) : Calls Try.prog 46 #[.int .u64 14695981039346656037, .int .u8 0] w fun e w' => e = .returned (.int .u64 (gv (fnv basis 0))) ∧ w = w' := by
  have h := with_any basis 0 w
  rwa [gv_basis, ev_zero] at h
theorem with_lit1 (w : World) : Calls Try.prog 46 #[.int .u64 14695981039346656037, .int .u8 1] w fun e w' => e = .returned (.int .u64 (gv (fnv basis 1))) ∧ w = w' := by
  have h := with_any basis 1 w
  rwa [gv_basis, ev_one] at h
attribute [local irreducible] accU fnv basis
set_option maxRecDepth 100000 in
set_option maxHeartbeats 400000 in
theorem leaf_any (ad : Option Addr) (n cap : Nat) (xs : List UInt8) (w : World) (hl : Lie w ad xs) (hn : n = xs.length) (hm : n ≤ 1152921504606846976) :
    Calls Try.prog 26 #[.slice ad n cap] w fun e w' => e = .returned (.int .u64 (gv (leafU xs))) ∧ w = w' := by
  have HL := Lib.hid hl
  have HN := Lib.hid hn
  have HA := Lib.hid (leafU_acc xs)
  clear hl hn
  go_enter Try.func26, Try.ntmps26
  go_wp2_with fail
  refine (with_lit0 _).mono ?_
  rintro e w' ⟨rfl, rfl⟩
  go_wp2
  go_loop [3, 9] (fun vh vk => ∃ k : Nat, k ≤ n ∧ vk = .int .i64 k ∧ vh = .int .u64 (gv (accU (fnv basis 0) (xs.take k)))) (fun _ i => n - (intOf i).toNat)
  case atStart => exact ⟨0, by omega, rfl, by rw [List.take_zero, accU_nil]⟩
  case round =>
    obtain ⟨k, hk, rfl, rfl⟩ := hrel
    by_cases hlt : k < n
    · have hkx : k < xs.length := by have := HN.out; omega
      obtain ⟨b, off, rfl, _, hc⟩ := HL.out.ev (by omega)
      have hck := hc k hkx
      have HX := Lib.hid (accU_next (fnv basis 0) xs k hkx)
      generalize xs[k] = c at hck HX
      have hj1 : (k : Int) < (n : Int) := by omega
      clear hc
      go_wp2_with fail
      refine (with_any _ _ _).mono ?_
      rintro e w' ⟨rfl, rfl⟩
      go_wp2
      go_round
      case rel => exact ⟨k + 1, by omega, by go_num, by rw [HX.out]⟩
      case measure => simp [intOf]; omega
    · obtain rfl : k = n := by omega
      go_wp2
      go_ret
      exact ⟨by rw [HA.out, HN.out, List.take_length]; rfl, rfl⟩

end Go.Proofs.Ytihiccccpjakgaa
