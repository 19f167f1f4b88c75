/-
  The hash of two hashes, by the program.
-/
import Derived.Test.YtihiccccpjakgaaNLeaf
import Derived.Test.YtihiccccpjakgaaNLin
namespace Go.Proofs.Ytihiccccpjakgaa
open Go.RowKit
/-- numbers hashed on -/
def numsU (h : UInt64) (ns : List UInt64) : UInt64 := ns.foldl (fun h n => accU h (beU n 8)) h
theorem numsU_nil (h : UInt64) : numsU h [] = h := rfl
theorem numsU_next (h : UInt64) (ns : List UInt64) (k : Nat) (hk : k < ns.length) : accU (numsU h (ns.take k)) (beU ns[k] 8) = numsU h (ns.take (k + 1)) := by
  unfold numsU
  rw [List.take_succ_eq_append_getElem hk, List.foldl_append]
  simp only [List.foldl_cons, List.foldl_nil]
theorem accU_cons (h : UInt64) (x : UInt8) (b : List UInt8) : accU h (x :: b) = accU (fnv h x) b := by
  unfold accU; simp only [List.foldl_cons]
theorem nodeU_nums (a b : UInt64) : nodeU a b = numsU (fnv basis 1) [a, b] := by
  unfold nodeU numsU
  rw [hashU_acc, accU_cons, accU_append]
  simp only [List.foldl_cons, List.foldl_nil]
theorem be_step (h n : UInt64) (j : Nat) : fnv (accU h (beU n j)) (byteU n (7 - j)) = accU h (beU n (j + 1)) := by rw [beU_succ, accU_snoc]
attribute [local irreducible] accU fnv basis byteU beU numsU
set_option maxRecDepth 100000 in
set_option maxHeartbeats 400000 in
theorem numbers_any (h : UInt64) (ad : Option Addr) (m cap : Nat) (ns : List UInt64) (w : World) (hl : Lin w ad ns) (hn : m = ns.length) (hm : m ≤ 1000000) :
    Calls Try.prog 56 #[.int .u64 (gv h), .slice ad m cap] w fun e w' => e = .returned (.int .u64 (gv (numsU h ns))) ∧ w = w' := by
  have HL := Lib.hid hl
  have HN := Lib.hid hn
  clear hl hn
  go_enter Try.func56, Try.ntmps56
  go_wp2
  go_loop [0, 10] (fun vh vk => ∃ k : Nat, k ≤ m ∧ vk = .int .i64 k ∧ vh = .int .u64 (gv (numsU h (ns.take k)))) (fun _ i => m - (intOf i).toNat)
  case atStart => exact ⟨0, by omega, rfl, by rw [List.take_zero, numsU_nil]⟩
  case round =>
    obtain ⟨k, hk, rfl, rfl⟩ := hrel
    by_cases hlt : k < m
    · have hkx : k < ns.length := by have := HN.out; omega
      obtain ⟨b, off, rfl, _, hc⟩ := HL.out.get (by omega)
      have hck := hc k hkx
      have HX := Lib.hid (numsU_next h ns k hkx)
      generalize ns[k] = n at hck HX
      generalize numsU h (ns.take k) = h1 at HX ⊢
      have hj1 : (k : Int) < (m : Int) := by omega
      clear hc
      go_wp2_with fail
      go_loop [0, 7] (fun vh vi => ∃ j : Nat, j ≤ 8 ∧ vi = .int .i64 (56 - 8 * (j : Int)) ∧ vh = .int .u64 (gv (accU h1 (beU n j)))) (fun _ i => ((intOf i) + 8).toNat)
      case atStart => exact ⟨0, by omega, rfl, by rw [beU_zero, accU_nil]⟩
      case round =>
        obtain ⟨j, hj, rfl, rfl⟩ := hrel
        by_cases hlt2 : j < 8
        · have HI := Lib.hid (be_step h1 n j)
          obtain ⟨q, hq⟩ : ∃ q, q = 7 - j := ⟨_, rfl⟩
          have hiq : (56 : Int) - 8 * (j : Int) = 8 * (q : Int) := by omega
          have hsh := byte_shr n q
          rw [← hq] at HI
          have HQ := Lib.hid hq
          rw [hiq]
          have hq7 : q ≤ 7 := by omega
          clear hq hiq
          generalize byteU n q = c at hsh HI
          go_wp2_with fail
          refine (with_any _ _ _).mono ?_
          rintro e w' ⟨rfl, rfl⟩
          go_wp2
          go_round
          case rel => exact ⟨j + 1, by omega, by have := HQ.out; go_num, by rw [HI.out]⟩
          case measure => simp [intOf]; omega
        · obtain rfl : j = 8 := by omega
          go_wp2
          go_round
          case rel => exact ⟨k + 1, by omega, by go_num, by rw [HX.out]⟩
          case measure => simp [intOf]; omega
    · obtain rfl : k = m := by omega
      go_wp2
      go_ret
      exact ⟨by rw [HN.out, List.take_length]; rfl, rfl⟩
set_option maxRecDepth 100000 in
set_option maxHeartbeats 400000 in
theorem node_any (a b : UInt64) (w : World) :
    Calls Try.prog 42 #[.int .u64 (gv a), .int .u64 (gv b)] w fun e w' => e = .returned (.int .u64 (gv (nodeU a b))) ∧ Below w.heap.size w w' := by
  have HE := Lib.hid (nodeU_nums a b)
  have HB := Lib.hid ((Below.refl w.heap.size w).alloc (Nat.le_refl _) (.cells #[.int .u64 (gv a), .int .u64 (gv b)] 44))
  have HL := Lib.hid (Lin.lits w #[.int .u64 (gv a), .int .u64 (gv b)] (0, 0) [a, b] rfl)
  go_enter Try.func42, Try.ntmps42
  go_wp2_with fail
  refine (with_lit1 _).mono ?_
  rintro e w' ⟨rfl, rfl⟩
  go_wp2_with fail
  refine (numbers_any _ _ 2 _ [a, b] _ HL.out rfl (by decide)).mono ?_
  rintro e w' ⟨rfl, rfl⟩
  go_wp2
  go_ret
  exact ⟨by rw [HE.out]; rfl, HB.out⟩
end Go.Proofs.Ytihiccccpjakgaa
