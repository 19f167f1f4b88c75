/-
  The examples of the chapter: the function that checks them answers true, and lays new memory only.
-/
import Derived.Test.YtckbgefeamkjnaaCRPut
import Derived.Test.YtckbgefeamkjnaaCText
namespace Go.Proofs.Ytckbgefeamkjnaa
open Go.RowKit

theorem enc300 : enc 300 = [172, 2] := by rw [enc_big 300 (by decide), enc_small (300 / 128) (by decide)]; rfl
theorem encab : encT ⟨#[97, 98]⟩ = [2, 97, 98] := by
  unfold encT
  rw [show ByteArray.size ⟨#[97, 98]⟩ = 2 from rfl, enc_small 2 (by decide)]
  rfl
theorem int_ex : iR [215, 4] 0 = (-300, 2, 0) := by decide +kernel
theorem uint_ex : uR [128, 0] 0 = (0, 0, 1) := by decide +kernel
theorem bool_ex : bR [1] 0 = (true, 1, 0) := by decide +kernel
theorem Lie.two (w : World) (n m : Int) (u v : UInt8) (hn : n = (u.toNat : Int)) (hm : m = (v.toNat : Int)) : Lie (w.alloc (.cells #[.int .u8 n, .int .u8 m] 5)) (some ⟨w.heap.size, 0, none⟩) [u, v] := by
  subst hn hm
  refine ⟨.inr ⟨w.heap.size, 0, rfl, by simp, fun j hj => ?_⟩⟩
  rw [World.cell?_alloc_mark, Nat.zero_add]
  match j, hj with
  | 0, _ => rfl
  | 1, _ => rfl
theorem int_two (w : World) (u v : UInt8) (g : Nat) (hg : g = w.heap.size) :
    Calls Try.prog 15 #[.slice (some ⟨g, 0, none⟩) 2 2, .int .i64 0] (w.alloc (.cells #[.int .u8 (u.toNat : Int), .int .u8 (v.toNat : Int)] 5)) fun e w' =>
      e = .returned (.tuple #[.int .i64 (iR [u, v] 0).1, .int .i64 (iR [u, v] 0).2.1, .int .i64 (iR [u, v] 0).2.2]) ∧ w.alloc (.cells #[.int .u8 (u.toNat : Int), .int .u8 (v.toNat : Int)] 5) = w' := by
  subst hg
  exact int_any _ 2 [u, v] 0 _ (Lie.two w _ _ u v rfl rfl) (by simp) (by simp) (fun h => by cases h)
theorem uint_two (w : World) (u v : UInt8) (g : Nat) (hg : g = w.heap.size) :
    Calls Try.prog 13 #[.slice (some ⟨g, 0, none⟩) 2 2, .int .i64 0] (w.alloc (.cells #[.int .u8 (u.toNat : Int), .int .u8 (v.toNat : Int)] 5)) fun e w' =>
      e = .returned (.tuple #[.int .u64 (uR [u, v] 0).1, .int .i64 (uR [u, v] 0).2.1, .int .i64 (uR [u, v] 0).2.2]) ∧ w.alloc (.cells #[.int .u8 (u.toNat : Int), .int .u8 (v.toNat : Int)] 5) = w' := by
  subst hg
  exact uint_any _ 2 [u, v] 0 _ (Lie.two w _ _ u v rfl rfl) (by simp) (by simp) (fun h => by cases h)
theorem bool_one (w : World) (u : UInt8) (g : Nat) (hg : g = w.heap.size) :
    Calls Try.prog 19 #[.slice (some ⟨g, 0, none⟩) 1 1, .int .i64 0] (w.alloc (.cells #[.int .u8 (u.toNat : Int)] 5)) fun e w' =>
      e = .returned (.tuple #[.bool (bR [u] 0).1, .int .i64 (bR [u] 0).2.1, .int .i64 (bR [u] 0).2.2]) ∧ w.alloc (.cells #[.int .u8 (u.toNat : Int)] 5) = w' := by
  subst hg
  exact bool_any _ 1 [u] 0 _ (Lie.one w _ u rfl) (by simp)

theorem below3 {B : Nat} {w w2 : World} (h : Below B w w2) (a b c : Obj) (hB : B ≤ w2.heap.size) : Below B w (((w2.alloc a).alloc b).alloc c) :=
  ((h.alloc hB _).alloc (by simp; omega) _).alloc (by simp; omega) _
theorem Lie.get {w : World} {b off : Nat} {xs : List UInt8} (h : Lie w (some ⟨b, off, none⟩) xs) {o : Nat} (j : Nat) (hj : j < xs.length) (ho : o = off + j) : w.cell? ⟨b, o, none⟩ = some (.int .u8 ((xs[j]'hj).toNat : Int)) := by
  subst ho
  rcases h.at_ with rfl | ⟨b', off', hbo, _, hc⟩
  · simp at hj
  · cases hbo
    exact hc j hj

set_option maxRecDepth 100000 in
set_option maxHeartbeats 800000 in
theorem lives_any (w : World) :
    Calls Try.prog 9 #[] w fun e w' => e = .returned (.bool true) ∧ Below w.heap.size w w' := by
  have hi := fun (w : World) (g : Nat) (hg : g = w.heap.size) => int_two w 215 4 g hg
  have hu := fun (w : World) (g : Nat) (hg : g = w.heap.size) => uint_two w 128 0 g hg
  have ho := fun (w : World) (g : Nat) (hg : g = w.heap.size) => bool_one w 1 g hg
  rw [int_ex] at hi
  rw [uint_ex] at hu
  rw [bool_ex] at ho
  have HI := Lib.hid hi
  have HU := Lib.hid hu
  have HO := Lib.hid ho
  clear hi hu ho
  go_enter Try.func9, Try.ntmps9
  go_wp2_with fail
  refine (puint_any none 0 [] 300 _ (.nil _ _) (fun _ => rfl) (by simp) (by omega)).mono ?_
  rintro e w1 ⟨v, rfl, hown, hb⟩
  rw [List.nil_append, enc300] at hown
  obtain ⟨nd, nc, rfl, hl1, _, _, _⟩ := hown.slice
  have HL1 := Lib.hid hl1
  have HB1 := Lib.hid hb
  clear hown hl1 hb
  go_wp2_with fail
  refine (ptext_any none 0 [] ⟨#[97, 98]⟩ _ (.nil _ _) (fun _ => rfl) (by simp) (by decide)).mono ?_
  rintro e w2 ⟨v, rfl, hown, hb⟩
  rw [List.nil_append, encab] at hown
  obtain ⟨md, mc, rfl, hl2, _, _, _⟩ := hown.slice
  have HL2 := Lib.hid hl2
  have HB2 := Lib.hid hb
  clear hown hl2 hb
  go_wp2_with fail
  refine (HI.out _ _ rfl).mono ?_
  rintro e w' ⟨rfl, rfl⟩
  go_wp2_with fail
  refine (HU.out _ _ (by simp)).mono ?_
  rintro e w' ⟨rfl, rfl⟩
  go_wp2_with fail
  refine (HO.out _ _ (by simp)).mono ?_
  rintro e w' ⟨rfl, rfl⟩
  have hbW := fun o1 o2 o3 : Obj => below3 HB2.out o1 o2 o3 HB2.out.size
  have hlW := fun o1 o2 o3 : Obj => HL1.out.below (hbW o1 o2 o3) rfl
  have hcv : ∀ o1 o2 o3 : Obj, (convert 22 9 (.slice md 3 mc)).run Try.prog (((w2.alloc o1).alloc o2).alloc o3) = .ok (.string ⟨#[2, 97, 98]⟩) (((w2.alloc o1).alloc o2).alloc o3) :=
    fun o1 o2 o3 => conv_lie mc (HL2.out.below (below3 (Below.refl _ _) o1 o2 o3 (Nat.le_refl _)) rfl)
  rcases HL1.out.at_ with h0 | ⟨b, off, rfl, _, _⟩
  · cases h0
  have hc0 : ∀ o1 o2 o3 : Obj, (((w2.alloc o1).alloc o2).alloc o3).cell? ⟨b, off, none⟩ = some (.int .u8 172) := fun o1 o2 o3 => (hlW o1 o2 o3).get 0 (by decide) (by simp)
  have hc1 : ∀ o1 o2 o3 : Obj, (((w2.alloc o1).alloc o2).alloc o3).cell? ⟨b, off + 1, none⟩ = some (.int .u8 2) := fun o1 o2 o3 => (hlW o1 o2 o3).get 1 (by decide) (by simp)
  clear hbW hlW
  go_wp2
  go_ret
  exact ⟨rfl, below3 (HB1.out.trans (HB2.out.mono HB1.out.size)) _ _ _ (Nat.le_trans HB1.out.size HB2.out.size)⟩
end Go.Proofs.Ytckbgefeamkjnaa
