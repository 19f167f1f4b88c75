/-
  The function that asks for results of three layers: it answers true.
-/
import Derived.Test.YtihiccccpjakgaaZPack
import Derived.Test.YtihiccccpjakgaaZUnp
import Derived.Test.YtihiccccpjakgaaConv
import Derived.Test.YtihiccccpjakgaaQTop
import Derived.Test.YtihiccccpjakgaaQBlk
import Derived.Test.YtihiccccpjakgaaQSum
import Derived.Lib.SlBytesConst
namespace Go.Proofs.Ytihiccccpjakgaa
open Go.RowKit
set_option linter.unusedVariables false
set_option linter.unusedSimpArgs false
theorem pro_ver (xs : List UInt64) (k : Nat) (h : k < xs.length) : verI (rootU xs) xs[k] k xs.length (pathU xs k) = true := by
  have h1 := verI_yes (rootU xs) xs[k] k xs.length (pathU xs k) h
  have h2 : reachU xs[k] k xs.length (pathU xs k) = (rootU xs, true) := reach_path xs.length xs k xs[k] (List.getElem?_eq_getElem h) (Nat.le_refl _)
  rw [h2] at h1
  exact h1.trans (by simp)
section
attribute [local irreducible] updB
theorem crc_ex : crc [49, 50, 51, 52, 53, 54, 55, 56, 57] = 3808858755 := by
  unfold crc
  decide +kernel
end
theorem Lie.lit8 (w : World) (xs : List UInt8) (cs : Array Value) (fr : Nat × Nat) (h : cs = (cellsU xs).toArray) : Lie (w.alloc (.cells cs 5 fr)) (some ⟨w.heap.size, 0, none⟩) xs := by
  subst h
  refine ⟨.inr ⟨w.heap.size, 0, rfl, by simp, fun j hj => ?_⟩⟩
  rw [cell_of_row _ _ _ _ _ _ (heap_new _ _), Nat.zero_add]
  have := cellsU_get xs j hj
  simpa using this
theorem root5 : rootU [5] = 5 := rootU_one [5] rfl
theorem lin5 (w : World) : Lin (w.alloc (.cells #[.int .u64 5] 44)) (some ⟨w.heap.size, 0, none⟩) [5] := by
  refine ⟨.inr ⟨w.heap.size, 0, rfl, by simp, fun j hj => ?_⟩⟩
  obtain rfl : j = 0 := by simpa using hj
  have h := cell_newN w 5
  have e : gv (5 : UInt64) = 5 := gv_lit' 5 5 rfl
  rw [e] at h
  show _ = some (Value.int .u64 (gv 5))
  rw [e]
  exact h
attribute [local irreducible] packU updB accU fnv basis byteU beU hashU nodeU spl proI preI verI extI leafU
def abcs : List UInt8 := [97, 98, 99, 97, 98, 99, 97, 98, 99, 97, 98, 99]
set_option maxRecDepth 100000 in
set_option maxHeartbeats 1000000 in
theorem forms_any (w : World) : Calls Try.prog 18 #[] w fun e w' => e = .returned (.bool true) ∧ Below w.heap.size w w' := by
  have l12 : ∀ W : World, Lie (W.alloc (.cells #[.int .u8 97, .int .u8 98, .int .u8 99, .int .u8 97, .int .u8 98, .int .u8 99, .int .u8 97, .int .u8 98, .int .u8 99, .int .u8 97, .int .u8 98, .int .u8 99] 5 (12, 13))) (some ⟨W.heap.size, 0, none⟩) abcs := fun W => Lie.lit8 W _ _ _ rfl
  have l9 : ∀ W : World, Lie (W.alloc (.cells #[.int .u8 49, .int .u8 50, .int .u8 51, .int .u8 52, .int .u8 53, .int .u8 54, .int .u8 55, .int .u8 56, .int .u8 57] 5 (9, 10))) (some ⟨W.heap.size, 0, none⟩) [49, 50, 51, 52, 53, 54, 55, 56, 57] := fun W => Lie.lit8 W _ _ _ rfl
  have HP := Lib.hid (fun W => pack_any (some ⟨W.heap.size, 0, none⟩) 12 abcs _ (l12 W) (by decide) (by unfold maxLen; omega) (by decide) (fun h => by cases h))
  have hpu := pack_unq (xs := abcs) (by decide) 12
  have hpl := pack_len (xs := abcs) (by decide)
  rw [if_neg (by decide)] at hpu
  obtain ⟨p, hp⟩ : ∃ p, packU abcs = p := ⟨_, rfl⟩
  rw [hp] at HP hpu hpl
  have hpl2 : p.length ≤ 22 := hpl
  have HU := Lib.hid (fun (a : Option Addr) (c : Nat) (W : World) (h : Lie W a p) (h1 : p.length ≤ c) (h3 : a = none → c = 0) => unpack_any a c p 12 W h h1 (by omega) h3 (by decide))
  rw [show (12 : Int).toNat = 12 from rfl, hpu] at HU
  have HS := Lib.hid (fun W => csum_any (some ⟨W.heap.size, 0, none⟩) 9 9 _ _ (l9 W) rfl (by decide))
  rw [crc_ex] at HS
  have HR := Lib.hid (fun W => root_go 1 [5] (some ⟨W.heap.size, 0, none⟩) 1 1 _ (by decide) (lin5 W) rfl (by decide) (by decide) (by unfold maxLen; omega))
  rw [root5] at HR
  have hg5 : gv (5 : UInt64) = 5 := gv_lit' 5 5 rfl
  have kc := fun (w : World) (C : Array Value) (n c : Nat) => Lib.run_convert_bytes_const (P := Try.prog) w 22 5 C n c Try.underlying22 Try.underlying5
  clear l12 l9 hp hpu hpl
  go_enter Try.func18, Try.ntmps18
  go_wp2_with fail
  refine (HP.out _).mono ?_
  rintro e w2 ⟨v2, rfl, ho2, hb2⟩
  obtain ⟨a2, c2, rfl, hl2, hn2, _, ha2⟩ := ho2.slice
  have HL2 := Lib.hid hl2
  have HN2 := Lib.hid hn2
  have HA2 := Lib.hid ha2
  have HB2 : Hid (Below w.heap.size w w2) := Lib.hid (((Below.refl _ _).alloc (Nat.le_refl _) _).trans (hb2.mono (Nat.le_of_lt (by simp))))
  clear ho2 hl2 hn2 ha2 hb2
  go_wp2_with fail
  refine (HU.out a2 c2 w2 HL2.out HN2.out HA2.out).mono ?_
  rintro e w3 ⟨v3, rfl, ho3, hb3⟩
  obtain ⟨a3, c3, rfl, hl3, _, _, _⟩ := ho3.slice
  have HB3 := Lib.hid (HB2.out.trans (hb3.mono HB2.out.size))
  have hcv := conv_lie c3 hl3
  have hcv2 : (convert 22 9 (.slice a3 12 c3)).run Try.prog w3 = .ok (.string ⟨#[97, 98, 99, 97, 98, 99, 97, 98, 99, 97, 98, 99]⟩) w3 := hcv
  clear ho3 hl3 hb3 hcv
  dsimp only [abcs, List.length_cons, List.length_nil, Nat.reduceAdd]
  go_wp2_with fail
  refine (HS.out _).mono ?_
  rintro e w4 ⟨rfl, hb4⟩
  have HB4 : Hid (Below w.heap.size w w4) := Lib.hid ((HB3.out.alloc HB3.out.size _).trans (hb4.mono (Nat.le_trans HB3.out.size (Nat.le_of_lt (by simp)))))
  clear hb4
  go_wp2_with fail
  refine (HR.out _).mono ?_
  rintro e w5 ⟨rfl, hb5⟩
  have HB5 : Hid (Below w.heap.size w w5) := Lib.hid ((HB4.out.alloc HB4.out.size _).trans (hb5.mono (Nat.le_trans HB4.out.size (Nat.le_of_lt (by simp)))))
  clear hb5
  go_wp2
  go_ret
  exact ⟨rfl, HB5.out⟩
end Go.Proofs.Ytihiccccpjakgaa
