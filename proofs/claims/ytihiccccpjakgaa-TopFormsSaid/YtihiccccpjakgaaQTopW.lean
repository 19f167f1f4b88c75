/-
  The statement TopForms.
  The statement TopForms.
-/
import Derived.Test.YtihiccccpjakgaaZTopF
import Derived.Test.YtihiccccpjakgaaNHeld
import Derived.Test.YtihiccccpjakgaaZTopL
import Derived.Test.YtihiccccpjakgaaZTopZ
namespace Go.Proofs.Ytihiccccpjakgaa
open Go.RowKit
set_option linter.unusedVariables false
set_option linter.unusedSimpArgs false
attribute [local irreducible] packU updB accU fnv basis byteU beU hashU nodeU spl proI preI verI extI leafU
set_option maxRecDepth 100000 in
set_option maxHeartbeats 4000000 in
theorem top_none (s : Nat) (w : World) (hcm : 0 ≤ maxLen) (hs1 : 1 ≤ s) (hs2 : s ≤ 100) :
    Calls Try.prog 8 #[.slice none 0 0, .int .i64 0, .int .i64 s] w fun e w' => e = .returned (.bool true) ∧ Below w.heap.size w w' := by
  have HP := Lib.hid (pack_any none 0 [] w (Lie.nil _ _) (Nat.zero_le _) hcm (by decide) (fun _ => rfl))
  rw [List.length_nil] at HP
  have hpu := pack_unq (xs := []) (by decide) 0
  have hpl := pack_len (xs := []) (by decide)
  rw [if_neg (by decide)] at hpu
  obtain ⟨p, hp⟩ : ∃ p, packU [] = p := ⟨_, rfl⟩
  rw [hp] at HP hpu hpl
  rw [List.length_nil] at hpl
  have HU := Lib.hid (fun (a : Option Addr) (k : Nat) (W : World) (h : Lie W a p) (h1 : p.length ≤ k) (h3 : a = none → k = 0) => unpack_any a k p ((0 : Nat) : Int) W h h1 (by omega) h3 (by omega))
  rw [Int.toNat_natCast, hpu] at HU
  have HSU := Lib.hid (fun (a : Option Addr) (k : Nat) (W : World) => csum_any a 0 k [] W (Lie.nil _ _) rfl (by decide))
  have HUP := Lib.hid (fun (a : Option Addr) (k : Nat) (W : World) => cupd_any a 0 k [] [] W (Lie.nil _ _) rfl (by decide))
  have HCB := Lib.hid (fun (W : World) => ccomb_any [] [] 0 W rfl (by decide))
  rw [List.append_nil] at HUP HCB
  have HBK := Lib.hid (fun (a : Option Addr) (k : Nat) (W : World) (h3 : k ≤ maxLen) => blocks_any a 0 k [] (s : Int) W (Lie.nil _ _) rfl (by decide) (Nat.zero_le _) h3 (by omega))
  rw [blkU_yes [] s hs1, parts_nil s [] (by decide), List.map_nil] at HBK
  have HRT := Lib.hid (fun (a : Option Addr) (k : Nat) (W : World) (h : Lin W a []) (h3 : k ≤ maxLen) => root_go 0 [] a 0 k W (Nat.le_refl _) h rfl (by decide) (Nat.zero_le _) h3)
  have HFR := Lib.hid (fun W => forms_any W)
  have hd4 : decide ((s : Int) < 1) = false := by simp; omega
  have hd5 : decide ((100 : Int) < (s : Int)) = false := by simp; omega
  have hq : ((s : Int) - 1) / (s : Int) = 0 := Int.ediv_eq_zero_of_lt (by omega) (by omega)
  unfold maxLen at hcm
  clear hp hpu hpl
  go_enter Try.func8, Try.ntmps8
  go_wp2_with fail
  refine HP.out.mono ?_
  rintro e w2 ⟨v2, rfl, ho2, hb2⟩
  obtain ⟨a2, c2, rfl, hl2, hn2, _, ha2⟩ := ho2.slice
  have HL2 := Lib.hid hl2
  have HN2 := Lib.hid hn2
  have HA2 := Lib.hid ha2
  have HB2 := Lib.hid hb2
  clear ho2 hl2 hn2 ha2 hb2
  go_wp2_with fail
  refine (HU.out a2 c2 w2 HL2.out HN2.out HA2.out).mono ?_
  rintro e w3 ⟨v3, rfl, ho3, hb3⟩
  obtain ⟨a3, c3, rfl, hl3, hn3, hm3, ha3⟩ := ho3.slice
  dsimp only at hl3 hn3 ⊢
  rw [List.length_nil] at hn3 ⊢
  unfold maxLen at hm3
  have HB3 := Lib.hid (HB2.out.trans (hb3.mono HB2.out.size))
  have hdd := fun X : World => Below.drew (Below.refl X.heap.size X)
  have HBD := Lib.hid (HB3.out.trans ((hdd w3).mono HB3.out.size))
  clear ho3 hl3 hb3 hdd
  rcases a3 with _ | a3
  all_goals
    try obtain rfl : c3 = 0 := ha3 rfl
    clear ha3
    go_wp2_with fail
    refine wp_region_noPanic ?_
    refine wp_region_held_drew (S := fun X => Below w3.drew.heap.size w3.drew X) (by kernel_rfl) (Below.refl _ _) (fun hS0 => ?_)
    refine held_take (i := 0) (v := ?_) rfl (by kernel_rfl) (by kernel_rfl) (by kernel_rfl) (fun _ _ _ h => h) (by rfl) ?_ (by assumption) ?_
    rotate_left
    · intro X hSX
      try dsimp only at hSX
      go_simp <;> with_reducible rfl
    simp only [Act.put, List.setIfInBounds_toArray, List.set_cons_zero, List.set_cons_succ]
    refine held_take (i := 1) (v := ?_) rfl (by kernel_rfl) (by kernel_rfl) (by kernel_rfl) (fun _ _ _ h => h) (by rfl) ?_ (by assumption) ?_
    rotate_left
    · intro X hSX
      try dsimp only at hSX
      go_simp <;> with_reducible rfl
    simp only [Act.put, List.setIfInBounds_toArray, List.set_cons_zero, List.set_cons_succ]
    refine held_take (i := 2) (v := ?_) rfl (by kernel_rfl) (by kernel_rfl) (by kernel_rfl) (fun _ _ _ h => h) (by rfl) ?_ (by assumption) ?_
    rotate_left
    · intro X hSX
      try dsimp only at hSX
      go_simp <;> with_reducible rfl
    simp only [Act.put, List.setIfInBounds_toArray, List.set_cons_zero, List.set_cons_succ]
    refine held_take (i := 3) (v := ?_) rfl (by kernel_rfl) (by kernel_rfl) (by kernel_rfl) (fun _ _ _ h => h) (by rfl) ?_ (by assumption) ?_
    rotate_left
    · intro X hSX
      try dsimp only at hSX
      go_simp <;> with_reducible rfl
    simp only [Act.put, List.setIfInBounds_toArray, List.set_cons_zero, List.set_cons_succ]
    refine held_take (i := 4) (v := ?_) rfl (by kernel_rfl) (by kernel_rfl) (by kernel_rfl) (fun _ _ _ h => h) (by rfl) ?_ (by assumption) ?_
    rotate_left
    · intro X hSX
      try dsimp only at hSX
      go_simp <;> with_reducible rfl
    simp only [Act.put, List.setIfInBounds_toArray, List.set_cons_zero, List.set_cons_succ]
    refine held_take (i := 5) (v := ?_) rfl (by kernel_rfl) (by kernel_rfl) (by kernel_rfl) (fun _ _ _ h => h) (by rfl) ?_ (by assumption) ?_
    rotate_left
    · intro X hSX
      try dsimp only at hSX
      go_simp <;> with_reducible rfl
    simp only [Act.put, List.setIfInBounds_toArray, List.set_cons_zero, List.set_cons_succ]
    refine held_take (i := 6) (v := ?_) rfl (by kernel_rfl) (by kernel_rfl) (by kernel_rfl) (fun _ _ _ h => h) (by rfl) ?_ (by assumption) ?_
    rotate_left
    · intro X hSX
      try dsimp only at hSX
      go_simp <;> with_reducible rfl
    simp only [Act.put, List.setIfInBounds_toArray, List.set_cons_zero, List.set_cons_succ]
    refine held_take (i := 7) (v := ?_) rfl (by kernel_rfl) (by kernel_rfl) (by kernel_rfl) (fun _ _ _ h => h) (by rfl) ?_ (by assumption) ?_
    rotate_left
    · intro X hSX
      try dsimp only at hSX
      go_simp <;> with_reducible rfl
    simp only [Act.put, List.setIfInBounds_toArray, List.set_cons_zero, List.set_cons_succ]
    refine held_take (i := 8) (v := ?_) rfl (by kernel_rfl) (by kernel_rfl) (by kernel_rfl) (fun _ _ _ h => h) (by rfl) ?_ (by assumption) ?_
    rotate_left
    · intro X hSX
      try dsimp only at hSX
      go_simp <;> with_reducible rfl
    simp only [Act.put, List.setIfInBounds_toArray, List.set_cons_zero, List.set_cons_succ]
    refine held_take (i := 9) (v := ?_) rfl (by kernel_rfl) (by kernel_rfl) (by kernel_rfl) (fun _ _ _ h => h) (by rfl) ?_ (by assumption) ?_
    rotate_left
    · intro X hSX
      try dsimp only at hSX
      go_simp <;> with_reducible rfl
    simp only [Act.put, List.setIfInBounds_toArray, List.set_cons_zero, List.set_cons_succ]
    refine held_take (i := 10) (v := ?_) rfl (by kernel_rfl) (by kernel_rfl) (by kernel_rfl) (fun _ _ _ h => h) (by rfl) ?_ (by assumption) ?_
    rotate_left
    · intro X hSX
      try dsimp only at hSX
      go_simp <;> with_reducible rfl
    simp only [Act.put, List.setIfInBounds_toArray, List.set_cons_zero, List.set_cons_succ]
    refine held_take (i := 12) (v := ?_) rfl (by kernel_rfl) (by kernel_rfl) (by kernel_rfl) (fun _ _ _ h => h) (by rfl) ?_ (by assumption) ?_
    rotate_left
    · intro X hSX
      try dsimp only at hSX
      go_simp <;> with_reducible rfl
    simp only [Act.put, List.setIfInBounds_toArray, List.set_cons_zero, List.set_cons_succ]
    refine held_take (i := 13) (v := ?_) rfl (by kernel_rfl) (by kernel_rfl) (by kernel_rfl) (fun _ _ _ h => h) (by rfl) ?_ (by assumption) ?_
    rotate_left
    · intro X hSX
      try dsimp only at hSX
      go_simp <;> with_reducible rfl
    simp only [Act.put, List.setIfInBounds_toArray, List.set_cons_zero, List.set_cons_succ]
    refine held_take (i := 14) (v := ?_) rfl (by kernel_rfl) (by kernel_rfl) (by kernel_rfl) (fun _ _ _ h => h) (by rfl) ?_ (by assumption) ?_
    rotate_left
    · intro X hSX
      try dsimp only at hSX
      go_simp <;> with_reducible rfl
    simp only [Act.put, List.setIfInBounds_toArray, List.set_cons_zero, List.set_cons_succ]
    refine held_take (i := 16) (v := ?_) rfl (by kernel_rfl) (by kernel_rfl) (by kernel_rfl) (fun _ _ _ h => h) (by rfl) ?_ (by assumption) ?_
    rotate_left
    · intro X hSX
      try dsimp only at hSX
      go_simp <;> with_reducible rfl
    simp only [Act.put, List.setIfInBounds_toArray, List.set_cons_zero, List.set_cons_succ]
    refine held_take (i := 17) (v := ?_) rfl (by kernel_rfl) (by kernel_rfl) (by kernel_rfl) (fun _ _ _ h => h) (by rfl) ?_ (by assumption) ?_
    rotate_left
    · intro X hSX
      try dsimp only at hSX
      go_simp <;> with_reducible rfl
    simp only [Act.put, List.setIfInBounds_toArray, List.set_cons_zero, List.set_cons_succ]
    refine held_take (i := 18) (v := ?_) rfl (by kernel_rfl) (by kernel_rfl) (by kernel_rfl) (fun _ _ _ h => h) (by rfl) ?_ (by assumption) ?_
    rotate_left
    · intro X hSX
      try dsimp only at hSX
      go_simp <;> with_reducible rfl
    simp only [Act.put, List.setIfInBounds_toArray, List.set_cons_zero, List.set_cons_succ]
    refine held_take (i := 20) (v := ?_) rfl (by kernel_rfl) (by kernel_rfl) (by kernel_rfl) (fun _ _ _ h => h) (by rfl) ?_ (by assumption) ?_
    rotate_left
    · intro X hSX
      try dsimp only at hSX
      go_simp <;> with_reducible rfl
    simp only [Act.put, List.setIfInBounds_toArray, List.set_cons_zero, List.set_cons_succ]
    refine held_take (i := 21) (v := ?_) rfl (by kernel_rfl) (by kernel_rfl) (by kernel_rfl) (fun _ _ _ h => h) (by rfl) ?_ (by assumption) ?_
    rotate_left
    · intro X hSX
      try dsimp only at hSX
      go_simp <;> with_reducible rfl
    simp only [Act.put, List.setIfInBounds_toArray, List.set_cons_zero, List.set_cons_succ]
    refine held_take (i := 22) (v := ?_) rfl (by kernel_rfl) (by kernel_rfl) (by kernel_rfl) (fun _ _ _ h => h) (by rfl) ?_ (by assumption) ?_
    rotate_left
    · intro X hSX
      try dsimp only at hSX
      go_simp <;> with_reducible rfl
    simp only [Act.put, List.setIfInBounds_toArray, List.set_cons_zero, List.set_cons_succ]
    refine held_take (i := 23) (v := ?_) rfl (by kernel_rfl) (by kernel_rfl) (by kernel_rfl) (fun _ _ _ h => h) (by rfl) ?_ (by assumption) ?_
    rotate_left
    · intro X hSX
      try dsimp only at hSX
      go_simp <;> with_reducible rfl
    simp only [Act.put, List.setIfInBounds_toArray, List.set_cons_zero, List.set_cons_succ]
    refine held_call (i := 11) rfl (by kernel_rfl) (by rfl) (fun K' hK' => ?_)
    go_simp
    refine (HSU.out _ _ _).mono ?_
    rintro e w4 ⟨rfl, hb4⟩
    have HB4 := Lib.hid hb4
    clear hb4
    refine held_go hK' (HB4.out) ?_
    try simp only [Act.put, List.setIfInBounds_toArray, List.set_cons_zero, List.set_cons_succ]
    refine held_call (i := 15) rfl (by kernel_rfl) (by rfl) (fun K' hK' => ?_)
    go_simp
    refine (HSU.out _ _ _).mono ?_
    rintro e w5 ⟨rfl, hb5⟩
    have HB5 := Lib.hid (HB4.out.trans (hb5.mono HB4.out.size))
    clear hb5
    refine held_go hK' (HB5.out) ?_
    try simp only [Act.put, List.setIfInBounds_toArray, List.set_cons_zero, List.set_cons_succ]
    refine held_call (i := 19) rfl (by kernel_rfl) (by rfl) (fun K' hK' => ?_)
    go_simp
    refine (HSU.out _ _ _).mono ?_
    rintro e w6 ⟨rfl, hb6⟩
    have HB6 := Lib.hid (HB5.out.trans (hb6.mono HB5.out.size))
    clear hb6
    refine held_go hK' (HB6.out) ?_
    try simp only [Act.put, List.setIfInBounds_toArray, List.set_cons_zero, List.set_cons_succ]
    refine held_call (i := 24) rfl (by kernel_rfl) (by rfl) (fun K' hK' => ?_)
    go_simp
    refine (HCB.out _).mono ?_
    rintro e w7 ⟨rfl, rfl⟩
    refine held_go hK' (HB6.out) ?_
    try simp only [Act.put, List.setIfInBounds_toArray, List.set_cons_zero, List.set_cons_succ]
    refine held_take (i := 25) (v := ?_) rfl (by kernel_rfl) (by kernel_rfl) (by kernel_rfl) (fun _ _ _ h => h) (by rfl) ?_ (by assumption) ?_
    rotate_left
    · intro X hSX
      try dsimp only at hSX
      go_simp <;> with_reducible rfl
    simp only [Act.put, List.setIfInBounds_toArray, List.set_cons_zero, List.set_cons_succ]
    refine held_take (i := 26) (v := ?_) rfl (by kernel_rfl) (by kernel_rfl) (by kernel_rfl) (fun _ _ _ h => h) (by rfl) ?_ (by assumption) ?_
    rotate_left
    · intro X hSX
      try dsimp only at hSX
      go_simp <;> with_reducible rfl
    simp only [Act.put, List.setIfInBounds_toArray, List.set_cons_zero, List.set_cons_succ]
    refine held_take (i := 27) (v := ?_) rfl (by kernel_rfl) (by kernel_rfl) (by kernel_rfl) (fun _ _ _ h => h) (by rfl) ?_ (by assumption) ?_
    rotate_left
    · intro X hSX
      try dsimp only at hSX
      go_simp <;> with_reducible rfl
    simp only [Act.put, List.setIfInBounds_toArray, List.set_cons_zero, List.set_cons_succ]
    refine held_take (i := 28) (v := ?_) rfl (by kernel_rfl) (by kernel_rfl) (by kernel_rfl) (fun _ _ _ h => h) (by rfl) ?_ (by assumption) ?_
    rotate_left
    · intro X hSX
      try dsimp only at hSX
      go_simp <;> with_reducible rfl
    simp only [Act.put, List.setIfInBounds_toArray, List.set_cons_zero, List.set_cons_succ]
    refine held_take (i := 29) (v := ?_) rfl (by kernel_rfl) (by kernel_rfl) (by kernel_rfl) (fun _ _ _ h => h) (by rfl) ?_ (by assumption) ?_
    rotate_left
    · intro X hSX
      try dsimp only at hSX
      go_simp <;> with_reducible rfl
    simp only [Act.put, List.setIfInBounds_toArray, List.set_cons_zero, List.set_cons_succ]
    refine held_take (i := 30) (v := ?_) rfl (by kernel_rfl) (by kernel_rfl) (by kernel_rfl) (fun _ _ _ h => h) (by rfl) ?_ (by assumption) ?_
    rotate_left
    · intro X hSX
      try dsimp only at hSX
      go_simp <;> with_reducible rfl
    simp only [Act.put, List.setIfInBounds_toArray, List.set_cons_zero, List.set_cons_succ]
    refine held_take (i := 32) (v := ?_) rfl (by kernel_rfl) (by kernel_rfl) (by kernel_rfl) (fun _ _ _ h => h) (by rfl) ?_ (by assumption) ?_
    rotate_left
    · intro X hSX
      try dsimp only at hSX
      go_simp <;> with_reducible rfl
    simp only [Act.put, List.setIfInBounds_toArray, List.set_cons_zero, List.set_cons_succ]
    refine held_take (i := 33) (v := ?_) rfl (by kernel_rfl) (by kernel_rfl) (by kernel_rfl) (fun _ _ _ h => h) (by rfl) ?_ (by assumption) ?_
    rotate_left
    · intro X hSX
      try dsimp only at hSX
      go_simp <;> with_reducible rfl
    simp only [Act.put, List.setIfInBounds_toArray, List.set_cons_zero, List.set_cons_succ]
    refine held_take (i := 34) (v := ?_) rfl (by kernel_rfl) (by kernel_rfl) (by kernel_rfl) (fun _ _ _ h => h) (by rfl) ?_ (by assumption) ?_
    rotate_left
    · intro X hSX
      try dsimp only at hSX
      go_simp <;> with_reducible rfl
    simp only [Act.put, List.setIfInBounds_toArray, List.set_cons_zero, List.set_cons_succ]
    refine held_take (i := 36) (v := ?_) rfl (by kernel_rfl) (by kernel_rfl) (by kernel_rfl) (fun _ _ _ h => h) (by rfl) ?_ (by assumption) ?_
    rotate_left
    · intro X hSX
      try dsimp only at hSX
      go_simp <;> with_reducible rfl
    simp only [Act.put, List.setIfInBounds_toArray, List.set_cons_zero, List.set_cons_succ]
    refine held_call (i := 31) rfl (by kernel_rfl) (by rfl) (fun K' hK' => ?_)
    go_simp
    refine (HSU.out _ _ _).mono ?_
    rintro e w8 ⟨rfl, hb8⟩
    have HB8 := Lib.hid (HB6.out.trans (hb8.mono HB6.out.size))
    clear hb8
    refine held_go hK' (HB8.out) ?_
    try simp only [Act.put, List.setIfInBounds_toArray, List.set_cons_zero, List.set_cons_succ]
    refine held_call (i := 35) rfl (by kernel_rfl) (by rfl) (fun K' hK' => ?_)
    go_simp
    refine (HUP.out _ _ _).mono ?_
    rintro e w9 ⟨rfl, hb9⟩
    have HB9 := Lib.hid (HB8.out.trans (hb9.mono HB8.out.size))
    clear hb9
    refine held_go hK' (HB9.out) ?_
    try simp only [Act.put, List.setIfInBounds_toArray, List.set_cons_zero, List.set_cons_succ]
    refine held_call (i := 37) rfl (by kernel_rfl) (by rfl) (fun K' hK' => ?_)
    go_simp
    refine (HSU.out _ _ _).mono ?_
    rintro e w10 ⟨rfl, hb10⟩
    have HB10 := Lib.hid (HB9.out.trans (hb10.mono HB9.out.size))
    clear hb10
    refine held_go hK' (HB10.out) ?_
    try simp only [Act.put, List.setIfInBounds_toArray, List.set_cons_zero, List.set_cons_succ]
    refine held_take (i := 38) (v := ?_) rfl (by kernel_rfl) (by kernel_rfl) (by kernel_rfl) (fun _ _ _ h => h) (by rfl) ?_ (by assumption) ?_
    rotate_left
    · intro X hSX
      try dsimp only at hSX
      go_simp <;> with_reducible rfl
    simp only [Act.put, List.setIfInBounds_toArray, List.set_cons_zero, List.set_cons_succ]
    refine held_take (i := 39) (v := ?_) rfl (by kernel_rfl) (by kernel_rfl) (by kernel_rfl) (fun _ _ _ h => h) (by rfl) ?_ (by assumption) ?_
    rotate_left
    · intro X hSX
      try dsimp only at hSX
      go_simp <;> with_reducible rfl
    simp only [Act.put, List.setIfInBounds_toArray, List.set_cons_zero, List.set_cons_succ]
    refine wpAnyH_done (by kernel_rfl) ?_ _
    refine NoPanic.normal ?_
    have HBA := Lib.hid (HBD.out.trans (HB10.out.mono HBD.out.size))
    go_wp2_with fail
    refine (HBK.out _ _ _ (by unfold maxLen; omega)).mono ?_
    rintro e w11 ⟨v11, rfl, ho11, hb11⟩
    obtain ⟨a11, c11, rfl, hl11, hn11, hm11, _⟩ := ho11.slice
    rw [List.length_nil] at hn11 ⊢
    have HB11 := Lib.hid hb11
    have HL11 := Lib.hid hl11
    clear ho11 hb11 hl11
    go_wp2_with fail
    refine (HRT.out a11 c11 _ HL11.out hm11).mono ?_
    rintro e w12 ⟨rfl, hb12⟩
    have HB12 := Lib.hid (HB11.out.trans (hb12.mono HB11.out.size))
    clear hb12
    go_wp2_with fail
    refine (HBK.out _ _ _ (by unfold maxLen; omega)).mono ?_
    rintro e w13 ⟨v13, rfl, ho13, hb13⟩
    obtain ⟨a13, c13, rfl, hl13, hn13, hm13, _⟩ := ho13.slice
    rw [List.length_nil] at hn13 ⊢
    have HB13 := Lib.hid (HB12.out.trans (hb13.mono HB12.out.size))
    have HBC := Lib.hid (HBA.out.trans (HB13.out.mono HBA.out.size))
    clear ho13 hb13 hl13 hm11 hm13
    go_wp2
    go_loopw [11] (fun u11 wr => u11 = .int .i64 0 ∧ Hid (Below w13.heap.size w13 wr)) (fun _ _ => 0)
    case atStart => exact ⟨rfl, Lib.hid (.refl _ _)⟩
    case round =>
      obtain ⟨rfl, hb⟩ := hrel
      have HBE := Lib.hid (HBC.out.trans (hb.out.mono HBC.out.size))
      go_wp2_with fail
      refine (HFR.out _).mono ?_
      rintro e w20 ⟨rfl, hb20⟩
      go_wp2
      go_ret
      exact ⟨rfl, HBE.out.trans (hb20.mono HBE.out.size)⟩
end Go.Proofs.Ytihiccccpjakgaa
namespace Go.Proofs.Ytihiccccpjakgaa
open Go.RowKit
set_option linter.unusedVariables false
set_option linter.unusedSimpArgs false
attribute [local irreducible] packU updB accU fnv basis byteU beU hashU nodeU spl proI preI verI extI leafU
set_option maxRecDepth 100000 in
set_option maxHeartbeats 4000000 in
theorem top_out (ad : Option Addr) (cap N : Nat) (c s : Int) (w : World) (h : (600 : Int) < (N : Int) ∨ c < 0 ∨ (N : Int) < c ∨ s < 1 ∨ 100 < s) :
    Calls Try.prog 8 #[.slice ad N cap, .int .i64 c, .int .i64 s] w fun e w' => e = .returned (.bool true) ∧ Below w.heap.size w w' := by
  have HFR := Lib.hid (fun W => forms_any W)
  have HOR := Lib.hid h
  clear h
  go_enter Try.func8, Try.ntmps8
  by_cases g0 : (600 : Int) < (N : Int)
  · have hd0 : decide ((600 : Int) < (N : Int)) = true := decide_eq_true g0
    go_wp2_with fail
    refine (HFR.out _).mono ?_
    rintro e w20 ⟨rfl, hb20⟩
    go_wp2
    go_ret
    exact ⟨rfl, hb20⟩
  have hd0 : decide ((600 : Int) < (N : Int)) = false := decide_eq_false g0
  by_cases g1 : c < 0
  · have hd1 : decide (c < 0) = true := decide_eq_true g1
    go_wp2_with fail
    refine (HFR.out _).mono ?_
    rintro e w20 ⟨rfl, hb20⟩
    go_wp2
    go_ret
    exact ⟨rfl, hb20⟩
  have hd1 : decide (c < 0) = false := decide_eq_false g1
  by_cases g2 : (N : Int) < c
  · have hd2 : decide ((N : Int) < c) = true := decide_eq_true g2
    go_wp2_with fail
    refine (HFR.out _).mono ?_
    rintro e w20 ⟨rfl, hb20⟩
    go_wp2
    go_ret
    exact ⟨rfl, hb20⟩
  have hd2 : decide ((N : Int) < c) = false := decide_eq_false g2
  by_cases g3 : s < 1
  · have hd3 : decide (s < 1) = true := decide_eq_true g3
    go_wp2_with fail
    refine (HFR.out _).mono ?_
    rintro e w20 ⟨rfl, hb20⟩
    go_wp2
    go_ret
    exact ⟨rfl, hb20⟩
  have hd3 : decide (s < 1) = false := decide_eq_false g3
  by_cases g4 : 100 < s
  · have hd4 : decide (100 < s) = true := decide_eq_true g4
    go_wp2_with fail
    refine (HFR.out _).mono ?_
    rintro e w20 ⟨rfl, hb20⟩
    go_wp2
    go_ret
    exact ⟨rfl, hb20⟩
  have hd4 : decide (100 < s) = false := decide_eq_false g4
  exact absurd HOR.out (by omega)
theorem law_top (ad : Option Addr) (cap : Nat) (xs : List UInt8) (c s : Int) (w : World) (hl : Lie w ad xs) (hn : xs.length ≤ cap) (hcm : cap ≤ maxLen) (ha : ad = none → cap = 0) :
    Calls Try.prog 8 #[.slice ad xs.length cap, .int .i64 c, .int .i64 s] w fun e w' => e = .returned (.bool true) ∧ Below w.heap.size w w' := by
  by_cases hg : (600 : Int) < (xs.length : Int) ∨ c < 0 ∨ (xs.length : Int) < c ∨ s < 1 ∨ 100 < s
  · exact top_out ad cap xs.length c s w hg
  · have h1 : ¬ (600 : Int) < (xs.length : Int) := fun h => hg (.inl h)
    have h2 : ¬ c < 0 := fun h => hg (.inr (.inl h))
    have h3 : ¬ (xs.length : Int) < c := fun h => hg (.inr (.inr (.inl h)))
    have h4 : ¬ s < 1 := fun h => hg (.inr (.inr (.inr (.inl h))))
    have h5 : ¬ 100 < s := fun h => hg (.inr (.inr (.inr (.inr h))))
    obtain ⟨c', rfl⟩ := Int.eq_ofNat_of_zero_le (by omega : 0 ≤ c)
    obtain ⟨s', rfl⟩ := Int.eq_ofNat_of_zero_le (by omega : 0 ≤ s)
    by_cases h0 : 0 < xs.length
    · obtain ⟨b, off, rfl, _⟩ := hl.some_of h0
      exact top_main b off cap xs c' s' w hl hn hcm h0 (by omega) (by omega) (by omega) (by omega)
    · obtain rfl : xs = [] := List.eq_nil_of_length_eq_zero (by omega)
      obtain rfl : c' = 0 := by have := h3; rw [List.length_nil] at this; omega
      rcases ad with _ | a
      · obtain rfl := ha rfl
        exact top_none s' w hcm (by omega) (by omega)
      · exact top_some a cap s' w hcm (by omega) (by omega)
end Go.Proofs.Ytihiccccpjakgaa
