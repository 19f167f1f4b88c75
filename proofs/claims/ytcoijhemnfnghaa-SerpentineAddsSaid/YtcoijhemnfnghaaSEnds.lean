/-
  The ends of the wraps, as the program lists them.
-/
import Derived.Test.YtcoijhemnfnghaaSList
import Derived.Test.YtcoijhemnfnghaaNHeld
import Derived.Deep.LoopGhost
namespace Go.Proofs.Ytcoijhemnfnghaa
open Go.RowKit
set_option linter.unusedVariables false
theorem endL_succ (L : Int) (n : Nat) : endL L (n + 1) = endL L n ++ [n * L, n * L + L - 1] := rfl
theorem endL_zero (L : Int) : endL L 0 = [] := rfl
theorem wrap_at {W L : Int} (l0 : 1 ≤ L) {n : Nat} (h : (n : Int) < W) : 0 ≤ (n : Int) * L ∧ (n : Int) * L + L ≤ W * L := by
  refine ⟨Int.mul_nonneg (by omega) (by omega), ?_⟩
  have := Int.mul_le_mul_of_nonneg_right (show (n : Int) + 1 ≤ W by omega) (show 0 ≤ L by omega)
  rw [Int.add_mul] at this
  omega
/-- the wrap by another name (a walk calls its world so) -/
abbrev wrp (W L b : Int) : Int := wr W L b
theorem newP1 (W L b : Int) (X : World) (j : Nat) (u : Value) (h : (cellsP W L [b])[j]? = some u) : (X.alloc (boxP (wr W L b) (po W L b) (bk W L b))).cell? ((⟨X.heap.size, 0, none⟩ : Addr).add j) = some u :=
  cells_new X _ _ _ rfl j u (by simpa [cellsP] using h)
theorem newP2 (W L a b : Int) (X : World) (j : Nat) (u : Value) (h : (cellsP W L [a, b])[j]? = some u) : (X.alloc (.cells #[.int .i64 (wr W L a), .int .i64 (po W L a), .bool (bk W L a), .int .i64 (wr W L b), .int .i64 (po W L b), .bool (bk W L b)] 25)).cell? ((⟨X.heap.size, 0, none⟩ : Addr).add j) = some u :=
  cells_new X _ _ _ rfl j u (by simpa [cellsP] using h)
/-- the call gives a list of its own of all ends -/
def EndP (W L : Int) (l : List Int) (w : World) (e : Ending) (w' : World) : Prop := ∃ v, e = .returned v ∧ Opl w' w.heap.size W L v l ∧ Below w.heap.size w w'
attribute [local irreducible] tim vld hav wr po bk endL
set_option maxRecDepth 100000 in
set_option maxHeartbeats 4000000 in
theorem ends_any (W L S T J R : Int) (w : World) (hv : Vld W L S T J R) :
    Calls Try.prog 33 #[geV W L S T J R] w fun e w' => EndP W L (ends W L) w e w' := by
  have HB0 := Lib.hid ((Below.refl (w.heap.size + 1) (w.alloc (boxG W L S T J R))))
  have HBW := Lib.hid (below_box1 w (boxG W L S T J R))
  have HG := Lib.hid (GeoAt.new w W L S T J R 23)
  have HS0 : Hid ((w.alloc (boxG W L S T J R)).heap.size = w.heap.size + 1) := Lib.hid (by simp)
  have HPO := Lib.hid (fun b X (b0 : 0 ≤ b) (b1 : b ≤ W * L) => placeOf_any W L S T J R b X hv.w0 hv.w1 hv.l0 hv.l1 hv.c1 b0 b1)
  have HWA := Lib.hid (fun n (h : ((n : Nat) : Int) < W) => wrap_at (W := W) hv.l0 h)
  have w0 := hv.w0
  have w1 := hv.w1
  have l0 := hv.l0
  have l1 := hv.l1
  have c1 := hv.c1
  have c0 : 0 ≤ W * L := by have := cap_pos w0 l0; omega
  have HEN := Lib.hid (show ends W L = endL L W.toNat ++ [W * L] from rfl)
  have HE1 := Lib.hid (fun n => endL_succ L n)
  have HE0 := Lib.hid (endL_zero L)
  have HLN := Lib.hid (fun n => endL_length L n)
  clear hv
  obtain ⟨N, rfl⟩ : ∃ N : Nat, W = N := ⟨W.toNat, by omega⟩
  rw [Int.toNat_natCast] at HEN
  go_enter Try.func33, Try.ntmps33
  go_wp2_with fail
  generalize World.alloc _ _ = X0 at HB0 HBW HG HS0 ⊢
  obtain ⟨glt, g0, g1, g2, g3, g4, g5⟩ := HG.out
  go_wp2
  clear g0 g1 g2 g3 g4 g5
  go_loopg [3, 8] N (fun gk v3 v8 wx => ∃ n : Nat, n + gk = N ∧ v8 = .int .i64 n ∧ Hid (Opl wx (w.heap.size + 1) N L v3 (endL L n)) ∧ Hid (Below (w.heap.size + 1) X0 wx) ∧ Hid (w.heap.size + 1 ≤ wx.heap.size))
  case atStart => exact ⟨0, by omega, rfl, Lib.hid (by rw [HE0.out]; exact Opl.ofNil _ _ _ _), HB0, Lib.hid (by rw [HS0.out]; omega)⟩
  case round =>
    obtain ⟨n, hn, rfl, hO, hB, hZ⟩ := hrel
    obtain ⟨glt, g0, g1, g2, g3, g4, g5⟩ := HG.out.below hB.out (by omega)
    cases gk with
    | zero =>
      obtain rfl : n = N := by omega
      have hlen : (endL L n).length + 1 ≤ 10000 := by rw [HLN.out]; omega
      go_wp2_with fail
      refine (HPO.out ((n : Int) * L) _ c0 (by omega)).mono ?_
      rintro e w2 ⟨rfl, hb⟩
      have HO2 := Lib.hid ((hO.out.below hb).alloc (boxP (wrp n L (n * L)) (po n L (n * L)) (bk n L (n * L))))
      have HB2 := Lib.hid (hB.out.trans (hb.mono hZ.out))
      have HZ2 : Hid (w.heap.size + 1 ≤ w2.heap.size) := Lib.hid (Nat.le_trans hZ.out hb.size)
      have HNW := Lib.hid (fun j u => newP1 n L (n * L) w2 j u)
      have HZ3 : Hid (w.heap.size + 1 ≤ (w2.alloc (boxP (wrp n L (n * L)) (po n L (n * L)) (bk n L (n * L)))).heap.size) := Lib.hid (by have := HZ2.out; simp; omega)
      clear hb
      rw [show Go.Proofs.Ytcoijhemnfnghaa.wr (n : Int) L (n * L) = wrp n L (n * L) from rfl]
      go_wp2_with (at_builtin; refine wpList_append_p rfl (.tmp 29) (.tmp 37) rfl (w.heap.size + 1) n L _ _ rfl HO2.out [n * L] _ 1 1 rfl rfl HNW.out hlen HZ3.out ?_; intro v5 w5 ho5 hg5; have HO5 := Lib.hid ho5; have HG5 := Lib.hid hg5; clear ho5 hg5)
      go_ret
      refine ⟨_, rfl, by rw [HEN.out]; exact HO5.out.mono (by omega), ?_⟩
      exact HBW.out.trans (((HB2.out.alloc HZ2.out _).grown HG5.out HZ3.out (fun z hz => (HO2.out.lt z hz).1)).mono (by omega))
    | succ gk0 =>
      have hnN : (n : Int) < N := by omega
      obtain ⟨m0, m1⟩ := HWA.out n hnN
      have hlen : (endL L n).length + 2 ≤ 10000 := by rw [HLN.out]; omega
      have HP1 := Lib.hid (fun X => HPO.out (n * L) X m0 (by omega))
      have HP2 := Lib.hid (fun X => HPO.out (n * L + L - 1) X (by omega) (by omega))
      have HNW := Lib.hid (fun X j u => newP2 N L (n * L) (n * L + L - 1) X j u)
      have hw1 : IntKind.i64.wrap ((n : Int) * L + L) = (n : Int) * L + L := by rw [IntKind.wrap_i64]; omega
      have hw2 : IntKind.i64.wrap ((n : Int) * L + L - 1) = (n : Int) * L + L - 1 := by rw [IntKind.wrap_i64]; omega
      have HBX := Lib.hid hB.out.drew
      have HOX := Lib.hid (hO.out.below (Below.refl wr.heap.size wr).drew)
      have HZX : Hid (w.heap.size + 1 ≤ wr.drew.heap.size) := Lib.hid hZ.out
      go_wp2_with fail
      refine wp_region_noPanic ?_
      refine wp_region_held_drew (S := fun X => Below (w.heap.size + 1) X0 X) (by kernel_rfl) (HBX.out) (fun hS0 => ?_)
      refine held_take (i := 0) (v := ?_) rfl (by kernel_rfl) (by kernel_rfl) (by kernel_rfl) (fun _ _ _ h => h) (by rfl) ?_ (by assumption) ?_
      rotate_left
      · intro X hSX
        try dsimp only at hSX
        go_simp <;> with_reducible rfl
      simp only [Act.put, List.setIfInBounds_toArray, List.set_cons_zero, List.set_cons_succ]
      refine held_take (i := 1) (v := ?_) rfl (by kernel_rfl) (by kernel_rfl) (by kernel_rfl) (fun _ _ _ h => h) (by rfl) ?_ (by assumption) ?_
      rotate_left
      · intro X hSX
        try dsimp only at hSX
        obtain ⟨_, g0, g1, g2, g3, g4, g5⟩ := HG.out.below hSX (by omega)
        go_simp <;> with_reducible rfl
      simp only [Act.put, List.setIfInBounds_toArray, List.set_cons_zero, List.set_cons_succ]
      refine held_take (i := 2) (v := ?_) rfl (by kernel_rfl) (by kernel_rfl) (by kernel_rfl) (fun _ _ _ h => h) (by rfl) ?_ (by assumption) ?_
      rotate_left
      · intro X hSX
        try dsimp only at hSX
        go_simp <;> with_reducible rfl
      simp only [Act.put, List.setIfInBounds_toArray, List.set_cons_zero, List.set_cons_succ]
      refine held_take (i := 4) (v := ?_) rfl (by kernel_rfl) (by kernel_rfl) (by kernel_rfl) (fun _ _ _ h => h) (by rfl) ?_ (by assumption) ?_
      rotate_left
      · intro X hSX
        try dsimp only at hSX
        obtain ⟨_, g0, g1, g2, g3, g4, g5⟩ := HG.out.below hSX (by omega)
        go_simp <;> with_reducible rfl
      simp only [Act.put, List.setIfInBounds_toArray, List.set_cons_zero, List.set_cons_succ]
      refine held_take (i := 5) (v := ?_) rfl (by kernel_rfl) (by kernel_rfl) (by kernel_rfl) (fun _ _ _ h => h) (by rfl) ?_ (by assumption) ?_
      rotate_left
      · intro X hSX
        try dsimp only at hSX
        go_simp <;> with_reducible rfl
      simp only [Act.put, List.setIfInBounds_toArray, List.set_cons_zero, List.set_cons_succ]
      refine held_take (i := 6) (v := ?_) rfl (by kernel_rfl) (by kernel_rfl) (by kernel_rfl) (fun _ _ _ h => h) (by rfl) ?_ (by assumption) ?_
      rotate_left
      · intro X hSX
        try dsimp only at hSX
        go_simp <;> with_reducible rfl
      simp only [Act.put, List.setIfInBounds_toArray, List.set_cons_zero, List.set_cons_succ]
      refine held_take (i := 7) (v := ?_) rfl (by kernel_rfl) (by kernel_rfl) (by kernel_rfl) (fun _ _ _ h => h) (by rfl) ?_ (by assumption) ?_
      rotate_left
      · intro X hSX
        try dsimp only at hSX
        obtain ⟨_, g0, g1, g2, g3, g4, g5⟩ := HG.out.below hSX (by omega)
        go_simp <;> with_reducible rfl
      simp only [Act.put, List.setIfInBounds_toArray, List.set_cons_zero, List.set_cons_succ]
      refine held_take (i := 8) (v := ?_) rfl (by kernel_rfl) (by kernel_rfl) (by kernel_rfl) (fun _ _ _ h => h) (by rfl) ?_ (by assumption) ?_
      rotate_left
      · intro X hSX
        try dsimp only at hSX
        go_simp <;> with_reducible rfl
      simp only [Act.put, List.setIfInBounds_toArray, List.set_cons_zero, List.set_cons_succ]
      refine held_take (i := 9) (v := ?_) rfl (by kernel_rfl) (by kernel_rfl) (by kernel_rfl) (fun _ _ _ h => h) (by rfl) ?_ (by assumption) ?_
      rotate_left
      · intro X hSX
        try dsimp only at hSX
        go_simp <;> with_reducible rfl
      simp only [Act.put, List.setIfInBounds_toArray, List.set_cons_zero, List.set_cons_succ]
      refine held_call (i := 3) rfl (by kernel_rfl) (by rfl) (fun K' hK' => ?_)
      go_simp
      refine (HP1.out _).mono ?_
      rintro e w5 ⟨rfl, hb⟩
      replace HOX := Lib.hid (HOX.out.below hb)
      replace HBX := Lib.hid (HBX.out.trans (hb.mono HZX.out))
      replace HZX := Lib.hid (Nat.le_trans HZX.out hb.size)
      have hS5 := HBX.out
      clear hb
      refine held_go hK' (HBX.out) ?_
      try simp only [Act.put, List.setIfInBounds_toArray, List.set_cons_zero, List.set_cons_succ]
      refine held_call (i := 10) rfl (by kernel_rfl) (by rfl) (fun K' hK' => ?_)
      go_simp
      refine (HP2.out _).mono ?_
      rintro e w6 ⟨rfl, hb⟩
      replace HOX := Lib.hid (HOX.out.below hb)
      replace HBX := Lib.hid (HBX.out.trans (hb.mono HZX.out))
      replace HZX := Lib.hid (Nat.le_trans HZX.out hb.size)
      have hS6 := HBX.out
      clear hb
      refine held_go hK' (HBX.out) ?_
      try simp only [Act.put, List.setIfInBounds_toArray, List.set_cons_zero, List.set_cons_succ]
      have HA1 : Hid (Below (w.heap.size + 1) X0 (w6.alloc (.cells #[.int .i64 (wrp N L (n * L)), .int .i64 (po N L (n * L)), .bool (bk N L (n * L)), .int .i64 (wrp N L (n * L + L - 1)), .int .i64 (po N L (n * L + L - 1)), .bool (bk N L (n * L + L - 1))] 25))) := Lib.hid (HBX.out.alloc HZX.out _)
      have HO1 := Lib.hid (HOX.out.alloc (.cells #[.int .i64 (wrp N L (n * L)), .int .i64 (po N L (n * L)), .bool (bk N L (n * L)), .int .i64 (wrp N L (n * L + L - 1)), .int .i64 (po N L (n * L + L - 1)), .bool (bk N L (n * L + L - 1))] 25))
      have HZ1 := Lib.hid (Nat.le_trans HZX.out (below_box1 w6 (.cells #[.int .i64 (wrp N L (n * L)), .int .i64 (po N L (n * L)), .bool (bk N L (n * L)), .int .i64 (wrp N L (n * L + L - 1)), .int .i64 (po N L (n * L + L - 1)), .bool (bk N L (n * L + L - 1))] 25)).size)
      have HN6 := Lib.hid (HNW.out w6)
      refine held_call (i := 11) rfl (by kernel_rfl) (by rfl) (fun K' hK' => ?_)
      go_simp
      refine held_go hK' (HA1.out) ?_
      try simp only [Act.put, List.setIfInBounds_toArray, List.set_cons_zero, List.set_cons_succ]
      refine held_call (i := 12) rfl (by kernel_rfl) (by rfl) (fun K' hK' => ?_)
      refine wp_append_p (.tmp 15) (.tmp 26) rfl (w.heap.size + 1) N L _ _ rfl HO1.out [n * L, n * L + L - 1] _ 2 2 rfl rfl HN6.out hlen HZ1.out ?_
      intro v8 w8 ho8 hg8
      have HO8 : Hid (Opl w8 (w.heap.size + 1) N L v8 (endL L (n + 1))) := Lib.hid (by rw [HE1.out]; exact ho8)
      have HB8 := Lib.hid (HA1.out.grown hg8 HZ1.out (fun z hz => (HO1.out.lt z hz).1))
      have HZ8 := Lib.hid (Nat.le_trans HZ1.out hg8.size)
      clear ho8 hg8
      refine held_go hK' (HB8.out) ?_
      try simp only [Act.put, List.setIfInBounds_toArray, List.set_cons_zero, List.set_cons_succ]
      refine held_call (i := 13) rfl (by kernel_rfl) (by rfl) (fun K' hK' => ?_)
      try go_simp
      refine held_go hK' (HB8.out) ?_
      try simp only [Act.put, List.setIfInBounds_toArray, List.set_cons_zero, List.set_cons_succ]
      refine wpAnyH_done (by kernel_rfl) ?_ _
      refine NoPanic.normal ?_
      go_wp2
      go_roundg gk0
      case rel => exact ⟨n + 1, by omega, by go_num, HO8, HB8, HZ8⟩
      case measure => omega
end Go.Proofs.Ytcoijhemnfnghaa
