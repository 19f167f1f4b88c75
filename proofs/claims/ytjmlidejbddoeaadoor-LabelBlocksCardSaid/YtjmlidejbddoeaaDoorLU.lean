/-
  The program's hasLength, isBarcode.
  The program's Name.
-/
import Derived.Test.YtjmlidejbddoeaaDoorVlWin
import Derived.Test.YtjmlidejbddoeaaDoorLN
namespace Go.Proofs.YtjmlidejbddoeaaDoor
open Go.RowKit
set_option linter.unusedVariables false
theorem win_chr (s : ByteArray) : winB [(65, 90), (48, 57)] (strI s) = s.data.toList.all chr := by
  unfold winB strI
  rw [List.all_map]
  congr 1
  funext x
  simp only [Function.comp, anyP, List.any_cons, List.any_nil, Bool.or_false, inB, chr]
  rw [Bool.eq_iff_iff]
  simp
  omega
theorem win_chn (s : ByteArray) : winB [(97, 122), (48, 57), (45, 45)] (strI s) = s.data.toList.all chn := by
  unfold winB strI
  rw [List.all_map]
  congr 1
  funext x
  simp only [Function.comp, anyP, List.any_cons, List.any_nil, Bool.or_false, inB, chn]
  rw [Bool.eq_iff_iff]
  simp
  omega
theorem win_low (s : ByteArray) (h : 1 ≤ s.size) : winB [(97, 122)] ((strI s).take 1) = low s.data.toList := by
  obtain ⟨⟨l⟩⟩ := s
  cases l with
  | nil => simp [ByteArray.size] at h
  | cons x l =>
    simp only [winB, strI, low, List.map_cons, List.take_succ_cons, List.take_zero, List.all_cons, List.all_nil, Bool.and_true, anyP, List.any_cons, List.any_nil, Bool.or_false, inB]
    rw [Bool.eq_iff_iff]
    simp
    omega
theorem win_len (a b n : Int) : winB [(a, b)] [n] = (decide (a ≤ n) && decide (n ≤ b)) := by simp [winB, anyP, inB]
theorem bar_eq (s : ByteArray) : bar s = ((decide (1 ≤ s.size) && decide (s.size ≤ 24)) && s.data.toList.all chr) := by unfold bar; rw [Bool.and_comm]
theorem nam_eq (s : ByteArray) : nam s = (((decide (1 ≤ s.size) && decide (s.size ≤ 24)) && s.data.toList.all chn) && low s.data.toList) := by unfold nam; rw [Bool.and_comm, ← Bool.and_assoc]
theorem strI_len (s : ByteArray) : (strI s).length = s.size := by simp [strI]
theorem Ezs.one {k : IntKind} (w : World) (x : Int) (t : TypeId) : Ezs k (w.alloc (.cells #[.int k x] t)) (some ⟨w.heap.size, 0, none⟩) [x] := by
  refine .inr ⟨w.heap.size, 0, rfl, by simp, fun i hi => ?_⟩
  obtain rfl : i = 0 := by simpa using hi
  rw [World.cell?_alloc_mark]; rfl
theorem Prs.one {k : IntKind} (w : World) (a b : Int) (t : TypeId) : Prs k (w.alloc (.cells #[.int k a, .int k b] t)) (some ⟨w.heap.size, 0, none⟩) [(a, b)] := by
  refine ⟨w.heap.size, 0, rfl, by simp, fun i hi => ?_⟩
  obtain rfl : i = 0 := by simpa using hi
  constructor <;> (rw [World.cell?_alloc_mark]; rfl)
theorem Prs.two {k : IntKind} (w : World) (a b c d : Int) (t : TypeId) : Prs k (w.alloc (.cells #[.int k a, .int k b, .int k c, .int k d] t)) (some ⟨w.heap.size, 0, none⟩) [(a, b), (c, d)] := by
  refine ⟨w.heap.size, 0, rfl, by simp, fun i hi => ?_⟩
  match i, hi with
  | 0, _ => constructor <;> (rw [World.cell?_alloc_mark]; rfl)
  | 1, _ => constructor <;> (rw [World.cell?_alloc_mark]; rfl)
theorem Prs.three {k : IntKind} (w : World) (a b c d e f : Int) (t : TypeId) : Prs k (w.alloc (.cells #[.int k a, .int k b, .int k c, .int k d, .int k e, .int k f] t)) (some ⟨w.heap.size, 0, none⟩) [(a, b), (c, d), (e, f)] := by
  refine ⟨w.heap.size, 0, rfl, by simp, fun i hi => ?_⟩
  match i, hi with
  | 0, _ => constructor <;> (rw [World.cell?_alloc_mark]; rfl)
  | 1, _ => constructor <;> (rw [World.cell?_alloc_mark]; rfl)
  | 2, _ => constructor <;> (rw [World.cell?_alloc_mark]; rfl)
set_option maxRecDepth 100000 in
set_option maxHeartbeats 1000000 in
theorem haslen_any (s : ByteArray) (w : World) (hs : s.size ≤ maxLen) :
    Calls Tryd.prog 32 #[.string s] w fun e w' => e = .returned (.bool (decide (1 ≤ s.size) && decide (s.size ≤ 24))) ∧ Below w.heap.size w w' := by
  obtain ⟨N, hN⟩ : ∃ N, N = s.size := ⟨_, rfl⟩
  have hz : ((s.size : Nat) : Int) = (N : Int) := by omega
  obtain ⟨b, hbq⟩ : ∃ b, b = (decide (1 ≤ s.size) && decide (s.size ≤ 24)) := ⟨_, rfl⟩
  have HR := Lib.hid (show winB [(1, 24)] [(N : Int)] = b by rw [hbq, win_len, ← hN, Bool.eq_iff_iff]; simp; omega)
  have HQ := Lib.hid hbq
  have HN := Lib.hid hN
  have HB := Lib.hid ((Below.refl w.heap.size w).alloc (Nat.le_refl _) (.cells #[.int .i64 (N : Int)] 3))
  have HB2 := Lib.hid (HB.out.alloc HB.out.size (.cells #[.int .i64 1, .int .i64 24] 51))
  have HC := Lib.hid (withini_any (some ⟨w.heap.size, 0, none⟩) (some ⟨w.heap.size + 1, 0, none⟩) 1 1 1 1 [(N : Int)] [(1, 24)] ((w.alloc (.cells #[.int .i64 (N : Int)] 3)).alloc (.cells #[.int .i64 1, .int .i64 24] 51)) ((Ezs.one w N 3).below (vl_boxw _ _)) rfl (by omega) (by have := Prs.one (k := .i64) (w.alloc (.cells #[.int .i64 (N : Int)] 3)) 1 24 51; rwa [World.size_alloc] at this) rfl (by omega))
  clear hN hbq
  go_enter Tryd.func32, Tryd.ntmps32
  go_wp2_with fail
  refine HC.out.mono ?_
  rintro e w1 ⟨rfl, hb⟩
  rw [HR.out]
  have HB3 := Lib.hid (HB2.out.trans (hb.mono HB2.out.size))
  clear HC HB2 HB hb
  go_wp2
  go_ret
  exact ⟨by rw [← HQ.out]; rfl, HB3.out⟩
/-- a string's bytes in new memory -/
theorem conv_any (s : ByteArray) (n : Nat) (hn : n = s.size) (w : World) : ∃ gc X, (convert 9 36 (.string s)).run Tryd.prog w = .ok (.slice (some ⟨w.heap.size, 0, none⟩) n gc) X ∧ Below w.heap.size w X ∧ Ezs .u8 X (some ⟨w.heap.size, 0, none⟩) (strI s) := by
  subst hn
  refine ⟨_, _, Lib.run_convert_string_bytes (P := Tryd.prog) w 9 36 5 s Tryd.underlying9 Tryd.underlying36 Tryd.underlying5, ⟨rfl, rfl, rfl, by rw [Lib.bytesWorld_size]; omega, fun k hk => Lib.bytesWorld_at_old w _ s k hk⟩, .inr ⟨w.heap.size, 0, rfl, by rw [Lib.bytesWorld_size]; omega, fun i hi => ?_⟩⟩
  rw [strI_len] at hi
  have h := Lib.bytesWorld_cell w 5 s i hi
  rw [Nat.zero_add, h]
  have hl : i < s.data.toList.length := by simpa using hi
  rw [List.getD_eq_getElem?_getD, List.getElem?_eq_getElem hl]
  simp [strI]
set_option maxRecDepth 100000 in
set_option maxHeartbeats 1000000 in
theorem isbar_any (s : ByteArray) (w : World) (hs : s.size ≤ maxLen) (hm : Lmg w) :
    Calls Tryd.prog 29 #[.string s] w fun e w' => e = .returned (.bool (bar s)) ∧ Below w.heap.size w w' := by
  have HH := Lib.hid (haslen_any s w hs)
  obtain ⟨C, hC⟩ : ∃ C, C = s.data.toList.all chr := ⟨_, rfl⟩
  have HE := Lib.hid (show bar s = ((decide (1 ≤ s.size) && decide (s.size ≤ 24)) && C) by rw [hC]; exact bar_eq s)
  have HW := Lib.hid (show winB [(65, 90), (48, 57)] (strI s) = C by rw [hC]; exact win_chr s)
  clear hC
  have HSL := Lib.hid (strI_len s)
  have HS := Lib.hid hs
  have HM := Lib.hid hm
  clear hs hm
  go_enter Tryd.func29, Tryd.ntmps29
  go_wp2_with fail
  refine HH.out.mono ?_
  generalize (decide (1 ≤ s.size) && decide (s.size ≤ 24)) = L at *
  rintro e w1 ⟨rfl, hb1⟩
  have HB1 := Lib.hid hb1
  have HM1 := Lib.hid (HM.out.step hb1)
  clear hb1 HH HM
  cases L
  · go_wp2
    go_ret
    exact ⟨by rw [HE.out]; rfl, HB1.out⟩
  obtain ⟨N, hN⟩ : ∃ N, N = s.size := ⟨_, rfl⟩
  obtain ⟨gc, X, hcv, hbX, hez⟩ := conv_any s N hN w1
  have HMX := Lib.hid (HM1.out.step hbX)
  have HBX := Lib.hid (HB1.out.trans (hbX.mono HB1.out.size))
  have HEZ := Lib.hid (hez.below (vl_boxw X (.cells #[.int .u8 65, .int .u8 90, .int .u8 48, .int .u8 57] 53)))
  have HN := Lib.hid hN
  clear hN hbX hez
  obtain ⟨-, u0, u1, -, -, d0, d1, -, -⟩ := HMX.out
  go_wp2_with fail
  refine (withinb_any _ _ N gc 2 2 (strI s) [(65, 90), (48, 57)] _ HEZ.out (HN.out.trans HSL.out.symm) (by have := HN.out; have := HS.out; unfold maxLen at this; omega) (Prs.two X 65 90 48 57 53) rfl (by omega)).mono ?_
  rintro e w2 ⟨rfl, hb2⟩
  rw [HW.out]
  have HB2 := Lib.hid ((HBX.out.alloc HBX.out.size (.cells #[.int .u8 65, .int .u8 90, .int .u8 48, .int .u8 57] 53)).trans (hb2.mono (HBX.out.alloc HBX.out.size _).size))
  clear hb2 u0 u1 d0 d1 HEZ HBX HMX
  go_wp2
  go_ret
  exact ⟨by rw [HE.out]; rfl, HB2.out⟩
end Go.Proofs.YtjmlidejbddoeaaDoor
namespace Go.Proofs.YtjmlidejbddoeaaDoor
open Go.RowKit
set_option linter.unusedVariables false
theorem vl_box2w {B : Nat} {w X : World} (h : Below B w X) (hs : B ≤ w.heap.size) (o : Obj) : Below B w (X.alloc o) := h.alloc (Nat.le_trans hs h.size) o
theorem strI_take (s : ByteArray) : strI (s.extract 0 1) = (strI s).take 1 := by
  unfold strI
  rw [← List.map_take, ByteArray.data_extract]
  simp
theorem size_take (s : ByteArray) (h : 1 ≤ s.size) : 1 = (s.extract 0 1).size := by simp; omega
attribute [local irreducible] nam winB strI
set_option maxRecDepth 100000 in
set_option maxHeartbeats 4000000 in
theorem name_any (s : ByteArray) (w : World) (hs : s.size ≤ maxLen) (hm : Lmg w) :
    Calls Tryd.prog 14 #[.string s] w fun e w' => e = .returned (.bool (nam s)) ∧ Below w.heap.size w w' := by
  have HH := Lib.hid (fun W => haslen_any s W hs)
  obtain ⟨C, hC⟩ : ∃ C, C = s.data.toList.all chn := ⟨_, rfl⟩
  obtain ⟨D, hD⟩ : ∃ D, D = low s.data.toList := ⟨_, rfl⟩
  have HE := Lib.hid (show nam s = (((decide (1 ≤ s.size) && decide (s.size ≤ 24)) && C) && D) by rw [hC, hD]; exact nam_eq s)
  have HW := Lib.hid (show winB [(97, 122), (48, 57), (45, 45)] (strI s) = C by rw [hC]; exact win_chn s)
  have HLO := Lib.hid (fun h => show winB [(97, 122)] ((strI s).take 1) = D by rw [hD]; exact win_low s h)
  clear hC hD
  have HSL := Lib.hid (strI_len s)
  have HS := Lib.hid hs
  have HM := Lib.hid hm
  have HTK := Lib.hid (strI_take s)
  obtain ⟨N, hN⟩ : ∃ N, N = s.size := ⟨_, rfl⟩
  have HN := Lib.hid hN
  have hz : ((s.size : Nat) : Int) = (N : Int) := by omega
  obtain ⟨L, hL⟩ : ∃ L, L = (decide (1 ≤ s.size) && decide (s.size ≤ 24)) := ⟨_, rfl⟩
  have HLN := Lib.hid hL.symm
  have HL1 := Lib.hid (show L = true → 1 ≤ N by intro h; rw [hL] at h; simp at h; omega)
  rw [← hL] at HE
  clear hs hm hN hL
  go_enter Tryd.func14, Tryd.ntmps14
  go_wp2_with fail
  refine wp_region_noPanic ?_
  refine wp_region_held_drew (S := fun X => Below w.heap.size w X) (by kernel_rfl) ((Below.refl _ _).drew) (fun hS0 => ?_)
  refine held_take (i := 0) (v := ?_) rfl (by kernel_rfl) (by kernel_rfl) (by kernel_rfl) (fun _ _ _ h => h) (by rfl) ?_ (by assumption) ?_
  rotate_left
  · intro X hSX
    try dsimp only at hSX
    go_simp <;> with_reducible rfl
  simp only [Act.put, List.setIfInBounds_toArray, List.set_cons_zero, List.set_cons_succ]
  refine held_call (i := 1) rfl (by kernel_rfl) (by rfl) (fun K' hK' => ?_)
  go_simp
  refine (HH.out _).mono ?_
  rintro e w1 ⟨rfl, hb1⟩
  rw [HLN.out]
  have hS1 : Below w.heap.size w w1 := hS0.trans (hb1.mono hS0.size)
  cases L
  · have HR := Lib.hid (show nam s = false by rw [HE.out]; rfl)
    refine held_go hK' (hS1) ?_
    try simp only [Act.put, List.setIfInBounds_toArray, List.set_cons_zero, List.set_cons_succ]
    refine held_take (i := 2) (v := ?_) rfl (by kernel_rfl) (by kernel_rfl) (by kernel_rfl) (fun _ _ _ h => h) (by rfl) ?_ (by assumption) ?_
    rotate_left
    · intro X hSX
      try dsimp only at hSX
      go_simp <;> with_reducible rfl
    simp only [Act.put, List.setIfInBounds_toArray, List.set_cons_zero, List.set_cons_succ]
    refine held_skip (i := 3) rfl (by kernel_rfl) (by kernel_rfl) (by kernel_rfl) (fun _ _ _ h => h) (by rfl) (by assumption) ?_
    simp only [Act.put, List.setIfInBounds_toArray, List.set_cons_zero, List.set_cons_succ]
    refine held_skip (i := 5) rfl (by kernel_rfl) (by kernel_rfl) (by kernel_rfl) (fun _ _ _ h => h) (by rfl) (by assumption) ?_
    simp only [Act.put, List.setIfInBounds_toArray, List.set_cons_zero, List.set_cons_succ]
    refine held_skip (i := 6) rfl (by kernel_rfl) (by kernel_rfl) (by kernel_rfl) (fun _ _ _ h => h) (by rfl) (by assumption) ?_
    simp only [Act.put, List.setIfInBounds_toArray, List.set_cons_zero, List.set_cons_succ]
    refine held_skip (i := 7) rfl (by kernel_rfl) (by kernel_rfl) (by kernel_rfl) (fun _ _ _ h => h) (by rfl) (by assumption) ?_
    simp only [Act.put, List.setIfInBounds_toArray, List.set_cons_zero, List.set_cons_succ]
    refine held_skip (i := 4) rfl (by kernel_rfl) (by kernel_rfl) (by kernel_rfl) (fun _ _ _ h => h) (by rfl) (by assumption) ?_
    simp only [Act.put, List.setIfInBounds_toArray, List.set_cons_zero, List.set_cons_succ]
    refine held_skip (i := 8) rfl (by kernel_rfl) (by kernel_rfl) (by kernel_rfl) (fun _ _ _ h => h) (by rfl) (by assumption) ?_
    simp only [Act.put, List.setIfInBounds_toArray, List.set_cons_zero, List.set_cons_succ]
    refine held_skip (i := 9) rfl (by kernel_rfl) (by kernel_rfl) (by kernel_rfl) (fun _ _ _ h => h) (by rfl) (by assumption) ?_
    simp only [Act.put, List.setIfInBounds_toArray, List.set_cons_zero, List.set_cons_succ]
    refine held_take (i := 10) (v := ?_) rfl (by kernel_rfl) (by kernel_rfl) (by kernel_rfl) (fun _ _ _ h => h) (by rfl) ?_ (by assumption) ?_
    rotate_left
    · intro X hSX
      try dsimp only at hSX
      go_simp <;> with_reducible rfl
    simp only [Act.put, List.setIfInBounds_toArray, List.set_cons_zero, List.set_cons_succ]
    refine held_take (i := 11) (v := ?_) rfl (by kernel_rfl) (by kernel_rfl) (by kernel_rfl) (fun _ _ _ h => h) (by rfl) ?_ (by assumption) ?_
    rotate_left
    · intro X hSX
      try dsimp only at hSX
      go_simp <;> with_reducible rfl
    simp only [Act.put, List.setIfInBounds_toArray, List.set_cons_zero, List.set_cons_succ]
    refine held_skip (i := 12) rfl (by kernel_rfl) (by kernel_rfl) (by kernel_rfl) (fun _ _ _ h => h) (by rfl) (by assumption) ?_
    simp only [Act.put, List.setIfInBounds_toArray, List.set_cons_zero, List.set_cons_succ]
    refine held_skip (i := 13) rfl (by kernel_rfl) (by kernel_rfl) (by kernel_rfl) (fun _ _ _ h => h) (by rfl) (by assumption) ?_
    simp only [Act.put, List.setIfInBounds_toArray, List.set_cons_zero, List.set_cons_succ]
    refine held_skip (i := 15) rfl (by kernel_rfl) (by kernel_rfl) (by kernel_rfl) (fun _ _ _ h => h) (by rfl) (by assumption) ?_
    simp only [Act.put, List.setIfInBounds_toArray, List.set_cons_zero, List.set_cons_succ]
    refine held_skip (i := 14) rfl (by kernel_rfl) (by kernel_rfl) (by kernel_rfl) (fun _ _ _ h => h) (by rfl) (by assumption) ?_
    simp only [Act.put, List.setIfInBounds_toArray, List.set_cons_zero, List.set_cons_succ]
    refine held_skip (i := 16) rfl (by kernel_rfl) (by kernel_rfl) (by kernel_rfl) (fun _ _ _ h => h) (by rfl) (by assumption) ?_
    simp only [Act.put, List.setIfInBounds_toArray, List.set_cons_zero, List.set_cons_succ]
    refine held_skip (i := 17) rfl (by kernel_rfl) (by kernel_rfl) (by kernel_rfl) (fun _ _ _ h => h) (by rfl) (by assumption) ?_
    simp only [Act.put, List.setIfInBounds_toArray, List.set_cons_zero, List.set_cons_succ]
    refine held_take (i := 18) (v := ?_) rfl (by kernel_rfl) (by kernel_rfl) (by kernel_rfl) (fun _ _ _ h => h) (by rfl) ?_ (by assumption) ?_
    rotate_left
    · intro X hSX
      try dsimp only at hSX
      go_simp <;> with_reducible rfl
    simp only [Act.put, List.setIfInBounds_toArray, List.set_cons_zero, List.set_cons_succ]
    refine held_take (i := 19) (v := ?_) rfl (by kernel_rfl) (by kernel_rfl) (by kernel_rfl) (fun _ _ _ h => h) (by rfl) ?_ (by assumption) ?_
    rotate_left
    · intro X hSX
      try dsimp only at hSX
      go_simp <;> with_reducible rfl
    simp only [Act.put, List.setIfInBounds_toArray, List.set_cons_zero, List.set_cons_succ]
    refine wpAnyH_done (by kernel_rfl) ?_ _
    refine NoPanic.normal ?_
    go_wp2_with fail
    go_ret
    exact ⟨by rw [HR.out]; rfl, hS1⟩
  have hN1 : 1 ≤ N := HL1.out rfl
  have hN2 : (1 : Int) ≤ (N : Int) := by omega
  have HST := Lib.hid (size_take s (by have := HN.out; omega))
  refine held_go hK' (hS1) ?_
  try simp only [Act.put, List.setIfInBounds_toArray, List.set_cons_zero, List.set_cons_succ]
  refine held_take (i := 2) (v := ?_) rfl (by kernel_rfl) (by kernel_rfl) (by kernel_rfl) (fun _ _ _ h => h) (by rfl) ?_ (by assumption) ?_
  rotate_left
  · intro X hSX
    try dsimp only at hSX
    go_simp <;> with_reducible rfl
  simp only [Act.put, List.setIfInBounds_toArray, List.set_cons_zero, List.set_cons_succ]
  refine held_take (i := 3) (v := ?_) rfl (by kernel_rfl) (by kernel_rfl) (by kernel_rfl) (fun _ _ _ h => h) (by rfl) ?_ (by assumption) ?_
  rotate_left
  · intro X hSX
    try dsimp only at hSX
    go_simp <;> with_reducible rfl
  simp only [Act.put, List.setIfInBounds_toArray, List.set_cons_zero, List.set_cons_succ]
  refine held_take (i := 5) (v := ?_) rfl (by kernel_rfl) (by kernel_rfl) (by kernel_rfl) (fun _ _ _ h => h) (by rfl) ?_ (by assumption) ?_
  rotate_left
  · intro X hSX
    try dsimp only at hSX
    obtain ⟨-, -, -, l0, l1, d0, d1, h0, h1⟩ := HM.out.step hSX
    go_simp <;> with_reducible rfl
  simp only [Act.put, List.setIfInBounds_toArray, List.set_cons_zero, List.set_cons_succ]
  refine held_take (i := 6) (v := ?_) rfl (by kernel_rfl) (by kernel_rfl) (by kernel_rfl) (fun _ _ _ h => h) (by rfl) ?_ (by assumption) ?_
  rotate_left
  · intro X hSX
    try dsimp only at hSX
    obtain ⟨-, -, -, l0, l1, d0, d1, h0, h1⟩ := HM.out.step hSX
    go_simp <;> with_reducible rfl
  simp only [Act.put, List.setIfInBounds_toArray, List.set_cons_zero, List.set_cons_succ]
  refine held_take (i := 7) (v := ?_) rfl (by kernel_rfl) (by kernel_rfl) (by kernel_rfl) (fun _ _ _ h => h) (by rfl) ?_ (by assumption) ?_
  rotate_left
  · intro X hSX
    try dsimp only at hSX
    obtain ⟨-, -, -, l0, l1, d0, d1, h0, h1⟩ := HM.out.step hSX
    go_simp <;> with_reducible rfl
  simp only [Act.put, List.setIfInBounds_toArray, List.set_cons_zero, List.set_cons_succ]
  refine held_two (i := 4) (j := 8) rfl rfl (by kernel_rfl) (by rfl) (by rfl) (fun K' hK' => ?_) (fun K' hK' => ?_)
  · obtain ⟨gc, X, hcv, hbX, hez⟩ := conv_any s N HN.out w1
    go_simp
    have hS2 : Below w.heap.size w X := hS1.trans (hbX.mono hS1.size)
    refine held_go hK' (hS2) ?_
    try simp only [Act.put, List.setIfInBounds_toArray, List.set_cons_zero, List.set_cons_succ]
    refine held_call (i := 8) rfl (by kernel_rfl) (by rfl) (fun K' hK' => ?_)
    go_simp
    have hS3 := vl_box2w hS2 (Nat.le_refl _) (.cells #[.int .u8 97, .int .u8 122, .int .u8 48, .int .u8 57, .int .u8 45, .int .u8 45] 53)
    have he := hez.below (vl_boxw X (.cells #[.int .u8 97, .int .u8 122, .int .u8 48, .int .u8 57, .int .u8 45, .int .u8 45] 53))
    have hp := Prs.three (k := .u8) X 97 122 48 57 45 45 53
    refine held_go hK' (hS3) ?_
    try simp only [Act.put, List.setIfInBounds_toArray, List.set_cons_zero, List.set_cons_succ]
    refine held_call (i := 9) rfl (by kernel_rfl) (by rfl) (fun K' hK' => ?_)
    go_simp
    refine (withinb_any _ _ N gc 3 3 (strI s) [(97, 122), (48, 57), (45, 45)] _ he (HN.out.trans HSL.out.symm) (by have := HN.out; have := HS.out; unfold maxLen at this; omega) hp rfl (by omega)).mono ?_
    rintro e w4 ⟨rfl, hb4⟩
    rw [HW.out]
    have hS4 : Below w.heap.size w w4 := hS3.trans (hb4.mono hS3.size)
    clear hp he
    cases C
    · have HR := Lib.hid (show nam s = false by rw [HE.out]; rfl)
      refine held_go hK' (hS4) ?_
      try simp only [Act.put, List.setIfInBounds_toArray, List.set_cons_zero, List.set_cons_succ]
      refine held_take (i := 10) (v := ?_) rfl (by kernel_rfl) (by kernel_rfl) (by kernel_rfl) (fun _ _ _ h => h) (by rfl) ?_ (by assumption) ?_
      rotate_left
      · intro X hSX
        try dsimp only at hSX
        go_simp <;> with_reducible rfl
      simp only [Act.put, List.setIfInBounds_toArray, List.set_cons_zero, List.set_cons_succ]
      refine held_take (i := 11) (v := ?_) rfl (by kernel_rfl) (by kernel_rfl) (by kernel_rfl) (fun _ _ _ h => h) (by rfl) ?_ (by assumption) ?_
      rotate_left
      · intro X hSX
        try dsimp only at hSX
        go_simp <;> with_reducible rfl
      simp only [Act.put, List.setIfInBounds_toArray, List.set_cons_zero, List.set_cons_succ]
      refine held_skip (i := 12) rfl (by kernel_rfl) (by kernel_rfl) (by kernel_rfl) (fun _ _ _ h => h) (by rfl) (by assumption) ?_
      simp only [Act.put, List.setIfInBounds_toArray, List.set_cons_zero, List.set_cons_succ]
      refine held_skip (i := 13) rfl (by kernel_rfl) (by kernel_rfl) (by kernel_rfl) (fun _ _ _ h => h) (by rfl) (by assumption) ?_
      simp only [Act.put, List.setIfInBounds_toArray, List.set_cons_zero, List.set_cons_succ]
      refine held_skip (i := 15) rfl (by kernel_rfl) (by kernel_rfl) (by kernel_rfl) (fun _ _ _ h => h) (by rfl) (by assumption) ?_
      simp only [Act.put, List.setIfInBounds_toArray, List.set_cons_zero, List.set_cons_succ]
      refine held_skip (i := 14) rfl (by kernel_rfl) (by kernel_rfl) (by kernel_rfl) (fun _ _ _ h => h) (by rfl) (by assumption) ?_
      simp only [Act.put, List.setIfInBounds_toArray, List.set_cons_zero, List.set_cons_succ]
      refine held_skip (i := 16) rfl (by kernel_rfl) (by kernel_rfl) (by kernel_rfl) (fun _ _ _ h => h) (by rfl) (by assumption) ?_
      simp only [Act.put, List.setIfInBounds_toArray, List.set_cons_zero, List.set_cons_succ]
      refine held_skip (i := 17) rfl (by kernel_rfl) (by kernel_rfl) (by kernel_rfl) (fun _ _ _ h => h) (by rfl) (by assumption) ?_
      simp only [Act.put, List.setIfInBounds_toArray, List.set_cons_zero, List.set_cons_succ]
      refine held_take (i := 18) (v := ?_) rfl (by kernel_rfl) (by kernel_rfl) (by kernel_rfl) (fun _ _ _ h => h) (by rfl) ?_ (by assumption) ?_
      rotate_left
      · intro X hSX
        try dsimp only at hSX
        go_simp <;> with_reducible rfl
      simp only [Act.put, List.setIfInBounds_toArray, List.set_cons_zero, List.set_cons_succ]
      refine held_take (i := 19) (v := ?_) rfl (by kernel_rfl) (by kernel_rfl) (by kernel_rfl) (fun _ _ _ h => h) (by rfl) ?_ (by assumption) ?_
      rotate_left
      · intro X hSX
        try dsimp only at hSX
        go_simp <;> with_reducible rfl
      simp only [Act.put, List.setIfInBounds_toArray, List.set_cons_zero, List.set_cons_succ]
      refine wpAnyH_done (by kernel_rfl) ?_ _
      refine NoPanic.normal ?_
      go_wp2_with fail
      go_ret
      exact ⟨by rw [HR.out]; rfl, hS4⟩
    refine held_go hK' (hS4) ?_
    try simp only [Act.put, List.setIfInBounds_toArray, List.set_cons_zero, List.set_cons_succ]
    refine held_take (i := 10) (v := ?_) rfl (by kernel_rfl) (by kernel_rfl) (by kernel_rfl) (fun _ _ _ h => h) (by rfl) ?_ (by assumption) ?_
    rotate_left
    · intro X hSX
      try dsimp only at hSX
      go_simp <;> with_reducible rfl
    simp only [Act.put, List.setIfInBounds_toArray, List.set_cons_zero, List.set_cons_succ]
    refine held_take (i := 11) (v := ?_) rfl (by kernel_rfl) (by kernel_rfl) (by kernel_rfl) (fun _ _ _ h => h) (by rfl) ?_ (by assumption) ?_
    rotate_left
    · intro X hSX
      try dsimp only at hSX
      go_simp <;> with_reducible rfl
    simp only [Act.put, List.setIfInBounds_toArray, List.set_cons_zero, List.set_cons_succ]
    refine held_take (i := 12) (v := ?_) rfl (by kernel_rfl) (by kernel_rfl) (by kernel_rfl) (fun _ _ _ h => h) (by rfl) ?_ (by assumption) ?_
    rotate_left
    · intro X hSX
      try dsimp only at hSX
      go_simp <;> with_reducible rfl
    simp only [Act.put, List.setIfInBounds_toArray, List.set_cons_zero, List.set_cons_succ]
    refine held_take (i := 13) (v := ?_) rfl (by kernel_rfl) (by kernel_rfl) (by kernel_rfl) (fun _ _ _ h => h) (by rfl) ?_ (by assumption) ?_
    rotate_left
    · intro X hSX
      try dsimp only at hSX
      go_simp <;> with_reducible rfl
    simp only [Act.put, List.setIfInBounds_toArray, List.set_cons_zero, List.set_cons_succ]
    refine held_take (i := 15) (v := ?_) rfl (by kernel_rfl) (by kernel_rfl) (by kernel_rfl) (fun _ _ _ h => h) (by rfl) ?_ (by assumption) ?_
    rotate_left
    · intro X hSX
      try dsimp only at hSX
      obtain ⟨-, -, -, l0, l1, -, -, -, -⟩ := HM.out.step hSX
      go_simp <;> with_reducible rfl
    simp only [Act.put, List.setIfInBounds_toArray, List.set_cons_zero, List.set_cons_succ]
    refine held_two (i := 14) (j := 16) rfl rfl (by kernel_rfl) (by rfl) (by rfl) (fun K' hK' => ?_) (fun K' hK' => ?_)
    · obtain ⟨gd, Y, hcv5, hbY, hez⟩ := conv_any (s.extract 0 1) 1 HST.out w4
      go_simp
      have hS5 : Below w.heap.size w Y := hS4.trans (hbY.mono hS4.size)
      refine held_go hK' (hS5) ?_
      try simp only [Act.put, List.setIfInBounds_toArray, List.set_cons_zero, List.set_cons_succ]
      refine held_call (i := 16) rfl (by kernel_rfl) (by rfl) (fun K' hK' => ?_)
      go_simp
      have hS6 := vl_box2w hS5 (Nat.le_refl _) (.cells #[.int .u8 97, .int .u8 122] 53)
      have he5 := hez.below (vl_boxw Y (.cells #[.int .u8 97, .int .u8 122] 53))
      have hp5 := Prs.one (k := .u8) Y 97 122 53
      refine held_go hK' (hS6) ?_
      try simp only [Act.put, List.setIfInBounds_toArray, List.set_cons_zero, List.set_cons_succ]
      refine held_call (i := 17) rfl (by kernel_rfl) (by rfl) (fun K' hK' => ?_)
      go_simp
      refine (withinb_any _ _ 1 gd 1 1 (strI (s.extract 0 1)) [(97, 122)] _ he5 (by rw [strI_len]; exact HST.out) (by omega) hp5 rfl (by omega)).mono ?_
      rintro e w7 ⟨rfl, hb7⟩
      rw [HTK.out, HLO.out (by have := HN.out; omega)]
      have HS7 := Lib.hid (hS6.trans (hb7.mono hS6.size))
      clear he5 hp5 hb7
      refine held_go hK' (HS7.out) ?_
      try simp only [Act.put, List.setIfInBounds_toArray, List.set_cons_zero, List.set_cons_succ]
      refine held_take (i := 18) (v := ?_) rfl (by kernel_rfl) (by kernel_rfl) (by kernel_rfl) (fun _ _ _ h => h) (by rfl) ?_ (by assumption) ?_
      rotate_left
      · intro X hSX
        try dsimp only at hSX
        go_simp <;> with_reducible rfl
      simp only [Act.put, List.setIfInBounds_toArray, List.set_cons_zero, List.set_cons_succ]
      refine held_take (i := 19) (v := ?_) rfl (by kernel_rfl) (by kernel_rfl) (by kernel_rfl) (fun _ _ _ h => h) (by rfl) ?_ (by assumption) ?_
      rotate_left
      · intro X hSX
        try dsimp only at hSX
        go_simp <;> with_reducible rfl
      simp only [Act.put, List.setIfInBounds_toArray, List.set_cons_zero, List.set_cons_succ]
      refine wpAnyH_done (by kernel_rfl) ?_ _
      refine NoPanic.normal ?_
      go_wp2_with fail
      go_ret
      exact ⟨by rw [HE.out]; rfl, HS7.out⟩
    · go_simp
      have hS5 := vl_box2w hS4 (Nat.le_refl _) (.cells #[.int .u8 97, .int .u8 122] 53)
      have hp0 := Prs.one (k := .u8) w4 97 122 53
      refine held_go hK' (hS5) ?_
      try simp only [Act.put, List.setIfInBounds_toArray, List.set_cons_zero, List.set_cons_succ]
      refine held_call (i := 14) rfl (by kernel_rfl) (by rfl) (fun K' hK' => ?_)
      obtain ⟨gd, Y, hcv5, hbY, he5⟩ := conv_any (s.extract 0 1) 1 HST.out (w4.alloc (.cells #[.int .u8 97, .int .u8 122] 53))
      rw [World.size_alloc] at hcv5 he5
      go_simp
      have hS6 : Below w.heap.size w Y := hS5.trans (hbY.mono hS5.size)
      have hp5 := hp0.below hbY
      refine held_go hK' (hS6) ?_
      try simp only [Act.put, List.setIfInBounds_toArray, List.set_cons_zero, List.set_cons_succ]
      refine held_call (i := 17) rfl (by kernel_rfl) (by rfl) (fun K' hK' => ?_)
      go_simp
      refine (withinb_any _ _ 1 gd 1 1 (strI (s.extract 0 1)) [(97, 122)] _ he5 (by rw [strI_len]; exact HST.out) (by omega) hp5 rfl (by omega)).mono ?_
      rintro e w7 ⟨rfl, hb7⟩
      rw [HTK.out, HLO.out (by have := HN.out; omega)]
      have HS7 := Lib.hid (hS6.trans (hb7.mono hS6.size))
      clear he5 hp5 hb7
      refine held_go hK' (HS7.out) ?_
      try simp only [Act.put, List.setIfInBounds_toArray, List.set_cons_zero, List.set_cons_succ]
      refine held_take (i := 18) (v := ?_) rfl (by kernel_rfl) (by kernel_rfl) (by kernel_rfl) (fun _ _ _ h => h) (by rfl) ?_ (by assumption) ?_
      rotate_left
      · intro X hSX
        try dsimp only at hSX
        go_simp <;> with_reducible rfl
      simp only [Act.put, List.setIfInBounds_toArray, List.set_cons_zero, List.set_cons_succ]
      refine held_take (i := 19) (v := ?_) rfl (by kernel_rfl) (by kernel_rfl) (by kernel_rfl) (fun _ _ _ h => h) (by rfl) ?_ (by assumption) ?_
      rotate_left
      · intro X hSX
        try dsimp only at hSX
        go_simp <;> with_reducible rfl
      simp only [Act.put, List.setIfInBounds_toArray, List.set_cons_zero, List.set_cons_succ]
      refine wpAnyH_done (by kernel_rfl) ?_ _
      refine NoPanic.normal ?_
      go_wp2_with fail
      go_ret
      exact ⟨by rw [HE.out]; rfl, HS7.out⟩
  · go_simp
    have hS2 := vl_box2w hS1 (Nat.le_refl _) (.cells #[.int .u8 97, .int .u8 122, .int .u8 48, .int .u8 57, .int .u8 45, .int .u8 45] 53)
    have hp0 := Prs.three (k := .u8) w1 97 122 48 57 45 45 53
    refine held_go hK' (hS2) ?_
    try simp only [Act.put, List.setIfInBounds_toArray, List.set_cons_zero, List.set_cons_succ]
    refine held_call (i := 4) rfl (by kernel_rfl) (by rfl) (fun K' hK' => ?_)
    obtain ⟨gc, X, hcv, hbX, he⟩ := conv_any s N HN.out (w1.alloc (.cells #[.int .u8 97, .int .u8 122, .int .u8 48, .int .u8 57, .int .u8 45, .int .u8 45] 53))
    rw [World.size_alloc] at hcv he
    go_simp
    have hS3 : Below w.heap.size w X := hS2.trans (hbX.mono hS2.size)
    have hp := hp0.below hbX
    refine held_go hK' (hS3) ?_
    try simp only [Act.put, List.setIfInBounds_toArray, List.set_cons_zero, List.set_cons_succ]
    refine held_call (i := 9) rfl (by kernel_rfl) (by rfl) (fun K' hK' => ?_)
    go_simp
    refine (withinb_any _ _ N gc 3 3 (strI s) [(97, 122), (48, 57), (45, 45)] _ he (HN.out.trans HSL.out.symm) (by have := HN.out; have := HS.out; unfold maxLen at this; omega) hp rfl (by omega)).mono ?_
    rintro e w4 ⟨rfl, hb4⟩
    rw [HW.out]
    have hS4 : Below w.heap.size w w4 := hS3.trans (hb4.mono hS3.size)
    clear hp he
    cases C
    · have HR := Lib.hid (show nam s = false by rw [HE.out]; rfl)
      refine held_go hK' (hS4) ?_
      try simp only [Act.put, List.setIfInBounds_toArray, List.set_cons_zero, List.set_cons_succ]
      refine held_take (i := 10) (v := ?_) rfl (by kernel_rfl) (by kernel_rfl) (by kernel_rfl) (fun _ _ _ h => h) (by rfl) ?_ (by assumption) ?_
      rotate_left
      · intro X hSX
        try dsimp only at hSX
        go_simp <;> with_reducible rfl
      simp only [Act.put, List.setIfInBounds_toArray, List.set_cons_zero, List.set_cons_succ]
      refine held_take (i := 11) (v := ?_) rfl (by kernel_rfl) (by kernel_rfl) (by kernel_rfl) (fun _ _ _ h => h) (by rfl) ?_ (by assumption) ?_
      rotate_left
      · intro X hSX
        try dsimp only at hSX
        go_simp <;> with_reducible rfl
      simp only [Act.put, List.setIfInBounds_toArray, List.set_cons_zero, List.set_cons_succ]
      refine held_skip (i := 12) rfl (by kernel_rfl) (by kernel_rfl) (by kernel_rfl) (fun _ _ _ h => h) (by rfl) (by assumption) ?_
      simp only [Act.put, List.setIfInBounds_toArray, List.set_cons_zero, List.set_cons_succ]
      refine held_skip (i := 13) rfl (by kernel_rfl) (by kernel_rfl) (by kernel_rfl) (fun _ _ _ h => h) (by rfl) (by assumption) ?_
      simp only [Act.put, List.setIfInBounds_toArray, List.set_cons_zero, List.set_cons_succ]
      refine held_skip (i := 15) rfl (by kernel_rfl) (by kernel_rfl) (by kernel_rfl) (fun _ _ _ h => h) (by rfl) (by assumption) ?_
      simp only [Act.put, List.setIfInBounds_toArray, List.set_cons_zero, List.set_cons_succ]
      refine held_skip (i := 14) rfl (by kernel_rfl) (by kernel_rfl) (by kernel_rfl) (fun _ _ _ h => h) (by rfl) (by assumption) ?_
      simp only [Act.put, List.setIfInBounds_toArray, List.set_cons_zero, List.set_cons_succ]
      refine held_skip (i := 16) rfl (by kernel_rfl) (by kernel_rfl) (by kernel_rfl) (fun _ _ _ h => h) (by rfl) (by assumption) ?_
      simp only [Act.put, List.setIfInBounds_toArray, List.set_cons_zero, List.set_cons_succ]
      refine held_skip (i := 17) rfl (by kernel_rfl) (by kernel_rfl) (by kernel_rfl) (fun _ _ _ h => h) (by rfl) (by assumption) ?_
      simp only [Act.put, List.setIfInBounds_toArray, List.set_cons_zero, List.set_cons_succ]
      refine held_take (i := 18) (v := ?_) rfl (by kernel_rfl) (by kernel_rfl) (by kernel_rfl) (fun _ _ _ h => h) (by rfl) ?_ (by assumption) ?_
      rotate_left
      · intro X hSX
        try dsimp only at hSX
        go_simp <;> with_reducible rfl
      simp only [Act.put, List.setIfInBounds_toArray, List.set_cons_zero, List.set_cons_succ]
      refine held_take (i := 19) (v := ?_) rfl (by kernel_rfl) (by kernel_rfl) (by kernel_rfl) (fun _ _ _ h => h) (by rfl) ?_ (by assumption) ?_
      rotate_left
      · intro X hSX
        try dsimp only at hSX
        go_simp <;> with_reducible rfl
      simp only [Act.put, List.setIfInBounds_toArray, List.set_cons_zero, List.set_cons_succ]
      refine wpAnyH_done (by kernel_rfl) ?_ _
      refine NoPanic.normal ?_
      go_wp2_with fail
      go_ret
      exact ⟨by rw [HR.out]; rfl, hS4⟩
    refine held_go hK' (hS4) ?_
    try simp only [Act.put, List.setIfInBounds_toArray, List.set_cons_zero, List.set_cons_succ]
    refine held_take (i := 10) (v := ?_) rfl (by kernel_rfl) (by kernel_rfl) (by kernel_rfl) (fun _ _ _ h => h) (by rfl) ?_ (by assumption) ?_
    rotate_left
    · intro X hSX
      try dsimp only at hSX
      go_simp <;> with_reducible rfl
    simp only [Act.put, List.setIfInBounds_toArray, List.set_cons_zero, List.set_cons_succ]
    refine held_take (i := 11) (v := ?_) rfl (by kernel_rfl) (by kernel_rfl) (by kernel_rfl) (fun _ _ _ h => h) (by rfl) ?_ (by assumption) ?_
    rotate_left
    · intro X hSX
      try dsimp only at hSX
      go_simp <;> with_reducible rfl
    simp only [Act.put, List.setIfInBounds_toArray, List.set_cons_zero, List.set_cons_succ]
    refine held_take (i := 12) (v := ?_) rfl (by kernel_rfl) (by kernel_rfl) (by kernel_rfl) (fun _ _ _ h => h) (by rfl) ?_ (by assumption) ?_
    rotate_left
    · intro X hSX
      try dsimp only at hSX
      go_simp <;> with_reducible rfl
    simp only [Act.put, List.setIfInBounds_toArray, List.set_cons_zero, List.set_cons_succ]
    refine held_take (i := 13) (v := ?_) rfl (by kernel_rfl) (by kernel_rfl) (by kernel_rfl) (fun _ _ _ h => h) (by rfl) ?_ (by assumption) ?_
    rotate_left
    · intro X hSX
      try dsimp only at hSX
      go_simp <;> with_reducible rfl
    simp only [Act.put, List.setIfInBounds_toArray, List.set_cons_zero, List.set_cons_succ]
    refine held_take (i := 15) (v := ?_) rfl (by kernel_rfl) (by kernel_rfl) (by kernel_rfl) (fun _ _ _ h => h) (by rfl) ?_ (by assumption) ?_
    rotate_left
    · intro X hSX
      try dsimp only at hSX
      obtain ⟨-, -, -, l0, l1, -, -, -, -⟩ := HM.out.step hSX
      go_simp <;> with_reducible rfl
    simp only [Act.put, List.setIfInBounds_toArray, List.set_cons_zero, List.set_cons_succ]
    refine held_two (i := 14) (j := 16) rfl rfl (by kernel_rfl) (by rfl) (by rfl) (fun K' hK' => ?_) (fun K' hK' => ?_)
    · obtain ⟨gd, Y, hcv5, hbY, hez⟩ := conv_any (s.extract 0 1) 1 HST.out w4
      go_simp
      have hS5 : Below w.heap.size w Y := hS4.trans (hbY.mono hS4.size)
      refine held_go hK' (hS5) ?_
      try simp only [Act.put, List.setIfInBounds_toArray, List.set_cons_zero, List.set_cons_succ]
      refine held_call (i := 16) rfl (by kernel_rfl) (by rfl) (fun K' hK' => ?_)
      go_simp
      have hS6 := vl_box2w hS5 (Nat.le_refl _) (.cells #[.int .u8 97, .int .u8 122] 53)
      have he5 := hez.below (vl_boxw Y (.cells #[.int .u8 97, .int .u8 122] 53))
      have hp5 := Prs.one (k := .u8) Y 97 122 53
      refine held_go hK' (hS6) ?_
      try simp only [Act.put, List.setIfInBounds_toArray, List.set_cons_zero, List.set_cons_succ]
      refine held_call (i := 17) rfl (by kernel_rfl) (by rfl) (fun K' hK' => ?_)
      go_simp
      refine (withinb_any _ _ 1 gd 1 1 (strI (s.extract 0 1)) [(97, 122)] _ he5 (by rw [strI_len]; exact HST.out) (by omega) hp5 rfl (by omega)).mono ?_
      rintro e w7 ⟨rfl, hb7⟩
      rw [HTK.out, HLO.out (by have := HN.out; omega)]
      have HS7 := Lib.hid (hS6.trans (hb7.mono hS6.size))
      clear he5 hp5 hb7
      refine held_go hK' (HS7.out) ?_
      try simp only [Act.put, List.setIfInBounds_toArray, List.set_cons_zero, List.set_cons_succ]
      refine held_take (i := 18) (v := ?_) rfl (by kernel_rfl) (by kernel_rfl) (by kernel_rfl) (fun _ _ _ h => h) (by rfl) ?_ (by assumption) ?_
      rotate_left
      · intro X hSX
        try dsimp only at hSX
        go_simp <;> with_reducible rfl
      simp only [Act.put, List.setIfInBounds_toArray, List.set_cons_zero, List.set_cons_succ]
      refine held_take (i := 19) (v := ?_) rfl (by kernel_rfl) (by kernel_rfl) (by kernel_rfl) (fun _ _ _ h => h) (by rfl) ?_ (by assumption) ?_
      rotate_left
      · intro X hSX
        try dsimp only at hSX
        go_simp <;> with_reducible rfl
      simp only [Act.put, List.setIfInBounds_toArray, List.set_cons_zero, List.set_cons_succ]
      refine wpAnyH_done (by kernel_rfl) ?_ _
      refine NoPanic.normal ?_
      go_wp2_with fail
      go_ret
      exact ⟨by rw [HE.out]; rfl, HS7.out⟩
    · go_simp
      have hS5 := vl_box2w hS4 (Nat.le_refl _) (.cells #[.int .u8 97, .int .u8 122] 53)
      have hp0 := Prs.one (k := .u8) w4 97 122 53
      refine held_go hK' (hS5) ?_
      try simp only [Act.put, List.setIfInBounds_toArray, List.set_cons_zero, List.set_cons_succ]
      refine held_call (i := 14) rfl (by kernel_rfl) (by rfl) (fun K' hK' => ?_)
      obtain ⟨gd, Y, hcv5, hbY, he5⟩ := conv_any (s.extract 0 1) 1 HST.out (w4.alloc (.cells #[.int .u8 97, .int .u8 122] 53))
      rw [World.size_alloc] at hcv5 he5
      go_simp
      have hS6 : Below w.heap.size w Y := hS5.trans (hbY.mono hS5.size)
      have hp5 := hp0.below hbY
      refine held_go hK' (hS6) ?_
      try simp only [Act.put, List.setIfInBounds_toArray, List.set_cons_zero, List.set_cons_succ]
      refine held_call (i := 17) rfl (by kernel_rfl) (by rfl) (fun K' hK' => ?_)
      go_simp
      refine (withinb_any _ _ 1 gd 1 1 (strI (s.extract 0 1)) [(97, 122)] _ he5 (by rw [strI_len]; exact HST.out) (by omega) hp5 rfl (by omega)).mono ?_
      rintro e w7 ⟨rfl, hb7⟩
      rw [HTK.out, HLO.out (by have := HN.out; omega)]
      have HS7 := Lib.hid (hS6.trans (hb7.mono hS6.size))
      clear he5 hp5 hb7
      refine held_go hK' (HS7.out) ?_
      try simp only [Act.put, List.setIfInBounds_toArray, List.set_cons_zero, List.set_cons_succ]
      refine held_take (i := 18) (v := ?_) rfl (by kernel_rfl) (by kernel_rfl) (by kernel_rfl) (fun _ _ _ h => h) (by rfl) ?_ (by assumption) ?_
      rotate_left
      · intro X hSX
        try dsimp only at hSX
        go_simp <;> with_reducible rfl
      simp only [Act.put, List.setIfInBounds_toArray, List.set_cons_zero, List.set_cons_succ]
      refine held_take (i := 19) (v := ?_) rfl (by kernel_rfl) (by kernel_rfl) (by kernel_rfl) (fun _ _ _ h => h) (by rfl) ?_ (by assumption) ?_
      rotate_left
      · intro X hSX
        try dsimp only at hSX
        go_simp <;> with_reducible rfl
      simp only [Act.put, List.setIfInBounds_toArray, List.set_cons_zero, List.set_cons_succ]
      refine wpAnyH_done (by kernel_rfl) ?_ _
      refine NoPanic.normal ?_
      go_wp2_with fail
      go_ret
      exact ⟨by rw [HE.out]; rfl, HS7.out⟩
end Go.Proofs.YtjmlidejbddoeaaDoor
