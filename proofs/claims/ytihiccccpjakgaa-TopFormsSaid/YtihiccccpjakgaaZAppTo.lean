/-
  The program's appendTo: what a token stands for, behind what was made.
-/
import Derived.Test.YtihiccccpjakgaaZTokM
import Derived.Test.YtihiccccpjakgaaZNextL
namespace Go.Proofs.Ytihiccccpjakgaa
open Go.RowKit
set_option linter.unusedVariables false
set_option linter.unusedSimpArgs false
/-- a call hands back the bytes l, which it owns; beside bytes all is as it was -/
def GivesK (B : Nat) (w : World) (l : List UInt8) (e : Ending) (w' : World) : Prop := ∃ v, e = .returned v ∧ Own w' B v l ∧ KeepU B w w'
set_option maxRecDepth 100000 in
set_option maxHeartbeats 600000 in
theorem appl_any (B : Nat) (v : Value) (out l : List UInt8) (n : Nat) (lad : Option Addr) (lc : Nat) (w : World) (ho : Own w B v out) (hl : Lie w lad l) (hlc : lad = none → lc = 0) (hB : B ≤ w.heap.size) (hs : out.length + l.length ≤ 10000000) :
    Calls Try.prog 29 #[tokV n 0 lad l.length lc, v] w (GivesK B w (out ++ l)) := by
  have h0 : Below w.heap.size w (w.alloc (.cells #[.int .i64 n, .int .i64 0, .slice lad l.length lc] 55)) := (Below.refl _ _).alloc (Nat.le_refl _) _
  have HO := Lib.hid (ho.below h0)
  have HL := Lib.hid (hl.below h0 rfl)
  have HK := Lib.hid (KeepU.new h0 hB)
  have HC := Lib.hid hlc
  have HB := Lib.hid hB
  clear ho hl hlc h0 hB
  go_enter Try.func29, Try.ntmps29
  go_wp2_with (at_builtin; refine wpList_append_u rfl (.tmp 11) (.tmp 13) rfl B v out rfl HO.out lad _ lc l HC.out HL.out rfl rfl hs (by have := HB.out; simp; omega) ?_; intro v1 w1 hown1 hgrow1)
  go_ret
  exact ⟨v1, rfl, hown1, HK.out.trans (KeepU.grown HO.out hgrow1 (by have := HB.out; simp; omega))⟩
/-- the loop of copies -/
def CpyRel (B : Nat) (w : World) (out : List UInt8) (d n : Nat) (v u : Value) (wr : World) : Prop :=
  ∃ m r, u = .int .i64 (r : Nat) ∧ m + r = n ∧ Own wr B v (cpy m d out) ∧ KeepU B w wr ∧ (r = 0 ∨ m % d = 0)
set_option maxRecDepth 100000 in
set_option maxHeartbeats 600000 in
theorem appc_any (B : Nat) (v : Value) (out : List UInt8) (n d : Nat) (lad : Option Addr) (ln lc : Nat) (w : World) (ho : Own w B v out) (hB : B ≤ w.heap.size) (hs : out.length + n ≤ 10000000) (h0 : 0 < d) (hd : d ≤ out.length) :
    Calls Try.prog 29 #[tokV n d lad ln lc, v] w (GivesK B w (cpy n d out)) := by
  have hb0 : Below w.heap.size w (w.alloc (.cells #[.int .i64 n, .int .i64 d, .slice lad ln lc] 55)) := (Below.refl _ _).alloc (Nat.le_refl _) _
  have HO := Lib.hid (ho.below hb0)
  obtain ⟨ad, cap, rfl, _, _, hcm, _⟩ := ho.slice
  have HK := Lib.hid (KeepU.new hb0 hB)
  have HB := Lib.hid hB
  have hz : ((d : Int) == 0) = false := by rw [beq_eq_false_iff_ne]; omega
  obtain ⟨F, hF⟩ : ∃ F : Nat, (out.length : Int) - (d : Int) = F := ⟨out.length - d, by omega⟩
  have HF := Lib.hid (show out.length - d = F by omega)
  clear ho hb0 hB hcm
  go_enter Try.func29, Try.ntmps29
  go_wp2
  go_loopw [1, 6] (fun v u wr => CpyRel B w out d n v u wr) (fun _ u _ => (intOf u).toNat)
  case atStart => exact ⟨0, n, rfl, by omega, HO.out, HK.out, .inr (Nat.zero_mod _)⟩
  case round =>
    obtain ⟨m, r, rfl, hmr, hown, hk, hmod⟩ := hrel
    have hcl := cpy_length m d out
    have HM := Lib.hid hmod
    have HKr := Lib.hid hk
    clear hmod hk
    by_cases hr : r = 0
    · subst hr
      have HOr := Lib.hid hown
      clear hown
      go_wp2
      go_ret
      exact ⟨_, rfl, by rw [show n = m by omega]; exact HOr.out, HKr.out⟩
    · obtain ⟨ys, hys⟩ : ∃ ys, ys = cpy m d out := ⟨_, rfl⟩
      rw [← hys] at hown hcl
      have hFy : F + d + m = ys.length := by have := HF.out; omega
      obtain ⟨a1, c1, rfl, hl, hyc, hcm, _⟩ := hown.slice
      rcases hl.at_ with h1 | ⟨b, off, rfl, _⟩
      · subst h1; rw [List.length_nil] at hFy; omega
      have HOr := Lib.hid hown
      have hFc : F < c1 := by omega
      have HC := Lib.hid hcl
      have HY := Lib.hid hys
      have HB2 := Lib.hid (Nat.le_trans HB.out HKr.out.below.size)
      have hmz := HM.out.resolve_left hr
      have HZ := Lib.hid hmz
      clear hown hcl hys hmz HM
      by_cases hp : ys.length ≤ F + r
      · have HL := Lib.hid (hl.part2 F (ys.length - F))
        have hp2 : ((ys.drop F).take (ys.length - F)).length = ys.length - F := by rw [List.length_take, List.length_drop]; omega
        have HP2 := Lib.hid hp2
        have hmore := cpy_more out d h0 hd m (ys.length - F) (by omega) HZ.out
        rw [HF.out, ← HY.out] at hmore
        have HMo := Lib.hid hmore
        clear hl hp2 hmore
        go_wp2_with (at_builtin; refine wpList_append_u rfl (.tmp 33) (.tmp 34) rfl B _ ys rfl HOr.out _ (ys.length - F) _ _ (fun h => by cases h) HL.out HP2.out.symm rfl (by have := HC.out; omega) HB2.out ?_; intro v1 w1 hown1 hgrow1)
        obtain ⟨q, hq⟩ : ∃ q : Nat, (r : Int) - ((ys.length - F : Nat) : Int) = q := ⟨r - (ys.length - F), by omega⟩
        have HQ := Lib.hid hq
        clear hq
        rw [HQ.out]
        refine ⟨⟨m + (ys.length - F), q, rfl, by have := HQ.out; omega, ?_, HKr.out.trans (KeepU.grown HOr.out hgrow1 HB2.out), .inr ?_⟩, ?_⟩
        · rw [← HMo.out]; exact hown1
        · have h5 := HZ.out
          rw [show m + (ys.length - F) = (m + m) + d by omega, Nat.add_mod_right, Nat.add_mod, h5]
          simp
        · have := HQ.out
          show (q : Int).toNat < (r : Int).toNat
          omega
      · have hL2 := hl.part2 F r
        have hp2 : ((ys.drop F).take r).length = F + r - F := by rw [List.length_take, List.length_drop]; omega
        have hlt : F + r < ys.length := by omega
        have HL := Lib.hid hL2
        have HP2 := Lib.hid hp2
        have hmore := cpy_more out d h0 hd m r (by omega) HZ.out
        rw [HF.out, ← HY.out] at hmore
        have HMo := Lib.hid hmore
        clear hl hp2 hmore hL2 hp
        go_wp2_with (at_builtin; refine wpList_append_u rfl (.tmp 33) (.tmp 34) rfl B _ ys rfl HOr.out _ (F + r - F) _ _ (fun h => by cases h) HL.out HP2.out.symm rfl (by have := HC.out; omega) HB2.out ?_; intro v1 w1 hown1 hgrow1)
        refine ⟨⟨m + r, 0, rfl, by omega, ?_, HKr.out.trans (KeepU.grown HOr.out hgrow1 HB2.out), .inl rfl⟩, ?_⟩
        · rw [← HMo.out]; exact hown1
        · show (0 : Int).toNat < (r : Int).toNat
          omega
end Go.Proofs.Ytihiccccpjakgaa
