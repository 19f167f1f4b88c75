/-
  Split, by the program and by the specification.
-/
import Derived.Test.YtinfjidclkgfnaaESplM
import Derived.Test.YtinfjidclkgfnaaQList
import Derived.Test.YtinfjidclkgfnaaEUpdM
namespace Go.Proofs.Ytinfjidclkgfnaa
open Go.RowKit
def splE (n : Int) : Int := if 1 ≤ n ∧ n ≤ 16 then 0 else 7
def splR (b : List UInt8) (n : Int) : List (List UInt8) := if 1 ≤ n ∧ n ≤ 16 then splitL b ((b.length + n.toNat - 1) / n.toNat) n.toNat else []
/-- what Split gives -/
def SplP (w : World) (b : List UInt8) (n : Int) (e : Ending) (w' : World) : Prop := ∃ v, e = .returned (.tuple #[v, .int .i64 (splE n)]) ∧ Lq w' w.heap.size w.heap.size v (splR b n) ∧ Below w.heap.size w w'
theorem SplP.no {w w' : World} {b : List UInt8} {n : Int} (h : ¬ (1 ≤ n ∧ n ≤ 16)) (hb : Below w.heap.size w w') : SplP w b n (.returned (.tuple #[.slice none 0 0, .int .i64 7])) w' :=
  ⟨_, by unfold splE; rw [if_neg h], by unfold splR; rw [if_neg h]; exact Lq.nil _ _ _, hb⟩
theorem SplP.ok {w w' : World} {b : List UInt8} {n : Nat} {v : Value} (h1 : 1 ≤ n) (h2 : n ≤ 16) (ho : Lq w' w.heap.size w.heap.size v (splitL b ((b.length + n - 1) / n) n)) (hb : Below w.heap.size w w') : SplP w b n (.returned (.tuple #[v, .int .i64 0])) w' :=
  ⟨v, by unfold splE; rw [if_pos (by omega)], by unfold splR; rw [if_pos (by omega), Int.toNat_natCast]; exact ho, hb⟩
attribute [local irreducible] splitL shardL
set_option maxRecDepth 100000 in
set_option maxHeartbeats 1000000 in
theorem split_any (ad : Option Addr) (m cap : Nat) (b : List UInt8) (n : Int) (w : World) (hl : Lie w ad b) (hm : m = b.length) (hcap : m ≤ cap) (hcm : cap ≤ maxLen) (hca : ad = none → cap = 0) (hs : m ≤ 100000) :
    Calls Try.prog 22 #[.slice ad m cap, .int .i64 n] w (SplP w b n) := by
  have HL := Lib.hid hl
  have HM := Lib.hid hm
  unfold maxLen at hcm
  clear hl hm
  by_cases h1 : n < 1
  · go_enter Try.func22, Try.ntmps22
    go_wp2
    go_ret2
    exact SplP.no (by omega) (Below.refl _ _)
  by_cases h2 : 16 < n
  · go_enter Try.func22, Try.ntmps22
    go_wp2
    go_ret2
    exact SplP.no (by omega) (Below.refl _ _)
  obtain ⟨N, rfl⟩ := Int.eq_ofNat_of_zero_le (show 0 ≤ n by omega)
  have hN1 : 1 ≤ N := by omega
  have hN16 : N ≤ 16 := by omega
  obtain ⟨sz, hsz⟩ : ∃ sz, sz = (m + N - 1) / N := ⟨_, rfl⟩
  have hw1 : IntKind.i64.wrap ((m : Int) + (N : Int)) = (m : Int) + (N : Int) := by rw [IntKind.wrap_i64]; omega
  have hw2 : IntKind.i64.wrap ((m : Int) + (N : Int) - 1) = (m : Int) + (N : Int) - 1 := by rw [IntKind.wrap_i64]; omega
  have hq : ((m : Int) + (N : Int) - 1) / (N : Int) = (sz : Int) := by
    rw [hsz, Int.natCast_ediv]
    congr 1
    omega
  have hszm : sz ≤ m + N := by rw [hsz]; exact Nat.le_trans (Nat.div_le_self _ _) (by omega)
  have HSZ := Lib.hid hsz
  have HR0 : Hid (Lie w ad (b.drop (0 * sz)) ∧ m = (b.drop (0 * sz)).length ∧ (ad = none → cap = 0)) := Lib.hid (by rw [Nat.zero_mul]; exact ⟨HL.out, HM.out, hca⟩)
  have HCO := Lib.hid (shard_copy b sz)
  have HRN := Lib.hid (rest_next b sz)
  have HSU := Lib.hid (splitL_succ b sz)
  have HSL := Lib.hid (splitL_length b sz)
  have HS0 : Hid (splitL b sz 0 = []) := Lib.hid (by unfold splitL; rfl)
  have HHL := Lib.hid (shardL_length b sz)
  clear hsz hca
  go_enter Try.func22, Try.ntmps22
  go_wp2_with (at_make; refine wpList_make_outer rfl (.tmp 22) (.tmp 22) rfl _ _ N rfl rfl rfl rfl (by omega) ?_; intro g w1 ho1 hb1)
  have HO1 : Hid (Out w1 w.heap.size g N w1.heap.size (splitL b sz 0)) := Lib.hid (by have h := ho1.take 0; rw [List.take_zero] at h; rw [HS0.out]; exact h)
  have HB1 := Lib.hid hb1
  clear ho1 hb1
  go_loopg [0, 26] N (fun gk v0 vk wx => ∃ (k : Nat) (a : Option Addr) (r c : Nat), vk = .int .i64 k ∧ v0 = .slice a r c ∧ k + gk = N ∧ r ≤ c ∧ c ≤ 9223372036854775807 ∧ Hid (Lie w a (b.drop (k * sz)) ∧ r = (b.drop (k * sz)).length ∧ (a = none → c = 0)) ∧ Hid (Out wx w.heap.size g N wx.heap.size (splitL b sz k)) ∧ Hid (Below w.heap.size w wx))
  case atStart => exact ⟨0, ad, m, cap, rfl, rfl, by omega, hcap, by omega, HR0, HO1, HB1⟩
  case round =>
    obtain ⟨k, a, r, c, rfl, rfl, hk, hrc, hcm2, hR, hO, HB⟩ := hrel
    cases gk with
    | zero =>
      have hlt : ¬ (k : Int) < (N : Int) := by omega
      obtain rfl : k = N := by omega
      go_wp2
      go_ret2
      exact SplP.ok hN1 hN16 (Lq.of_out (by have h := hO.out; rw [HSZ.out, HM.out] at h; exact h) (splitL_length _ _ _)) HB.out
    | succ gk0 =>
      have hlt : (k : Int) < (N : Int) := by omega
      have hkN : k < N := by omega
      obtain ⟨x, hx⟩ : ∃ x, x = min r sz := ⟨_, rfl⟩
      have hxr : x ≤ r := by omega
      have hxc : x ≤ c := by omega
      have HX := Lib.hid hx
      have HGL := Lib.hid hO.out.lt
      have hx2 : (x : Int) ≤ (r : Int) := by omega
      have hx3 : (x : Int) ≤ (c : Int) := by omega
      have HRK : Hid ((b.drop (k * sz)).take x ++ (List.replicate sz (0 : UInt8)).drop x = shardL b sz k) := Lib.hid (HCO.out k x (by rw [hx, hR.out.2.1]))
      have HRX : Hid ((b.drop (k * sz)).drop x = b.drop ((k + 1) * sz)) := Lib.hid (HRN.out k x (by rw [hx, hR.out.2.1]))
      have HR2 : Hid (r - x = (b.drop ((k + 1) * sz)).length) := Lib.hid (by rw [← HRX.out, List.length_drop, ← hR.out.2.1])
      have hcases : (∃ (a' : Option Addr), Hid (Lie w a' (b.drop ((k + 1) * sz))) ∧ ((a = none ∧ c = 0 ∧ r = 0 ∧ x = 0 ∧ a' = none) ∨ (∃ ab ao sp, a = some ⟨ab, ao, sp⟩ ∧ ((c = x ∧ a' = a) ∨ (c ≠ x ∧ a' = some ((⟨ab, ao, sp⟩ : Addr).add x)))))) := by
        cases a with
        | none =>
          have h0 := hR.out.2.2 rfl
          have hnil : b.drop ((k + 1) * sz) = [] := List.eq_nil_of_length_eq_zero (by rw [← HR2.out]; omega)
          exact ⟨none, Lib.hid (by rw [hnil]; exact .nil _ _), .inl ⟨rfl, h0, by omega, by omega, rfl⟩⟩
        | some a =>
          obtain ⟨ab, ao, sp⟩ := a
          by_cases hcx : c = x
          · have hnil : b.drop ((k + 1) * sz) = [] := List.eq_nil_of_length_eq_zero (by rw [← HR2.out]; omega)
            exact ⟨_, Lib.hid (by rw [hnil]; exact .nil _ _), .inr ⟨ab, ao, sp, rfl, .inl ⟨hcx, rfl⟩⟩⟩
          · exact ⟨some ((⟨ab, ao, sp⟩ : Addr).add x), Lib.hid (by rw [← HRX.out]; exact (hR.out.1).rest x), .inr ⟨ab, ao, sp, rfl, .inr ⟨hcx, rfl⟩⟩⟩
      obtain ⟨a', HA', hcs⟩ := hcases
      clear hx
      rcases hcs with ⟨rfl, rfl, rfl, rfl, rfl⟩ | ⟨ab, ao, sp, rfl, ⟨rfl, rfl⟩ | ⟨hcx, rfl⟩⟩
      all_goals
        try (have hcx2 : c - x ≠ 0 := by omega)
        try (have hcx3 : ¬ c = x := hcx)
        go_wp2_with (first
          | (at_make; refine wpList_make_row rfl (.tmp 31) (.tmp 31) rfl _ _ sz rfl rfl rfl rfl (by omega) ?_; intro gb w2 hr2 hg2 hb2; have hO2 := hO.out.below hb2; obtain ⟨u, hu⟩ := hO2.there k hkN; have hz := hO2.frozen k; have hgb : g ≠ gb := (by have := HGL.out; omega); have hr3 := hr2.other g k (.slice (some ⟨gb, 0, none⟩) sz sz) hgb; have hd3 : (w2.setCell ⟨g, k, none⟩ (.slice (some ⟨gb, 0, none⟩) sz sz)).cell? ⟨g, k, none⟩ = some (.slice (some ⟨gb, 0, none⟩) sz sz) := World.cell?_setCell_same' _ _ _ (by rw [hu]; rfl); have HO3 := Lib.hid (hO2.beyond k (by rw [HSL.out]; exact Nat.le_refl _) (.slice (some ⟨gb, 0, none⟩) sz sz)); have HR3 := Lib.hid hr3; have HB3 := Lib.hid ((HB.out.trans (hb2.mono HB.out.size)).setCell (p := ⟨g, k, none⟩) hO.out.base (.slice (some ⟨gb, 0, none⟩) sz sz)); have HG2 := Lib.hid hg2; have HD3 := Lib.hid hd3; clear hO2 hr2 hr3 hb2 hg2)
          | (with_reducible refine wpList_copy_part rfl (.tmp 38) (.tmp 39) rfl gb sz sz rfl _ _ _ rfl (b.drop (k * sz)) hR.out.2.1 (hR.out.1.below HB3.out rfl) (List.replicate sz 0) HR3.out (by simp) _ (by first | exact HX.out | simp) ?_; intro w4 hr4 hb4; rw [HRK.out] at hr4; have HR4 := Lib.hid hr4; have HB4 := Lib.hid hb4; clear hr4 hb4))
        have HBF : Hid (Below w.heap.size w w4) := Lib.hid (HB3.out.trans (HB4.out.mono (Nat.le_trans HB.out.size HG2.out)))
        have HOF : Hid (Out w4 w.heap.size g N w4.heap.size (splitL b sz (k + 1))) := Lib.hid (by
          have hgl := HGL.out
          have hg2 := HG2.out
          have h1 := HO3.out.belowD HB4.out hg2
          have hc : w4.cell? ⟨g, (splitL b sz k).length, none⟩ = some (.slice (some ⟨gb, 0, none⟩) (shardL b sz k).length sz) := by
            rw [HSL.out, HHL.out]
            exact (HB4.out.cell (p := ⟨g, k, none⟩) (by show g < gb; omega)).trans HD3.out
          have h := h1.push w4.heap.size h1.leD (Nat.le_refl _) (by rw [HSL.out]; exact hkN) _ _ sz hc (HR4.out.lieN (by omega) HR4.out.blk.lt) (by rw [HHL.out]; exact Nat.le_refl _) (by unfold maxLen; omega) (fun h => by cases h)
          rw [HSU.out]
          exact h)
        go_roundg gk0
        case rel =>
          first
            | exact ⟨k + 1, none, 0, 0, by go_num, rfl, by omega, by omega, by omega, Lib.hid ⟨HA'.out, by have := HR2.out; omega, fun _ => rfl⟩, HOF, HBF⟩
            | exact ⟨k + 1, some ⟨ab, ao, sp⟩, 0, 0, by go_num, rfl, by omega, by omega, by omega, Lib.hid ⟨HA'.out, by have := HR2.out; omega, fun h => by cases h⟩, HOF, HBF⟩
            | exact ⟨k + 1, some ((⟨ab, ao, sp⟩ : Addr).add x), r - x, c - x, by go_num, rfl, by omega, by omega, by omega, Lib.hid ⟨HA'.out, HR2.out, fun h => by cases h⟩, HOF, HBF⟩
        case measure => omega
end Go.Proofs.Ytinfjidclkgfnaa
