/-
  A row times shards; rows times shards, by the program.
-/
import Derived.Test.YtinfjidclkgfnaaQRows
import Derived.Test.YtinfjidclkgfnaaQList
import Derived.Test.YtinfjidclkgfnaaQScale
import Derived.BigQuiet
namespace Go.Proofs.Ytinfjidclkgfnaa
open Go.RowKit
attribute [local irreducible] partF sc
set_option maxRecDepth 100000 in
set_option maxHeartbeats 1000000 in
theorem combine_any (cd ad : Option Addr) (m n cc cap : Nat) (c : List UInt8) (ls : List (List UInt8)) (w : World) (hc : Lie w cd c) (hm : m = c.length) (hl : Lr w ad ls) (hn : n = ls.length) (hn2 : n ≤ 1000) (hp : 0 < n) (hs : ∀ i (h : i < ls.length), (ls[i]).length = cols ls) (hL : cols ls ≤ 1000) (hcm : n ≤ m) (hmm : m ≤ 1000000) :
    Calls Try.prog 45 #[.slice cd m cc, .slice ad n cap] w (GivesU w (combL c ls)) := by
  obtain ⟨L, hLL⟩ : ∃ L, L = cols ls := ⟨_, rfl⟩
  rw [← hLL] at hs hL
  have HE : Hid (combL c ls = partF L ls.length [c] ls 0) := Lib.hid (by unfold combL; rw [hLL])
  have hp2 : 0 < ls.length := by omega
  obtain ⟨b, off, rfl, hbl, a0, c0, f0, -, g0, m0, -⟩ := hl.row 0 hp2
  rw [hs 0 hp2, Nat.add_zero] at f0
  rw [hs 0 hp2] at g0
  obtain ⟨b2, off2, rfl, hb2, hc2⟩ := hc.ev (by omega)
  have HC : Hid (∀ w2, Below w.heap.size w w2 → ∀ j (h : j < c.length), w2.cell? ⟨b2, off2 + j, none⟩ = some (.int .u8 (ev (c[j])))) := Lib.hid fun w2 hb j h => (hb.cell (p := ⟨b2, off2 + j, none⟩) hb2).trans (hc2 j h)
  have HL := Lib.hid hl
  have HN := Lib.hid hn
  have HM := Lib.hid hm
  have HS := Lib.hid hs
  unfold maxLen at m0
  have hn1 : (0 : Int) < (n : Int) := by omega
  clear hl hn hm hs hc hc2 hp2 hLL
  go_enter Try.func45, Try.ntmps45
  go_wp2_with (at_make; refine wpList_make_row rfl (.tmp 11) (.tmp 11) rfl _ _ L rfl rfl rfl rfl (by omega) ?_; intro gb w1 hr1 hg1 hb1)
  have HO1 : Hid (Own w1 w.heap.size (.slice (some ⟨gb, 0, none⟩) L L) (partF L 0 [c] ls 0)) := Lib.hid (by rw [part_zero]; exact hr1.own hg1 (by simp) (by unfold maxLen; omega))
  have HB1 := Lib.hid hb1
  clear hr1 hg1 hb1
  go_loopg [5, 15] n (fun gk vs vk wx => ∃ k : Nat, vk = .int .i64 k ∧ k + gk = n ∧ Hid (Own wx w.heap.size vs (partF L k [c] ls 0)) ∧ Hid (Below w.heap.size w wx))
  case atStart => exact ⟨0, rfl, by omega, HO1, HB1⟩
  case round =>
    obtain ⟨k, rfl, hk, hO, HB⟩ := hrel
    cases gk with
    | zero =>
      have hlt : ¬ (k : Int) < (n : Int) := by omega
      obtain rfl : k = n := by omega
      go_wp2
      go_ret
      exact ⟨_, rfl, by rw [HE.out, ← HN.out]; exact hO.out, HB.out⟩
    | succ gk0 =>
      have hlt : (k : Int) < (n : Int) := by omega
      have hkN : k < n := by omega
      have hkl : k < ls.length := by have := HN.out; omega
      have hkc : k < c.length := by have := HM.out; omega
      obtain ⟨b', off', e', -, a1, c1, f1, l1, g1, m1, h1⟩ := HL.out.row k hkl
      cases e'
      have f2 : wr.cell? ⟨b, off + k, none⟩ = some (.slice a1 (ls[k]).length c1) := (HB.out.cell (p := ⟨b, off + k, none⟩) hbl).trans f1
      have f3 := HC.out wr HB.out k hkc
      have HL2 := Lib.hid (l1.below HB.out rfl)
      have HX := Lib.hid (part_next L c ls k hkl (HS.out k hkl) hkc)
      have HLN := Lib.hid (HS.out k hkl)
      rw [HS.out k hkl] at f2 g1
      have hkm : k < m := by omega
      have hkm2 : (k : Int) < (m : Int) := by omega
      generalize ls[k] = row at HL2 HX HLN
      generalize c[k] = x at f3 HX
      obtain ⟨ad5, cap5, rfl, hl5, h5, h6, h7⟩ := hO.out.slice
      have hpl := partF_length L k [c] ls 0
      rw [hpl] at h5
      have HL5 := Lib.hid hl5
      have HA5 := Lib.hid h7
      have HPL := Lib.hid hpl
      rw [hpl]
      unfold maxLen at m1 h6
      clear f1 l1 h1 hkl hkc hl5 h7 hpl
      go_wp2_with fail
      refine (scale_n _ _ L L cap5 c1 (partF L k [c] ls 0) row x _ (by rw [HPL.out]) (by rw [HLN.out]) HL5.out HA5.out (by omega) HL2.out (by omega)).mono ?_
      rintro e w2 ⟨v2, rfl, ho2, hb2⟩
      rw [HX.out] at ho2
      have HO2 : Hid (Own w2 w.heap.size v2 (partF L (k + 1) [c] ls 0)) := Lib.hid (ho2.mono HB.out.size)
      have HB2 := Lib.hid (HB.out.trans (hb2.mono HB.out.size))
      clear ho2 hb2
      go_wp2
      go_roundg gk0
      case rel => exact ⟨k + 1, by go_num, by omega, HO2, HB2⟩
      case measure => omega
end Go.Proofs.Ytinfjidclkgfnaa
