/-
  The program's join: what it is given, one behind another, in a slice of its own.
-/
import Derived.Test.YtihiccccpjakgaaCNum
namespace Go.Proofs.Ytihiccccpjakgaa
open Go.RowKit

/-- How many bytes the first k of some texts have. -/
def tot (ls : List (List UInt8)) (k : Nat) : Nat := (ls.take k).flatten.length
theorem tot_succ (ls : List (List UInt8)) (k : Nat) (h : k < ls.length) : tot ls (k + 1) = tot ls k + (ls[k]).length := by
  unfold tot
  rw [List.take_succ_eq_append_getElem h, List.flatten_append, List.length_append, List.flatten_cons, List.flatten_nil, List.append_nil]
theorem tot_le (ls : List (List UInt8)) (k : Nat) : tot ls k ≤ ls.flatten.length := by
  unfold tot
  have h : ls.flatten = (ls.take k).flatten ++ (ls.drop k).flatten := by rw [← List.flatten_append, List.take_append_drop]
  rw [h, List.length_append]
  omega
theorem take_succ_flat (ls : List (List UInt8)) (k : Nat) (h : k < ls.length) : (ls.take (k + 1)).flatten = (ls.take k).flatten ++ ls[k] := by
  rw [List.take_succ_eq_append_getElem h, List.flatten_append, List.flatten_cons, List.flatten_nil, List.append_nil]

theorem lt_of_cell {w : World} {g k : Nat} {v : Value} (h : w.cell? ⟨g, k, none⟩ = some v) : g < w.heap.size := by
  rcases Nat.lt_or_ge g w.heap.size with h' | h'
  · exact h'
  · simp [World.cell?, Array.getElem?_eq_none h'] at h

set_option maxRecDepth 100000 in
set_option maxHeartbeats 800000 in
theorem join_bytes (ad : Option Addr) (cap g : Nat) (xs : List UInt8) (ss : List (Option Addr × Nat × List UInt8)) (w : World) (hl : Lie w ad xs) (hac : ad = none → cap = 0)
    (hc : ∀ k (h : k < ss.length), w.cell? ⟨g, k, none⟩ = some (.slice (ss[k]).1 (ss[k]).2.2.length (ss[k]).2.1) ∧ Lie w (ss[k]).1 (ss[k]).2.2 ∧ ((ss[k]).1 = none → (ss[k]).2.1 = 0)) (hs : xs.length ≤ 1000000) (hss : (ss.map fun s => s.2.2).flatten.length ≤ 1000000) (hn : ss.length ≤ 1000) :
    Calls Try.prog 48 #[.slice ad xs.length cap, .slice (some ⟨g, 0, none⟩) ss.length ss.length] w (Gives w (xs ++ (ss.map fun s => s.2.2).flatten)) := by
  obtain ⟨ls, hls⟩ : ∃ ls, ls = ss.map fun s => s.2.2 := ⟨_, rfl⟩
  rw [← hls] at hss ⊢
  have hll : ls.length = ss.length := by rw [hls]; simp
  have hget : ∀ k (h : k < ss.length) (h' : k < ls.length), ls[k] = (ss[k]).2.2 := fun k h h' => by simp [hls]
  have HL := Lib.hid hl
  have HC := Lib.hid hc
  have HN := Lib.hid hll
  have HG := Lib.hid hget
  have HA := Lib.hid hac
  have HS := Lib.hid hss
  clear hl hc hls hll hget hac hss
  go_enter Try.func48, Try.ntmps48
  go_wp2
  go_loop [5, 15] (fun n i => ∃ k L : Nat, k ≤ ss.length ∧ i = .int .i64 k ∧ n = .int .i64 L ∧ L = xs.length + tot ls k) (fun _ i => (ss.length - (intOf i).toNat))
  case atStart => exact ⟨0, xs.length, by omega, rfl, rfl, rfl⟩
  case round =>
    obtain ⟨k, L, hk, rfl, rfl, hL⟩ := hrel
    have hts := tot_le ls k
    have HS2 := HS.out
    by_cases hlt : k < ss.length
    · have hc := (HC.out k hlt).1
      have HT := Lib.hid (tot_succ ls k (by rw [HN.out]; exact hlt))
      have hsz : (ss[k]).2.2.length = (ls[k]'(by rw [HN.out]; exact hlt)).length := by rw [HG.out k hlt _]
      have hts1 := tot_le ls (k + 1)
      rw [HT.out] at hts1
      have HL2 := Lib.hid hL
      have HZ := Lib.hid hsz
      have hb : L + (ss[k]).2.2.length ≤ 3000000 := by omega
      clear hL hsz hts1 hts
      go_wp2
      refine ⟨⟨k + 1, L + (ss[k]).2.2.length, by omega, by go_num, by go_num, ?_⟩, by simp [intOf]; omega⟩
      rw [HT.out, HZ.out, HL2.out, Nat.add_assoc]
    · obtain rfl : k = ss.length := by omega
      have hb : L ≤ 3000000 := by omega
      clear hL hts HS2
      go_wp2_with (first
        | (at_make; refine wpList_make_u rfl (.const (.int .i64 0)) (.tmp 24) rfl w.heap.size _ L rfl rfl rfl (by omega) (Nat.le_refl _) ?_; intro v0 w0 hown0 hgrow0)
        | (at_builtin; refine wpList_append_u rfl (.tmp 25) (.tmp 26) rfl w.heap.size _ [] rfl hown0 ad _ cap xs HA.out (HL.out.below ((Below.refl _ _).grown hgrow0 (Nat.le_refl _) (by simp)) rfl) rfl rfl (by simp; omega) hgrow0.size ?_; intro v1 w1 hown1 hgrow1))
      have hb0 : Below w.heap.size w w0 := (Below.refl _ _).grown hgrow0 (Nat.le_refl _) (by simp)
      have hb1 : Below w.heap.size w w1 := hb0.grown hgrow1 hb0.size (fun k hk => (hown0.lt k hk).1)
      have HO1 := Lib.hid hown1
      have HB1 := Lib.hid hb1
      clear hown0 hown1 hgrow0 hgrow1 hb0 hb1
      go_loopw [8, 30] (fun v i wr => ∃ k : Nat, k ≤ ss.length ∧ i = .int .i64 k ∧ Own wr w.heap.size v (xs ++ (ls.take k).flatten) ∧ Below w.heap.size w wr) (fun _ i _ => (ss.length - (intOf i).toNat))
      case atStart => exact ⟨0, by omega, rfl, by simpa using HO1.out, HB1.out⟩
      case round =>
        obtain ⟨k, hk, rfl, hown, hb⟩ := hrel
        have HS2 := HS.out
        have hts := tot_le ls k
        by_cases hlt : k < ss.length
        · obtain ⟨hcw, hlw, hnw⟩ := HC.out k hlt
          have hlr := Lib.hid (hlw.below hb rfl)
          have hnr := Lib.hid hnw
          have hc : wr.cell? ⟨g, k, none⟩ = some (.slice (ss[k]).1 (ss[k]).2.2.length (ss[k]).2.1) := by
            rw [hb.cell (p := ⟨g, k, none⟩) (lt_of_cell hcw)]
            exact hcw
          have hk' : k < ls.length := by rw [HN.out]; exact hlt
          have HT := Lib.hid (take_succ_flat ls k hk')
          have hts1 := tot_le ls (k + 1)
          rw [tot_succ ls k hk'] at hts1
          have hsz : (ss[k]).2.2.length = (ls[k]'hk').length := by rw [HG.out k hlt hk']
          have hlen : (xs ++ (ls.take k).flatten).length = xs.length + tot ls k := by rw [List.length_append]; rfl
          have hbd : (xs ++ (ls.take k).flatten).length + (ss[k]).2.2.length ≤ 10000000 := by omega
          have hbs := hb.size
          have HB := Lib.hid hb
          have HO := Lib.hid hown
          clear hts hts1 hsz hlen hcw hown hb hlw hnw
          go_wp2_with (at_builtin; refine wpList_append_u rfl (.tmp 34) (.tmp 35) rfl w.heap.size _ _ rfl HO.out _ _ _ (ss[k]).2.2 hnr.out hlr.out rfl rfl hbd hbs ?_; intro v2 w2 hown2 hgrow2)
          refine ⟨⟨k + 1, by omega, by go_num, ?_, HB.out.grown hgrow2 hbs (fun j hj => (HO.out.lt j hj).1)⟩, by simp [intOf]; omega⟩
          rw [HT.out, HG.out k hlt hk', ← List.append_assoc]
          exact hown2
        · obtain rfl : k = ss.length := by omega
          have HB := Lib.hid hb
          have HO := Lib.hid hown
          clear hown hb hts
          go_wp2
          go_ret
          refine ⟨_, rfl, ?_, HB.out⟩
          have := HO.out
          rw [List.take_of_length_le (by rw [HN.out]; omega)] at this
          exact this
end Go.Proofs.Ytihiccccpjakgaa
