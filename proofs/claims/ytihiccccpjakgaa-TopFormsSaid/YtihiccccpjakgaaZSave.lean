/-
  The program's numberSize and saves; how long two parts of a string are alike.
-/
import Derived.Test.YtihiccccpjakgaaCPutU
import Derived.Test.YtihiccccpjakgaaZStr
import Derived.BigQuiet
namespace Go.Proofs.Ytihiccccpjakgaa
open Go.RowKit
set_option linter.unusedVariables false
set_option linter.unusedSimpArgs false
set_option maxRecDepth 100000 in
set_option maxHeartbeats 600000 in
theorem nsize_any (n : Nat) (w : World) (hn : n ≤ 1000000) : Calls Try.prog 52 #[.int .i64 n] w fun e w' => e = .returned (.int .i64 ((enc n).length : Nat)) ∧ Below w.heap.size w w' := by
  have H := Lib.hid (puint_any none 0 [] n w (.nil _ _) (fun _ => rfl) (by simp) (by omega))
  go_enter Try.func52, Try.ntmps52
  go_wp2_with fail
  refine H.out.mono ?_
  rintro e w2 ⟨v, rfl, ho, hb⟩
  rw [List.nil_append] at ho
  obtain ⟨a1, c1, rfl, _, _, _, _⟩ := ho.slice
  have HB := Lib.hid hb
  clear hb ho
  go_wp2
  go_ret
  exact ⟨rfl, HB.out⟩
theorem encl (n : Nat) (h : n ≤ 1000000) : (enc n).length ≤ 10 := enc_len n (by omega)
set_option maxRecDepth 100000 in
set_option maxHeartbeats 600000 in
theorem saves_any (s d l : Nat) (w : World) (hs : s ≤ 300000) (hd : d ≤ 300000) (hl : l ≤ 300000) :
    Calls Try.prog 37 #[.int .i64 s, .int .i64 d, .int .i64 l] w fun e w' => e = .returned (.bool (decide ((enc (2 * s + 1)).length + (enc d).length + (enc (2 * l)).length < s))) ∧ Below w.heap.size w w' := by
  have HS := Lib.hid (fun (W : World) (n : Nat) (h : n ≤ 1000000) => nsize_any n W h)
  obtain ⟨A, hA⟩ : ∃ A, (enc (2 * s + 1)).length = A := ⟨_, rfl⟩
  obtain ⟨B, hB⟩ : ∃ B, (enc d).length = B := ⟨_, rfl⟩
  obtain ⟨C, hC⟩ : ∃ C, (enc (2 * l)).length = C := ⟨_, rfl⟩
  have b1 := encl (2 * s + 1) (by omega)
  have b2 := encl d (by omega)
  have b3 := encl (2 * l) (by omega)
  have H1 := Lib.hid (HS.out w (2 * s + 1) (by omega))
  have H2 := Lib.hid (fun W => HS.out W d (by omega))
  have H3 := Lib.hid (fun W => HS.out W (2 * l) (by omega))
  rw [hA] at b1 H1 ⊢
  rw [hB] at b2 H2 ⊢
  rw [hC] at b3 H3 ⊢
  push_cast at H1 H3
  clear hA hB hC HS
  go_enter Try.func37, Try.ntmps37
  go_wp2_with fail
  refine H1.out.mono ?_
  rintro e w2 ⟨rfl, hb⟩
  have HB := Lib.hid hb
  clear hb
  go_wp2_with fail
  refine (H2.out _).mono ?_
  rintro e w3 ⟨rfl, hb⟩
  have HB3 := Lib.hid (HB.out.trans (hb.mono HB.out.size))
  clear hb
  go_wp2_with fail
  refine (H3.out _).mono ?_
  rintro e w4 ⟨rfl, hb⟩
  have HB4 := Lib.hid (HB3.out.trans (hb.mono HB3.out.size))
  clear hb
  go_wp2
  go_ret
  refine ⟨?_, HB4.out⟩
  show Ending.returned (.bool (decide ((A : Int) + B + C < s))) = _
  congr 2
  exact decide_eq_decide.2 (by omega)
/-- how many first elements are alike -/
def lcp : List UInt8 → List UInt8 → Nat
  | x :: a, y :: b => if x = y then lcp a b + 1 else 0
  | _, _ => 0
theorem lcp_nil (a : List UInt8) : lcp a [] = 0 := by cases a <;> rfl
theorem lcp_le (a b : List UInt8) : lcp a b ≤ b.length := by
  induction a generalizing b with
  | nil => cases b <;> simp [lcp]
  | cons x a ih =>
    cases b with
    | nil => simp [lcp]
    | cons y b =>
      simp only [lcp]
      split
      · have := ih b; simp; omega
      · omega
theorem lcp_step {xs : List UInt8} {p q : Nat} (hp : p < xs.length) (hq : q < xs.length) : lcp (xs.drop p) (xs.drop q) = if xs[p] = xs[q] then lcp (xs.drop (p + 1)) (xs.drop (q + 1)) + 1 else 0 := by
  rw [List.drop_eq_getElem_cons hp, List.drop_eq_getElem_cons hq]
  rfl
/-- what is alike -/
theorem lcp_get (a b : List UInt8) : ∀ j (h : j < lcp a b), a[j]? = b[j]? := by
  induction a generalizing b with
  | nil => intro j h; cases b <;> simp [lcp] at h
  | cons x a ih =>
    intro j h
    cases b with
    | nil => simp [lcp] at h
    | cons y b =>
      simp only [lcp] at h
      split at h
      · rename_i e
        subst e
        cases j with
        | zero => rfl
        | succ j => simpa using ih b j (by omega)
      · omega
/-- what is alike up to the end of the second -/
theorem lcp_all (a b : List UInt8) (h : ∀ j, j < b.length → a[j]? = b[j]?) : lcp a b = b.length := by
  induction b generalizing a with
  | nil => exact lcp_nil a
  | cons y b ih =>
    have h0 := h 0 (by simp)
    cases a with
    | nil => simp at h0
    | cons x a =>
      simp at h0
      subst h0
      simp only [lcp, if_true]
      rw [ih a fun j hj => by simpa using h (j + 1) (by simpa using hj)]
      rfl
set_option maxRecDepth 100000 in
set_option maxHeartbeats 1000000 in
theorem common_any (ad : Option Addr) (cap : Nat) (xs : List UInt8) (m : Option Nat) (p q : Nat) (w : World) (hl : Lie w ad xs) (hn : xs.length ≤ cap) (hs : xs.length ≤ 1000000) (hpq : p < q) (hq : q ≤ xs.length) :
    Calls Try.prog 51 #[.agg #[.slice ad xs.length cap, .map m], .int .i64 p, .int .i64 q] w fun e w' => e = .returned (.int .i64 (lcp (xs.drop p) (xs.drop q) : Nat)) ∧ Below w.heap.size w w' := by
  have h0 : Below w.heap.size w (w.alloc (.cells #[.slice ad xs.length cap, .map m] 63)) := (Below.refl _ _).alloc (Nat.le_refl _) _
  have HL := Lib.hid (hl.below h0 rfl)
  have HB := Lib.hid h0
  clear hl h0
  go_enter Try.func51, Try.ntmps51
  go_wp2
  obtain ⟨w1, hw1⟩ : ∃ w1, w.alloc (.cells #[.slice ad xs.length cap, .map m] 63) = w1 := ⟨_, rfl⟩
  have hg := heap_new w (.cells #[.slice ad xs.length cap, .map m] 63)
  have hz : w1.heap.size = w.heap.size + 1 := by rw [← hw1]; simp
  rw [hw1] at HL HB hg ⊢
  have HG := Lib.hid hg
  have HZ := Lib.hid hz
  clear hw1 hg hz
  go_loopw [7] (fun u7 wr => ∃ k : Nat, u7 = .int .i64 k ∧ q + k ≤ xs.length ∧ Hid (lcp (xs.drop p) (xs.drop q) = k + lcp (xs.drop (p + k)) (xs.drop (q + k))) ∧ Hid (Below w1.heap.size w1 wr)) (fun u7 _ => xs.length - (intOf u7).toNat)
  case atStart => exact ⟨0, rfl, by omega, Lib.hid (by simp), Lib.hid (.refl _ _)⟩
  case round =>
    obtain ⟨k, rfl, hqk, hlc, hb⟩ := hrel
    have hbox : wr.heap[w.heap.size]? = some (.cells #[.slice ad xs.length cap, .map m] 63 (0, 0)) := (hb.out.block _ (by rw [HZ.out]; omega)).trans HG.out
    have hc0 : wr.cell? ⟨w.heap.size, 0, none⟩ = some (.slice ad xs.length cap) := by rw [cell_of_row _ _ 0 _ _ _ hbox]; rfl
    have HBr := Lib.hid (HB.out.trans (hb.out.mono (by rw [HZ.out]; omega)))
    by_cases hlt : q + k < xs.length
    · rcases (HL.out.below hb.out rfl).at_ with h1 | ⟨b, off, rfl, _, hc⟩
      · subst h1; rw [List.length_nil] at hlt; omega
      have hcp := hc (p + k) (by omega)
      have hcq := hc (q + k) (by omega)
      have hst := lcp_step (xs := xs) (p := p + k) (q := q + k) (by omega) hlt
      obtain ⟨A, hA⟩ : ∃ A, xs[p + k] = A := ⟨_, rfl⟩
      obtain ⟨B, hB⟩ : ∃ B, xs[q + k] = B := ⟨_, rfl⟩
      rw [hA] at hcp
      rw [hB] at hcq
      rw [hA, hB] at hst
      have i1 : (0 : Int) ≤ (p : Int) + (k : Int) := by omega
      have i2 : (p : Int) + (k : Int) < (xs.length : Int) := by omega
      have i3 : (0 : Int) ≤ (q : Int) + (k : Int) := by omega
      have i4 : (q : Int) + (k : Int) < (xs.length : Int) := by omega
      have hd : decide ((q : Int) + (k : Int) < (xs.length : Int)) = true := by simpa using i4
      obtain ⟨a, ha⟩ : ∃ a, A.toNat = a := ⟨_, rfl⟩
      obtain ⟨c, hcc⟩ : ∃ c, B.toNat = c := ⟨_, rfl⟩
      have hab : A = B ↔ a = c := by rw [← ha, ← hcc]; exact UInt8.toNat_inj.symm
      rw [ha] at hcp
      rw [hcc] at hcq
      have HST := Lib.hid hst
      have HAB := Lib.hid hab
      clear hc hst hA hB ha hcc hab hbox
      by_cases hac : a = c
      · have he : ((a : Int) == (c : Int)) = true := by rw [hac]; exact beq_self_eq_true _
        have HAC := Lib.hid hac
        clear hac
        go_wp2_with fail
        go_quiet (fail)
        go_wp2
        go_roundw
        case rel => exact ⟨k + 1, by rw [Int.natCast_add]; rfl, by omega, Lib.hid (by have h6 := hlc.out; rw [HST.out, if_pos (HAB.out.2 HAC.out)] at h6; rw [show p + (k + 1) = p + k + 1 by omega, show q + (k + 1) = q + k + 1 by omega]; omega), Lib.hid (below_drewN hb.out _)⟩
        case measure => simp [intOf]; omega
      · have he : ((a : Int) == (c : Int)) = false := by rw [beq_eq_false_iff_ne]; omega
        have HAC := Lib.hid hac
        clear hac
        go_wp2_with fail
        go_quiet (fail)
        go_wp2
        go_ret
        refine ⟨?_, below_drewN HBr.out _⟩
        rw [hlc.out, HST.out, if_neg (fun h => HAC.out (HAB.out.1 h))]
        rfl
    · have hd : decide ((q : Int) + (k : Int) < (xs.length : Int)) = false := by simp; omega
      have HK := Lib.hid (show q + k = xs.length by omega)
      go_wp2_with fail
      go_quiet (fail)
      go_wp2
      go_ret
      refine ⟨?_, below_drewN HBr.out _⟩
      rw [hlc.out, HK.out, List.drop_length, lcp_nil]
      rfl
end Go.Proofs.Ytihiccccpjakgaa
