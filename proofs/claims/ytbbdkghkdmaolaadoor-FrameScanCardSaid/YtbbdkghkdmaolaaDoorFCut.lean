/-
  Plain mathematics: the first bytes of frames one behind the other.
-/
import Derived.Test.YtbbdkghkdmaolaaDoorFChain
namespace Go.Proofs.YtbbdkghkdmaolaaDoor
set_option linter.unusedVariables false

theorem hd_cut (body rest : List UInt8) (t : Nat) (h : body.length ≤ 65536) (ht : t < body.length + 10) : (hd ((frm body ++ rest).take t)).2 ≠ 0 := by
  intro h0
  obtain ⟨h1, _, h3⟩ := hd_len _ h0
  have h4 := (hd_len (frm body ++ rest) (by rw [hd_frm body rest h])).2.2
  rw [hd_frm body rest h] at h4
  rw [List.length_take] at h1
  rw [List.drop_take, num4_take' _ _ (by omega), ← h4] at h3
  omega
/-- The frames of the first bodies, one behind the other. -/
def cat (B : List (List UInt8)) (i : Nat) : List UInt8 := (B.take i).flatMap frm
theorem cat_zero (B : List (List UInt8)) : cat B 0 = [] := by simp [cat]
theorem cat_succ {B : List (List UInt8)} {i : Nat} (h : i < B.length) : cat B (i + 1) = cat B i ++ frm B[i] := by
  unfold cat
  rw [List.take_succ_eq_append_getElem h, List.flatMap_append]
  simp
theorem cat_len {B : List (List UInt8)} {i : Nat} (h : i < B.length) : (cat B (i + 1)).length = (cat B i).length + (B[i]).length + 10 := by
  rw [cat_succ h, List.length_append, frm_length]; omega
theorem cat_split {B : List (List UInt8)} {i : Nat} (h : i < B.length) : ∃ rest, cat B B.length = cat B i ++ (frm B[i] ++ rest) := by
  refine ⟨(B.drop (i + 1)).flatMap frm, ?_⟩
  unfold cat
  conv => lhs; rw [List.take_length, ← List.take_append_drop i B, List.drop_eq_getElem_cons h]
  rw [List.flatMap_append, List.flatMap_cons]
theorem cat_le {B : List (List UInt8)} (h60 : ∀ x ∈ B, x.length ≤ 60) : ∀ i, i ≤ B.length → (cat B i).length ≤ 70 * i
  | 0, _ => by rw [cat_zero]; simp
  | i + 1, h => by
    have h1 := cat_le h60 i (by omega)
    have h2 := h60 (B[i]'(by omega)) (List.getElem_mem _)
    rw [cat_len (by omega)]
    omega
theorem take_over {p f r : List UInt8} {k : Nat} (h : p.length + f.length ≤ k) : (p ++ (f ++ r)).take k = p ++ (f ++ r.take (k - p.length - f.length)) := by
  rw [List.take_append, List.take_of_length_le (by omega), List.take_append, List.take_of_length_le (by omega)]
theorem part_cut {B : List (List UInt8)} (h60 : ∀ x ∈ B, x.length ≤ 60) (k : Nat) : ∀ i, i ≤ B.length → (cat B i).length ≤ k → ∃ ps, Part ((cat B B.length).take k) 0 ps (cat B i).length ∧ ps.map (·.1) = B.take i
  | 0, _, _ => ⟨[], by rw [cat_zero]; rfl, by simp⟩
  | i + 1, hi, hk => by
    have hl := cat_len (B := B) (i := i) (by omega)
    obtain ⟨ps, h1, h2⟩ := part_cut h60 k i (by omega) (by omega)
    obtain ⟨rest, hr⟩ := cat_split (B := B) (i := i) (by omega)
    have hb := h60 (B[i]'(by omega)) (List.getElem_mem _)
    have hx : (cat B B.length).take k = cat B i ++ (frm (B[i]'(by omega)) ++ rest.take (k - (cat B i).length - (frm (B[i]'(by omega))).length)) := by
      rw [hr, take_over (by rw [frm_length]; omega)]
    have hc := chk_frm (cat B i) (B[i]'(by omega)) (rest.take (k - (cat B i).length - (frm (B[i]'(by omega))).length)) (by omega)
    rw [← hx] at hc
    have h3 := Part.snoc (n := (cat B (i + 1)).length) h1 (by rw [hc.1]) (by rw [hc.1, hl])
    rw [hc.2] at h3
    refine ⟨_, h3, ?_⟩
    rw [List.map_append, h2, List.take_succ_eq_append_getElem (by omega)]
    rfl
theorem end_cut {B : List (List UInt8)} (h60 : ∀ x ∈ B, x.length ≤ 60) {k i : Nat} (hi : i ≤ B.length) (hk : (cat B i).length ≤ k) (hkl : k ≤ (cat B B.length).length) (hnext : i < B.length → k < (cat B (i + 1)).length) : (chk ((cat B B.length).take k) (cat B i).length).2 ≠ 0 := by
  have hne : (hd (((cat B B.length).take k).drop (cat B i).length)).2 ≠ 0 := by
    by_cases h : i < B.length
    · obtain ⟨rest, hr⟩ := cat_split h
      have h1 := hnext h
      rw [cat_len h] at h1
      have hb := h60 B[i] (List.getElem_mem _)
      rw [List.drop_take, hr, List.drop_left' rfl]
      exact hd_cut _ _ _ (by omega) (by omega)
    · obtain rfl : i = B.length := by omega
      rw [List.drop_eq_nil_of_le (by rw [List.length_take]; omega)]
      decide
  rw [chk_nat _ _ (by rw [List.length_take]; omega), if_neg hne]
  dsimp only
  omega
/-- The scan of the first bytes: the bodies that are there as a whole, and the offset behind them. -/
theorem scan_cut {B : List (List UInt8)} (h60 : ∀ x ∈ B, x.length ≤ 60) {k i e : Nat} {ps : List (List UInt8 × Nat)} (hi : i ≤ B.length) (hk : (cat B i).length ≤ k) (hkl : k ≤ (cat B B.length).length) (hnext : i < B.length → k < (cat B (i + 1)).length)
    (hp : Part ((cat B B.length).take k) 0 ps e) (hn : (chk ((cat B B.length).take k) e).2 ≠ 0) : ps.map (·.1) = B.take i ∧ e = (cat B i).length := by
  obtain ⟨qs, h1, h2⟩ := part_cut h60 k i hi hk
  obtain ⟨rfl, rfl⟩ := Part.unique hp hn h1 (end_cut h60 hi hk hkl hnext)
  exact ⟨h2, rfl⟩
/-- At most twelve, each cut to sixty bytes. -/
def fews (ls : List (List UInt8)) (j : Nat) : List (List UInt8) := (ls.take j).map (·.take 60)
theorem fews_succ {ls : List (List UInt8)} {j : Nat} (h : j < ls.length) : fews ls (j + 1) = fews ls j ++ [(ls[j]).take 60] := by
  unfold fews
  rw [List.take_succ_eq_append_getElem h, List.map_append]
  rfl
theorem fews_len (ls : List (List UInt8)) (j : Nat) : (fews ls j).length = min j ls.length := by unfold fews; rw [List.length_map, List.length_take]
theorem fews_60 (ls : List (List UInt8)) (j : Nat) : ∀ x ∈ fews ls j, x.length ≤ 60 := by
  intro x hx
  obtain ⟨y, _, rfl⟩ := List.mem_map.1 hx
  rw [List.length_take]
  omega
end Go.Proofs.YtbbdkghkdmaolaaDoor
