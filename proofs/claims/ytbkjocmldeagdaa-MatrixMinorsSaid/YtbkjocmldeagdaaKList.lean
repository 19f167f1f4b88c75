/-
  Matrices as lists of rows: products, vectors, the identity matrix, Cauchy matrices, their minors.
-/
import Derived.Test.YtbkjocmldeagdaaKRed
import Derived.Test.YtbkjocmldeagdaaKCauchy
namespace Go.Proofs.Ytbkjocmldeagdaa
/-- the element in row i and column j -/
def ent (M : List (List UInt8)) (i j : Nat) : UInt8 := (M.getD i []).getD j 0
/-- the matrix of r rows and c columns with these elements -/
def matL (r c : Nat) (f : Nat → Nat → UInt8) : List (List UInt8) := (List.range r).map fun i => (List.range c).map (f i)
theorem matL_length (r c : Nat) (f : Nat → Nat → UInt8) : (matL r c f).length = r := by simp [matL]
theorem matL_row (r c i : Nat) (f : Nat → Nat → UInt8) (h : i < (matL r c f).length) : (matL r c f)[i] = (List.range c).map (f i) := by simp [matL]
theorem matL_rows (r c : Nat) (f : Nat → Nat → UInt8) : ∀ row ∈ matL r c f, row.length = c := by
  intro row h
  obtain ⟨i, _, rfl⟩ := List.mem_map.1 h
  simp
theorem matL_ent (r c i j : Nat) (f : Nat → Nat → UInt8) (hi : i < r) (hj : j < c) : ent (matL r c f) i j = f i j := by
  simp [ent, matL, hi, hj]
theorem matL_congr (r c : Nat) (f g : Nat → Nat → UInt8) (h : ∀ i, i < r → ∀ j, j < c → f i j = g i j) : matL r c f = matL r c g := by
  unfold matL
  refine List.map_congr_left fun i hi => List.map_congr_left fun j hj => h i ?_ j ?_
  · simpa using hi
  · simpa using hj
theorem matL_succ (r c : Nat) (f : Nat → Nat → UInt8) : matL (r + 1) c f = matL r c f ++ [(List.range c).map (f r)] := by
  simp [matL, List.range_succ]
theorem row_succ (c : Nat) (g : Nat → UInt8) : (List.range (c + 1)).map g = (List.range c).map g ++ [g c] := by simp [List.range_succ]

/-- the columns of the first row -/
def cols (M : List (List UInt8)) : Nat := (M.headD []).length
structure ValidL (M : List (List UInt8)) : Prop where
  pos : 1 ≤ M.length
  le : M.length ≤ 64
  row : ∀ row ∈ M, row.length = cols M
  cpos : 1 ≤ cols M
  cle : cols M ≤ 64
theorem matL_cols (r c : Nat) (f : Nat → Nat → UInt8) (hr : 1 ≤ r) : cols (matL r c f) = c := by
  obtain ⟨m, rfl⟩ : ∃ m, r = m + 1 := ⟨r - 1, by omega⟩
  unfold cols
  rw [show (matL (m + 1) c f).headD [] = (List.range c).map (f 0) by simp [matL, List.range_succ_eq_map]]
  simp
theorem matL_valid (r c : Nat) (f : Nat → Nat → UInt8) (hr : 1 ≤ r) (hr2 : r ≤ 64) (hc : 1 ≤ c) (hc2 : c ≤ 64) : ValidL (matL r c f) := by
  have h := matL_cols r c f hr
  exact ⟨by rw [matL_length]; exact hr, by rw [matL_length]; exact hr2, fun row hrow => by rw [h]; exact matL_rows r c f row hrow, by rw [h]; exact hc, by rw [h]; exact hc2⟩
/-- a matrix whose rows have c elements is that of its elements -/
theorem matL_self (M : List (List UInt8)) (c : Nat) (h : ∀ row ∈ M, row.length = c) : matL M.length c (ent M) = M := by
  apply List.ext_getElem
  · exact matL_length _ _ _
  · intro i h1 h2
    rw [matL_row _ _ i _ h1]
    apply List.ext_getElem
    · rw [List.length_map, List.length_range]; exact (h _ (List.getElem_mem h2)).symm
    · intro j h3 h4
      simp [ent, h2, h4]
theorem ValidL.self {M : List (List UInt8)} (h : ValidL M) : matL M.length (cols M) (ent M) = M := matL_self M _ h.row

/-- the product of two matrices -/
def mulL (a b : List (List UInt8)) : List (List UInt8) := matL a.length (cols b) fun i j => comb b.length (ent a i) (ent b) j
/-- the product of a matrix and a vector -/
def appL (m : List (List UInt8)) (v : List UInt8) : List UInt8 := (List.range m.length).map fun i => comb v.length (ent m i) (fun k _ => v.getD k 0) 0
def idL (n : Nat) : List (List UInt8) := matL n n dl
def cauL (r c : Nat) : List (List UInt8) := matL r c fun i j => invU (UInt8.ofNat ((c + i) ^^^ j))
theorem appL_length (m : List (List UInt8)) (v : List UInt8) : (appL m v).length = m.length := by simp [appL]
theorem appL_get (m : List (List UInt8)) (v : List UInt8) (i : Nat) (hi : i < m.length) : (appL m v).getD i 0 = comb v.length (ent m i) (fun k _ => v.getD k 0) 0 := by simp [appL, hi]
/-- applying a product is applying both factors -/
theorem appL_mul (a b : List (List UInt8)) (v : List UInt8) (hv : v.length = cols b) : appL (mulL a b) v = appL a (appL b v) := by
  unfold appL
  rw [show (mulL a b).length = a.length from matL_length _ _ _]
  refine List.map_congr_left fun i hi => ?_
  have hi' : i < a.length := by simpa using hi
  have h1 : comb v.length (ent (mulL a b) i) (fun k _ => v.getD k 0) 0 = comb v.length (fun q => comb b.length (ent a i) (ent b) q) (fun k _ => v.getD k 0) 0 :=
    comb_congr (fun q hq => matL_ent _ _ i q _ hi' (by rw [← hv]; exact hq)) fun _ _ => rfl
  rw [h1, ← comb_comb]
  rw [show ((List.range b.length).map fun i => comb v.length (ent b i) (fun k _ => v.getD k 0) 0).length = b.length by simp]
  refine comb_congr (fun _ _ => rfl) fun k hk => ?_
  simp [hk]
theorem rank_mul_first (a b : List (List UInt8)) (K : Nat) (hK : b.length = K) : rankF a.length (cols b) (ent (mulL a b)) ≤ rankF a.length K (ent a) := by
  have h := rank_first a.length b.length (cols b) (ent a) (ent b)
  rw [← hK]
  refine Nat.le_trans (Nat.le_of_eq ?_) h
  refine rank_eq ?_ ?_
  · exact Inside.row fun i hi => ⟨i, hi, fun j hj => matL_ent _ _ i j _ hi hj⟩
  · exact Inside.row fun i hi => ⟨i, hi, fun j hj => (matL_ent a.length (cols b) i j (fun i j => comb b.length (ent a i) (ent b) j) hi hj).symm⟩
theorem rank_mul_second (a b : List (List UInt8)) : rankF a.length (cols b) (ent (mulL a b)) ≤ rankF b.length (cols b) (ent b) :=
  rank_mono fun i hi => ⟨ent a i, fun j hj => matL_ent _ _ i j _ hi hj⟩
/-- the products of a matrix and its inverse -/
theorem mulL_left (n : Nat) (A : Nat → Nat → UInt8) (M : List (List UInt8)) (hM : M.length = n) (hc : cols M = n) (h : Inv n A (ent M)) : mulL (matL n n A) M = idL n := by
  unfold mulL idL
  rw [matL_length, hM, hc]
  exact matL_congr _ _ _ _ fun i hi j hj => by
    rw [show comb n (ent (matL n n A) i) (ent M) j = comb n (A i) (ent M) j from comb_congr (fun k hk => matL_ent n n i k A hi hk) fun _ _ => rfl]
    exact h i hi j hj
theorem mulL_right (n : Nat) (A : Nat → Nat → UInt8) (M : List (List UInt8)) (hM : M.length = n) (hn : 1 ≤ n) (h : Inv n A (ent M)) : mulL M (matL n n A) = idL n := by
  unfold mulL idL
  rw [matL_length, matL_cols n n A hn, hM]
  exact matL_congr _ _ _ _ fun i hi j hj => by
    rw [show comb n (ent M i) (ent (matL n n A)) j = comb n (ent M i) A j from comb_congr (fun _ _ => rfl) fun k hk => matL_ent n n k j A hk hj]
    exact h.other i hi j hj
theorem Inv.back {n : Nat} {A : Nat → Nat → UInt8} {M : List (List UInt8)} (h : Inv n A (ent M)) : Inv n (ent M) (ent (matL n n A)) :=
  h.other.congr (fun _ _ _ _ => rfl) fun i hi j hj => (matL_ent n n i j A hi hj).symm

/-- a minor of a Cauchy matrix -/
theorem minor_inv (n r c : Nat) (R L : Nat → Nat) (hr : ∀ i, i < n → R i < r) (hl : ∀ i, i < n → L i < c) (hs : r + c ≤ 64) (hR : ∀ i j, i < j → j < n → R i ≠ R j) (hL : ∀ i j, i < j → j < n → L i ≠ L j) :
    ∃ A, Inv n A fun i j => ent (cauL r c) (R i) (L j) := by
  have hof : ∀ a b, a < 256 → b < 256 → UInt8.ofNat a = UInt8.ofNat b → a = b := fun a b ha hb h => by
    have := congrArg UInt8.toNat h
    rw [UInt8.toNat_ofNat', UInt8.toNat_ofNat'] at this
    omega
  obtain ⟨A, hA⟩ := cauchy_inv n (fun i => UInt8.ofNat (c + R i)) (fun j => UInt8.ofNat (L j))
    (fun i j hi hj h => hR i j hi hj (by have := hr i (by omega); have := hr j hj; have := hof _ _ (by omega) (by omega) h; omega))
    (fun i j hi hj h => hL i j hi hj (by have := hl i (by omega); have := hl j hj; exact hof _ _ (by omega) (by omega) h))
    (fun i j hi hj h => by have := hr i hi; have := hl j hj; have := hof _ _ (by omega) (by omega) h; omega)
  refine ⟨A, hA.congr (fun _ _ _ _ => rfl) fun i hi j hj => ?_⟩
  show _ = ent (cauL r c) (R i) (L j)
  rw [show ent (cauL r c) (R i) (L j) = invU (UInt8.ofNat ((c + R i) ^^^ L j)) from matL_ent r c (R i) (L j) _ (hr i hi) (hl j hj)]
  congr 1
  apply UInt8.toNat_inj.1
  have h1 := hr i hi
  have h2 := hl j hj
  have h3 : (c + R i) ^^^ L j < 2 ^ 6 := Nat.xor_lt_two_pow (by omega) (by omega)
  rw [UInt8.toNat_xor, UInt8.toNat_ofNat', UInt8.toNat_ofNat', UInt8.toNat_ofNat', Nat.mod_eq_of_lt (by omega), Nat.mod_eq_of_lt (by omega), Nat.mod_eq_of_lt (by omega)]
end Go.Proofs.Ytbkjocmldeagdaa
