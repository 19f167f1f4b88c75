/-
  Plain mathematics: a code word, some of whose shards are lost.
-/
import Derived.Test.YtinfjidclkgfnaaEAwake
import Derived.Test.YtinfjidclkgfnaaEReconstructs
namespace Go.Proofs.Ytinfjidclkgfnaa
open Go.RowKit
def lostL : List UInt8 := [108, 111, 115, 116]
/-- what is there, and what is put in the place of what is lost -/
def givL (all : List (List UInt8)) (hs : List Bool) : List (List UInt8) := List.zipWith (fun r b => if b then r else lostL) all hs
theorem givL_length (all : List (List UInt8)) (hs : List Bool) (h : hs.length = all.length) : (givL all hs).length = all.length := by
  unfold givL
  rw [List.length_zipWith, h]; omega
theorem givL_get (all : List (List UInt8)) (hs : List Bool) (i : Nat) (h : i < all.length) (h2 : i < hs.length) (h3 : i < (givL all hs).length) : (givL all hs)[i] = if hs[i] then all[i] else lostL := by
  simp [givL]
theorem givL_take (all : List (List UInt8)) (hs : List Bool) (i : Nat) (h : i < all.length) (h2 : i < hs.length) : givL (all.take (i + 1)) (hs.take (i + 1)) = givL (all.take i) (hs.take i) ++ [if hs[i] then all[i] else lostL] := by
  unfold givL
  rw [List.take_add_one, List.take_add_one, List.getElem?_eq_getElem h, List.getElem?_eq_getElem h2]
  exact List.zipWith_append (by rw [List.length_take, List.length_take]; omega)
section
variable {D : List (List UInt8)} {k q : Nat} {hs : List Bool}
theorem code_row (hs2 : sameL D = true) : ∀ r ∈ D ++ parL D q, r.length = cols D := fun r hr => by
  rcases List.mem_append.1 hr with h | h
  · exact (sameL_iff D).1 hs2 r h
  · exact parL_row D q r h
/-- the parity shards of a code word are those of its data shards -/
theorem chk_code (hD : D.length = k) (hs2 : sameL D = true) (hv : vc (k : Int) q = true) : chkL (D ++ parL D q) (q : Int) = true := by
  rw [chkL_yes hv (by rw [List.length_append, parL_length, hD])]
  have h1 : (D ++ parL D q).take k = D := by rw [← hD]; exact List.take_left
  have h2 : (D ++ parL D q).drop k = parL D q := by rw [← hD]; exact List.drop_left
  rw [chkK_yes (by rw [h1]; exact hs2), h1, h2]
  exact eqL_self _
/-- the shards that are there are those of the code word -/
theorem pick_giv (all : List (List UInt8)) (hs : List Bool) (h : hs.length = all.length) : pick (givL all hs) hs = pick all hs := by
  induction all generalizing hs with
  | nil =>
    have : hs = [] := List.eq_nil_of_length_eq_zero (by simpa using h)
    subst this; rfl
  | cons r all ih =>
    cases hs with
    | nil => simp at h
    | cons b hs =>
      have h' : hs.length = all.length := by simpa using h
      cases b
      · show pick (givL all hs) hs = pick all hs
        exact ih hs h'
      · show r :: pick (givL all hs) hs = r :: pick all hs
        rw [ih hs h']
theorem giv_same (hs2 : sameL D = true) (h : hs.length = (D ++ parL D q).length) : sameL (pick (givL (D ++ parL D q) hs) hs) = true := by
  rw [pick_giv _ _ h, sameL_iff]
  intro r hr
  have hr2 := code_row (q := q) hs2 r (pick_mem _ _ r hr)
  have hp : 0 < (pick (D ++ parL D q) hs).length := by cases hpp : pick (D ++ parL D q) hs with | nil => rw [hpp] at hr; simp at hr | cons => simp
  rw [cols_first _ hp, hr2]
  exact (code_row (q := q) hs2 _ (pick_mem _ _ _ (List.getElem_mem hp))).symm
theorem giv_recE (hD : D.length = k) (hs2 : sameL D = true) (hv : vc (k : Int) q = true) (h : hs.length = k + q) : recE (givL (D ++ parL D q) hs) hs q = if k ≤ hs.count true then 0 else 23 := by
  have hal : (D ++ parL D q).length = k + q := by rw [List.length_append, parL_length, hD]
  have hgl : (givL (D ++ parL D q) hs).length = k + q := by rw [givL_length _ _ (by rw [hal]; exact h), hal]
  have hvv : vc (((givL (D ++ parL D q) hs).length : Int) - (q : Int)) q = true := by rw [hgl, show ((k + q : Nat) : Int) - (q : Int) = k by omega]; exact hv
  have hsm := giv_same (q := q) (hs := hs) hs2 (by rw [hal]; exact h)
  by_cases hc : k ≤ hs.count true
  · rw [if_pos hc]; exact recE_ok hvv (by rw [hgl]; exact h) hsm hgl hc
  · rw [if_neg hc]; exact recE_lost hvv (by rw [hgl]; exact h) hsm hgl (by omega)
theorem giv_recR (hD : D.length = k) (hs2 : sameL D = true) (hv : vc (k : Int) q = true) (h : hs.length = k + q) (hc : k ≤ hs.count true) : recR (givL (D ++ parL D q) hs) hs q = D ++ parL D q := by
  have hal : (D ++ parL D q).length = k + q := by rw [List.length_append, parL_length, hD]
  have hgl : (givL (D ++ parL D q) hs).length = k + q := by rw [givL_length _ _ (by rw [hal]; exact h), hal]
  have hvv := (vc_iff _ _).1 hv
  have he := giv_recE hD hs2 hv h
  rw [if_pos hc] at he
  rw [recR_ok (k := k) he hgl, dataL_back (k := k) (p := q) D hD (by omega) hs2 h hc (by omega) hgl fun i hi hx => ?_]
  have hih : i < hs.length := by rw [h, ← hgl]; exact hi
  refine ⟨by rw [hal, ← hgl]; exact hi, ?_⟩
  rw [givL_get _ _ i (by rw [hal, ← hgl]; exact hi) hih hi]
  have hb : hs[i] = true := by simpa [hih] using hx
  rw [if_pos hb]
theorem giv_recR_no (hD : D.length = k) (hs2 : sameL D = true) (hv : vc (k : Int) q = true) (h : hs.length = k + q) (hc : ¬ k ≤ hs.count true) : recR (givL (D ++ parL D q) hs) hs q = [] := by
  have he := giv_recE hD hs2 hv h
  rw [if_neg hc] at he
  unfold recR
  rw [if_neg (by rw [he]; decide)]
end
theorem parE_zero {ls : List (List UInt8)} {p : Int} (h : parE ls p = 0) : vc ls.length p = true ∧ sameL ls = true := by
  unfold parE at h
  split at h
  · rename_i h1
    split at h
    · rename_i h2; exact ⟨h1, h2⟩
    · cases h
  · cases h
theorem Lie.lit (w : World) (xs : List UInt8) (cs : Array Value) (n : Nat) (fr : Nat × Nat) (hn : n = w.heap.size) (hc : cs = (cellsU xs).toArray) : Lie (w.alloc (.cells cs 5 fr)) (some ⟨n, 0, none⟩) xs := by
  subst hn hc
  refine ⟨.inr ⟨_, 0, rfl, by simp, fun j hj => ?_⟩⟩
  rw [Nat.zero_add, cell_of_row (w.alloc (.cells (cellsU xs).toArray 5 fr)) w.heap.size j _ 5 fr (heap_alloc_new w _), List.getElem?_toArray]
  exact cellsU_get xs j hj
theorem lost_cells : #[Value.int .u8 108, .int .u8 111, .int .u8 115, .int .u8 116] = (cellsU lostL).toArray := rfl
end Go.Proofs.Ytinfjidclkgfnaa
