/-
  What the functions of both sides give, in one form.
-/
import Derived.Test.YtbkjocmldeagdaaHLives
import Derived.Test.YtbkjocmldeagdaaRInv5
import Derived.Test.YtbkjocmldeagdaaRApp5
import Derived.Test.YtbkjocmldeagdaaRCau5
import Derived.Test.YtbkjocmldeagdaaHRValid
namespace Go.Proofs.Ytbkjocmldeagdaa
open Go.RowKit
/-- a matrix, and whether there is one -/
def GivesB (w : World) (b : Bool) (L : List (List UInt8)) (e : Ending) (w' : World) : Prop := ∃ ad cap, e = .returned (.tuple #[.slice ad L.length cap, .bool b]) ∧ Lr w' ad L ∧ L.length ≤ cap ∧ cap ≤ maxLen ∧ Below w.heap.size w w'
/-- a vector, and whether there is one -/
def GivesV (w : World) (b : Bool) (l : List UInt8) (e : Ending) (w' : World) : Prop := ∃ ad cap, e = .returned (.tuple #[.slice ad l.length cap, .bool b]) ∧ Lie w' ad l ∧ l.length ≤ cap ∧ cap ≤ maxLen ∧ Below w.heap.size w w'
/-- a matrix -/
def GivesM (w : World) (L : List (List UInt8)) (e : Ending) (w' : World) : Prop := ∃ ad cap, e = .returned (.slice ad L.length cap) ∧ Lr w' ad L ∧ L.length ≤ cap ∧ cap ≤ maxLen ∧ Below w.heap.size w w'
theorem GivesB.none (w w' : World) (hb : Below w.heap.size w w') : GivesB w false [] (.returned (.tuple #[.slice none 0 0, .bool false])) w' := ⟨_, _, rfl, ⟨.inl rfl⟩, Nat.le_refl _, Nat.zero_le _, hb⟩
theorem GivesV.none (w w' : World) (hb : Below w.heap.size w w') : GivesV w false [] (.returned (.tuple #[.slice none 0 0, .bool false])) w' := ⟨_, _, rfl, .nil _ _, Nat.le_refl _, Nat.zero_le _, hb⟩
theorem GivesM.none (w w' : World) (hb : Below w.heap.size w w') : GivesM w [] (.returned (.slice none 0 0)) w' := ⟨_, _, rfl, ⟨.inl rfl⟩, Nat.le_refl _, Nat.zero_le _, hb⟩
open Classical in
/-- do they fit? -/
noncomputable def okM (xs ys : List (List UInt8)) : Bool := decide (Fits xs ys)
open Classical in
noncomputable def mulR (xs ys : List (List UInt8)) : List (List UInt8) := if Fits xs ys then mulL xs ys else []
theorem okM_yes {xs ys : List (List UInt8)} (h : Fits xs ys) : okM xs ys = true := by unfold okM; simp [h]
theorem okM_no {xs ys : List (List UInt8)} (h : ¬ Fits xs ys) : okM xs ys = false := by unfold okM; simp [h]
theorem mulR_yes {xs ys : List (List UInt8)} (h : Fits xs ys) : mulR xs ys = mulL xs ys := if_pos h
theorem mulR_no {xs ys : List (List UInt8)} (h : ¬ Fits xs ys) : mulR xs ys = [] := if_neg h
theorem mulL_length (xs ys : List (List UInt8)) : (mulL xs ys).length = xs.length := matL_length _ _ _
open Classical in
noncomputable def okA (xs : List (List UInt8)) (v : List UInt8) : Bool := decide (FitV xs v)
open Classical in
noncomputable def appR (xs : List (List UInt8)) (v : List UInt8) : List UInt8 := if FitV xs v then appL xs v else []
theorem okA_yes {xs : List (List UInt8)} {v : List UInt8} (h : FitV xs v) : okA xs v = true := by unfold okA; simp [h]
theorem okA_no {xs : List (List UInt8)} {v : List UInt8} (h : ¬ FitV xs v) : okA xs v = false := by unfold okA; simp [h]
theorem appR_yes {xs : List (List UInt8)} {v : List UInt8} (h : FitV xs v) : appR xs v = appL xs v := if_pos h
theorem appR_no {xs : List (List UInt8)} {v : List UInt8} (h : ¬ FitV xs v) : appR xs v = [] := if_neg h
/-- is there an inverse? -/
def Has (ls : List (List UInt8)) : Prop := ValidL ls ∧ ls.length = cols ls ∧ ∃ A, Inv ls.length A (ent ls)
open Classical in
noncomputable def okI (ls : List (List UInt8)) : Bool := decide (Has ls)
open Classical in
noncomputable def invR (ls : List (List UInt8)) : List (List UInt8) := if h : Has ls then matL ls.length ls.length (Classical.choose h.2.2) else []
theorem okI_yes {ls : List (List UInt8)} (h : Has ls) : okI ls = true := by unfold okI; simp [h]
theorem okI_no {ls : List (List UInt8)} (h : ¬ Has ls) : okI ls = false := by unfold okI; simp [h]
theorem invR_no {ls : List (List UInt8)} (h : ¬ Has ls) : invR ls = [] := dif_neg h
theorem invR_yes {ls : List (List UInt8)} (h : Has ls) (A : Nat → Nat → UInt8) (hA : Inv ls.length A (ent ls)) : invR ls = matL ls.length ls.length A := by
  unfold invR
  rw [dif_pos h]
  exact matL_congr _ _ _ _ fun i hi j hj => (Classical.choose_spec h.2.2).unique hA i hi j hj
theorem MulP.gives {w w' : World} {xs ys : List (List UInt8)} {e : Ending} (h : MulP w xs ys e w') : GivesB w (okM xs ys) (mulR xs ys) e w' := by
  obtain ⟨hb, ⟨hf, ad, cap, rfl, hl, h1, h2⟩ | ⟨hf, rfl⟩⟩ := h
  · rw [okM_yes hf, mulR_yes hf]
    exact ⟨ad, cap, by rw [mulL_length], hl, by rw [mulL_length]; exact h1, h2, hb⟩
  · rw [okM_no hf, mulR_no hf]
    exact .none _ _ hb
theorem RMulP.gives {w w' : World} {xs ys : List (List UInt8)} {e : Ending} (h : RMulP w xs ys e w') : GivesB w (okM xs ys) (mulR xs ys) e w' := by
  rcases h with ⟨hf, v, rfl, ad, cap, rfl, hl, h1, h2, hb⟩ | ⟨hf, rfl, hb⟩
  · rw [okM_yes hf, mulR_yes hf]
    exact ⟨ad, cap, by rw [mulL_length], hl, by rw [mulL_length]; exact h1, h2, hb⟩
  · rw [okM_no hf, mulR_no hf]
    exact .none _ _ hb
theorem AppP.gives {w w' : World} {xs : List (List UInt8)} {v : List UInt8} {e : Ending} (h : AppP w xs v e w') : GivesV w (okA xs v) (appR xs v) e w' := by
  obtain ⟨hb, ⟨hf, ad, cap, rfl, hl, h1, h2⟩ | ⟨hf, rfl⟩⟩ := h
  · rw [okA_yes hf, appR_yes hf]
    exact ⟨ad, cap, by rw [appL_length], hl, by rw [appL_length]; exact h1, h2, hb⟩
  · rw [okA_no hf, appR_no hf]
    exact .none _ _ hb
theorem RAppP.gives {w w' : World} {xs : List (List UInt8)} {v : List UInt8} {e : Ending} (h : RAppP w xs v e w') : GivesV w (okA xs v) (appR xs v) e w' := by
  obtain ⟨hb, ⟨hf, ad, cap, rfl, hl, h1, h2⟩ | ⟨hf, rfl⟩⟩ := h
  · rw [okA_yes hf, appR_yes hf]
    exact ⟨ad, cap, by rw [appL_length], hl, by rw [appL_length]; exact h1, h2, hb⟩
  · rw [okA_no hf, appR_no hf]
    exact .none _ _ hb
theorem InvP.gives {w w' : World} {ls : List (List UInt8)} {e : Ending} (h : InvP w ls e w') : GivesB w (okI ls) (invR ls) e w' := by
  obtain ⟨hb, ⟨hV, hs, A, ad, cap, hA, rfl, hl, h1, h2⟩ | ⟨hno, rfl⟩⟩ := h
  · have hH : Has ls := ⟨hV, hs, A, hA⟩
    rw [okI_yes hH, invR_yes hH A hA]
    exact ⟨ad, cap, by rw [matL_length], hl, by rw [matL_length]; exact h1, h2, hb⟩
  · have hH : ¬ Has ls := hno
    rw [okI_no hH, invR_no hH]
    exact .none _ _ hb
open Classical in
/-- identity matrices of any size -/
noncomputable def ideR (n : Int) : List (List UInt8) := if 1 ≤ n ∧ n ≤ 64 then idL n.toNat else []
theorem idL_length (n : Nat) : (idL n).length = n := matL_length _ _ _
theorem IdeP.gives {w w' : World} {n : Int} {e : Ending} (h : IdeP w n e w') : GivesM w (ideR n) e w' := by
  unfold ideR
  by_cases hn : 1 ≤ n ∧ n ≤ 64
  · rw [if_pos hn]
    obtain ⟨g, rfl, hO, hb⟩ := h.2 hn
    exact ⟨some ⟨g, 0, none⟩, n.toNat, by rw [idL_length], hO.lr, by rw [idL_length]; exact Nat.le_refl _, by unfold maxLen; omega, hb⟩
  · rw [if_neg hn]
    obtain ⟨rfl, rfl⟩ := h.1 (by omega)
    exact .none _ _ (.refl _ _)
theorem RIdeP.gives {w w' : World} {n : Int} {e : Ending} (h : RIdeP w n e w') : GivesM w (ideR n) e w' := by
  unfold ideR
  by_cases hn : 1 ≤ n ∧ n ≤ 64
  · rw [if_pos hn]
    obtain ⟨v, rfl, ad, cap, rfl, hl, h1, h2, hb⟩ := h.2 hn
    exact ⟨ad, cap, by rw [idL_length], hl, by rw [idL_length]; exact h1, h2, hb⟩
  · rw [if_neg hn]
    obtain ⟨rfl, rfl⟩ := h.1 (by omega)
    exact .none _ _ (.refl _ _)
def CauB (r c : Int) : Prop := 1 ≤ r ∧ 1 ≤ c ∧ r + c ≤ 64
open Classical in
noncomputable def okC (r c : Int) : Bool := decide (CauB r c)
open Classical in
noncomputable def cauR (r c : Int) : List (List UInt8) := if CauB r c then cauL r.toNat c.toNat else []
theorem okC_yes {r c : Int} (h : CauB r c) : okC r c = true := by unfold okC; simp [h]
theorem okC_no {r c : Int} (h : ¬ CauB r c) : okC r c = false := by unfold okC; simp [h]
theorem cauL_length (r c : Nat) : (cauL r c).length = r := matL_length _ _ _
theorem CauP.gives {w w' : World} {r c : Int} {e : Ending} (h : CauP w r c e w') : GivesB w (okC r c) (cauR r c) e w' := by
  unfold cauR
  by_cases hn : CauB r c
  · rw [if_pos hn, okC_yes hn]
    obtain ⟨g, rfl, hO, hb⟩ := h.2 hn
    obtain ⟨h1, h2, h3⟩ := hn
    exact ⟨some ⟨g, 0, none⟩, r.toNat, by rw [cauL_length], hO.lr, by rw [cauL_length]; exact Nat.le_refl _, by unfold maxLen; omega, hb⟩
  · rw [if_neg hn, okC_no hn]
    unfold CauB at hn
    obtain ⟨rfl, rfl⟩ := h.1 (by omega)
    exact .none _ _ (.refl _ _)
theorem RCauP.gives {w w' : World} {r c : Int} {e : Ending} (h : RCauP w r c e w') : GivesB w (okC r c) (cauR r c) e w' := by
  unfold cauR
  by_cases hn : CauB r c
  · rw [if_pos hn, okC_yes hn]
    obtain ⟨v, rfl, ad, cap, rfl, hl, h1, h2, hb⟩ := h.2 hn
    exact ⟨ad, cap, by rw [cauL_length], hl, by rw [cauL_length]; exact h1, h2, hb⟩
  · rw [if_neg hn, okC_no hn]
    unfold CauB at hn
    obtain ⟨rfl, rfl⟩ := h.1 (by omega)
    exact .none _ _ (.refl _ _)
/-- equal matrices are the same -/
theorem same_b (ad bd : Option Addr) (c1 c2 : Nat) (L : List (List UInt8)) (w : World) (h1 : Lr w ad L) (h2 : Lr w bd L) (hs : L.length ≤ 1000000) :
    Calls Try.prog 13 #[.slice ad L.length c1, .slice bd L.length c2] w fun e w' => e = .returned (.bool true) ∧ Below w.heap.size w w' :=
  (same_yes ad bd L.length c1 c2 L w h1 h2 rfl hs).mono fun _ _ ⟨h, k⟩ => ⟨h, drewN_below w k⟩
theorem mulR_small (xs ys : List (List UInt8)) : (mulR xs ys).length ≤ 64 := by
  by_cases h : Fits xs ys
  · rw [mulR_yes h, mulL_length]; exact h.1.le
  · rw [mulR_no h]; exact Nat.zero_le _
theorem invR_small (xs : List (List UInt8)) : (invR xs).length ≤ 64 := by
  by_cases h : Has xs
  · obtain ⟨A, hA⟩ := h.2.2
    rw [invR_yes h A hA, matL_length]; exact h.1.le
  · rw [invR_no h]; exact Nat.zero_le _
theorem appR_small (xs : List (List UInt8)) (v : List UInt8) : (appR xs v).length ≤ 64 := by
  by_cases h : FitV xs v
  · rw [appR_yes h, appL_length]; exact h.1.le
  · rw [appR_no h]; exact Nat.zero_le _
theorem ideR_small (n : Int) : (ideR n).length ≤ 64 := by
  unfold ideR
  by_cases h : 1 ≤ n ∧ n ≤ 64
  · rw [if_pos h, idL_length]; omega
  · rw [if_neg h]; exact Nat.zero_le _
theorem cauR_small (r c : Int) : (cauR r c).length ≤ 64 := by
  unfold cauR
  by_cases h : CauB r c
  · rw [if_pos h, cauL_length]; obtain ⟨h1, h2, h3⟩ := h; omega
  · rw [if_neg h]; exact Nat.zero_le _
end Go.Proofs.Ytbkjocmldeagdaa
