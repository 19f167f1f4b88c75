/-
  The program's FirstFit and Decreasing.
-/
import Derived.Test.YtpjegenobadckaaPkFit
import Derived.Test.YtpjegenobadckaaPkCmp
namespace Go.Proofs.Ytpjegenobadckaa
open Go.RowKit
set_option linter.unusedVariables false
set_option linter.unusedSimpArgs false
theorem map_val_finRange : ∀ (n : Nat), (List.finRange n).map (·.val) = List.range n := by
  intro n
  apply List.ext_getElem
  · simp
  · intro i h1 h2
    simp
/-- what the sort gives is the one sorted list of places -/
theorem sorted_eq {m : Nat} (cf : Fin (m + 1) → Fin (m + 1) → Int) (R : Nat → Nat → Prop) (hR : ∀ x y : Fin (m + 1), Go.Proofs.ltOf cf x y = true ↔ R x.val y.val) (hirr : ∀ a, ¬ R a a) (htr : ∀ a b c, R a b → R b c → R a c) (htot : ∀ a b, a ≠ b → R a b ∨ R b a)
    (target : List Nat) (hp : target.Perm (List.range (m + 1))) (hs : target.Pairwise R) : ((List.finRange (m + 1)).mergeSort fun x y => !(Go.Proofs.ltOf cf) y x).map (·.val) = target := by
  have h0 := List.mergeSort_perm (List.finRange (m + 1)) fun x y => !(Go.Proofs.ltOf cf) y x
  have h1 : (((List.finRange (m + 1)).mergeSort fun x y => !(Go.Proofs.ltOf cf) y x).map (·.val)).Perm (List.range (m + 1)) := by
    have := h0.map (·.val)
    rwa [map_val_finRange] at this
  have h2 := List.pairwise_mergeSort (le := fun x y => !(Go.Proofs.ltOf cf) y x)
    (fun a b c hab hbc => by
      simp only [Bool.not_eq_true'] at hab hbc ⊢
      rw [Bool.eq_false_iff] at hab hbc ⊢
      intro h
      rw [Ne, hR] at hab hbc
      rw [hR] at h
      by_cases e : b.val = a.val
      · exact hbc (e ▸ h)
      · rcases htot _ _ e with e | e
        · exact hab e
        · exact hbc (htr _ _ _ h e))
    (fun a b => by
      simp only [Bool.or_eq_true, Bool.not_eq_true']
      rcases hx : Go.Proofs.ltOf cf b a with _ | _
      · exact .inl rfl
      · refine .inr ?_
        rw [Bool.eq_false_iff]
        intro h
        exact hirr _ (htr _ _ _ ((hR _ _).1 hx) ((hR _ _).1 h)))
    (List.finRange (m + 1))
  have h3 : (((List.finRange (m + 1)).mergeSort fun x y => !(Go.Proofs.ltOf cf) y x).map (·.val)).Pairwise R := by
    rw [List.pairwise_map]
    have hnd : ((List.finRange (m + 1)).mergeSort fun x y => !(Go.Proofs.ltOf cf) y x).Nodup := h0.nodup_iff.2 (List.nodup_finRange _)
    refine (h2.and hnd).imp ?_
    rintro a b ⟨hle, hne⟩
    simp only [Bool.not_eq_true'] at hle
    rw [Bool.eq_false_iff, Ne, hR] at hle
    rcases htot a.val b.val (fun e => hne (Fin.ext e)) with h | h
    · exact h
    · exact absurd h hle
  refine List.Perm.eq_of_pairwise (le := R) ?_ h3 hs (h1.trans hp.symm)
  intro a b _ _ hab hba
  exact absurd (htr _ _ _ hab hba) (hirr _)
theorem swo_of {m : Nat} (cf : Fin (m + 1) → Fin (m + 1) → Int) (R : Nat → Nat → Prop) (hR : ∀ x y : Fin (m + 1), Go.Proofs.ltOf cf x y = true ↔ R x.val y.val) (hirr : ∀ a, ¬ R a a) (htr : ∀ a b c, R a b → R b c → R a c) (htot : ∀ a b, a ≠ b → R a b ∨ R b a) : Sort.SWO (Go.Proofs.ltOf cf) ∧ ∀ x y, Go.Proofs.ltOf cf x y = false → Go.Proofs.ltOf cf y x = false → x = y := by
  refine ⟨⟨fun x => ?_, fun x y z h1 h2 => ?_, fun x y z h1 h2 => ?_⟩, fun x y h1 h2 => ?_⟩
  · rw [Bool.eq_false_iff, Ne, hR]; exact hirr _
  · rw [hR] at *; exact htr _ _ _ h1 h2
  · rw [Bool.eq_false_iff, Ne, hR] at *
    intro h
    by_cases e : y.val = x.val
    · exact h2 (e ▸ h)
    · rcases htot _ _ e with e | e
      · exact h2 (htr _ _ _ e h)
      · exact h1 e
  · rw [Bool.eq_false_iff, Ne, hR] at *
    by_cases e : x.val = y.val
    · exact Fin.ext e
    · rcases htot _ _ e with e | e
      · exact absurd e h1
      · exact absurd e h2
theorem ltInc {m : Nat} (x y : Fin (m + 1)) : Go.Proofs.ltOf (fun x y : Fin (m + 1) => cmpZ x.val y.val) x y = true ↔ x.val < y.val := by
  unfold Go.Proofs.ltOf cmpZ
  dsimp only
  rw [decide_eq_true_iff]
  split
  · constructor <;> intro <;> omega
  · split <;> constructor <;> intro <;> omega
theorem ltDec {m : Nat} (L : List Int) (x y : Fin (m + 1)) : Go.Proofs.ltOf (fun x y : Fin (m + 1) => cfD L x.val y.val) x y = true ↔ ltD L x.val y.val := by
  unfold Go.Proofs.ltOf cfD orZ cmpZ ltD
  dsimp only
  rw [decide_eq_true_iff]
  split <;> (try split) <;> (try split) <;> (try split) <;> (try split) <;> constructor <;> intro <;> omega
/-- the order of Decreasing, whatever the arguments -/
noncomputable def ordX (l : List Int) (c : Int) : List Nat := if valU l c = 0 then ordD l else List.range l.length
theorem ordX_ok {l : List Int} {c : Int} (h : valU l c = 0) : ordX l c = ordD l := if_pos h
theorem ordX_num (l : List Int) (c : Int) : (∀ i ∈ ordX l c, i < l.length) ∧ (ordX l c).length = l.length := by
  unfold ordX
  split
  · rename_i h
    exact ⟨fun i hi => (ordF_mem.1 hi).1, by rw [(ordD_perm (valU_ok h).2.2).length_eq, List.length_range]⟩
  · exact ⟨fun i hi => List.mem_range.1 hi, List.length_range⟩
theorem ordD_nil : ordD [] = [] := by
  have h := ordD_perm (L := []) (by simp)
  simpa using h.length_eq
/-- no place at all -/
theorem sort_none (fv : Value) (B : Nat) (v : Value) (w : World) (h : OfN w B v []) : Calls Try.prog 44 #[v, fv] w fun e w' => e = .returned (.tuple #[]) ∧ OfN w' B v [] ∧ Below B w w' := by
  obtain ⟨ad, cap, rfl, -⟩ := h.read
  refine Calls.mono (show Calls Try.prog 44 _ w _ from Go.Proofs.AnyF.slices_SortFunc_none { shI with } ad cap fv w) ?_
  rintro e w' ⟨rfl, rfl⟩
  exact ⟨rfl, h, Below.refl _ _⟩
set_option maxRecDepth 100000 in
set_option maxHeartbeats 2000000 in
theorem firstfit_any (ad : Option Addr) (n cap : Nat) (l : List Int) (c : Int) (w : World) (hl : Lf inC w ad l) (hn : n = l.length) (hs : n ≤ 9223372036854775807) :
    Calls Try.prog 14 #[.slice ad n cap, .int .i64 c] w (RetLL 22 3 1 naC w (ffU l c (List.range l.length))) := by
  have HF := Lib.hid (fit_any (.func (.func 29) #[] #[]) (List.range l.length) ad n cap l c w hl hn hs
    (fun hok h512 X B v hb hB ho => by
      rcases hm : l.length with _ | m
      · rw [hm] at ho
        exact sort_none _ B v X ho
      · rw [hm] at ho
        have hlt : ∀ a b : Nat, a ≠ b → a < b ∨ b < a := fun a b h => by omega
        obtain ⟨h1, h2⟩ := swo_of (m := m) (fun x y => cmpZ x.val y.val) (· < ·) ltInc (fun a => Nat.lt_irrefl a) (fun a b c => Nat.lt_trans) hlt
        have hle : B ≤ X.heap.size := by
          obtain ⟨ad2, cap2, rfl, hl2, -⟩ := ho.read
          obtain ⟨b, off, rfl, hlt2, -⟩ := hl2.get celN (i := 0) (by simp)
          have := ho.lt b rfl
          omega
        have h3 := sort_by 29 #[] m _ (fun _ => True) (cmpI_inc m) h1 h2 B v X (fun _ _ => trivial) ho hle (by omega)
        rwa [sorted_eq (m := m) (fun x y => cmpZ x.val y.val) (· < ·) ltInc (fun a => Nat.lt_irrefl a) (fun a b c => Nat.lt_trans) hlt (List.range (m + 1)) (List.Perm.refl _) List.pairwise_lt_range] at h3)
    (fun i hi => List.mem_range.1 hi) List.length_range)
  clear hl hn
  go_enter Try.func14, Try.ntmps14
  go_wp2_with fail
  refine HF.out.mono ?_
  rintro e w' ⟨v, rfl, hv, hb⟩
  have HB := Lib.hid hb
  have HV := Lib.hid hv
  clear HF hb hv
  go_wp2_with fail
  go_ret2
  exact ⟨v, rfl, HV.out, HB.out⟩
set_option maxRecDepth 100000 in
set_option maxHeartbeats 2000000 in
theorem decreasing_any (ad : Option Addr) (n cap : Nat) (l : List Int) (c : Int) (w : World) (hl : Lf inC w ad l) (hn : n = l.length) (hs : n ≤ 9223372036854775807) :
    Calls Try.prog 16 #[.slice ad n cap, .int .i64 c] w (RetLL 22 3 1 naC w (ffU l c (ordX l c))) := by
  have h3 : (w.alloc (.cells #[.slice ad n cap] 22)).heap[w.heap.size]? = some (.cells #[.slice ad n cap] 22 (0, 0)) := heap_alloc_new w _
  have e3 : (w.alloc (.cells #[.slice ad n cap] 22)).cell? ⟨w.heap.size, 0, none⟩ = some (.slice ad n cap) := by rw [cell_of_row _ _ 0 _ _ _ h3]; rfl
  have HE3 := Lib.hid e3
  have HGX : Hid (w.heap.size < (w.alloc (.cells #[.slice ad n cap] 22)).heap.size) := Lib.hid (by simp)
  have HB0 := Lib.hid (co_box1 w (.cells #[.slice ad n cap] 22))
  have HLX := Lib.hid (hl.below (co_box1 w (.cells #[.slice ad n cap] 22)))
  have HLW := Lib.hid hl
  have HN := Lib.hid hn
  have HSS := Lib.hid hs
  clear h3 hl hn hs
  go_enter Try.func16, Try.ntmps16
  go_wp2_with fail
  clear e3
  generalize World.alloc w _ = X0 at *
  have HF := Lib.hid (fit_any (.func (.func 31) #[] #[.pointer (some ⟨w.heap.size, 0, none⟩)]) (ordX l c) ad n cap l c X0 HLX.out HN.out HSS.out
    (fun hok h512 X B v hb hB ho => by
      rw [ordX_ok (valU_yes h512 hok)]
      rcases hm : l.length with _ | m
      · obtain rfl : l = [] := List.eq_nil_of_length_eq_zero hm
        rw [ordD_nil]
        exact sort_none _ B v X ho
      · rw [hm] at ho
        have htot : ∀ a b : Nat, a ≠ b → ltD l a b ∨ ltD l b a := fun a b h => by unfold ltD; omega
        have htr : ∀ a b c : Nat, ltD l a b → ltD l b c → ltD l a c := fun a b c h1 h2 => by unfold ltD at *; omega
        obtain ⟨h1, h2⟩ := swo_of (m := m) (fun x y => cfD l x.val y.val) (ltD l) (ltDec l) (fun a => ltD_irrefl) htr htot
        have hle : B ≤ X.heap.size := by
          obtain ⟨ad2, cap2, rfl, hl2, -⟩ := ho.read
          obtain ⟨b, off, rfl, hlt2, -⟩ := hl2.get celN (i := 0) (by simp)
          have := ho.lt b rfl
          omega
        have hI : ∀ W, Below B X W → W.cell? ⟨w.heap.size, 0, none⟩ = some (.slice ad n cap) ∧ Lf inC W ad l := fun W hW => by
          have hbb : Below X0.heap.size X0 W := hb.trans (hW.mono hB)
          exact ⟨(hbb.cell (p := ⟨w.heap.size, 0, none⟩) HGX.out).trans HE3.out, HLX.out.below hbb⟩
        have h3 := sort_by 31 #[.pointer (some ⟨w.heap.size, 0, none⟩)] m (fun x y => cfD l x.val y.val) (fun W => W.cell? ⟨w.heap.size, 0, none⟩ = some (.slice ad n cap) ∧ Lf inC W ad l)
          ⟨fun args w => by go_simp, fun x y W hW => dec_cmp l w.heap.size ad n cap x.val y.val W hW.1 hW.2 HN.out (by have := x.isLt; have := HN.out; omega) (by have := y.isLt; have := HN.out; omega)⟩ h1 h2 B v X hI ho hle (by omega)
        rwa [sorted_eq (m := m) (fun x y => cfD l x.val y.val) (ltD l) (ltDec l) (fun a => ltD_irrefl) htr htot (ordD l) (by rw [← hm]; exact ordD_perm hok.2) (ordF_sorted _)] at h3)
    (ordX_num l c).1 (ordX_num l c).2)
  refine HF.out.mono ?_
  rintro e w' ⟨v, rfl, hv, hb⟩
  have HB := Lib.hid (HB0.out.trans (hb.mono HB0.out.size))
  have HV := Lib.hid (hv.mono HB0.out.size)
  clear HF hb hv
  go_wp2_with fail
  go_ret2
  exact ⟨v, rfl, HV.out, HB.out⟩
end Go.Proofs.Ytpjegenobadckaa
