/-
  Is a piece a part of a file: the program's isPart.
-/
import Derived.Test.YtpjegenobadckaaPkVal
import Derived.Test.YtpjegenobadckaaCoVal
import Derived.Test.YtpjegenobadckaaLs
import Derived.Test.YtpjegenobadckaaFSum
namespace Go.Proofs.Ytpjegenobadckaa
open Go.RowKit
set_option linter.unusedVariables false
set_option linter.unusedSimpArgs false
/-- the bytes of a file -/
def datP (data : List (List UInt8)) (p : Pc) : List UInt8 := data.getD p.f.toNat []
/-- a piece is a part of a file -/
def inP (data : List (List UInt8)) (p : Pc) : Prop := (0 ≤ p.f ∧ p.f ≤ (data.length : Int) - 1) ∧ (0 ≤ p.o ∧ p.o ≤ ((datP data p).length : Int)) ∧ (0 ≤ p.n ∧ p.n ≤ ((datP data p).length : Int) - p.o)
open Classical in
noncomputable def inPB (data : List (List UInt8)) (p : Pc) : Bool := decide (inP data p)
open Classical in
theorem inPB_iff {data : List (List UInt8)} {p : Pc} : inPB data p = true ↔ inP data p := by unfold inPB; exact decide_eq_true_iff
theorem inPB_no {data : List (List UInt8)} {p : Pc} : inPB data p = false ↔ ¬ inP data p := by rw [← inPB_iff]; simp
theorem Lr.at1 {w : World} {ad : Option Addr} {ls : List (List UInt8)} (h : Lr w ad ls) {i : Nat} (hi : i < ls.length) : ∃ b off ad' cap', ad = some ⟨b, off, none⟩ ∧ b < w.heap.size ∧ w.cell? ⟨b, off + i, none⟩ = some (.slice ad' (ls[i]).length cap') ∧ Lie w ad' (ls[i]) ∧ (ls[i]).length ≤ cap' ∧ cap' ≤ maxLen ∧ (ad' = none → cap' = 0) := by
  rcases h.at_ with h0 | ⟨b, off, e, hlt, hc⟩
  · subst h0; simp at hi
  · obtain ⟨ad', cap', h1⟩ := hc i hi
    exact ⟨b, off, ad', cap', e, hlt, h1⟩
theorem datP_get {data : List (List UInt8)} {p : Pc} {F : Nat} (hF : F < data.length) (hp : p.f = (F : Int)) : datP data p = data[F] := by
  unfold datP
  rw [hp, Int.toNat_natCast]
  simp [hF]
set_option maxRecDepth 100000 in
set_option maxHeartbeats 2000000 in
theorem ispart_any (p : Pc) (ad : Option Addr) (n cap : Nat) (data : List (List UInt8)) (w : World) (hl : Lr w ad data) (hn : n = data.length) (hs : n ≤ 1000000) :
    Calls Try.prog 39 #[pcV p, .slice ad n cap] w fun e w' => e = .returned (.bool (inPB data p)) ∧ Below w.heap.size w w' := by
  have HY := Lib.hid (@inPB_iff data p)
  have HZ := Lib.hid (@inPB_no data p)
  have HB := Lib.hid (co_box1 w (.cells #[.int .i64 p.f, .int .i64 p.o, .int .i64 p.n] 36))
  have h3 : (w.alloc (.cells #[.int .i64 p.f, .int .i64 p.o, .int .i64 p.n] 36)).heap[w.heap.size]? = some (.cells #[.int .i64 p.f, .int .i64 p.o, .int .i64 p.n] 36 (0, 0)) := heap_alloc_new w _
  have c0 : (w.alloc (.cells #[.int .i64 p.f, .int .i64 p.o, .int .i64 p.n] 36)).cell? ⟨w.heap.size, 0, none⟩ = some (.int .i64 p.f) := by rw [cell_of_row _ _ 0 _ _ _ h3]; rfl
  have c1 : (w.alloc (.cells #[.int .i64 p.f, .int .i64 p.o, .int .i64 p.n] 36)).cell? ⟨w.heap.size, 1, none⟩ = some (.int .i64 p.o) := by rw [cell_of_row _ _ 1 _ _ _ h3]; rfl
  have c2 : (w.alloc (.cells #[.int .i64 p.f, .int .i64 p.o, .int .i64 p.n] 36)).cell? ⟨w.heap.size, 2, none⟩ = some (.int .i64 p.n) := by rw [cell_of_row _ _ 2 _ _ _ h3]; rfl
  have HL := Lib.hid (hl.below HB.out)
  have HN := Lib.hid hn
  clear hl hn h3
  obtain ⟨f, o, m⟩ := p
  dsimp only at HY HZ c0 c1 c2 HB HL ⊢
  have hw0 : IntKind.i64.wrap ((n : Int) - 1) = (n : Int) - 1 := IntWalk.i64_in _ (by omega)
  go_enter Try.func39, Try.ntmps39
  go_wp2_with fail
  clear hw0
  generalize World.alloc w _ = X0 at *
  refine (within_p f 0 ((n : Int) - 1) _).mono ?_
  rintro e w' ⟨rfl, rfl⟩
  by_cases h0 : 0 ≤ f ∧ f ≤ (n : Int) - 1
  rotate_left
  · have hb := inB_no.2 h0
    have HR := Lib.hid (HZ.out.2 (fun h => h0 (by have := h.1; rwa [← HN.out] at this)))
    rw [hb]
    clear HY HZ h0 hb
    go_wp2
    go_ret
    exact ⟨by rw [HR.out]; rfl, HB.out⟩
  have hb := inB_iff.2 h0
  rw [hb]
  clear hb
  obtain ⟨h1, h2⟩ := h0
  obtain ⟨F, rfl⟩ := Int.eq_ofNat_of_zero_le h1
  have hF : F < data.length := by have := HN.out; omega
  obtain ⟨bk, off, ad', cap', rfl, hlt, hcell, -, hle, hmx, -⟩ := HL.out.at1 hF
  have HD := Lib.hid (datP_get (p := ⟨(F : Int), o, m⟩) hF rfl)
  have HIN := Lib.hid (show inP data ⟨(F : Int), o, m⟩ ↔ (0 ≤ o ∧ o ≤ ((data[F]).length : Int)) ∧ (0 ≤ m ∧ m ≤ ((data[F]).length : Int) - o) by
    unfold inP
    rw [HD.out]
    exact ⟨fun h => h.2, fun h => ⟨⟨h1, by have := HN.out; show (F : Int) ≤ _; omega⟩, h⟩⟩)
  have hFn : F < n := by omega
  have hmL : (data[F]).length ≤ 9223372036854775807 := Nat.le_trans hle (Nat.le_trans hmx (by decide))
  generalize (data[F]).length = M at *
  clear HD hF hle hmx h1 h2
  by_cases h0 : 0 ≤ o ∧ o ≤ (M : Int)
  rotate_left
  · have hb := inB_no.2 h0
    have HR := Lib.hid (HZ.out.2 (fun h => h0 (HIN.out.1 h).1))
    clear HY HZ HIN
    go_wp2_with fail
    refine (within_p o 0 (M : Int) _).mono ?_
    rintro e w' ⟨rfl, rfl⟩
    rw [hb]
    clear hb h0
    go_wp2
    go_ret
    exact ⟨by rw [HR.out]; rfl, HB.out⟩
  have hb := inB_iff.2 h0
  have hw1 : IntKind.i64.wrap ((M : Int) - o) = (M : Int) - o := IntWalk.i64_in _ (by omega)
  have HQ := Lib.hid (show inPB data ⟨(F : Int), o, m⟩ = inB m 0 ((M : Int) - o) by
    rcases h : inB m 0 ((M : Int) - o) with _ | _
    · exact HZ.out.2 fun h' => inB_no.1 h (HIN.out.1 h').2
    · exact HY.out.2 (HIN.out.2 ⟨h0, inB_iff.1 h⟩))
  clear HY HZ HIN h0
  go_wp2_with fail
  refine (within_p o 0 (M : Int) _).mono ?_
  rintro e w' ⟨rfl, rfl⟩
  rw [hb]
  clear hb
  go_wp2_with fail
  refine (within_p m 0 ((M : Int) - o) _).mono ?_
  rintro e w' ⟨rfl, rfl⟩
  cases hq : inB m 0 ((M : Int) - o)
  all_goals
    have HQ2 := Lib.hid (HQ.out.trans hq)
    clear hq HQ
    go_wp2
    go_ret
    exact ⟨by rw [HQ2.out]; rfl, HB.out⟩
/-- what is handed to the search for a piece that is none -/
theorem says_part (g : Nat) (ad : Option Addr) (n cap : Nat) (data : List (List UInt8)) (hn : n = data.length) (hs : n ≤ 1000000) : SaysP 38 #[.pointer (some ⟨g, 0, none⟩)] (fun p => !inPB data p) (fun X => X.cell? ⟨g, 0, none⟩ = some (.slice ad n cap) ∧ Lr X ad data) :=
  ⟨fun args w => by go_simp, fun w w' h hb => ⟨(hb.cell (p := ⟨g, 0, none⟩) (World.block_lt_of_cell? w _ h.1)).trans h.1, h.2.below hb⟩, fun p w h => by
    change Calls Try.prog 38 #[pcV p, .pointer (some ⟨g, 0, none⟩)] w _
    have HB := Lib.hid (co_box1 w (.cells #[.int .i64 p.f, .int .i64 p.o, .int .i64 p.n] 36))
    have h3 : (w.alloc (.cells #[.int .i64 p.f, .int .i64 p.o, .int .i64 p.n] 36)).heap[w.heap.size]? = some (.cells #[.int .i64 p.f, .int .i64 p.o, .int .i64 p.n] 36 (0, 0)) := heap_alloc_new w _
    have c0 : (w.alloc (.cells #[.int .i64 p.f, .int .i64 p.o, .int .i64 p.n] 36)).cell? ⟨w.heap.size, 0, none⟩ = some (.int .i64 p.f) := by rw [cell_of_row _ _ 0 _ _ _ h3]; rfl
    have c1 : (w.alloc (.cells #[.int .i64 p.f, .int .i64 p.o, .int .i64 p.n] 36)).cell? ⟨w.heap.size, 1, none⟩ = some (.int .i64 p.o) := by rw [cell_of_row _ _ 1 _ _ _ h3]; rfl
    have c2 : (w.alloc (.cells #[.int .i64 p.f, .int .i64 p.o, .int .i64 p.n] 36)).cell? ⟨w.heap.size, 2, none⟩ = some (.int .i64 p.n) := by rw [cell_of_row _ _ 2 _ _ _ h3]; rfl
    have cg := (HB.out.cell (p := ⟨g, 0, none⟩) (World.block_lt_of_cell? w _ h.1)).trans h.1
    have HI := Lib.hid (ispart_any p ad n cap data _ (h.2.below HB.out) hn hs)
    clear h h3 hn
    obtain ⟨f, o, m⟩ := p
    dsimp only at c0 c1 c2 HB HI cg ⊢
    go_enter Try.func38, Try.ntmps38
    go_wp2_with fail
    refine HI.out.mono ?_
    rintro e w' ⟨rfl, hb⟩
    have HB2 := Lib.hid (HB.out.trans (hb.mono HB.out.size))
    clear hb HI c0 c1 c2 cg HB
    cases hq : inPB data ⟨f, o, m⟩
    all_goals
      have HQ2 := Lib.hid hq
      clear hq
      go_wp2
      go_ret
      exact ⟨by rw [HQ2.out]; rfl, HB2.out⟩⟩
end Go.Proofs.Ytpjegenobadckaa
