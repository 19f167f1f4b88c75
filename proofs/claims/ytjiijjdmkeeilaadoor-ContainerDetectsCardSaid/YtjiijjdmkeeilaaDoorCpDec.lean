/-
  The program's decode.
-/
import Derived.Test.YtjiijjdmkeeilaaDoorCAZ
import Derived.Test.YtjiijjdmkeeilaaDoorCBA
import Derived.Test.YtjiijjdmkeeilaaDoorCpBeg
import Derived.Test.YtjiijjdmkeeilaaDoorCAK
import Derived.Test.YtjiijjdmkeeilaaDoorCAP
import Derived.Test.YtjiijjdmkeeilaaDoorCAO
import Derived.Test.YtjiijjdmkeeilaaDoorCAS
import Derived.Test.YtjiijjdmkeeilaaDoorCAR
import Derived.Deep.DeepCutAuto
import Derived.Deep.CutBlock
namespace Go.Proofs.YtjiijjdmkeeilaaDoor
open Go.RowKit
set_option linter.unusedVariables false
set_option linter.unusedSimpArgs false
/-- the offset lies in block g -/
def AtR (w : World) (g : Nat) (A : Int) : Prop := w.heap[g]? = some (.cells #[.int .i64 A] 3 (0, 0))
/-- the bytes' slice lies in block g -/
def ByR (w : World) (g : Nat) (ad : Option Addr) (n cap : Nat) : Prop := w.heap[g]? = some (.cells #[.slice ad n cap] 26 (0, 0))
theorem AtR.lt {w : World} {g : Nat} {A : Int} (h : AtR w g A) : g < w.heap.size := (Array.getElem?_eq_some_iff.1 h).1
theorem ByR.lt {w : World} {g : Nat} {ad : Option Addr} {n cap : Nat} (h : ByR w g ad n cap) : g < w.heap.size := (Array.getElem?_eq_some_iff.1 h).1
theorem AtR.below {W w : World} {g B : Nat} {A : Int} (h : AtR W g A) (hb : Below B W w) (hB : g < B) : AtR w g A := (hb.block g hB).trans h
theorem ByR.below {W w : World} {g B : Nat} {ad : Option Addr} {n cap : Nat} (h : ByR W g ad n cap) (hb : Below B W w) (hB : g < B) : ByR w g ad n cap := (hb.block g hB).trans h
theorem ByR.rk {w w' : World} {g r : Nat} {ad : Option Addr} {n cap : Nat} (hr : ByR w g ad n cap) (hk : RdKeep r w w') (hne : g ≠ r) : ByR w' g ad n cap := (hk.keep g hne hr.lt).trans hr
theorem AtR.at_ {w : World} {g : Nat} {A : Int} (h : AtR w g A) : w.cell? ⟨g, 0, none⟩ = some (.int .i64 A) := cell_of_row w g 0 _ _ _ h
theorem ByR.at_ {w : World} {g : Nat} {ad : Option Addr} {n cap : Nat} (h : ByR w g ad n cap) : w.cell? ⟨g, 0, none⟩ = some (.slice ad n cap) := cell_of_row w g 0 _ _ _ h
theorem AtR.frozen {w : World} {g : Nat} {A : Int} (h : AtR w g A) : w.frozen? ⟨g, 0, none⟩ = false := by
  have : w.heap[g]? = some (.cells #[.int .i64 A] 3 (0, 0)) := h
  simp [World.frozen?, this]
theorem HdRow.rkp {w w' : World} {g r : Nat} {h : Hdr} {ad : Option Addr} {n cap : Nat} (hr : HdRow w g h ad n cap) (hk : RdKeep r w w') (hne : g ≠ r) : HdRow w' g h ad n cap := (hk.keep g hne hr.lt).trans hr
theorem HdOw.rkp {w w' : World} {B r : Nat} {h : Hdr} {ad : Option Addr} {n cap : Nat} (ho : HdOw w B h ad n cap) (hk : RdKeep r w w') (hr : r < B) : HdOw w' B h ad n cap := ho.keep fun g hg hl => hk.keep g (by omega) hl
/-- the header's first numbers -/
noncomputable def phd (p : List UInt8) (l : List Ent) : Hdr := ⟨pnx p (pA p 0), pnx p (pA p 1), pnx p (pA p 2), pnx p (pA p 3), pnx p (pA p 4), pnx p (pA p 5), pnx p (pA p 6), pnx p (pA p 7), l, 0, 0⟩
theorem pA_zero (p : List UInt8) : pA p 0 = 0 := rfl
theorem pA_succ (p : List UInt8) (k : Nat) : pA p (k + 1) = pns p (pA p k) := rfl
theorem pents_zero (p : List UInt8) (A : Int) : pents p 0 A = ([], A) := rfl
theorem pents_succ (p : List UInt8) (k : Nat) (A : Int) : pents p (k + 1) A = (pent p A :: (pents p k (p5 p A)).1, (pents p k (p5 p A)).2) := rfl
set_option maxRecDepth 100000 in
set_option maxHeartbeats 1000000 in
theorem pnext_any (gb g : Nat) (ad : Option Addr) (n cap : Nat) (p : List UInt8) (A : Int) (w : World) (hb : ByR w gb ad n cap) (ha : AtR w g A) (hne : gb ≠ g) (hl : Lie w ad p) (hn : n = p.length) (hc : n ≤ cap) (had : ad = none → cap = 0) (hs : p.length ≤ 1000000) :
    Calls Tryd.prog 85 #[.pointer (some ⟨gb, 0, none⟩), .pointer (some ⟨g, 0, none⟩)] w fun e w' =>
      e = .returned (.int .i64 (pnx p A)) ∧ AtR w' g (pns p A) ∧ RdKeep g w w' := by
  have HU := Lib.hid (by have := uint_any ad cap p A w hl (by omega) hs had; rwa [← hn] at this)
  have c0 := hb.at_
  have c1 := ha.at_
  have f1 := ha.frozen
  obtain ⟨R, hR⟩ : ∃ R, R = pnx p A := ⟨_, rfl⟩
  obtain ⟨S, hS⟩ : ∃ S, S = pns p A := ⟨_, rfl⟩
  have kw : IntKind.i64.wrap (((uR p A).1 : Nat) : Int) = R := by rw [hR]; rfl
  have ks : (uR p A).2.1 = S := by rw [hS]; rfl
  rw [ks] at HU
  rw [← hR, ← hS]
  have HA := Lib.hid ha
  generalize (uR p A).1 = V at *
  generalize (uR p A).2.2 = E3 at *
  clear hR hS ks hb ha hl hn hs hc had
  go_enter Tryd.func85, Tryd.ntmps85
  go_wp2_with (go_at_call 86; refine HU.out.mono ?_; rintro e w' ⟨rfl, rfl⟩)
  go_ret
  exact ⟨rfl, hd_set w g 0 _ _ _ _ HA.out, (RdKeep.of_below (Below.refl _ _) HA.out.lt).set 0 _⟩
attribute [local irreducible] pA pnx pns pent p5 pents psm
set_option maxRecDepth 100000 in
set_option maxHeartbeats 8000000 in
theorem decode15_any (pd : Option Addr) (m pcap : Nat) (p : List UInt8) (w : World) (hl : Lie w pd p) (hm : m = p.length) (hmc : m ≤ pcap) (hpd : pd = none → pcap = 0) (hs : p.length ≤ 1000000) :
    Calls Tryd.prog 60 #[.slice pd m pcap] w fun e w' => ∃ ad cap, e = .returned (.tuple #[hdV (decP p).1 ad (decP p).1.es.length cap, .bool (decP p).2]) ∧ HdOw w' w.heap.size (decP p).1 ad (decP p).1.es.length cap ∧ Below w.heap.size w w' := by
  have HL := Lib.hid hl
  have HM := Lib.hid hm
  have HS := Lib.hid hs
  have HMC := Lib.hid hmc
  have HPD := Lib.hid hpd
  obtain ⟨X0, hX0⟩ : ∃ X, X = ((w.alloc (.cells #[.slice pd m pcap] 26)).alloc (boxH .zero none 0 0)).alloc (.cells #[.int .i64 0] 3) := ⟨_, rfl⟩
  have HB0 := Lib.hid (show Below w.heap.size w X0 by rw [hX0]; exact (co_box2 w _ _).alloc (by simp; omega) _)
  have HY0 := Lib.hid (show ByR X0 w.heap.size pd m pcap by rw [hX0]; exact ((co_box1 _ _).block _ (by simp; omega)).trans (((co_box1 _ _).block _ (by simp)).trans (heap_alloc_new w _)))
  have HZ0 := Lib.hid (show HdRow X0 (w.heap.size + 1) .zero none 0 0 by
    rw [hX0]
    have := HdRow.new (w.alloc (.cells #[.slice pd m pcap] 26)) .zero none 0 0
    rw [World.size_alloc] at this
    exact this.below (co_box1 _ _) (by simp))
  have HR0 := Lib.hid (show AtR X0 (w.heap.size + 1 + 1) (pA p 0) by
    rw [hX0, pA_zero]
    have := heap_alloc_new ((w.alloc (.cells #[.slice pd m pcap] 26)).alloc (boxH .zero none 0 0)) (.cells #[.int .i64 0] 3)
    rw [World.size_alloc, World.size_alloc] at this
    exact this)
  have HPG := Lib.hid (show decP p = if vldH (pfin p (p9 p).1 (p9 p).2) = true ∧ encH (pfin p (p9 p).1 (p9 p).2) = p then (pfin p (p9 p).1 (p9 p).2, true) else (.zero, false) from rfl)
  have HPL := Lib.hid (show (∀ e ∈ (p9 p).1, e.s < 4294967296) from fun e he => pents_lt _ _ e he)
  clear hl hm hs hmc hpd
  go_enter Tryd.func60, Tryd.ntmps60
  go_wp2_with fail
  change Calls Tryd.prog 85 _ (((w.alloc (.cells #[.slice pd m pcap] 26)).alloc (boxH .zero none 0 0)).alloc (.cells #[.int .i64 0] 3)) _
  rw [← hX0]
  clear hX0
  refine (pnext_any _ _ pd m pcap p (pA p 0) _ HY0.out HR0.out (by omega) (HL.out.below HB0.out rfl) HM.out HMC.out HPD.out HS.out).mono ?_
  rintro e X1 ⟨rfl, hr, hk⟩
  rw [← pA_succ p 0] at hr
  have HR1 := Lib.hid hr
  have HY1 := Lib.hid (HY0.out.rk hk (by omega))
  have HZ1 := Lib.hid (HZ0.out.rkp hk (by omega))
  have HB1 := Lib.hid (HB0.out.trans (hk.below.mono (by omega)))
  clear hr hk HR0 HY0 HZ0 HB0
  go_wp2_with fail
  refine (pnext_any _ _ pd m pcap p (pA p 1) _ HY1.out HR1.out (by omega) (HL.out.below HB1.out rfl) HM.out HMC.out HPD.out HS.out).mono ?_
  rintro e X2 ⟨rfl, hr, hk⟩
  rw [← pA_succ p 1] at hr
  have HR2 := Lib.hid hr
  have HY2 := Lib.hid (HY1.out.rk hk (by omega))
  have HZ2 := Lib.hid (HZ1.out.rkp hk (by omega))
  have HB2 := Lib.hid (HB1.out.trans (hk.below.mono (by omega)))
  clear hr hk HR1 HY1 HZ1 HB1
  go_wp2_with fail
  refine (pnext_any _ _ pd m pcap p (pA p 2) _ HY2.out HR2.out (by omega) (HL.out.below HB2.out rfl) HM.out HMC.out HPD.out HS.out).mono ?_
  rintro e X3 ⟨rfl, hr, hk⟩
  rw [← pA_succ p 2] at hr
  have HR3 := Lib.hid hr
  have HY3 := Lib.hid (HY2.out.rk hk (by omega))
  have HZ3 := Lib.hid (HZ2.out.rkp hk (by omega))
  have HB3 := Lib.hid (HB2.out.trans (hk.below.mono (by omega)))
  clear hr hk HR2 HY2 HZ2 HB2
  go_wp2_with fail
  refine (pnext_any _ _ pd m pcap p (pA p 3) _ HY3.out HR3.out (by omega) (HL.out.below HB3.out rfl) HM.out HMC.out HPD.out HS.out).mono ?_
  rintro e X4 ⟨rfl, hr, hk⟩
  rw [← pA_succ p 3] at hr
  have HR4 := Lib.hid hr
  have HY4 := Lib.hid (HY3.out.rk hk (by omega))
  have HZ4 := Lib.hid (HZ3.out.rkp hk (by omega))
  have HB4 := Lib.hid (HB3.out.trans (hk.below.mono (by omega)))
  clear hr hk HR3 HY3 HZ3 HB3
  go_wp2_with fail
  refine (pnext_any _ _ pd m pcap p (pA p 4) _ HY4.out HR4.out (by omega) (HL.out.below HB4.out rfl) HM.out HMC.out HPD.out HS.out).mono ?_
  rintro e X5 ⟨rfl, hr, hk⟩
  rw [← pA_succ p 4] at hr
  have HR5 := Lib.hid hr
  have HY5 := Lib.hid (HY4.out.rk hk (by omega))
  have HZ5 := Lib.hid (HZ4.out.rkp hk (by omega))
  have HB5 := Lib.hid (HB4.out.trans (hk.below.mono (by omega)))
  clear hr hk HR4 HY4 HZ4 HB4
  go_wp2_with fail
  refine (pnext_any _ _ pd m pcap p (pA p 5) _ HY5.out HR5.out (by omega) (HL.out.below HB5.out rfl) HM.out HMC.out HPD.out HS.out).mono ?_
  rintro e X6 ⟨rfl, hr, hk⟩
  rw [← pA_succ p 5] at hr
  have HR6 := Lib.hid hr
  have HY6 := Lib.hid (HY5.out.rk hk (by omega))
  have HZ6 := Lib.hid (HZ5.out.rkp hk (by omega))
  have HB6 := Lib.hid (HB5.out.trans (hk.below.mono (by omega)))
  clear hr hk HR5 HY5 HZ5 HB5
  go_wp2_with fail
  refine (pnext_any _ _ pd m pcap p (pA p 6) _ HY6.out HR6.out (by omega) (HL.out.below HB6.out rfl) HM.out HMC.out HPD.out HS.out).mono ?_
  rintro e X7 ⟨rfl, hr, hk⟩
  rw [← pA_succ p 6] at hr
  have HR7 := Lib.hid hr
  have HY7 := Lib.hid (HY6.out.rk hk (by omega))
  have HZ7 := Lib.hid (HZ6.out.rkp hk (by omega))
  have HB7 := Lib.hid (HB6.out.trans (hk.below.mono (by omega)))
  clear hr hk HR6 HY6 HZ6 HB6
  go_wp2_with fail
  refine (pnext_any _ _ pd m pcap p (pA p 7) _ HY7.out HR7.out (by omega) (HL.out.below HB7.out rfl) HM.out HMC.out HPD.out HS.out).mono ?_
  rintro e X8 ⟨rfl, hr, hk⟩
  rw [← pA_succ p 7] at hr
  have HR8 := Lib.hid hr
  have HY8 := Lib.hid (HY7.out.rk hk (by omega))
  have HZ8 := Lib.hid (HZ7.out.rkp hk (by omega))
  have HB8 := Lib.hid (HB7.out.trans (hk.below.mono (by omega)))
  clear hr hk HR7 HY7 HZ7 HB7
  have HG9 := Lib.hid (HdRow.new X8 .zero none 0 0)
  go_wp2_with (with_reducible refine st_hdr rfl (.tmp 6) (.tmp 24) rfl rfl (phd p []) none 0 0 rfl HG9.out ?_)
  have HGL := Lib.hid (show w.heap.size + 1 + 1 < X8.heap.size from HR8.out.lt)
  have HG10 := Lib.hid (HdRow.new X8 (phd p []) none 0 0)
  have HR10 := Lib.hid (HR8.out.below (co_box1 X8 (boxH (phd p []) none 0 0)) HR8.out.lt)
  have HY10 := Lib.hid (HY8.out.below (co_box1 X8 (boxH (phd p []) none 0 0)) HY8.out.lt)
  have HZ10 := Lib.hid (HZ8.out.below (co_box1 X8 (boxH (phd p []) none 0 0)) HZ8.out.lt)
  have HB10 := Lib.hid (HB8.out.alloc HB8.out.size (boxH (phd p []) none 0 0))
  change Calls Tryd.prog 85 _ (X8.alloc (boxH (phd p []) none 0 0)) _
  clear HG9 HR8 HY8 HZ8 HB8
  generalize World.alloc X8 _ = Y0 at *
  generalize X8.heap.size = g2 at *
  refine (pnext_any _ _ pd m pcap p (pA p 8) _ HY10.out HR10.out (by omega) (HL.out.below HB10.out rfl) HM.out HMC.out HPD.out HS.out).mono ?_
  rintro e Y1 ⟨rfl, hr, hk⟩
  rw [← pA_succ p 8] at hr
  have HR11 := Lib.hid hr
  have HY11 := Lib.hid (HY10.out.rk hk (by omega))
  have HZ11 := Lib.hid (HZ10.out.rkp hk (by omega))
  have HG11 := Lib.hid (HG10.out.rkp hk (by have := HGL.out; omega))
  have HB11 := Lib.hid (HB10.out.trans (hk.below.mono (by omega)))
  have HO11 : Hid (HdOw Y1 (g2 + 1) (phd p []) none 0 0) := Lib.hid ⟨Of.nil _ _ _ _ _, rfl⟩
  have H9 := Lib.hid (show p9 p = pents p (pcn p) (pA p 9) from rfl)
  have hcn : pcn p = (min (pnx p (pA p 8)) 64).toNat := rfl
  clear hr hk HR10 HY10 HZ10 HG10 HB10
  generalize hN : pcn p = N at *
  generalize pnx p (pA p 8) = V at *
  obtain ⟨M, hM⟩ : ∃ M, M = min V 64 := ⟨_, rfl⟩
  have kif : (if (64 : Int) < V then 64 else V) = M := by rw [hM]; split <;> omega
  have hMN : M ≤ N ∧ N ≤ 64 ∧ (0 ≤ M → M = N) ∧ (M < 0 → N = 0) := by rw [← hM] at hcn; omega
  generalize p9 p = D9 at *
  clear hN hM hcn
  go_upto_block 0 with fail
  go_cut [28] from 29 to 47 (fun s28 wx => ∃ (A : Int) (E : List Ent) (ad : Option Addr) (cap : Nat), Hid (D9 = (E, A)) ∧ Hid (AtR wx (w.heap.size + 1 + 1) A) ∧ Hid (ByR wx w.heap.size pd m pcap) ∧ Hid (HdRow wx g2 (phd p E) ad E.length cap) ∧ Hid (HdOw wx (g2 + 1) (phd p E) ad E.length cap) ∧ Hid (HdRow wx (w.heap.size + 1) .zero none 0 0) ∧ Hid (Below w.heap.size w wx))
  case first =>
    go_wp2_with fail
    go_loopg [28] N (fun gk v28 wx => ∃ (i : Nat) (A : Int) (E : List Ent) (ad : Option Addr) (cap : Nat), v28 = .int .i64 i ∧ i + gk = N ∧ Hid (D9 = (E ++ (pents p gk A).1, (pents p gk A).2)) ∧ Hid (E.length = i) ∧ Hid (AtR wx (w.heap.size + 1 + 1) A) ∧ Hid (ByR wx w.heap.size pd m pcap) ∧ Hid (HdRow wx g2 (phd p E) ad E.length cap) ∧ Hid (HdOw wx (g2 + 1) (phd p E) ad E.length cap) ∧ Hid (HdRow wx (w.heap.size + 1) .zero none 0 0) ∧ Hid (Below w.heap.size w wx))
    case atStart => exact ⟨0, pA p 9, [], none, 0, rfl, by omega, by simpa using H9, Lib.hid rfl, HR11, HY11, HG11, HO11, HZ11, HB11⟩
    case round =>
      obtain ⟨i, A, E, ad, cap, rfl, hi, HD, HE, HR0, HY0, HG0, HO0, HZ0, HB0⟩ := hrel
      clear HR11 HY11 HG11 HO11 HZ11 HB11 H9
      cases gk with
      | zero =>
        obtain rfl : i = N := by omega
        have hMi : M ≤ (i : Int) := hMN.1
        go_wp2
        go_meet
        case rel => exact ⟨A, E, ad, cap, Lib.hid (by rw [HD.out, pents_zero]; simp), HR0, HY0, HG0, HO0, HZ0, HB0⟩
      | succ gk0 =>
        have hiN : i < N := by omega
        have hMi : (i : Int) < M := by omega
        have HD2 := Lib.hid (HD.out.trans (by rw [pents_succ]))
        have HXE := Lib.hid (show pent p A = ⟨pnx p A, pnx p (pns p A), pnx p (pns p (pns p A)), pnx p (pns p (pns p (pns p A))), psm (pnx p (pns p (pns p (pns p (pns p A)))))⟩ by unfold pent; rfl)
        have HP5 := Lib.hid (show p5 p A = pns p (pns p (pns p (pns p (pns p A)))) by unfold p5; rfl)
        have ks : IntKind.u32.wrap (pnx p (pns p (pns p (pns p (pns p A))))) = ((psm (pnx p (pns p (pns p (pns p (pns p A))))) : Nat) : Int) := (psm_eq _).1.symm
        have HBX := Lib.hid (Below.refl wr.heap.size wr).drew
        replace HR0 := Lib.hid (HR0.out.below HBX.out HR0.out.lt)
        replace HY0 := Lib.hid (HY0.out.below HBX.out HY0.out.lt)
        replace HG0 := Lib.hid (HG0.out.below HBX.out HG0.out.lt)
        replace HO0 := Lib.hid (HO0.out.below HBX.out)
        replace HZ0 := Lib.hid (HZ0.out.below HBX.out HZ0.out.lt)
        replace HB0 := Lib.hid (HB0.out.trans (HBX.out.mono HB0.out.size))
        have hg2 := HGL.out
        clear HD HBX
        go_wp2_with fail
        refine wp_region_noPanic ?_
        refine region_untl (by kernel_rfl) 17 ((fun X => HdRow X g2 (phd p E) ad E.length cap)) (HG0.out) (fun hS0 => ?_)
        generalize World.drew wr = Z0 at *
        refine untl_take (i := 0) 0 (v := ?_) rfl (by kernel_rfl) (by kernel_rfl) (by kernel_rfl) (by kernel_rfl) (by kernel_rfl) (by rfl) (by rfl) (by rfl) (fun _ _ _ h => h) (by rfl) ?_ (by assumption) ?_
        rotate_left
        · intro X hSX
          try dsimp only at hSX
          go_simp <;> with_reducible rfl
        simp only [Act.put, List.setIfInBounds_toArray, List.set_cons_zero, List.set_cons_succ]
        refine untl_take (i := 1) 1 (v := ?_) rfl (by kernel_rfl) (by kernel_rfl) (by kernel_rfl) (by kernel_rfl) (by kernel_rfl) (by rfl) (by rfl) (by rfl) (fun _ _ _ h => h) (by rfl) ?_ (by assumption) ?_
        rotate_left
        · intro X hSX
          try dsimp only at hSX
          obtain ⟨-, d0, d1, d2, d3, d4, d5, d6, d7, d8, d9, d10⟩ := hSX.at_
          go_simp <;> with_reducible rfl
        simp only [Act.put, List.setIfInBounds_toArray, List.set_cons_zero, List.set_cons_succ]
        refine untl_take (i := 2) 2 (v := ?_) rfl (by kernel_rfl) (by kernel_rfl) (by kernel_rfl) (by kernel_rfl) (by kernel_rfl) (by rfl) (by rfl) (by rfl) (fun _ _ _ h => h) (by rfl) ?_ (by assumption) ?_
        rotate_left
        · intro X hSX
          try dsimp only at hSX
          go_simp <;> with_reducible rfl
        simp only [Act.put, List.setIfInBounds_toArray, List.set_cons_zero, List.set_cons_succ]
        refine untl_take (i := 4) 4 (v := ?_) rfl (by kernel_rfl) (by kernel_rfl) (by kernel_rfl) (by kernel_rfl) (by kernel_rfl) (by rfl) (by rfl) (by rfl) (fun _ _ _ h => h) (by rfl) ?_ (by assumption) ?_
        rotate_left
        · intro X hSX
          try dsimp only at hSX
          go_simp <;> with_reducible rfl
        simp only [Act.put, List.setIfInBounds_toArray, List.set_cons_zero, List.set_cons_succ]
        refine untl_take (i := 6) 6 (v := ?_) rfl (by kernel_rfl) (by kernel_rfl) (by kernel_rfl) (by kernel_rfl) (by kernel_rfl) (by rfl) (by rfl) (by rfl) (fun _ _ _ h => h) (by rfl) ?_ (by assumption) ?_
        rotate_left
        · intro X hSX
          try dsimp only at hSX
          go_simp <;> with_reducible rfl
        simp only [Act.put, List.setIfInBounds_toArray, List.set_cons_zero, List.set_cons_succ]
        refine untl_take (i := 8) 8 (v := ?_) rfl (by kernel_rfl) (by kernel_rfl) (by kernel_rfl) (by kernel_rfl) (by kernel_rfl) (by rfl) (by rfl) (by rfl) (fun _ _ _ h => h) (by rfl) ?_ (by assumption) ?_
        rotate_left
        · intro X hSX
          try dsimp only at hSX
          go_simp <;> with_reducible rfl
        simp only [Act.put, List.setIfInBounds_toArray, List.set_cons_zero, List.set_cons_succ]
        refine untl_take (i := 10) 10 (v := ?_) rfl (by kernel_rfl) (by kernel_rfl) (by kernel_rfl) (by kernel_rfl) (by kernel_rfl) (by rfl) (by rfl) (by rfl) (fun _ _ _ h => h) (by rfl) ?_ (by assumption) ?_
        rotate_left
        · intro X hSX
          try dsimp only at hSX
          go_simp <;> with_reducible rfl
        simp only [Act.put, List.setIfInBounds_toArray, List.set_cons_zero, List.set_cons_succ]
        refine untl_call (i := 3) rfl (by kernel_rfl) (by rfl) (fun K' hK' => ?_)
        go_simp
        refine (pnext_any _ _ pd m pcap p (A) _ HY0.out HR0.out (by omega) (HL.out.below HB0.out rfl) HM.out HMC.out HPD.out HS.out).mono ?_
        rintro e Z1 ⟨rfl, hr, hk⟩
        have HR1 := Lib.hid hr
        have HY1 := Lib.hid (HY0.out.rk hk (by omega))
        have HG1 := Lib.hid (HG0.out.rkp hk (by omega))
        have HO1 := Lib.hid (HO0.out.rkp hk (by omega))
        have HZ1 := Lib.hid (HZ0.out.rkp hk (by omega))
        have HB1 := Lib.hid (HB0.out.trans (hk.below.mono (by omega)))
        clear hr hk HR0 HY0 HG0 HO0 HZ0 HB0 hS0
        have hs1 := HG1.out
        refine untl_go hK' (fun _ => HG1.out) ?_
        try simp only [Act.put, List.setIfInBounds_toArray, List.set_cons_zero, List.set_cons_succ]
        refine untl_call (i := 5) rfl (by kernel_rfl) (by rfl) (fun K' hK' => ?_)
        go_simp
        refine (pnext_any _ _ pd m pcap p (pns p (A)) _ HY1.out HR1.out (by omega) (HL.out.below HB1.out rfl) HM.out HMC.out HPD.out HS.out).mono ?_
        rintro e Z2 ⟨rfl, hr, hk⟩
        have HR2 := Lib.hid hr
        have HY2 := Lib.hid (HY1.out.rk hk (by omega))
        have HG2 := Lib.hid (HG1.out.rkp hk (by omega))
        have HO2 := Lib.hid (HO1.out.rkp hk (by omega))
        have HZ2 := Lib.hid (HZ1.out.rkp hk (by omega))
        have HB2 := Lib.hid (HB1.out.trans (hk.below.mono (by omega)))
        clear hr hk HR1 HY1 HG1 HO1 HZ1 HB1
        have hs2 := HG2.out
        refine untl_go hK' (fun _ => HG2.out) ?_
        try simp only [Act.put, List.setIfInBounds_toArray, List.set_cons_zero, List.set_cons_succ]
        refine untl_call (i := 7) rfl (by kernel_rfl) (by rfl) (fun K' hK' => ?_)
        go_simp
        refine (pnext_any _ _ pd m pcap p (pns p (pns p (A))) _ HY2.out HR2.out (by omega) (HL.out.below HB2.out rfl) HM.out HMC.out HPD.out HS.out).mono ?_
        rintro e Z3 ⟨rfl, hr, hk⟩
        have HR3 := Lib.hid hr
        have HY3 := Lib.hid (HY2.out.rk hk (by omega))
        have HG3 := Lib.hid (HG2.out.rkp hk (by omega))
        have HO3 := Lib.hid (HO2.out.rkp hk (by omega))
        have HZ3 := Lib.hid (HZ2.out.rkp hk (by omega))
        have HB3 := Lib.hid (HB2.out.trans (hk.below.mono (by omega)))
        clear hr hk HR2 HY2 HG2 HO2 HZ2 HB2
        have hs3 := HG3.out
        refine untl_go hK' (fun _ => HG3.out) ?_
        try simp only [Act.put, List.setIfInBounds_toArray, List.set_cons_zero, List.set_cons_succ]
        refine untl_call (i := 9) rfl (by kernel_rfl) (by rfl) (fun K' hK' => ?_)
        go_simp
        refine (pnext_any _ _ pd m pcap p (pns p (pns p (pns p (A)))) _ HY3.out HR3.out (by omega) (HL.out.below HB3.out rfl) HM.out HMC.out HPD.out HS.out).mono ?_
        rintro e Z4 ⟨rfl, hr, hk⟩
        have HR4 := Lib.hid hr
        have HY4 := Lib.hid (HY3.out.rk hk (by omega))
        have HG4 := Lib.hid (HG3.out.rkp hk (by omega))
        have HO4 := Lib.hid (HO3.out.rkp hk (by omega))
        have HZ4 := Lib.hid (HZ3.out.rkp hk (by omega))
        have HB4 := Lib.hid (HB3.out.trans (hk.below.mono (by omega)))
        clear hr hk HR3 HY3 HG3 HO3 HZ3 HB3
        have hs4 := HG4.out
        refine untl_go hK' (fun _ => HG4.out) ?_
        try simp only [Act.put, List.setIfInBounds_toArray, List.set_cons_zero, List.set_cons_succ]
        refine untl_call (i := 11) rfl (by kernel_rfl) (by rfl) (fun K' hK' => ?_)
        go_simp
        refine (pnext_any _ _ pd m pcap p (pns p (pns p (pns p (pns p (A))))) _ HY4.out HR4.out (by omega) (HL.out.below HB4.out rfl) HM.out HMC.out HPD.out HS.out).mono ?_
        rintro e Z5 ⟨rfl, hr, hk⟩
        have HR5 := Lib.hid hr
        have HY5 := Lib.hid (HY4.out.rk hk (by omega))
        have HG5 := Lib.hid (HG4.out.rkp hk (by omega))
        have HO5 := Lib.hid (HO4.out.rkp hk (by omega))
        have HZ5 := Lib.hid (HZ4.out.rkp hk (by omega))
        have HB5 := Lib.hid (HB4.out.trans (hk.below.mono (by omega)))
        clear hr hk HR4 HY4 HG4 HO4 HZ4 HB4
        have hs5 := HG5.out
        refine untl_go hK' (fun _ => HG5.out) ?_
        try simp only [Act.put, List.setIfInBounds_toArray, List.set_cons_zero, List.set_cons_succ]
        refine untl_take (i := 12) 12 (v := ?_) rfl (by kernel_rfl) (by kernel_rfl) (by kernel_rfl) (by kernel_rfl) (by kernel_rfl) (by rfl) (by rfl) (by rfl) (fun _ _ _ h => h) (by rfl) ?_ (by assumption) ?_
        rotate_left
        · intro X hSX
          try dsimp only at hSX
          go_simp <;> with_reducible rfl
        simp only [Act.put, List.setIfInBounds_toArray, List.set_cons_zero, List.set_cons_succ]
        refine untl_take (i := 13) 13 (v := ?_) rfl (by kernel_rfl) (by kernel_rfl) (by kernel_rfl) (by kernel_rfl) (by kernel_rfl) (by rfl) (by rfl) (by rfl) (fun _ _ _ h => h) (by rfl) ?_ (by assumption) ?_
        rotate_left
        · intro X hSX
          try dsimp only at hSX
          go_simp <;> with_reducible rfl
        simp only [Act.put, List.setIfInBounds_toArray, List.set_cons_zero, List.set_cons_succ]
        refine untl_call (i := 14) rfl (by kernel_rfl) (by rfl) (fun K' hK' => ?_)
        go_simp
        obtain ⟨o, ho⟩ : ∃ o : Obj, o = .cells #[.int .i64 (pnx p A), .int .i64 (pnx p (pns p A)), .int .i64 (pnx p (pns p (pns p A))), .int .i64 (pnx p (pns p (pns p (pns p A)))), .int .u32 ((psm (pnx p (pns p (pns p (pns p (pns p A))))) : Nat) : Int)] 54 := ⟨_, rfl⟩
        obtain ⟨x, hx⟩ : ∃ x : Ent, x = ⟨pnx p A, pnx p (pns p A), pnx p (pns p (pns p A)), pnx p (pns p (pns p (pns p A))), psm (pnx p (pns p (pns p (pns p (pns p A)))))⟩ := ⟨_, rfl⟩
        have HLF : Hid (Lf enC (Z5.alloc o) (some ⟨Z5.heap.size, 0, none⟩) [x]) := Lib.hid (by rw [ho, hx]; exact Lf.lits Z5 _ _ (by rfl) _ rfl)
        rw [← hx] at HXE
        have HR6 := Lib.hid (HR5.out.below (co_box1 Z5 o) HR5.out.lt)
        have HY6 := Lib.hid (HY5.out.below (co_box1 Z5 o) HY5.out.lt)
        have HG6 := Lib.hid (HG5.out.below (co_box1 Z5 o) HG5.out.lt)
        have HO6 := Lib.hid (HO5.out.below (co_box1 Z5 o))
        have HZ6 := Lib.hid (HZ5.out.below (co_box1 Z5 o) HZ5.out.lt)
        have HB6 := Lib.hid (HB5.out.alloc HB5.out.size o)
        rw [← ho]
        have HSZ6 := Lib.hid (show g2 + 1 ≤ (Z5.alloc o).heap.size from HG6.out.lt)
        clear ho hx HR5 HY5 HG5 HO5 HZ5 HB5 hs1 hs2 hs3 hs4 hs5 ks
        generalize World.alloc Z5 o = Z6 at *
        generalize Z5.heap.size = gz at *
        refine untl_go hK' (fun _ => HG6.out) ?_
        try simp only [Act.put, List.setIfInBounds_toArray, List.set_cons_zero, List.set_cons_succ]
        have hel : E.length + 1 ≤ 10000000 := by have := HE.out; omega
        obtain ⟨E2, hE2⟩ : ∃ E2, E2 = E ++ [x] := ⟨_, rfl⟩
        refine untl_call (i := 15) rfl (by kernel_rfl) (by rfl) (fun K' hK' => ?_)
        refine oper_of_list (ops := #[]) (by unfold Region.wanted; rfl) (wpList_append_f typE celE rfl (.tmp 31) (.tmp 44) rfl (g2 + 1) _ E rfl HO6.out.own (some ⟨gz, 0, none⟩) 1 1 [x] (fun h => by cases h) HLF.out rfl rfl hel HSZ6.out (fun v2 w2 ho2 hg2 => onlyN_end ?_))
        have hb7 : Below (g2 + 1) Z6 w2 := (Below.refl (g2 + 1) Z6).grown hg2 HSZ6.out (fun k hk => (HO6.out.own.lt k hk).1)
        rw [← hE2] at ho2
        have HE2 := Lib.hid hE2
        obtain ⟨ad2, cap2, rfl, -⟩ := ho2.read
        have HO7 : Hid (HdOw w2 (g2 + 1) (phd p E2) ad2 E2.length cap2) := Lib.hid ⟨ho2, rfl⟩
        have HR7 := Lib.hid (HR6.out.below hb7 (by omega))
        have HY7 := Lib.hid (HY6.out.below hb7 (by omega))
        have HG7 := Lib.hid (HG6.out.below hb7 (by omega))
        have HZ7 := Lib.hid (HZ6.out.below hb7 (by omega))
        have HB7 := Lib.hid (HB6.out.trans (hb7.mono (by omega)))
        clear ho2 hg2 hb7 hE2 HR6 HY6 HG6 HO6 HZ6 HB6
        refine untl_go hK' (fun _ => HG7.out) ?_
        try simp only [Act.put, List.setIfInBounds_toArray, List.set_cons_zero, List.set_cons_succ]
        have hs7 := HG7.out
        refine untl_take (i := 16) 16 (v := ?_) rfl (by kernel_rfl) (by kernel_rfl) (by kernel_rfl) (by kernel_rfl) (by kernel_rfl) (by rfl) (by rfl) (by rfl) (fun _ _ _ h => h) (by rfl) ?_ (by assumption) ?_
        rotate_left
        · intro X hSX
          try dsimp only at hSX
          go_simp <;> with_reducible rfl
        simp only [Act.put, List.setIfInBounds_toArray, List.set_cons_zero, List.set_cons_succ]
        obtain ⟨-, d0, d1, d2, d3, d4, d5, d6, d7, d8, d9, d10⟩ := HG7.out.at_
        have f8 := HG7.out.frozen 8
        refine untl_call (i := 17) rfl (by kernel_rfl) (by rfl) (fun K' hK' => ?_)
        go_simp
        have HR8 : Hid (AtR (w2.setCell ⟨g2, 8, none⟩ (.slice ad2 E2.length cap2)) (w.heap.size + 1 + 1) _) := Lib.hid ((Below.heap_setCell _ _ _ _ (by show w.heap.size + 1 + 1 ≠ g2; omega)).trans HR7.out)
        have HY8 : Hid (ByR (w2.setCell ⟨g2, 8, none⟩ (.slice ad2 E2.length cap2)) w.heap.size pd m pcap) := Lib.hid ((Below.heap_setCell _ _ _ _ (by show w.heap.size ≠ g2; omega)).trans HY7.out)
        have HG8 : Hid (HdRow (w2.setCell ⟨g2, 8, none⟩ (.slice ad2 E2.length cap2)) g2 (phd p E2) ad2 E2.length cap2) := Lib.hid (HG7.out.setE E2 ad2 E2.length cap2)
        have HO8 := Lib.hid (HO7.out.cell (k := g2) (by omega) 8 (.slice ad2 E2.length cap2))
        have HZ8 := Lib.hid (HZ7.out.other (k := g2) (by omega) 8 (.slice ad2 E2.length cap2))
        have HB8 := Lib.hid (HB7.out.setCell (p := ⟨g2, 8, none⟩) (by show w.heap.size ≤ g2; omega) (.slice ad2 E2.length cap2))
        rw [← HP5.out] at HR8
        have HD3 : Hid (D9 = (E2 ++ (pents p gk0 (p5 p A)).1, (pents p gk0 (p5 p A)).2)) := Lib.hid (by rw [HD2.out, HXE.out, HE2.out, List.append_assoc]; rfl)
        have HL2 : Hid (E2.length = i + 1) := Lib.hid (by rw [HE2.out, List.length_append]; simp only [List.length_singleton]; rw [HE.out])
        clear d0 d1 d2 d3 d4 d5 d6 d7 d8 d9 d10 f8 hs7
        refine untl_go hK' (fun h => by cases h) ?_
        try simp only [Act.put, List.setIfInBounds_toArray, List.set_cons_zero, List.set_cons_succ]
        refine untl_past _ _ _ _ (by rfl) ?_
        have hS0 : True := trivial
        refine wpAnyH_done (by kernel_rfl) ?_ _
        refine NoPanic.normal ?_
        go_wp2_with fail
        go_roundg gk0
        case rel => exact ⟨i + 1, p5 p A, E2, ad2, cap2, by go_num, by omega, HD3, HL2, HR8, HY8, HG8, HO8, HZ8, HB8⟩
        case measure => omega
  case rest =>
    obtain ⟨A, E, ad, cap, HD, HR, HY, HG, HO, HZ, HB⟩ := hcut
    have hg2 := HGL.out
    clear HR11 HY11 HG11 HO11 HZ11 HB11 H9
    rw [HD.out] at HPG HPL
    dsimp only at HPG HPL
    clear HD
    go_wp2_with fail
    refine (pnext_any _ _ pd m pcap p A _ HY.out HR.out (by omega) (HL.out.below HB.out rfl) HM.out HMC.out HPD.out HS.out).mono ?_
    rintro e Z1 ⟨rfl, hr, hk⟩
    have HR1 := Lib.hid hr
    have HY1 := Lib.hid (HY.out.rk hk (by omega))
    have HG1 := Lib.hid (HG.out.rkp hk (by omega))
    have HO1 := Lib.hid (HO.out.rkp hk (by omega))
    have HZ1 := Lib.hid (HZ.out.rkp hk (by omega))
    have HB1 := Lib.hid (HB.out.trans (hk.below.mono (by omega)))
    clear hr hk HR HY HG HO HZ HB
    go_wp2_with fail
    refine (pnext_any _ _ pd m pcap p (pns p A) _ HY1.out HR1.out (by omega) (HL.out.below HB1.out rfl) HM.out HMC.out HPD.out HS.out).mono ?_
    rintro e Z2 ⟨rfl, hr, hk⟩
    have HY2 := Lib.hid (HY1.out.rk hk (by omega))
    have HG2 := Lib.hid (HG1.out.rkp hk (by omega))
    have HO2 := Lib.hid (HO1.out.rkp hk (by omega))
    have HZ2 := Lib.hid (HZ1.out.rkp hk (by omega))
    have HB2 := Lib.hid (HB1.out.trans (hk.below.mono (by omega)))
    clear hr hk HR1 HY1 HG1 HO1 HZ1 HB1
    have ks : IntKind.u32.wrap (pnx p (pns p A)) = ((psm (pnx p (pns p A)) : Nat) : Int) := (psm_eq _).1.symm
    have HSM := Lib.hid (psm_eq (pnx p (pns p A))).2
    have c9 := HG2.out.at_.c9
    have f9 := HG2.out.frozen 9
    have HG3 := Lib.hid (HG2.out.setZ (pnx p A))
    have HO3 := Lib.hid (HO2.out.cell (k := g2) (by omega) 9 (.int .i64 (pnx p A)))
    have HZ3 := Lib.hid (HZ2.out.other (k := g2) (by omega) 9 (.int .i64 (pnx p A)))
    have HB3 := Lib.hid (HB2.out.setCell (p := ⟨g2, 9, none⟩) (by show w.heap.size ≤ g2; omega) (.int .i64 (pnx p A)))
    have HY3 : Hid (ByR (Z2.setCell ⟨g2, 9, none⟩ (.int .i64 (pnx p A))) w.heap.size pd m pcap) := Lib.hid ((Below.heap_setCell _ _ _ _ (by show w.heap.size ≠ g2; omega)).trans HY2.out)
    have c10 := HG3.out.at_.c10
    have f10 := HG3.out.frozen 10
    have HG4 : Hid (HdRow ((Z2.setCell ⟨g2, 9, none⟩ (.int .i64 (pnx p A))).setCell ⟨g2, 10, none⟩ (.int .u32 ((psm (pnx p (pns p A)) : Nat) : Int))) g2 (pfin p E A) ad E.length cap) := Lib.hid (HG3.out.setS (psm (pnx p (pns p A))))
    have ho4 := HO3.out.cell (k := g2) (by omega) 10 (.int .u32 ((psm (pnx p (pns p A)) : Nat) : Int))
    have HO4 : Hid (HdOw ((Z2.setCell ⟨g2, 9, none⟩ (.int .i64 (pnx p A))).setCell ⟨g2, 10, none⟩ (.int .u32 ((psm (pnx p (pns p A)) : Nat) : Int))) (g2 + 1) (pfin p E A) ad E.length cap) := Lib.hid ⟨ho4.own, ho4.len⟩
    have HZ4 := Lib.hid (HZ3.out.other (k := g2) (by omega) 10 (.int .u32 ((psm (pnx p (pns p A)) : Nat) : Int)))
    have HB4 := Lib.hid (HB3.out.setCell (p := ⟨g2, 10, none⟩) (by show w.heap.size ≤ g2; omega) (.int .u32 ((psm (pnx p (pns p A)) : Nat) : Int)))
    have HY4 : Hid (ByR ((Z2.setCell ⟨g2, 9, none⟩ (.int .i64 (pnx p A))).setCell ⟨g2, 10, none⟩ (.int .u32 ((psm (pnx p (pns p A)) : Nat) : Int))) w.heap.size pd m pcap) := Lib.hid ((Below.heap_setCell _ _ _ _ (by show w.heap.size ≠ g2; omega)).trans HY3.out)
    have HSG : Hid (∀ e ∈ (pfin p E A).es, e.s < 4294967296) := Lib.hid HPL.out
    have HSM4 : Hid ((pfin p E A).sm < 4294967296) := Lib.hid HSM.out
    have HNL : Hid (E.length = (pfin p E A).es.length) := Lib.hid rfl
    go_wp2_with fail
    clear c9 f9 c10 f10 HG2 HO2 HZ2 HB2 HY2 HG3 HO3 HZ3 HB3 HY3 ho4 ks
    generalize World.setCell (World.setCell _ _ _) _ _ = Z4 at *
    generalize pfin p E A = G at *
    have HBX := Lib.hid (Below.refl Z4.heap.size Z4).drew
    have HG5 := Lib.hid (HG4.out.below HBX.out HG4.out.lt)
    have HY5 := Lib.hid (HY4.out.below HBX.out HY4.out.lt)
    have HO5 := Lib.hid (HO4.out.below HBX.out)
    have HZ5 := Lib.hid (HZ4.out.below HBX.out HZ4.out.lt)
    have HB5 := Lib.hid (HB4.out.trans (HBX.out.mono HB4.out.size))
    clear HG4 HY4 HO4 HZ4 HB4 HBX
    have HVI := Lib.hid (@vldH_iff G)
    refine wp_region_noPanic ?_
    refine wp_region_held_drew (S := (fun X => HdRow X g2 G ad E.length cap ∧ ByR X w.heap.size pd m pcap)) (by kernel_rfl) (⟨HG5.out, HY5.out⟩) (fun hS0 => ?_)
    generalize World.drew Z4 = Z5 at *
    refine held_take (i := 0) (v := ?_) rfl (by kernel_rfl) (by kernel_rfl) (by kernel_rfl) (fun _ _ _ h => h) (by rfl) ?_ (by assumption) ?_
    rotate_left
    · intro X hSX
      try dsimp only at hSX
      obtain ⟨-, d0, d1, d2, d3, d4, d5, d6, d7, d8, d9, d10⟩ := hSX.1.at_
      go_simp <;> with_reducible rfl
    simp only [Act.put, List.setIfInBounds_toArray, List.set_cons_zero, List.set_cons_succ]
    refine held_call (i := 1) rfl (by kernel_rfl) (by rfl) (fun K' hK' => ?_)
    go_simp
    refine (valid15_any G ad E.length cap _ HO5.out.hin HSG.out).mono ?_
    generalize vldH G = VB at *
    rintro e Z6 ⟨rfl, hb6⟩
    have HG6 := Lib.hid (HG5.out.below hb6 HG5.out.lt)
    have HY6 := Lib.hid (HY5.out.below hb6 HY5.out.lt)
    have HO6 := Lib.hid (HO5.out.below hb6)
    have HZ6 := Lib.hid (HZ5.out.below hb6 HZ5.out.lt)
    have HB6 := Lib.hid (HB5.out.trans (hb6.mono HB5.out.size))
    clear hb6 hS0 HG5 HY5 HO5 HZ5 HB5
    have hs6 : HdRow Z6 g2 G ad E.length cap ∧ ByR Z6 w.heap.size pd m pcap := ⟨HG6.out, HY6.out⟩
    refine held_go hK' (hs6) ?_
    try simp only [Act.put, List.setIfInBounds_toArray, List.set_cons_zero, List.set_cons_succ]
    cases VB
    · have HV : Hid (decP p = (.zero, false)) := Lib.hid (HPG.out.trans (if_neg (by rintro ⟨h, _⟩; cases h)))
      refine held_take (i := 2) (v := ?_) rfl (by kernel_rfl) (by kernel_rfl) (by kernel_rfl) (fun _ _ _ h => h) (by rfl) ?_ (by assumption) ?_
      rotate_left
      · intro X hSX
        try dsimp only at hSX
        go_simp <;> with_reducible rfl
      simp only [Act.put, List.setIfInBounds_toArray, List.set_cons_zero, List.set_cons_succ]
      refine held_take (i := 3) (v := ?_) rfl (by kernel_rfl) (by kernel_rfl) (by kernel_rfl) (fun _ _ _ h => h) (by rfl) ?_ (by assumption) ?_
      rotate_left
      · intro X hSX
        try dsimp only at hSX
        go_simp <;> with_reducible rfl
      simp only [Act.put, List.setIfInBounds_toArray, List.set_cons_zero, List.set_cons_succ]
      refine held_skip (i := 4) rfl (by kernel_rfl) (by kernel_rfl) (by kernel_rfl) (fun _ _ _ h => h) (by rfl) (by assumption) ?_
      simp only [Act.put, List.setIfInBounds_toArray, List.set_cons_zero, List.set_cons_succ]
      refine held_skip (i := 5) rfl (by kernel_rfl) (by kernel_rfl) (by kernel_rfl) (fun _ _ _ h => h) (by rfl) (by assumption) ?_
      simp only [Act.put, List.setIfInBounds_toArray, List.set_cons_zero, List.set_cons_succ]
      refine held_skip (i := 6) rfl (by kernel_rfl) (by kernel_rfl) (by kernel_rfl) (fun _ _ _ h => h) (by rfl) (by assumption) ?_
      simp only [Act.put, List.setIfInBounds_toArray, List.set_cons_zero, List.set_cons_succ]
      refine held_skip (i := 7) rfl (by kernel_rfl) (by kernel_rfl) (by kernel_rfl) (fun _ _ _ h => h) (by rfl) (by assumption) ?_
      simp only [Act.put, List.setIfInBounds_toArray, List.set_cons_zero, List.set_cons_succ]
      refine held_skip (i := 8) rfl (by kernel_rfl) (by kernel_rfl) (by kernel_rfl) (fun _ _ _ h => h) (by rfl) (by assumption) ?_
      simp only [Act.put, List.setIfInBounds_toArray, List.set_cons_zero, List.set_cons_succ]
      refine held_take (i := 9) (v := ?_) rfl (by kernel_rfl) (by kernel_rfl) (by kernel_rfl) (fun _ _ _ h => h) (by rfl) ?_ (by assumption) ?_
      rotate_left
      · intro X hSX
        try dsimp only at hSX
        go_simp <;> with_reducible rfl
      simp only [Act.put, List.setIfInBounds_toArray, List.set_cons_zero, List.set_cons_succ]
      refine wpAnyH_done (by kernel_rfl) ?_ _
      refine NoPanic.normal ?_
      go_wp2_with (with_reducible refine st_hdr rfl (.tmp 2) (.tmp 65) rfl rfl .zero none 0 0 rfl HZ6.out ?_)
      refine post_cell2 (cs := hdC .zero none 0 0) (x := .bool false) rfl rfl (HZ6.out.put .zero none 0 0).row Tryd.underlying25 rfl infoHd rfl rfl ?_
      exact ⟨none, 0, by rw [HV.out]; rfl, by rw [HV.out]; exact ⟨Of.nil _ _ _ _ _, rfl⟩, below_set HB6.out (by omega) _⟩
    have HVV := Lib.hid (HVI.out.1 (by simp))
    have HEL := Lib.hid (encH_len HVV.out HSM4.out HSG.out)
    refine held_take (i := 2) (v := ?_) rfl (by kernel_rfl) (by kernel_rfl) (by kernel_rfl) (fun _ _ _ h => h) (by rfl) ?_ (by assumption) ?_
    rotate_left
    · intro X hSX
      try dsimp only at hSX
      go_simp <;> with_reducible rfl
    simp only [Act.put, List.setIfInBounds_toArray, List.set_cons_zero, List.set_cons_succ]
    refine held_take (i := 3) (v := ?_) rfl (by kernel_rfl) (by kernel_rfl) (by kernel_rfl) (fun _ _ _ h => h) (by rfl) ?_ (by assumption) ?_
    rotate_left
    · intro X hSX
      try dsimp only at hSX
      go_simp <;> with_reducible rfl
    simp only [Act.put, List.setIfInBounds_toArray, List.set_cons_zero, List.set_cons_succ]
    refine held_take (i := 4) (v := ?_) rfl (by kernel_rfl) (by kernel_rfl) (by kernel_rfl) (fun _ _ _ h => h) (by rfl) ?_ (by assumption) ?_
    rotate_left
    · intro X hSX
      try dsimp only at hSX
      obtain ⟨-, d0, d1, d2, d3, d4, d5, d6, d7, d8, d9, d10⟩ := hSX.1.at_
      go_simp <;> with_reducible rfl
    simp only [Act.put, List.setIfInBounds_toArray, List.set_cons_zero, List.set_cons_succ]
    refine held_take (i := 6) (v := ?_) rfl (by kernel_rfl) (by kernel_rfl) (by kernel_rfl) (fun _ _ _ h => h) (by rfl) ?_ (by assumption) ?_
    rotate_left
    · intro X hSX
      try dsimp only at hSX
      have e0 := hSX.2.at_
      go_simp <;> with_reducible rfl
    simp only [Act.put, List.setIfInBounds_toArray, List.set_cons_zero, List.set_cons_succ]
    refine held_call (i := 5) rfl (by kernel_rfl) (by rfl) (fun K' hK' => ?_)
    go_simp
    refine (encoding_any G ad E.length cap _ HO6.out.hin HVV.out HSM4.out HSG.out).mono ?_
    rintro e Z7 ⟨v7, rfl, ho7, hb7⟩
    have HG7 := Lib.hid (HG6.out.below hb7 HG6.out.lt)
    have HY7 := Lib.hid (HY6.out.below hb7 HY6.out.lt)
    have HO7 := Lib.hid (HO6.out.below hb7)
    have HZ7 := Lib.hid (HZ6.out.below hb7 HZ6.out.lt)
    have HB7 := Lib.hid (HB6.out.trans (hb7.mono HB6.out.size))
    obtain ⟨ad7, cap7, rfl, hl7, -⟩ := ho7.slice
    have HL7 := Lib.hid hl7
    clear hb7 ho7 hl7 HG6 HY6 HO6 HZ6 HB6
    have hs7 : HdRow Z7 g2 G ad E.length cap ∧ ByR Z7 w.heap.size pd m pcap := ⟨HG7.out, HY7.out⟩
    refine held_go hK' (hs7) ?_
    try simp only [Act.put, List.setIfInBounds_toArray, List.set_cons_zero, List.set_cons_succ]
    refine held_call (i := 7) rfl (by kernel_rfl) (by rfl) (fun K' hK' => ?_)
    go_simp
    refine (bequal_any ad7 pd _ m cap7 pcap (encH G) p _ HL7.out (HL.out.below HB7.out rfl) rfl HM.out).mono ?_
    by_cases hq : encH G = p
    rotate_left
    · rw [decide_eq_false hq]
      have HV : Hid (decP p = (.zero, false)) := Lib.hid (HPG.out.trans (if_neg (by rintro ⟨_, h⟩; exact hq h)))
      clear hq
      rintro e w' ⟨rfl, rfl⟩
      refine held_go hK' (hs7) ?_
      try simp only [Act.put, List.setIfInBounds_toArray, List.set_cons_zero, List.set_cons_succ]
      refine held_take (i := 8) (v := ?_) rfl (by kernel_rfl) (by kernel_rfl) (by kernel_rfl) (fun _ _ _ h => h) (by rfl) ?_ (by assumption) ?_
      rotate_left
      · intro X hSX
        try dsimp only at hSX
        go_simp <;> with_reducible rfl
      simp only [Act.put, List.setIfInBounds_toArray, List.set_cons_zero, List.set_cons_succ]
      refine held_take (i := 9) (v := ?_) rfl (by kernel_rfl) (by kernel_rfl) (by kernel_rfl) (fun _ _ _ h => h) (by rfl) ?_ (by assumption) ?_
      rotate_left
      · intro X hSX
        try dsimp only at hSX
        go_simp <;> with_reducible rfl
      simp only [Act.put, List.setIfInBounds_toArray, List.set_cons_zero, List.set_cons_succ]
      refine wpAnyH_done (by kernel_rfl) ?_ _
      refine NoPanic.normal ?_
      go_wp2_with (with_reducible refine st_hdr rfl (.tmp 2) (.tmp 65) rfl rfl .zero none 0 0 rfl HZ7.out ?_)
      refine post_cell2 (cs := hdC .zero none 0 0) (x := .bool false) rfl rfl (HZ7.out.put .zero none 0 0).row Tryd.underlying25 rfl infoHd rfl rfl ?_
      exact ⟨none, 0, by rw [HV.out]; rfl, by rw [HV.out]; exact ⟨Of.nil _ _ _ _ _, rfl⟩, below_set HB7.out (by omega) _⟩
    rw [decide_eq_true hq]
    have HV : Hid (decP p = (G, true)) := Lib.hid (HPG.out.trans (if_pos ⟨by trivial, hq⟩))
    clear hq
    rintro e w' ⟨rfl, rfl⟩
    refine held_go hK' (hs7) ?_
    try simp only [Act.put, List.setIfInBounds_toArray, List.set_cons_zero, List.set_cons_succ]
    refine held_take (i := 8) (v := ?_) rfl (by kernel_rfl) (by kernel_rfl) (by kernel_rfl) (fun _ _ _ h => h) (by rfl) ?_ (by assumption) ?_
    rotate_left
    · intro X hSX
      try dsimp only at hSX
      go_simp <;> with_reducible rfl
    simp only [Act.put, List.setIfInBounds_toArray, List.set_cons_zero, List.set_cons_succ]
    refine held_take (i := 9) (v := ?_) rfl (by kernel_rfl) (by kernel_rfl) (by kernel_rfl) (fun _ _ _ h => h) (by rfl) ?_ (by assumption) ?_
    rotate_left
    · intro X hSX
      try dsimp only at hSX
      go_simp <;> with_reducible rfl
    simp only [Act.put, List.setIfInBounds_toArray, List.set_cons_zero, List.set_cons_succ]
    refine wpAnyH_done (by kernel_rfl) ?_ _
    refine NoPanic.normal ?_
    go_wp2_with (first | (with_reducible refine ld_hdr rfl (.tmp 6) rfl rfl HG7.out ?_) | (with_reducible refine st_hdr rfl (.tmp 2) (.tmp 66) rfl rfl G ad E.length cap rfl HZ7.out ?_))
    refine post_cell2 (cs := hdC G ad E.length cap) (x := .bool true) rfl rfl (HZ7.out.put G ad E.length cap).row Tryd.underlying25 rfl infoHd rfl rfl ?_
    have hln := HNL.out
    exact ⟨ad, cap, by rw [HV.out]; dsimp only; rw [← hln], by rw [HV.out]; dsimp only; rw [← hln]; exact (HO7.out.row (k := w.heap.size + 1) (by omega) (hdC G ad E.length cap)).mono (by omega), below_set HB7.out (by omega) _⟩
end Go.Proofs.YtjiijjdmkeeilaaDoor
