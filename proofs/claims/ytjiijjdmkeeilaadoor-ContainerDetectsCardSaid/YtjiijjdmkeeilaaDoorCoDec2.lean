/-
  The specification's decode: the walk.
-/
import Derived.Test.YtjiijjdmkeeilaaDoorCAS
import Derived.Test.YtjiijjdmkeeilaaDoorCAP
import Derived.Test.YtjiijjdmkeeilaaDoorCAO
import Derived.Deep.DeepCutAuto
import Derived.Deep.CutBlock
namespace Go.Proofs.YtjiijjdmkeeilaaDoor
open Go.RowKit
set_option linter.unusedVariables false
set_option linter.unusedSimpArgs false
theorem rdnext_k {g : Nat} {ad : Option Addr} {n cap : Nat} {p : List UInt8} (k : Nat) {w : World} (hr : RdRow w g ad n cap (nk p k).1 (nk p k).2) (hl : Lie w ad p) (hn : n = p.length) (hs : p.length ≤ 1000000) :
    Calls Tryd.prog 89 #[.pointer (some ⟨g, 0, none⟩)] w fun e w' =>
      e = .returned (.int .i64 (nxI p (nk p k))) ∧ RdRow w' g ad n cap (nk p (k + 1)).1 (nk p (k + 1)).2 ∧ RdKeep g w w' := rdnext_any g ad n cap p _ _ w hr hl hn hs
theorem rdnext_s {g : Nat} {ad : Option Addr} {n cap : Nat} {p : List UInt8} (s : Int × Bool) {w : World} (hr : RdRow w g ad n cap s.1 s.2) (hl : Lie w ad p) (hn : n = p.length) (hs : p.length ≤ 1000000) :
    Calls Tryd.prog 89 #[.pointer (some ⟨g, 0, none⟩)] w fun e w' =>
      e = .returned (.int .i64 (nxI p s)) ∧ RdRow w' g ad n cap (nsI p s).1 (nsI p s).2 ∧ RdKeep g w w' := rdnext_any g ad n cap p _ _ w hr hl hn hs
theorem entU_eq (p : List UInt8) (s : Int × Bool) : entU p s = (⟨nxI p s, nxI p (nsI p s), nxI p (nsI p (nsI p s)), nxI p (nsI p (nsI p (nsI p s))), (cksU p (nsI p (nsI p (nsI p (nsI p s)))).1 (nsI p (nsI p (nsI p (nsI p s)))).2).1⟩, (cksU p (nsI p (nsI p (nsI p (nsI p s)))).1 (nsI p (nsI p (nsI p (nsI p s)))).2).2) := rfl
/-- the header, its entries read -/
noncomputable def fin9 (p : List UInt8) (E : List Ent) (s : Int × Bool) : Hdr :=
  ⟨nxI p (nk p 0), nxI p (nk p 1), nxI p (nk p 2), nxI p (nk p 3), nxI p (nk p 4), nxI p (nk p 5), nxI p (nk p 6), nxI p (nk p 7), E, nxI p s, (cksU p (nsI p s).1 (nsI p s).2).1⟩
/-- the header, and whether it is good -/
noncomputable def okD (p : List UInt8) (G : Hdr) (t : Int × Bool) : Hdr × Bool := (G, !t.2 && decide (t.1 = (p.length : Int)) && vldH G)
theorem decU_eq (p : List UInt8) : decU p = okD p (fin9 p (dec9 p).1 (dec9 p).2) (cksU p (nsI p (dec9 p).2).1 (nsI p (dec9 p).2).2).2 := by unfold decU okD hdD decS fin9; with_reducible rfl
theorem nk_succ (p : List UInt8) (k : Nat) : nk p (k + 1) = nsI p (nk p k) := rfl
theorem HdRow.rk {w w' : World} {g r : Nat} {h : Hdr} {ad : Option Addr} {n cap : Nat} (hr : HdRow w g h ad n cap) (hk : RdKeep r w w') (hne : g ≠ r) : HdRow w' g h ad n cap := (hk.keep g hne hr.lt).trans hr
theorem HdOw.rk {w w' : World} {B r : Nat} {h : Hdr} {ad : Option Addr} {n cap : Nat} (ho : HdOw w B h ad n cap) (hk : RdKeep r w w') (hr : r < B) : HdOw w' B h ad n cap := ho.keep fun g hg hl => hk.keep g (by omega) hl
attribute [local irreducible] nk nxI nsI entU entsU
/-- the header's first numbers -/
noncomputable def hd8 (p : List UInt8) (l : List Ent) : Hdr := ⟨nxI p (nk p 0), nxI p (nk p 1), nxI p (nk p 2), nxI p (nk p 3), nxI p (nk p 4), nxI p (nk p 5), nxI p (nk p 6), nxI p (nk p 7), l, 0, 0⟩
set_option maxRecDepth 100000 in
set_option maxHeartbeats 4000000 in
theorem rdecode_any (pd : Option Addr) (m pcap : Nat) (p : List UInt8) (w : World) (hl : Lie w pd p) (hm : m = p.length) (hs : p.length ≤ 1000000) :
    Calls Tryd.prog 63 #[.slice pd m pcap] w fun e w' => ∃ ad cap, e = .returned (.tuple #[hdV (decU p).1 ad (decU p).1.es.length cap, .bool (decU p).2]) ∧ HdOw w' w.heap.size (decU p).1 ad (decU p).1.es.length cap ∧ Below w.heap.size w w' := by
  have HL := Lib.hid hl
  have HM := Lib.hid hm
  have HS := Lib.hid hs
  have HB0 := Lib.hid (co_box2 w (boxH .zero none 0 0) (.cells #[.slice pd m pcap, .int .i64 0, .bool false] 110))
  have HZ0 := Lib.hid ((HdRow.new w .zero none 0 0).below (co_box1 _ (.cells #[.slice pd m pcap, .int .i64 0, .bool false] 110)) (by simp))
  have HR0 : Hid (RdRow ((w.alloc (boxH .zero none 0 0)).alloc (.cells #[.slice pd m pcap, .int .i64 0, .bool false] 110)) (w.heap.size + 1) pd m pcap (nk p 0).1 (nk p 0).2) := Lib.hid (by
    have := heap_alloc_new (w.alloc (boxH .zero none 0 0)) (.cells #[.slice pd m pcap, .int .i64 0, .bool false] 110)
    rw [World.size_alloc] at this
    unfold nk
    exact this)
  have HDU := Lib.hid (decU_eq p)
  clear hl hm hs
  go_enter Tryd.func63, Tryd.ntmps63
  go_wp2_with fail
  change Calls Tryd.prog 89 _ ((w.alloc (boxH .zero none 0 0)).alloc (.cells #[.slice pd m pcap, .int .i64 0, .bool false] 110)) _
  generalize World.alloc (World.alloc w _) _ = X0 at *
  refine (rdnext_k 0 HR0.out (HL.out.below HB0.out rfl) HM.out HS.out).mono ?_
  rintro e X1 ⟨rfl, hr, hk⟩
  have HR1 := Lib.hid hr
  have HZ1 := Lib.hid (HZ0.out.below hk.below (by omega))
  have HB1 := Lib.hid (HB0.out.trans (hk.below.mono (by omega)))
  clear hr hk HR0 HZ0 HB0
  go_wp2_with fail
  refine (rdnext_k 1 HR1.out (HL.out.below HB1.out rfl) HM.out HS.out).mono ?_
  rintro e X2 ⟨rfl, hr, hk⟩
  have HR2 := Lib.hid hr
  have HZ2 := Lib.hid (HZ1.out.below hk.below (by omega))
  have HB2 := Lib.hid (HB1.out.trans (hk.below.mono (by omega)))
  clear hr hk HR1 HZ1 HB1
  go_wp2_with fail
  refine (rdnext_k 2 HR2.out (HL.out.below HB2.out rfl) HM.out HS.out).mono ?_
  rintro e X3 ⟨rfl, hr, hk⟩
  have HR3 := Lib.hid hr
  have HZ3 := Lib.hid (HZ2.out.below hk.below (by omega))
  have HB3 := Lib.hid (HB2.out.trans (hk.below.mono (by omega)))
  clear hr hk HR2 HZ2 HB2
  go_wp2_with fail
  refine (rdnext_k 3 HR3.out (HL.out.below HB3.out rfl) HM.out HS.out).mono ?_
  rintro e X4 ⟨rfl, hr, hk⟩
  have HR4 := Lib.hid hr
  have HZ4 := Lib.hid (HZ3.out.below hk.below (by omega))
  have HB4 := Lib.hid (HB3.out.trans (hk.below.mono (by omega)))
  clear hr hk HR3 HZ3 HB3
  go_wp2_with fail
  refine (rdnext_k 4 HR4.out (HL.out.below HB4.out rfl) HM.out HS.out).mono ?_
  rintro e X5 ⟨rfl, hr, hk⟩
  have HR5 := Lib.hid hr
  have HZ5 := Lib.hid (HZ4.out.below hk.below (by omega))
  have HB5 := Lib.hid (HB4.out.trans (hk.below.mono (by omega)))
  clear hr hk HR4 HZ4 HB4
  go_wp2_with fail
  refine (rdnext_k 5 HR5.out (HL.out.below HB5.out rfl) HM.out HS.out).mono ?_
  rintro e X6 ⟨rfl, hr, hk⟩
  have HR6 := Lib.hid hr
  have HZ6 := Lib.hid (HZ5.out.below hk.below (by omega))
  have HB6 := Lib.hid (HB5.out.trans (hk.below.mono (by omega)))
  clear hr hk HR5 HZ5 HB5
  go_wp2_with fail
  refine (rdnext_k 6 HR6.out (HL.out.below HB6.out rfl) HM.out HS.out).mono ?_
  rintro e X7 ⟨rfl, hr, hk⟩
  have HR7 := Lib.hid hr
  have HZ7 := Lib.hid (HZ6.out.below hk.below (by omega))
  have HB7 := Lib.hid (HB6.out.trans (hk.below.mono (by omega)))
  clear hr hk HR6 HZ6 HB6
  go_wp2_with fail
  refine (rdnext_k 7 HR7.out (HL.out.below HB7.out rfl) HM.out HS.out).mono ?_
  rintro e X8 ⟨rfl, hr, hk⟩
  have HR8 := Lib.hid hr
  have HZ8 := Lib.hid (HZ7.out.below hk.below (by omega))
  have HB8 := Lib.hid (HB7.out.trans (hk.below.mono (by omega)))
  clear hr hk HR7 HZ7 HB7
  have HG9 := Lib.hid (HdRow.new X8 .zero none 0 0)
  go_wp2_with (with_reducible refine st_hdr rfl (.tmp 5) (.tmp 27) rfl rfl (hd8 p []) none 0 0 rfl HG9.out ?_)
  have HGL := Lib.hid (show w.heap.size + 1 < X8.heap.size from HR8.out.lt)
  have HG10 := Lib.hid (HdRow.new X8 (hd8 p []) none 0 0)
  have HR10 := Lib.hid (HR8.out.below (co_box1 X8 (boxH (hd8 p []) none 0 0)) HR8.out.lt)
  have HZ10 := Lib.hid (HZ8.out.below (co_box1 X8 (boxH (hd8 p []) none 0 0)) HZ8.out.lt)
  have HB10 := Lib.hid (HB8.out.alloc HB8.out.size (boxH (hd8 p []) none 0 0))
  change Calls Tryd.prog 89 _ (X8.alloc (boxH (hd8 p []) none 0 0)) _
  clear HG9 HR8 HZ8 HB8
  generalize World.alloc X8 _ = Y0 at *
  generalize X8.heap.size = g2 at *
  refine (rdnext_k 8 HR10.out (HL.out.below HB10.out rfl) HM.out HS.out).mono ?_
  rintro e Y1 ⟨rfl, hr, hk⟩
  have HR11 := Lib.hid hr
  have HZ11 := Lib.hid (HZ10.out.rk hk (by omega))
  have HG11 := Lib.hid (HG10.out.rk hk (by have := HGL.out; omega))
  have HB11 := Lib.hid (HB10.out.trans (hk.below.mono (by omega)))
  have HO11 : Hid (HdOw Y1 (g2 + 1) (hd8 p []) none 0 0) := Lib.hid ⟨Of.nil _ _ _ _ _, rfl⟩
  have H9 := Lib.hid (show dec9 p = entsU p (nxI p (nk p 8)).toNat (nk p 9) from rfl)
  have HK9 := Lib.hid (show (nk p 9).2 = false → 0 ≤ (nk p 9).1 ∧ (nk p 9).1 ≤ p.length from fun h => by
    have e : nk p 9 = nsI p (nk p 8) := nk_succ p 8
    rw [e] at h ⊢
    obtain ⟨-, h1, h2, h3⟩ := nsI_ok h
    omega)
  obtain ⟨hn0, hn1⟩ := show 0 ≤ nxI p (nk p 8) ∧ nxI p (nk p 8) ≤ 1125899906842624 from by unfold nxI; exact nxtU_in
  obtain ⟨N, hN⟩ := Int.eq_ofNat_of_zero_le hn0
  rw [hN] at hn1 H9 ⊢
  rw [Int.toNat_natCast] at H9
  clear hr hk HR10 HZ10 HG10 HB10 hn0 hN
  change Hid (RdRow Y1 (w.heap.size + 1) pd m pcap (nk p 9).1 (nk p 9).2) at HR11
  generalize nk p 9 = s9 at *

  generalize dec9 p = D9 at *
  go_upto_block 0 with fail
  go_cut [7] from 30 to 57 (fun s7 wx => ∃ (s : Int × Bool) (E : List Ent) (ad : Option Addr) (cap : Nat), Hid (D9 = (E, s)) ∧ Hid (E.length ≤ p.length + 1) ∧ Hid (RdRow wx (w.heap.size + 1) pd m pcap s.1 s.2) ∧ Hid (HdRow wx g2 (hd8 p E) ad E.length cap) ∧ Hid (HdOw wx (g2 + 1) (hd8 p E) ad E.length cap) ∧ Hid (∀ e ∈ E, e.s < 4294967296) ∧ Hid (HdRow wx w.heap.size .zero none 0 0) ∧ Hid (Below w.heap.size w wx))
  case first =>
    go_wp2_with fail
    go_loopg [7] N (fun gk v7 wx => ∃ (i : Nat) (s : Int × Bool) (E : List Ent) (ad : Option Addr) (cap : Nat), v7 = .int .i64 i ∧ i + gk = N ∧ Hid (D9 = (E ++ (entsU p gk s).1, (entsU p gk s).2)) ∧ Hid (s.2 = false → (E.length : Int) ≤ s.1 ∧ s.1 ≤ p.length) ∧ Hid (E.length ≤ p.length + 1) ∧ Hid (RdRow wx (w.heap.size + 1) pd m pcap s.1 s.2) ∧ Hid (HdRow wx g2 (hd8 p E) ad E.length cap) ∧ Hid (HdOw wx (g2 + 1) (hd8 p E) ad E.length cap) ∧ Hid (∀ e ∈ E, e.s < 4294967296) ∧ Hid (HdRow wx w.heap.size .zero none 0 0) ∧ Hid (Below w.heap.size w wx))
    case atStart => exact ⟨0, s9, [], none, 0, rfl, by omega, by simpa using H9, by simpa using HK9, Lib.hid (by simp), HR11, HG11, HO11, Lib.hid (by simp), HZ11, HB11⟩
    case round =>
      obtain ⟨i, ⟨A, b⟩, E, ad, cap, rfl, hi, HD, HA, HE, HR, HG, HO, HEs, HZ, HB⟩ := hrel
      dsimp only at HD HA HR
      clear HR11 HG11 HO11 HZ11 HB11 H9 HK9
      obtain ⟨c0, c1, c2⟩ := HR.out.at_
      cases gk with
      | zero =>
        obtain rfl : i = N := by omega
        go_wp2
        go_meet
        case rel => exact ⟨(A, b), E, ad, cap, Lib.hid (by rw [HD.out]; unfold entsU; simp), HE, HR, HG, HO, HEs, HZ, HB⟩
      | succ gk0 =>
        have hiN : i < N := by omega
        cases b
        rotate_left
        · go_wp2
          go_meet
          case rel => exact ⟨(A, true), E, ad, cap, Lib.hid (by rw [HD.out, entsU_bad]; simp), HE, HR, HG, HO, HEs, HZ, HB⟩
        have HD2 := Lib.hid (HD.out.trans (by rw [entsU_good]))
        have HX2 := Lib.hid (@entU_ok p (A, false))
        have HEQ := Lib.hid (entU_eq p (A, false))
        have HBX := Lib.hid (Below.refl wr.heap.size wr).drew
        have HR0 := Lib.hid (HR.out.below HBX.out HR.out.lt)
        have HG0 := Lib.hid (HG.out.below HBX.out HG.out.lt)
        have HO0 := Lib.hid (HO.out.below HBX.out)
        have HZ0 := Lib.hid (HZ.out.below HBX.out HZ.out.lt)
        have HB0 := Lib.hid (HB.out.trans (HBX.out.mono HB.out.size))
        have hg2 := HGL.out
        clear HR HG HO HZ HB HD HBX
        go_wp2_with fail
        clear c0 c1 c2
        refine wp_region_noPanic ?_
        refine region_untl (by kernel_rfl) 16 ((fun X => HdRow X g2 (hd8 p E) ad E.length cap)) (HG0.out) (fun hS0 => ?_)
        generalize World.drew wr = X0 at *
        refine untl_take (i := 0) 0 (v := ?_) rfl (by kernel_rfl) (by kernel_rfl) (by kernel_rfl) (by kernel_rfl) (by kernel_rfl) (by rfl) (by rfl) (by rfl) (fun _ _ _ h => h) (by rfl) ?_ (by assumption) ?_
        rotate_left
        · intro X hSX
          try dsimp only at hSX
          go_simp <;> with_reducible rfl
        simp only [Act.put, List.setIfInBounds_toArray, List.set_cons_zero, List.set_cons_succ]
        refine untl_take (i := 1) 1 (v := ?_) rfl (by kernel_rfl) (by kernel_rfl) (by kernel_rfl) (by kernel_rfl) (by kernel_rfl) (by rfl) (by rfl) (by rfl) (fun _ _ _ h => h) (by rfl) ?_ (by assumption) ?_
        rotate_left
        · intro X hSX
          try dsimp only at hSX
          obtain ⟨-, d0, d1, d2, d3, d4, d5, d6, d7, d8, d9, d10⟩ := hSX.at_
          go_simp <;> with_reducible rfl
        simp only [Act.put, List.setIfInBounds_toArray, List.set_cons_zero, List.set_cons_succ]
        refine untl_take (i := 2) 2 (v := ?_) rfl (by kernel_rfl) (by kernel_rfl) (by kernel_rfl) (by kernel_rfl) (by kernel_rfl) (by rfl) (by rfl) (by rfl) (fun _ _ _ h => h) (by rfl) ?_ (by assumption) ?_
        rotate_left
        · intro X hSX
          try dsimp only at hSX
          go_simp <;> with_reducible rfl
        simp only [Act.put, List.setIfInBounds_toArray, List.set_cons_zero, List.set_cons_succ]
        refine untl_take (i := 4) 4 (v := ?_) rfl (by kernel_rfl) (by kernel_rfl) (by kernel_rfl) (by kernel_rfl) (by kernel_rfl) (by rfl) (by rfl) (by rfl) (fun _ _ _ h => h) (by rfl) ?_ (by assumption) ?_
        rotate_left
        · intro X hSX
          try dsimp only at hSX
          go_simp <;> with_reducible rfl
        simp only [Act.put, List.setIfInBounds_toArray, List.set_cons_zero, List.set_cons_succ]
        refine untl_take (i := 6) 6 (v := ?_) rfl (by kernel_rfl) (by kernel_rfl) (by kernel_rfl) (by kernel_rfl) (by kernel_rfl) (by rfl) (by rfl) (by rfl) (fun _ _ _ h => h) (by rfl) ?_ (by assumption) ?_
        rotate_left
        · intro X hSX
          try dsimp only at hSX
          go_simp <;> with_reducible rfl
        simp only [Act.put, List.setIfInBounds_toArray, List.set_cons_zero, List.set_cons_succ]
        refine untl_take (i := 8) 8 (v := ?_) rfl (by kernel_rfl) (by kernel_rfl) (by kernel_rfl) (by kernel_rfl) (by kernel_rfl) (by rfl) (by rfl) (by rfl) (fun _ _ _ h => h) (by rfl) ?_ (by assumption) ?_
        rotate_left
        · intro X hSX
          try dsimp only at hSX
          go_simp <;> with_reducible rfl
        simp only [Act.put, List.setIfInBounds_toArray, List.set_cons_zero, List.set_cons_succ]
        refine untl_take (i := 10) 10 (v := ?_) rfl (by kernel_rfl) (by kernel_rfl) (by kernel_rfl) (by kernel_rfl) (by kernel_rfl) (by rfl) (by rfl) (by rfl) (fun _ _ _ h => h) (by rfl) ?_ (by assumption) ?_
        rotate_left
        · intro X hSX
          try dsimp only at hSX
          go_simp <;> with_reducible rfl
        simp only [Act.put, List.setIfInBounds_toArray, List.set_cons_zero, List.set_cons_succ]
        refine untl_call (i := 3) rfl (by kernel_rfl) (by rfl) (fun K' hK' => ?_)
        go_simp
        refine (rdnext_s (A, false) HR0.out (HL.out.below HB0.out rfl) HM.out HS.out).mono ?_
        rintro e X1 ⟨rfl, hr, hk⟩
        have HR1 := Lib.hid hr
        have HG1 := Lib.hid (HG0.out.rk hk (by omega))
        have HO1 := Lib.hid (HO0.out.rk hk (by omega))
        have HZ1 := Lib.hid (HZ0.out.rk hk (by omega))
        have HB1 := Lib.hid (HB0.out.trans (hk.below.mono (by omega)))
        clear hr hk HR0 HG0 HO0 HZ0 HB0 hS0
        refine untl_go hK' (fun _ => HG1.out) ?_
        try simp only [Act.put, List.setIfInBounds_toArray, List.set_cons_zero, List.set_cons_succ]
        refine untl_call (i := 5) rfl (by kernel_rfl) (by rfl) (fun K' hK' => ?_)
        go_simp
        refine (rdnext_s (nsI p (A, false)) HR1.out (HL.out.below HB1.out rfl) HM.out HS.out).mono ?_
        rintro e X2 ⟨rfl, hr, hk⟩
        have HR2 := Lib.hid hr
        have HG2 := Lib.hid (HG1.out.rk hk (by omega))
        have HO2 := Lib.hid (HO1.out.rk hk (by omega))
        have HZ2 := Lib.hid (HZ1.out.rk hk (by omega))
        have HB2 := Lib.hid (HB1.out.trans (hk.below.mono (by omega)))
        clear hr hk HR1 HG1 HO1 HZ1 HB1
        refine untl_go hK' (fun _ => HG2.out) ?_
        try simp only [Act.put, List.setIfInBounds_toArray, List.set_cons_zero, List.set_cons_succ]
        refine untl_call (i := 7) rfl (by kernel_rfl) (by rfl) (fun K' hK' => ?_)
        go_simp
        refine (rdnext_s (nsI p (nsI p (A, false))) HR2.out (HL.out.below HB2.out rfl) HM.out HS.out).mono ?_
        rintro e X3 ⟨rfl, hr, hk⟩
        have HR3 := Lib.hid hr
        have HG3 := Lib.hid (HG2.out.rk hk (by omega))
        have HO3 := Lib.hid (HO2.out.rk hk (by omega))
        have HZ3 := Lib.hid (HZ2.out.rk hk (by omega))
        have HB3 := Lib.hid (HB2.out.trans (hk.below.mono (by omega)))
        clear hr hk HR2 HG2 HO2 HZ2 HB2
        refine untl_go hK' (fun _ => HG3.out) ?_
        try simp only [Act.put, List.setIfInBounds_toArray, List.set_cons_zero, List.set_cons_succ]
        refine untl_call (i := 9) rfl (by kernel_rfl) (by rfl) (fun K' hK' => ?_)
        go_simp
        refine (rdnext_s (nsI p (nsI p (nsI p (A, false)))) HR3.out (HL.out.below HB3.out rfl) HM.out HS.out).mono ?_
        rintro e X4 ⟨rfl, hr, hk⟩
        have HR4 := Lib.hid hr
        have HG4 := Lib.hid (HG3.out.rk hk (by omega))
        have HO4 := Lib.hid (HO3.out.rk hk (by omega))
        have HZ4 := Lib.hid (HZ3.out.rk hk (by omega))
        have HB4 := Lib.hid (HB3.out.trans (hk.below.mono (by omega)))
        clear hr hk HR3 HG3 HO3 HZ3 HB3
        refine untl_go hK' (fun _ => HG4.out) ?_
        try simp only [Act.put, List.setIfInBounds_toArray, List.set_cons_zero, List.set_cons_succ]
        refine untl_call (i := 11) rfl (by kernel_rfl) (by rfl) (fun K' hK' => ?_)
        go_simp
        refine (rdsum_any _ pd m pcap p _ _ _ HR4.out (HL.out.below HB4.out rfl) HM.out HS.out).mono ?_
        rintro e X5 ⟨rfl, hr, hk⟩
        have HR5 := Lib.hid hr
        have HG5 := Lib.hid (HG4.out.rk hk (by omega))
        have HO5 := Lib.hid (HO4.out.rk hk (by omega))
        have HZ5 := Lib.hid (HZ4.out.rk hk (by omega))
        have HB5 := Lib.hid (HB4.out.trans (hk.below.mono (by omega)))
        clear hr hk HR4 HG4 HO4 HZ4 HB4
        have hs5 := HG5.out
        refine untl_go hK' (fun _ => HG5.out) ?_
        try simp only [Act.put, List.setIfInBounds_toArray, List.set_cons_zero, List.set_cons_succ]
        refine untl_take (i := 12) 12 (v := ?_) rfl (by kernel_rfl) (by kernel_rfl) (by kernel_rfl) (by kernel_rfl) (by kernel_rfl) (by rfl) (by rfl) (by rfl) (fun _ _ _ h => h) (by rfl) ?_ (by assumption) ?_
        rotate_left
        · intro X hSX
          try dsimp only at hSX
          go_simp <;> with_reducible rfl
        simp only [Act.put, List.setIfInBounds_toArray, List.set_cons_zero, List.set_cons_succ]
        refine untl_call (i := 13) rfl (by kernel_rfl) (by rfl) (fun K' hK' => ?_)
        go_simp
        obtain ⟨o, ho⟩ : ∃ o : Obj, o = .cells #[.int .i64 (nxI p (A, false)), .int .i64 (nxI p (nsI p (A, false))), .int .i64 (nxI p (nsI p (nsI p (A, false)))), .int .i64 (nxI p (nsI p (nsI p (nsI p (A, false))))), .int .u32 ((cksU p (nsI p (nsI p (nsI p (nsI p (A, false))))).1 (nsI p (nsI p (nsI p (nsI p (A, false))))).2).1 : Int)] 54 := ⟨_, rfl⟩
        obtain ⟨x, hx⟩ : ∃ x : Ent, x = ⟨nxI p (A, false), nxI p (nsI p (A, false)), nxI p (nsI p (nsI p (A, false))), nxI p (nsI p (nsI p (nsI p (A, false)))), (cksU p (nsI p (nsI p (nsI p (nsI p (A, false))))).1 (nsI p (nsI p (nsI p (nsI p (A, false))))).2).1⟩ := ⟨_, rfl⟩
        have HLF : Hid (Lf enC (X5.alloc o) (some ⟨X5.heap.size, 0, none⟩) [x]) := Lib.hid (by rw [ho, hx]; exact Lf.lits X5 _ _ (by rfl) _ rfl)
        have HXE := Lib.hid hx
        have HR6 := Lib.hid (HR5.out.below (co_box1 X5 o) HR5.out.lt)
        have HG6 := Lib.hid (HG5.out.below (co_box1 X5 o) HG5.out.lt)
        have HO6 := Lib.hid (HO5.out.below (co_box1 X5 o))
        have HZ6 := Lib.hid (HZ5.out.below (co_box1 X5 o) HZ5.out.lt)
        have HB6 := Lib.hid (HB5.out.alloc HB5.out.size o)
        rw [← ho]
        have HSZ6 := Lib.hid (show g2 + 1 ≤ (X5.alloc o).heap.size from HG6.out.lt)
        clear ho hx HR5 HG5 HO5 HZ5 HB5 hs5
        generalize World.alloc X5 o = X6 at *
        generalize X5.heap.size = gz at *
        refine untl_go hK' (fun _ => HG6.out) ?_
        try simp only [Act.put, List.setIfInBounds_toArray, List.set_cons_zero, List.set_cons_succ]
        have hA := HA.out (by simp)
        have hS := HS.out
        have hel : E.length + 1 ≤ 10000000 := by omega
        obtain ⟨E2, hE2⟩ : ∃ E2, E2 = E ++ [x] := ⟨_, rfl⟩
        refine untl_call (i := 14) rfl (by kernel_rfl) (by rfl) (fun K' hK' => ?_)
        refine oper_of_list (ops := #[]) (by unfold Region.wanted; rfl) (wpList_append_f typE celE rfl (.tmp 43) (.tmp 55) rfl (g2 + 1) _ E rfl HO6.out.own (some ⟨gz, 0, none⟩) 1 1 [x] (fun h => by cases h) HLF.out rfl rfl hel HSZ6.out (fun v2 w2 ho2 hg2 => onlyN_end ?_))
        have hb7 : Below (g2 + 1) X6 w2 := (Below.refl (g2 + 1) X6).grown hg2 HSZ6.out (fun k hk => (HO6.out.own.lt k hk).1)
        rw [← hE2] at ho2
        have HE2 := Lib.hid hE2
        obtain ⟨ad2, cap2, rfl, -⟩ := ho2.read
        have HO7 : Hid (HdOw w2 (g2 + 1) (hd8 p E2) ad2 E2.length cap2) := Lib.hid ⟨ho2, rfl⟩
        have HR7 := Lib.hid (HR6.out.below hb7 (by omega))
        have HG7 := Lib.hid (HG6.out.below hb7 (by omega))
        have HZ7 := Lib.hid (HZ6.out.below hb7 (by omega))
        have HB7 := Lib.hid (HB6.out.trans (hb7.mono (by omega)))
        clear ho2 hg2 hb7 hE2 HR6 HG6 HO6 HZ6 HB6
        refine untl_go hK' (fun _ => HG7.out) ?_
        try simp only [Act.put, List.setIfInBounds_toArray, List.set_cons_zero, List.set_cons_succ]
        have hs7 := HG7.out
        refine untl_take (i := 15) 15 (v := ?_) rfl (by kernel_rfl) (by kernel_rfl) (by kernel_rfl) (by kernel_rfl) (by kernel_rfl) (by rfl) (by rfl) (by rfl) (fun _ _ _ h => h) (by rfl) ?_ (by assumption) ?_
        rotate_left
        · intro X hSX
          try dsimp only at hSX
          go_simp <;> with_reducible rfl
        simp only [Act.put, List.setIfInBounds_toArray, List.set_cons_zero, List.set_cons_succ]
        obtain ⟨-, d0, d1, d2, d3, d4, d5, d6, d7, d8, d9, d10⟩ := HG7.out.at_
        have f8 := HG7.out.frozen 8
        refine untl_call (i := 16) rfl (by kernel_rfl) (by rfl) (fun K' hK' => ?_)
        go_simp
        have HR8 : Hid (RdRow (w2.setCell ⟨g2, 8, none⟩ (.slice ad2 E2.length cap2)) (w.heap.size + 1) pd m pcap (cksU p (nsI p (nsI p (nsI p (nsI p (A, false))))).1 (nsI p (nsI p (nsI p (nsI p (A, false))))).2).2.1 (cksU p (nsI p (nsI p (nsI p (nsI p (A, false))))).1 (nsI p (nsI p (nsI p (nsI p (A, false))))).2).2.2) := Lib.hid ((Below.heap_setCell _ _ _ _ (by show w.heap.size + 1 ≠ g2; omega)).trans HR7.out)
        have HG8 : Hid (HdRow (w2.setCell ⟨g2, 8, none⟩ (.slice ad2 E2.length cap2)) g2 (hd8 p E2) ad2 E2.length cap2) := Lib.hid (HG7.out.setE E2 ad2 E2.length cap2)
        have HO8 := Lib.hid (HO7.out.cell (k := g2) (by omega) 8 (.slice ad2 E2.length cap2))
        have HZ8 := Lib.hid (HZ7.out.other (k := g2) (by omega) 8 (.slice ad2 E2.length cap2))
        have HB8 := Lib.hid (HB7.out.setCell (p := ⟨g2, 8, none⟩) (by show w.heap.size ≤ g2; omega) (.slice ad2 E2.length cap2))
        have HD3 : Hid (D9 = (E2 ++ (entsU p gk0 (cksU p (nsI p (nsI p (nsI p (nsI p (A, false))))).1 (nsI p (nsI p (nsI p (nsI p (A, false))))).2).2).1, (entsU p gk0 (cksU p (nsI p (nsI p (nsI p (nsI p (A, false))))).1 (nsI p (nsI p (nsI p (nsI p (A, false))))).2).2).2)) := Lib.hid (by rw [HD2.out, HEQ.out, HE2.out, HXE.out, List.append_assoc]; rfl)
        have HA2 : Hid ((cksU p (nsI p (nsI p (nsI p (nsI p (A, false))))).1 (nsI p (nsI p (nsI p (nsI p (A, false))))).2).2.2 = false → (E2.length : Int) ≤ (cksU p (nsI p (nsI p (nsI p (nsI p (A, false))))).1 (nsI p (nsI p (nsI p (nsI p (A, false))))).2).2.1 ∧ (cksU p (nsI p (nsI p (nsI p (nsI p (A, false))))).1 (nsI p (nsI p (nsI p (nsI p (A, false))))).2).2.1 ≤ p.length) := Lib.hid (fun h => by
          have h2 := HX2.out
          rw [HEQ.out] at h2
          obtain ⟨-, -, h3, h4⟩ := h2 h
          dsimp only at h3 h4
          rw [HE2.out, List.length_append]
          simp only [List.length_singleton]
          omega)
        have HL2 : Hid (E2.length ≤ p.length + 1) := Lib.hid (by rw [HE2.out, List.length_append]; simp only [List.length_singleton]; omega)
        have HE3 : Hid (∀ e ∈ E2, e.s < 4294967296) := Lib.hid (fun e he => by
          rw [HE2.out] at he
          rcases List.mem_append.1 he with h | h
          · exact HEs.out e h
          · rw [List.mem_singleton.1 h, HXE.out]; exact cksU_lt)
        clear d0 d1 d2 d3 d4 d5 d6 d7 d8 d9 d10 f8 hs7
        refine untl_go hK' (fun h => by cases h) ?_
        try simp only [Act.put, List.setIfInBounds_toArray, List.set_cons_zero, List.set_cons_succ]
        refine untl_past _ _ _ _ (by rfl) ?_
        have hS0 : True := trivial
        refine wpAnyH_done (by kernel_rfl) ?_ _
        refine NoPanic.normal ?_
        go_wp2_with fail
        go_roundg gk0
        case rel => exact ⟨i + 1, (cksU p (nsI p (nsI p (nsI p (nsI p (A, false))))).1 (nsI p (nsI p (nsI p (nsI p (A, false))))).2).2, E2, ad2, cap2, by go_num, by omega, HD3, HA2, HL2, HR8, HG8, HO8, HE3, HZ8, HB8⟩
        case measure => omega
  case rest =>
    obtain ⟨s, E, ad, cap, HD, HE, HR, HG, HO, HEs, HZ, HB⟩ := hcut
    have HRR : Hid (decU p = okD p (fin9 p E s) (cksU p (nsI p s).1 (nsI p s).2).2) := Lib.hid (by rw [HDU.out, HD.out])
    have hg2 := HGL.out
    clear HDU HD HE HR11 HG11 HO11 HZ11 HB11 H9 HK9
    go_wp2_with fail
    refine (rdnext_s s HR.out (HL.out.below HB.out rfl) HM.out HS.out).mono ?_
    rintro e Z1 ⟨rfl, hr, hk⟩
    have HR1 := Lib.hid hr
    have HG1 := Lib.hid (HG.out.rk hk (by omega))
    have HO1 := Lib.hid (HO.out.rk hk (by omega))
    have HZ1 := Lib.hid (HZ.out.rk hk (by omega))
    have HB1 := Lib.hid (HB.out.trans (hk.below.mono (by omega)))
    clear hr hk HR HG HO HZ HB
    have c9 := HG1.out.at_.c9
    have f9 := HG1.out.frozen 9
    go_wp2_with fail
    have HR2 : Hid (RdRow (Z1.setCell ⟨g2, 9, none⟩ (.int .i64 (nxI p s))) (w.heap.size + 1) pd m pcap (nsI p s).1 (nsI p s).2) := Lib.hid ((Below.heap_setCell _ _ _ _ (by show w.heap.size + 1 ≠ g2; omega)).trans HR1.out)
    have HG2 := Lib.hid (HG1.out.setZ (nxI p s))
    have HO2 := Lib.hid (HO1.out.cell (k := g2) (by omega) 9 (.int .i64 (nxI p s)))
    have HZ2 := Lib.hid (HZ1.out.other (k := g2) (by omega) 9 (.int .i64 (nxI p s)))
    have HB2 := Lib.hid (HB1.out.setCell (p := ⟨g2, 9, none⟩) (by show w.heap.size ≤ g2; omega) (.int .i64 (nxI p s)))
    clear c9 f9 HR1 HG1 HO1 HZ1 HB1
    generalize World.setCell _ _ _ = Z2 at *
    refine (rdsum_any _ pd m pcap p _ _ _ HR2.out (HL.out.below HB2.out rfl) HM.out HS.out).mono ?_
    rintro e Z3 ⟨rfl, hr, hk⟩
    have HR3 := Lib.hid hr
    have HG3 := Lib.hid (HG2.out.rk hk (by omega))
    have HO3 := Lib.hid (HO2.out.rk hk (by omega))
    have HZ3 := Lib.hid (HZ2.out.rk hk (by omega))
    have HB3 := Lib.hid (HB2.out.trans (hk.below.mono (by omega)))
    clear hr hk HR2 HG2 HO2 HZ2 HB2
    have c10 := HG3.out.at_.c10
    have f10 := HG3.out.frozen 10
    have HR4 : Hid (RdRow (Z3.setCell ⟨g2, 10, none⟩ (.int .u32 ((cksU p (nsI p s).1 (nsI p s).2).1 : Int))) (w.heap.size + 1) pd m pcap (cksU p (nsI p s).1 (nsI p s).2).2.1 (cksU p (nsI p s).1 (nsI p s).2).2.2) := Lib.hid ((Below.heap_setCell _ _ _ _ (by show w.heap.size + 1 ≠ g2; omega)).trans HR3.out)
    have HG4 : Hid (HdRow (Z3.setCell ⟨g2, 10, none⟩ (.int .u32 ((cksU p (nsI p s).1 (nsI p s).2).1 : Int))) g2 (fin9 p E s) ad E.length cap) := Lib.hid (HG3.out.setS (cksU p (nsI p s).1 (nsI p s).2).1)
    have ho4 := HO3.out.cell (k := g2) (by omega) 10 (.int .u32 ((cksU p (nsI p s).1 (nsI p s).2).1 : Int))
    have HO4 : Hid (HdOw (Z3.setCell ⟨g2, 10, none⟩ (.int .u32 ((cksU p (nsI p s).1 (nsI p s).2).1 : Int))) (g2 + 1) (fin9 p E s) ad E.length cap) := Lib.hid ⟨ho4.own, ho4.len⟩
    have HZ4 := Lib.hid (HZ3.out.other (k := g2) (by omega) 10 (.int .u32 ((cksU p (nsI p s).1 (nsI p s).2).1 : Int)))
    have HB4 := Lib.hid (HB3.out.setCell (p := ⟨g2, 10, none⟩) (by show w.heap.size ≤ g2; omega) (.int .u32 ((cksU p (nsI p s).1 (nsI p s).2).1 : Int)))
    have HSG : Hid (∀ e ∈ (fin9 p E s).es, e.s < 4294967296) := Lib.hid HEs.out
    go_wp2_with fail
    clear c10 f10 HR3 HG3 HO3 HZ3 HB3 ho4 HEs
    generalize World.setCell _ _ _ = Z4 at *
    have HNL : Hid (E.length = (fin9 p E s).es.length) := Lib.hid rfl
    generalize fin9 p E s = G at *
    rcases hF : (cksU p (nsI p s).1 (nsI p s).2) with ⟨M, Q, b⟩
    rw [hF] at HR4 HRR
    clear hF
    dsimp only at HR4 HRR
    have HBX := Lib.hid (Below.refl Z4.heap.size Z4).drew
    have HR5 := Lib.hid (HR4.out.below HBX.out HR4.out.lt)
    have HG5 := Lib.hid (HG4.out.below HBX.out HG4.out.lt)
    have HO5 := Lib.hid (HO4.out.below HBX.out)
    have HZ5 := Lib.hid (HZ4.out.below HBX.out HZ4.out.lt)
    have HB5 := Lib.hid (HB4.out.trans (HBX.out.mono HB4.out.size))
    clear HR4 HG4 HO4 HZ4 HB4 HBX
    by_cases hbad : b = true
    · subst hbad
      have HV : Hid (decU p = (G, false)) := Lib.hid HRR.out
      refine wp_region_noPanic ?_
      refine wp_region_held_drew (S := (fun X => HdRow X g2 G ad E.length cap ∧ RdRow X (w.heap.size + 1) pd m pcap Q true)) (by kernel_rfl) (⟨HG5.out, HR5.out⟩) (fun hS0 => ?_)
      generalize World.drew Z4 = Z5 at *
      refine held_take (i := 0) (v := ?_) rfl (by kernel_rfl) (by kernel_rfl) (by kernel_rfl) (fun _ _ _ h => h) (by rfl) ?_ (by assumption) ?_
      rotate_left
      · intro X hSX
        try dsimp only at hSX
        obtain ⟨-, d0, d1, d2, d3, d4, d5, d6, d7, d8, d9, d10⟩ := hSX.1.at_
        go_simp <;> with_reducible rfl
      simp only [Act.put, List.setIfInBounds_toArray, List.set_cons_zero, List.set_cons_succ]
      refine held_take (i := 1) (v := ?_) rfl (by kernel_rfl) (by kernel_rfl) (by kernel_rfl) (fun _ _ _ h => h) (by rfl) ?_ (by assumption) ?_
      rotate_left
      · intro X hSX
        try dsimp only at hSX
        go_simp <;> with_reducible rfl
      simp only [Act.put, List.setIfInBounds_toArray, List.set_cons_zero, List.set_cons_succ]
      refine held_take (i := 2) (v := ?_) rfl (by kernel_rfl) (by kernel_rfl) (by kernel_rfl) (fun _ _ _ h => h) (by rfl) ?_ (by assumption) ?_
      rotate_left
      · intro X hSX
        try dsimp only at hSX
        go_simp <;> with_reducible rfl
      simp only [Act.put, List.setIfInBounds_toArray, List.set_cons_zero, List.set_cons_succ]
      refine held_take (i := 3) (v := ?_) rfl (by kernel_rfl) (by kernel_rfl) (by kernel_rfl) (fun _ _ _ h => h) (by rfl) ?_ (by assumption) ?_
      rotate_left
      · intro X hSX
        try dsimp only at hSX
        go_simp <;> with_reducible rfl
      simp only [Act.put, List.setIfInBounds_toArray, List.set_cons_zero, List.set_cons_succ]
      refine held_take (i := 4) (v := ?_) rfl (by kernel_rfl) (by kernel_rfl) (by kernel_rfl) (fun _ _ _ h => h) (by rfl) ?_ (by assumption) ?_
      rotate_left
      · intro X hSX
        try dsimp only at hSX
        obtain ⟨d0, d1, d2⟩ := hSX.2.at_
        go_simp <;> with_reducible rfl
      simp only [Act.put, List.setIfInBounds_toArray, List.set_cons_zero, List.set_cons_succ]
      refine held_take (i := 5) (v := ?_) rfl (by kernel_rfl) (by kernel_rfl) (by kernel_rfl) (fun _ _ _ h => h) (by rfl) ?_ (by assumption) ?_
      rotate_left
      · intro X hSX
        try dsimp only at hSX
        go_simp <;> with_reducible rfl
      simp only [Act.put, List.setIfInBounds_toArray, List.set_cons_zero, List.set_cons_succ]
      refine held_take (i := 6) (v := ?_) rfl (by kernel_rfl) (by kernel_rfl) (by kernel_rfl) (fun _ _ _ h => h) (by rfl) ?_ (by assumption) ?_
      rotate_left
      · intro X hSX
        try dsimp only at hSX
        go_simp <;> with_reducible rfl
      simp only [Act.put, List.setIfInBounds_toArray, List.set_cons_zero, List.set_cons_succ]
      refine held_skip (i := 7) rfl (by kernel_rfl) (by kernel_rfl) (by kernel_rfl) (fun _ _ _ h => h) (by rfl) (by assumption) ?_
      simp only [Act.put, List.setIfInBounds_toArray, List.set_cons_zero, List.set_cons_succ]
      refine held_skip (i := 8) rfl (by kernel_rfl) (by kernel_rfl) (by kernel_rfl) (fun _ _ _ h => h) (by rfl) (by assumption) ?_
      simp only [Act.put, List.setIfInBounds_toArray, List.set_cons_zero, List.set_cons_succ]
      refine held_skip (i := 9) rfl (by kernel_rfl) (by kernel_rfl) (by kernel_rfl) (fun _ _ _ h => h) (by rfl) (by assumption) ?_
      simp only [Act.put, List.setIfInBounds_toArray, List.set_cons_zero, List.set_cons_succ]
      refine held_skip (i := 10) rfl (by kernel_rfl) (by kernel_rfl) (by kernel_rfl) (fun _ _ _ h => h) (by rfl) (by assumption) ?_
      simp only [Act.put, List.setIfInBounds_toArray, List.set_cons_zero, List.set_cons_succ]
      refine held_skip (i := 11) rfl (by kernel_rfl) (by kernel_rfl) (by kernel_rfl) (fun _ _ _ h => h) (by rfl) (by assumption) ?_
      simp only [Act.put, List.setIfInBounds_toArray, List.set_cons_zero, List.set_cons_succ]
      refine held_skip (i := 12) rfl (by kernel_rfl) (by kernel_rfl) (by kernel_rfl) (fun _ _ _ h => h) (by rfl) (by assumption) ?_
      simp only [Act.put, List.setIfInBounds_toArray, List.set_cons_zero, List.set_cons_succ]
      refine held_skip (i := 13) rfl (by kernel_rfl) (by kernel_rfl) (by kernel_rfl) (fun _ _ _ h => h) (by rfl) (by assumption) ?_
      simp only [Act.put, List.setIfInBounds_toArray, List.set_cons_zero, List.set_cons_succ]
      refine held_take (i := 14) (v := ?_) rfl (by kernel_rfl) (by kernel_rfl) (by kernel_rfl) (fun _ _ _ h => h) (by rfl) ?_ (by assumption) ?_
      rotate_left
      · intro X hSX
        try dsimp only at hSX
        go_simp <;> with_reducible rfl
      simp only [Act.put, List.setIfInBounds_toArray, List.set_cons_zero, List.set_cons_succ]
      refine held_take (i := 15) (v := ?_) rfl (by kernel_rfl) (by kernel_rfl) (by kernel_rfl) (fun _ _ _ h => h) (by rfl) ?_ (by assumption) ?_
      rotate_left
      · intro X hSX
        try dsimp only at hSX
        go_simp <;> with_reducible rfl
      simp only [Act.put, List.setIfInBounds_toArray, List.set_cons_zero, List.set_cons_succ]
      refine held_skip (i := 16) rfl (by kernel_rfl) (by kernel_rfl) (by kernel_rfl) (fun _ _ _ h => h) (by rfl) (by assumption) ?_
      simp only [Act.put, List.setIfInBounds_toArray, List.set_cons_zero, List.set_cons_succ]
      refine held_skip (i := 17) rfl (by kernel_rfl) (by kernel_rfl) (by kernel_rfl) (fun _ _ _ h => h) (by rfl) (by assumption) ?_
      simp only [Act.put, List.setIfInBounds_toArray, List.set_cons_zero, List.set_cons_succ]
      refine held_take (i := 18) (v := ?_) rfl (by kernel_rfl) (by kernel_rfl) (by kernel_rfl) (fun _ _ _ h => h) (by rfl) ?_ (by assumption) ?_
      rotate_left
      · intro X hSX
        try dsimp only at hSX
        go_simp <;> with_reducible rfl
      simp only [Act.put, List.setIfInBounds_toArray, List.set_cons_zero, List.set_cons_succ]
      have HP := Lib.hid (HZ5.out.put G ad E.length cap)
      have HOP := Lib.hid (HO5.out.row (k := w.heap.size) (by omega) (hdC G ad E.length cap))
      have HBP := Lib.hid (below_set HB5.out (Nat.le_refl w.heap.size) (hdC G ad E.length cap))
      have HS9 : Hid (HdRow (World.setRow Z5 w.heap.size (hdC G ad E.length cap)) g2 G ad E.length cap ∧ RdRow (World.setRow Z5 w.heap.size (hdC G ad E.length cap)) (w.heap.size + 1) pd m pcap Q true) := Lib.hid ⟨HG5.out.putOther (by omega) _, (setRow_other _ _ _ _ (by omega)).trans HR5.out⟩
      refine held_call (i := 19) rfl (by kernel_rfl) (by rfl) (fun K' hK' => ?_)
      refine oper_of_list (ops := #[]) (by unfold Region.wanted; rfl) (st_hdr rfl (.tmp 2) (.tmp 64) rfl rfl G ad E.length cap rfl HZ5.out (onlyN_end ?_))
      have hs9 := HS9.out
      refine held_go hK' (hs9) ?_
      try simp only [Act.put, List.setIfInBounds_toArray, List.set_cons_zero, List.set_cons_succ]
      refine held_take (i := 20) (v := ?_) rfl (by kernel_rfl) (by kernel_rfl) (by kernel_rfl) (fun _ _ _ h => h) (by rfl) ?_ (by assumption) ?_
      rotate_left
      · intro X hSX
        try dsimp only at hSX
        go_simp <;> with_reducible rfl
      simp only [Act.put, List.setIfInBounds_toArray, List.set_cons_zero, List.set_cons_succ]
      refine wpAnyH_done (by kernel_rfl) ?_ _
      refine NoPanic.normal ?_
      go_wp2_with fail
      refine post_cell2 (cs := hdC G ad E.length cap) (x := .bool false) rfl rfl HP.out.row Tryd.underlying25 rfl infoHd rfl rfl ?_
      have hln := HNL.out
      exact ⟨ad, cap, by rw [HV.out]; dsimp only; rw [← hln], by rw [HV.out]; dsimp only; rw [← hln]; exact HOP.out.mono (by omega), HBP.out⟩
    have hb : b = false := by cases b; rfl; exact (hbad rfl).elim
    subst hb
    by_cases hq : Q = (m : Int)
    rotate_left
    · have k2 := eq_f hq
      have HV : Hid (decU p = (G, false)) := Lib.hid (HRR.out.trans (by unfold okD; rw [decide_eq_false (by rw [← HM.out]; exact hq)]; rfl))
      clear hq hbad
      refine wp_region_noPanic ?_
      refine wp_region_held_drew (S := (fun X => HdRow X g2 G ad E.length cap ∧ RdRow X (w.heap.size + 1) pd m pcap Q false)) (by kernel_rfl) (⟨HG5.out, HR5.out⟩) (fun hS0 => ?_)
      generalize World.drew Z4 = Z5 at *
      refine held_take (i := 0) (v := ?_) rfl (by kernel_rfl) (by kernel_rfl) (by kernel_rfl) (fun _ _ _ h => h) (by rfl) ?_ (by assumption) ?_
      rotate_left
      · intro X hSX
        try dsimp only at hSX
        obtain ⟨-, d0, d1, d2, d3, d4, d5, d6, d7, d8, d9, d10⟩ := hSX.1.at_
        go_simp <;> with_reducible rfl
      simp only [Act.put, List.setIfInBounds_toArray, List.set_cons_zero, List.set_cons_succ]
      refine held_take (i := 1) (v := ?_) rfl (by kernel_rfl) (by kernel_rfl) (by kernel_rfl) (fun _ _ _ h => h) (by rfl) ?_ (by assumption) ?_
      rotate_left
      · intro X hSX
        try dsimp only at hSX
        go_simp <;> with_reducible rfl
      simp only [Act.put, List.setIfInBounds_toArray, List.set_cons_zero, List.set_cons_succ]
      refine held_take (i := 2) (v := ?_) rfl (by kernel_rfl) (by kernel_rfl) (by kernel_rfl) (fun _ _ _ h => h) (by rfl) ?_ (by assumption) ?_
      rotate_left
      · intro X hSX
        try dsimp only at hSX
        go_simp <;> with_reducible rfl
      simp only [Act.put, List.setIfInBounds_toArray, List.set_cons_zero, List.set_cons_succ]
      refine held_take (i := 3) (v := ?_) rfl (by kernel_rfl) (by kernel_rfl) (by kernel_rfl) (fun _ _ _ h => h) (by rfl) ?_ (by assumption) ?_
      rotate_left
      · intro X hSX
        try dsimp only at hSX
        go_simp <;> with_reducible rfl
      simp only [Act.put, List.setIfInBounds_toArray, List.set_cons_zero, List.set_cons_succ]
      refine held_take (i := 4) (v := ?_) rfl (by kernel_rfl) (by kernel_rfl) (by kernel_rfl) (fun _ _ _ h => h) (by rfl) ?_ (by assumption) ?_
      rotate_left
      · intro X hSX
        try dsimp only at hSX
        obtain ⟨d0, d1, d2⟩ := hSX.2.at_
        go_simp <;> with_reducible rfl
      simp only [Act.put, List.setIfInBounds_toArray, List.set_cons_zero, List.set_cons_succ]
      refine held_take (i := 5) (v := ?_) rfl (by kernel_rfl) (by kernel_rfl) (by kernel_rfl) (fun _ _ _ h => h) (by rfl) ?_ (by assumption) ?_
      rotate_left
      · intro X hSX
        try dsimp only at hSX
        go_simp <;> with_reducible rfl
      simp only [Act.put, List.setIfInBounds_toArray, List.set_cons_zero, List.set_cons_succ]
      refine held_take (i := 6) (v := ?_) rfl (by kernel_rfl) (by kernel_rfl) (by kernel_rfl) (fun _ _ _ h => h) (by rfl) ?_ (by assumption) ?_
      rotate_left
      · intro X hSX
        try dsimp only at hSX
        go_simp <;> with_reducible rfl
      simp only [Act.put, List.setIfInBounds_toArray, List.set_cons_zero, List.set_cons_succ]
      refine held_take (i := 7) (v := ?_) rfl (by kernel_rfl) (by kernel_rfl) (by kernel_rfl) (fun _ _ _ h => h) (by rfl) ?_ (by assumption) ?_
      rotate_left
      · intro X hSX
        try dsimp only at hSX
        go_simp <;> with_reducible rfl
      simp only [Act.put, List.setIfInBounds_toArray, List.set_cons_zero, List.set_cons_succ]
      refine held_take (i := 8) (v := ?_) rfl (by kernel_rfl) (by kernel_rfl) (by kernel_rfl) (fun _ _ _ h => h) (by rfl) ?_ (by assumption) ?_
      rotate_left
      · intro X hSX
        try dsimp only at hSX
        go_simp <;> with_reducible rfl
      simp only [Act.put, List.setIfInBounds_toArray, List.set_cons_zero, List.set_cons_succ]
      refine held_take (i := 9) (v := ?_) rfl (by kernel_rfl) (by kernel_rfl) (by kernel_rfl) (fun _ _ _ h => h) (by rfl) ?_ (by assumption) ?_
      rotate_left
      · intro X hSX
        try dsimp only at hSX
        go_simp <;> with_reducible rfl
      simp only [Act.put, List.setIfInBounds_toArray, List.set_cons_zero, List.set_cons_succ]
      refine held_take (i := 10) (v := ?_) rfl (by kernel_rfl) (by kernel_rfl) (by kernel_rfl) (fun _ _ _ h => h) (by rfl) ?_ (by assumption) ?_
      rotate_left
      · intro X hSX
        try dsimp only at hSX
        obtain ⟨d0, d1, d2⟩ := hSX.2.at_
        go_simp <;> with_reducible rfl
      simp only [Act.put, List.setIfInBounds_toArray, List.set_cons_zero, List.set_cons_succ]
      refine held_take (i := 11) (v := ?_) rfl (by kernel_rfl) (by kernel_rfl) (by kernel_rfl) (fun _ _ _ h => h) (by rfl) ?_ (by assumption) ?_
      rotate_left
      · intro X hSX
        try dsimp only at hSX
        go_simp <;> with_reducible rfl
      simp only [Act.put, List.setIfInBounds_toArray, List.set_cons_zero, List.set_cons_succ]
      refine held_take (i := 12) (v := ?_) rfl (by kernel_rfl) (by kernel_rfl) (by kernel_rfl) (fun _ _ _ h => h) (by rfl) ?_ (by assumption) ?_
      rotate_left
      · intro X hSX
        try dsimp only at hSX
        go_simp <;> with_reducible rfl
      simp only [Act.put, List.setIfInBounds_toArray, List.set_cons_zero, List.set_cons_succ]
      refine held_take (i := 13) (v := ?_) rfl (by kernel_rfl) (by kernel_rfl) (by kernel_rfl) (fun _ _ _ h => h) (by rfl) ?_ (by assumption) ?_
      rotate_left
      · intro X hSX
        try dsimp only at hSX
        go_simp <;> with_reducible rfl
      simp only [Act.put, List.setIfInBounds_toArray, List.set_cons_zero, List.set_cons_succ]
      refine held_take (i := 14) (v := ?_) rfl (by kernel_rfl) (by kernel_rfl) (by kernel_rfl) (fun _ _ _ h => h) (by rfl) ?_ (by assumption) ?_
      rotate_left
      · intro X hSX
        try dsimp only at hSX
        go_simp <;> with_reducible rfl
      simp only [Act.put, List.setIfInBounds_toArray, List.set_cons_zero, List.set_cons_succ]
      refine held_take (i := 15) (v := ?_) rfl (by kernel_rfl) (by kernel_rfl) (by kernel_rfl) (fun _ _ _ h => h) (by rfl) ?_ (by assumption) ?_
      rotate_left
      · intro X hSX
        try dsimp only at hSX
        go_simp <;> with_reducible rfl
      simp only [Act.put, List.setIfInBounds_toArray, List.set_cons_zero, List.set_cons_succ]
      refine held_skip (i := 16) rfl (by kernel_rfl) (by kernel_rfl) (by kernel_rfl) (fun _ _ _ h => h) (by rfl) (by assumption) ?_
      simp only [Act.put, List.setIfInBounds_toArray, List.set_cons_zero, List.set_cons_succ]
      refine held_skip (i := 17) rfl (by kernel_rfl) (by kernel_rfl) (by kernel_rfl) (fun _ _ _ h => h) (by rfl) (by assumption) ?_
      simp only [Act.put, List.setIfInBounds_toArray, List.set_cons_zero, List.set_cons_succ]
      refine held_take (i := 18) (v := ?_) rfl (by kernel_rfl) (by kernel_rfl) (by kernel_rfl) (fun _ _ _ h => h) (by rfl) ?_ (by assumption) ?_
      rotate_left
      · intro X hSX
        try dsimp only at hSX
        go_simp <;> with_reducible rfl
      simp only [Act.put, List.setIfInBounds_toArray, List.set_cons_zero, List.set_cons_succ]
      have HP := Lib.hid (HZ5.out.put G ad E.length cap)
      have HOP := Lib.hid (HO5.out.row (k := w.heap.size) (by omega) (hdC G ad E.length cap))
      have HBP := Lib.hid (below_set HB5.out (Nat.le_refl w.heap.size) (hdC G ad E.length cap))
      have HS9 : Hid (HdRow (World.setRow Z5 w.heap.size (hdC G ad E.length cap)) g2 G ad E.length cap ∧ RdRow (World.setRow Z5 w.heap.size (hdC G ad E.length cap)) (w.heap.size + 1) pd m pcap Q false) := Lib.hid ⟨HG5.out.putOther (by omega) _, (setRow_other _ _ _ _ (by omega)).trans HR5.out⟩
      refine held_call (i := 19) rfl (by kernel_rfl) (by rfl) (fun K' hK' => ?_)
      refine oper_of_list (ops := #[]) (by unfold Region.wanted; rfl) (st_hdr rfl (.tmp 2) (.tmp 64) rfl rfl G ad E.length cap rfl HZ5.out (onlyN_end ?_))
      have hs9 := HS9.out
      refine held_go hK' (hs9) ?_
      try simp only [Act.put, List.setIfInBounds_toArray, List.set_cons_zero, List.set_cons_succ]
      refine held_take (i := 20) (v := ?_) rfl (by kernel_rfl) (by kernel_rfl) (by kernel_rfl) (fun _ _ _ h => h) (by rfl) ?_ (by assumption) ?_
      rotate_left
      · intro X hSX
        try dsimp only at hSX
        go_simp <;> with_reducible rfl
      simp only [Act.put, List.setIfInBounds_toArray, List.set_cons_zero, List.set_cons_succ]
      refine wpAnyH_done (by kernel_rfl) ?_ _
      refine NoPanic.normal ?_
      go_wp2_with fail
      refine post_cell2 (cs := hdC G ad E.length cap) (x := .bool false) rfl rfl HP.out.row Tryd.underlying25 rfl infoHd rfl rfl ?_
      have hln := HNL.out
      exact ⟨ad, cap, by rw [HV.out]; dsimp only; rw [← hln], by rw [HV.out]; dsimp only; rw [← hln]; exact HOP.out.mono (by omega), HBP.out⟩
    · have k2 := eq_t hq
      have HV : Hid (decU p = (G, vldH G)) := Lib.hid (HRR.out.trans (by unfold okD; rw [decide_eq_true (by rw [← HM.out]; exact hq)]; rfl))
      clear hq hbad
      refine wp_region_noPanic ?_
      refine wp_region_held_drew (S := (fun X => HdRow X g2 G ad E.length cap ∧ RdRow X (w.heap.size + 1) pd m pcap Q false)) (by kernel_rfl) (⟨HG5.out, HR5.out⟩) (fun hS0 => ?_)
      generalize World.drew Z4 = Z5 at *
      refine held_take (i := 0) (v := ?_) rfl (by kernel_rfl) (by kernel_rfl) (by kernel_rfl) (fun _ _ _ h => h) (by rfl) ?_ (by assumption) ?_
      rotate_left
      · intro X hSX
        try dsimp only at hSX
        obtain ⟨-, d0, d1, d2, d3, d4, d5, d6, d7, d8, d9, d10⟩ := hSX.1.at_
        go_simp <;> with_reducible rfl
      simp only [Act.put, List.setIfInBounds_toArray, List.set_cons_zero, List.set_cons_succ]
      refine held_take (i := 1) (v := ?_) rfl (by kernel_rfl) (by kernel_rfl) (by kernel_rfl) (fun _ _ _ h => h) (by rfl) ?_ (by assumption) ?_
      rotate_left
      · intro X hSX
        try dsimp only at hSX
        go_simp <;> with_reducible rfl
      simp only [Act.put, List.setIfInBounds_toArray, List.set_cons_zero, List.set_cons_succ]
      refine held_take (i := 2) (v := ?_) rfl (by kernel_rfl) (by kernel_rfl) (by kernel_rfl) (fun _ _ _ h => h) (by rfl) ?_ (by assumption) ?_
      rotate_left
      · intro X hSX
        try dsimp only at hSX
        go_simp <;> with_reducible rfl
      simp only [Act.put, List.setIfInBounds_toArray, List.set_cons_zero, List.set_cons_succ]
      refine held_take (i := 3) (v := ?_) rfl (by kernel_rfl) (by kernel_rfl) (by kernel_rfl) (fun _ _ _ h => h) (by rfl) ?_ (by assumption) ?_
      rotate_left
      · intro X hSX
        try dsimp only at hSX
        go_simp <;> with_reducible rfl
      simp only [Act.put, List.setIfInBounds_toArray, List.set_cons_zero, List.set_cons_succ]
      refine held_take (i := 4) (v := ?_) rfl (by kernel_rfl) (by kernel_rfl) (by kernel_rfl) (fun _ _ _ h => h) (by rfl) ?_ (by assumption) ?_
      rotate_left
      · intro X hSX
        try dsimp only at hSX
        obtain ⟨d0, d1, d2⟩ := hSX.2.at_
        go_simp <;> with_reducible rfl
      simp only [Act.put, List.setIfInBounds_toArray, List.set_cons_zero, List.set_cons_succ]
      refine held_take (i := 5) (v := ?_) rfl (by kernel_rfl) (by kernel_rfl) (by kernel_rfl) (fun _ _ _ h => h) (by rfl) ?_ (by assumption) ?_
      rotate_left
      · intro X hSX
        try dsimp only at hSX
        go_simp <;> with_reducible rfl
      simp only [Act.put, List.setIfInBounds_toArray, List.set_cons_zero, List.set_cons_succ]
      refine held_take (i := 6) (v := ?_) rfl (by kernel_rfl) (by kernel_rfl) (by kernel_rfl) (fun _ _ _ h => h) (by rfl) ?_ (by assumption) ?_
      rotate_left
      · intro X hSX
        try dsimp only at hSX
        go_simp <;> with_reducible rfl
      simp only [Act.put, List.setIfInBounds_toArray, List.set_cons_zero, List.set_cons_succ]
      refine held_take (i := 7) (v := ?_) rfl (by kernel_rfl) (by kernel_rfl) (by kernel_rfl) (fun _ _ _ h => h) (by rfl) ?_ (by assumption) ?_
      rotate_left
      · intro X hSX
        try dsimp only at hSX
        go_simp <;> with_reducible rfl
      simp only [Act.put, List.setIfInBounds_toArray, List.set_cons_zero, List.set_cons_succ]
      refine held_take (i := 8) (v := ?_) rfl (by kernel_rfl) (by kernel_rfl) (by kernel_rfl) (fun _ _ _ h => h) (by rfl) ?_ (by assumption) ?_
      rotate_left
      · intro X hSX
        try dsimp only at hSX
        go_simp <;> with_reducible rfl
      simp only [Act.put, List.setIfInBounds_toArray, List.set_cons_zero, List.set_cons_succ]
      refine held_take (i := 9) (v := ?_) rfl (by kernel_rfl) (by kernel_rfl) (by kernel_rfl) (fun _ _ _ h => h) (by rfl) ?_ (by assumption) ?_
      rotate_left
      · intro X hSX
        try dsimp only at hSX
        go_simp <;> with_reducible rfl
      simp only [Act.put, List.setIfInBounds_toArray, List.set_cons_zero, List.set_cons_succ]
      refine held_take (i := 10) (v := ?_) rfl (by kernel_rfl) (by kernel_rfl) (by kernel_rfl) (fun _ _ _ h => h) (by rfl) ?_ (by assumption) ?_
      rotate_left
      · intro X hSX
        try dsimp only at hSX
        obtain ⟨d0, d1, d2⟩ := hSX.2.at_
        go_simp <;> with_reducible rfl
      simp only [Act.put, List.setIfInBounds_toArray, List.set_cons_zero, List.set_cons_succ]
      refine held_take (i := 11) (v := ?_) rfl (by kernel_rfl) (by kernel_rfl) (by kernel_rfl) (fun _ _ _ h => h) (by rfl) ?_ (by assumption) ?_
      rotate_left
      · intro X hSX
        try dsimp only at hSX
        go_simp <;> with_reducible rfl
      simp only [Act.put, List.setIfInBounds_toArray, List.set_cons_zero, List.set_cons_succ]
      refine held_take (i := 12) (v := ?_) rfl (by kernel_rfl) (by kernel_rfl) (by kernel_rfl) (fun _ _ _ h => h) (by rfl) ?_ (by assumption) ?_
      rotate_left
      · intro X hSX
        try dsimp only at hSX
        go_simp <;> with_reducible rfl
      simp only [Act.put, List.setIfInBounds_toArray, List.set_cons_zero, List.set_cons_succ]
      refine held_take (i := 13) (v := ?_) rfl (by kernel_rfl) (by kernel_rfl) (by kernel_rfl) (fun _ _ _ h => h) (by rfl) ?_ (by assumption) ?_
      rotate_left
      · intro X hSX
        try dsimp only at hSX
        go_simp <;> with_reducible rfl
      simp only [Act.put, List.setIfInBounds_toArray, List.set_cons_zero, List.set_cons_succ]
      refine held_take (i := 14) (v := ?_) rfl (by kernel_rfl) (by kernel_rfl) (by kernel_rfl) (fun _ _ _ h => h) (by rfl) ?_ (by assumption) ?_
      rotate_left
      · intro X hSX
        try dsimp only at hSX
        go_simp <;> with_reducible rfl
      simp only [Act.put, List.setIfInBounds_toArray, List.set_cons_zero, List.set_cons_succ]
      refine held_take (i := 15) (v := ?_) rfl (by kernel_rfl) (by kernel_rfl) (by kernel_rfl) (fun _ _ _ h => h) (by rfl) ?_ (by assumption) ?_
      rotate_left
      · intro X hSX
        try dsimp only at hSX
        go_simp <;> with_reducible rfl
      simp only [Act.put, List.setIfInBounds_toArray, List.set_cons_zero, List.set_cons_succ]
      refine held_take (i := 16) (v := ?_) rfl (by kernel_rfl) (by kernel_rfl) (by kernel_rfl) (fun _ _ _ h => h) (by rfl) ?_ (by assumption) ?_
      rotate_left
      · intro X hSX
        try dsimp only at hSX
        obtain ⟨-, d0, d1, d2, d3, d4, d5, d6, d7, d8, d9, d10⟩ := hSX.1.at_
        go_simp <;> with_reducible rfl
      simp only [Act.put, List.setIfInBounds_toArray, List.set_cons_zero, List.set_cons_succ]
      refine held_call (i := 17) rfl (by kernel_rfl) (by rfl) (fun K' hK' => ?_)
      go_simp
      refine (rvalidh_any G ad E.length cap _ HO5.out.hin HSG.out).mono ?_
      rintro e Z6 ⟨rfl, hb6⟩
      replace HR5 := Lib.hid (HR5.out.below hb6 HR5.out.lt)
      replace HG5 := Lib.hid (HG5.out.below hb6 HG5.out.lt)
      replace HO5 := Lib.hid (HO5.out.below hb6)
      replace HZ5 := Lib.hid (HZ5.out.below hb6 HZ5.out.lt)
      replace HB5 := Lib.hid (HB5.out.trans (hb6.mono HB5.out.size))
      clear hb6 hS0
      have hs6 : HdRow Z6 g2 G ad E.length cap ∧ RdRow Z6 (w.heap.size + 1) pd m pcap Q false := ⟨HG5.out, HR5.out⟩
      refine held_go hK' (hs6) ?_
      try simp only [Act.put, List.setIfInBounds_toArray, List.set_cons_zero, List.set_cons_succ]
      generalize vldH G = V at *
      refine held_take (i := 18) (v := ?_) rfl (by kernel_rfl) (by kernel_rfl) (by kernel_rfl) (fun _ _ _ h => h) (by rfl) ?_ (by assumption) ?_
      rotate_left
      · intro X hSX
        try dsimp only at hSX
        go_simp <;> with_reducible rfl
      simp only [Act.put, List.setIfInBounds_toArray, List.set_cons_zero, List.set_cons_succ]
      have HP := Lib.hid (HZ5.out.put G ad E.length cap)
      have HOP := Lib.hid (HO5.out.row (k := w.heap.size) (by omega) (hdC G ad E.length cap))
      have HBP := Lib.hid (below_set HB5.out (Nat.le_refl w.heap.size) (hdC G ad E.length cap))
      have HS9 : Hid (HdRow (World.setRow Z6 w.heap.size (hdC G ad E.length cap)) g2 G ad E.length cap ∧ RdRow (World.setRow Z6 w.heap.size (hdC G ad E.length cap)) (w.heap.size + 1) pd m pcap Q false) := Lib.hid ⟨HG5.out.putOther (by omega) _, (setRow_other _ _ _ _ (by omega)).trans HR5.out⟩
      refine held_call (i := 19) rfl (by kernel_rfl) (by rfl) (fun K' hK' => ?_)
      refine oper_of_list (ops := #[]) (by unfold Region.wanted; rfl) (st_hdr rfl (.tmp 2) (.tmp 64) rfl rfl G ad E.length cap rfl HZ5.out (onlyN_end ?_))
      have hs9 := HS9.out
      refine held_go hK' (hs9) ?_
      try simp only [Act.put, List.setIfInBounds_toArray, List.set_cons_zero, List.set_cons_succ]
      refine held_take (i := 20) (v := ?_) rfl (by kernel_rfl) (by kernel_rfl) (by kernel_rfl) (fun _ _ _ h => h) (by rfl) ?_ (by assumption) ?_
      rotate_left
      · intro X hSX
        try dsimp only at hSX
        go_simp <;> with_reducible rfl
      simp only [Act.put, List.setIfInBounds_toArray, List.set_cons_zero, List.set_cons_succ]
      refine wpAnyH_done (by kernel_rfl) ?_ _
      refine NoPanic.normal ?_
      go_wp2_with fail
      refine post_cell2 (cs := hdC G ad E.length cap) (x := .bool V) rfl rfl HP.out.row Tryd.underlying25 rfl infoHd rfl rfl ?_
      have hln := HNL.out
      exact ⟨ad, cap, by rw [HV.out]; dsimp only; rw [← hln], by rw [HV.out]; dsimp only; rw [← hln]; exact HOP.out.mono (by omega), HBP.out⟩
end Go.Proofs.YtjiijjdmkeeilaaDoor
