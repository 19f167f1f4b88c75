/-
  What the functions on drives owe, whoever wrote them; what an operation is.
  The program's six operations on drives keep the same contracts as the specification's.
  The chapter's example of drives: what each call gives.
-/
import Derived.Test.YtepmmlnopdjjdaaDrRead
import Derived.Test.YtepmmlnopdjjdaaDrWrite
import Derived.Test.YtepmmlnopdjjdaaDrClean
import Derived.Test.YtepmmlnopdjjdaaDrLoad
import Derived.Test.YtepmmlnopdjjdaaQBox
import Derived.Test.YtepmmlnopdjjdaaDpClean
import Derived.Test.YtepmmlnopdjjdaaDpOutR
namespace Go.Proofs.Ytepmmlnopdjjdaa
open Go.RowKit
set_option linter.unusedVariables false
/-- the six operations: their contracts -/
structure DrSide (fLd fUl fSk fRd fWr fCl : Nat) : Prop where
  load : ∀ (m : Mdl) (d : Drv) (c : Crt) (ad : Option Addr) (cap : Nat) (w : World), CrIn w c ad cap → Calls Try.prog fLd #[mdV m, drV d, crV c ad cap] w fun e w' => RetDC w ad c.l (ldU m d c) e w'
  unload : ∀ (m : Mdl) (d : Drv) (c : Crt) (ad : Option Addr) (cap : Nat) (w : World), CrIn w c ad cap → Calls Try.prog fUl #[mdV m, drV d, crV c ad cap] w fun e w' => RetDC w ad c.l (ulU m d c) e w'
  seek : ∀ (m : Mdl) (d : Drv) (c : Crt) (ad : Option Addr) (cap : Nat) (t : Int) (w : World), CrIn w c ad cap → -9223372036854775808 ≤ t ∧ t ≤ 9223372036854775807 → Calls Try.prog fSk #[mdV m, drV d, crV c ad cap, .int .i64 t] w fun e w' => RetDC w ad c.l (skU m d c t) e w'
  read : ∀ (m : Mdl) (d : Drv) (c : Crt) (ad : Option Addr) (cap : Nat) (n : Int) (w : World), CrIn w c ad cap → -9223372036854775808 ≤ n ∧ n ≤ 9223372036854775807 → Calls Try.prog fRd #[mdV m, drV d, crV c ad cap, .int .i64 n] w fun e w' => RetDK w ad c.l (rdU m d c n) e w'
  write : ∀ (m : Mdl) (d : Drv) (c : Crt) (ad : Option Addr) (cap : Nat) (zd : Option Addr) (zn zc : Nat) (z : List Blk) (w : World), CrIn w c ad cap → Ki w zd z → zn = z.length → zn ≤ 100000 → (zd = none → zc = 0) → Calls Try.prog fWr #[mdV m, drV d, crV c ad cap, .slice zd zn zc] w fun e w' => RetDC w ad c.l (wrU m d c z) e w'
  clean : ∀ (m : Mdl) (d : Drv) (w : World), Calls Try.prog fCl #[mdV m, drV d] w fun e w' => RetDr w (clU m d) e w'
theorem side_ref : DrSide 27 28 29 30 31 32 :=
  ⟨rload_any, runload_any, fun m d c ad cap t w h _ => rseek_any m d c ad cap t w h, fun m d c ad cap n w h _ => rdread_any m d c ad cap n w h, fun m d c ad cap zd zn zc z w h hz hn hs _ => rdwrite_any m d c ad cap zd zn zc z w h hz hn hs, rclean_any⟩
/-- what an operation returns -/
structure Dn where
  d : Drv
  c : Crt
  l : List Blk
  t : Int
  e : Int
noncomputable def stU (m : Mdl) (d : Drv) (c : Crt) (kind n : Int) (z : List Blk) : Dn :=
  if kind = 0 then ⟨(ldU m d c).1, (ldU m d c).2.1, [], (ldU m d c).2.2.1, (ldU m d c).2.2.2⟩ else
  if kind = 1 then ⟨(ulU m d c).1, (ulU m d c).2.1, [], (ulU m d c).2.2.1, (ulU m d c).2.2.2⟩ else
  if kind = 2 then ⟨(skU m d c n).1, (skU m d c n).2.1, [], (skU m d c n).2.2.1, (skU m d c n).2.2.2⟩ else
  if kind = 3 then ⟨(rdU m d c n).1, (rdU m d c n).2.1, (rdU m d c n).2.2.1, (rdU m d c n).2.2.2.1, (rdU m d c n).2.2.2.2⟩ else
  if kind = 4 then ⟨(wrU m d c z).1, (wrU m d c z).2.1, [], (wrU m d c z).2.2.1, (wrU m d c z).2.2.2⟩ else
  ⟨(clU m d).1, c, [], (clU m d).2.1, (clU m d).2.2⟩
/-- the cells of what an operation returns -/
abbrev dnK (d : Drv) (c : Crt) (ad : Option Addr) (n cap : Nat) (zd : Option Addr) (zn zc : Nat) (t e : Int) : Array Value :=
  #[.int .i64 d.st, .string d.bc, .int .i64 d.hd, .int .i64 d.lo, .int .i64 d.pa, .int .i64 d.si, .string c.bc, .int .i64 c.W, .int .i64 c.L, .int .i64 c.S, .int .i64 c.T, .int .i64 c.J, .int .i64 c.R, .bool c.wo, .bool c.lk, .slice ad n cap, .int .i64 c.ep, .int .i64 c.lo, .int .i64 c.pa, .slice zd zn zc, .int .i64 t, .int .i64 e]
abbrev dnZ : Array Value :=
  #[.int .i64 0, .string ⟨#[]⟩, .int .i64 0, .int .i64 0, .int .i64 0, .int .i64 0, .string ⟨#[]⟩, .int .i64 0, .int .i64 0, .int .i64 0, .int .i64 0, .int .i64 0, .int .i64 0, .bool false, .bool false, .slice none 0 0, .int .i64 0, .int .i64 0, .int .i64 0, .slice none 0 0, .int .i64 0, .int .i64 0]
def RetDn (w : World) (ad0 : Option Addr) (l0 : List Blk) (r : Dn) (e : Ending) (w' : World) : Prop :=
  ∃ ad n cap zd zn zc, e = .returned (.agg (dnK r.d r.c ad n cap zd zn zc r.t r.e)) ∧ n = r.c.l.length ∧ zn = r.l.length ∧ CrIn w' r.c ad cap ∧ KpS w ad0 l0 w' ad r.c.l ∧ Kfr w' w.heap.size zd r.l ∧ zn ≤ zc ∧ zc ≤ maxLen ∧ (zd = none → zc = 0) ∧ Below w.heap.size w w'
theorem infoDn : (Try.prog.info? 39).map (·.size) = some 22 := by kernel_rfl
theorem infoI : (Try.prog.info? 3).map (·.size) = some 1 := by kernel_rfl
theorem infoE : (Try.prog.info? 37).map (·.size) = some 1 := by kernel_rfl
theorem infoS : (Try.prog.info? 28).map (·.size) = some 1 := by kernel_rfl
/-- the boxes of program and document -/
structure Ob (w X : World) (m : Mdl) (d : Drv) (c : Crt) (ad : Option Addr) (n cap : Nat) (kind which k : Int) (zd : Option Addr) (zn zc : Nat) : Prop where
  b : Below w.heap.size w X
  m : MdAt X w.heap.size m.ld m.ul m.cl m.ce m.cf
  d : DrAt X (w.heap.size + 1) d.st d.bc d.hd d.lo d.pa d.si
  cr : X.heap[w.heap.size + 2]? = some (.cells (crK c.bc c.W c.L c.S c.T c.J c.R c.wo c.lk ad n cap c.ep c.lo c.pa) 30 (0, 0))
  c : CrAt X (w.heap.size + 2) c.bc c.W c.L c.S c.T c.J c.R c.wo c.lk ad n cap c.ep c.lo c.pa
  s0 : X.cell? ⟨w.heap.size + 3, 0, none⟩ = some (.int .i64 kind)
  s2 : X.cell? ⟨w.heap.size + 3, 2, none⟩ = some (.int .i64 k)
  s3 : X.cell? ⟨w.heap.size + 3, 3, none⟩ = some (.slice zd zn zc)
  x : X.heap[w.heap.size + 4]? = some (.cells dnZ 39 (0, 0))
  y : X.heap[w.heap.size + 5]? = some (.cells dnZ 39 (0, 0))
  s : w.heap.size + 6 ≤ X.heap.size
theorem crAt_row {w : World} {g : Nat} {bc : ByteArray} {W L S T J R : Int} {wo lk : Bool} {ad : Option Addr} {n cap : Nat} {ep lo pa : Int} (h : w.heap[g]? = some (.cells (crK bc W L S T J R wo lk ad n cap ep lo pa) 30 (0, 0))) : CrAt w g bc W L S T J R wo lk ad n cap ep lo pa := by
  refine ⟨(Array.getElem?_eq_some_iff.1 h).1, ?_, ?_, ?_, ?_, ?_, ?_, ?_, ?_, ?_, ?_, ?_, ?_, ?_⟩ <;> (rw [cell_of_row w _ _ _ _ (0, 0) h]; rfl)
theorem Ob.next {w X Y : World} {m : Mdl} {d : Drv} {c : Crt} {ad : Option Addr} {n cap : Nat} {kind which k : Int} {zd : Option Addr} {zn zc : Nat} (h : Ob w X m d c ad n cap kind which k zd zn zc) (hb : Below X.heap.size X Y) : Ob w Y m d c ad n cap kind which k zd zn zc := by
  have hs := h.s
  exact ⟨h.b.trans (hb.mono h.b.size), h.m.below hb h.m.lt, h.d.below hb h.d.lt, (hb.block _ (by omega)).trans h.cr, h.c.below hb h.c.lt, (hb.cell (p := ⟨w.heap.size + 3, 0, none⟩) (by show w.heap.size + 3 < _; omega)).trans h.s0, (hb.cell (p := ⟨w.heap.size + 3, 2, none⟩) (by show w.heap.size + 3 < _; omega)).trans h.s2, (hb.cell (p := ⟨w.heap.size + 3, 3, none⟩) (by show w.heap.size + 3 < _; omega)).trans h.s3,
    (hb.block _ (by omega)).trans h.x, (hb.block _ (by omega)).trans h.y, Nat.le_trans hs hb.size⟩
theorem allocs_heap : ∀ (os : List Obj) (X : World), (os.foldl World.alloc X).heap = X.heap ++ os.toArray
  | [], X => by simp
  | o :: os, X => by
    rw [List.foldl_cons, allocs_heap os (X.alloc o)]
    show X.heap.push o ++ os.toArray = X.heap ++ (o :: os).toArray
    apply Array.ext'
    simp
theorem allocs_at (os : List Obj) (X : World) (j : Nat) : (os.foldl World.alloc X).heap[X.heap.size + j]? = os[j]? := by
  rw [allocs_heap, Array.getElem?_append_right (by omega)]
  simp
theorem cells_at {X : World} {g : Nat} {C : Array Value} {t : TypeId} (h : X.heap[g]? = some (.cells C t (0, 0))) (j : Nat) : X.cell? ⟨g, j, none⟩ = C[j]? := cell_of_row X g j C t (0, 0) h
theorem Ob.start (w : World) (m : Mdl) (d : Drv) (c : Crt) (ad : Option Addr) (n cap : Nat) (kind which k : Int) (zd : Option Addr) (zn zc : Nat) :
    Ob w ((((((w.alloc (boxM m.ld m.ul m.cl m.ce m.cf)).alloc (boxD d.st d.bc d.hd d.lo d.pa d.si)).alloc (boxK c.bc c.W c.L c.S c.T c.J c.R c.wo c.lk ad n cap c.ep c.lo c.pa)).alloc (.cells #[.int .i64 kind, .int .i64 which, .int .i64 k, .slice zd zn zc] 32)).alloc (.cells dnZ 39)).alloc (.cells dnZ 39)) m d c ad n cap kind which k zd zn zc := by
  have ha := allocs_at [boxM m.ld m.ul m.cl m.ce m.cf, boxD d.st d.bc d.hd d.lo d.pa d.si, boxK c.bc c.W c.L c.S c.T c.J c.R c.wo c.lk ad n cap c.ep c.lo c.pa, .cells #[.int .i64 kind, .int .i64 which, .int .i64 k, .slice zd zn zc] 32, .cells dnZ 39, .cells dnZ 39] w
  have hs := congrArg Array.size (allocs_heap [boxM m.ld m.ul m.cl m.ce m.cf, boxD d.st d.bc d.hd d.lo d.pa d.si, boxK c.bc c.W c.L c.S c.T c.J c.R c.wo c.lk ad n cap c.ep c.lo c.pa, .cells #[.int .i64 kind, .int .i64 which, .int .i64 k, .slice zd zn zc] 32, .cells dnZ 39, .cells dnZ 39] w)
  have hb : Below w.heap.size w ([boxM m.ld m.ul m.cl m.ce m.cf, boxD d.st d.bc d.hd d.lo d.pa d.si, boxK c.bc c.W c.L c.S c.T c.J c.R c.wo c.lk ad n cap c.ep c.lo c.pa, .cells #[.int .i64 kind, .int .i64 which, .int .i64 k, .slice zd zn zc] 32, .cells dnZ 39, .cells dnZ 39].foldl World.alloc w) :=
    ((((((below_box1 w _).alloc (by simp) _).alloc (by simp; omega) _).alloc (by simp; omega) _).alloc (by simp; omega) _).alloc (by simp; omega) _)
  show Ob w ([boxM m.ld m.ul m.cl m.ce m.cf, boxD d.st d.bc d.hd d.lo d.pa d.si, boxK c.bc c.W c.L c.S c.T c.J c.R c.wo c.lk ad n cap c.ep c.lo c.pa, .cells #[.int .i64 kind, .int .i64 which, .int .i64 k, .slice zd zn zc] 32, .cells dnZ 39, .cells dnZ 39].foldl World.alloc w) m d c ad n cap kind which k zd zn zc
  generalize List.foldl World.alloc w _ = F at *
  have h0 := ha 0; have h1 := ha 1; have h2 := ha 2; have h3 := ha 3; have h4 := ha 4; have h5 := ha 5
  simp only [Nat.add_zero] at h0
  have hs6 : F.heap.size = w.heap.size + 6 := by rw [hs]; simp
  refine ⟨hb, ⟨by omega, ?_, ?_, ?_, ?_, ?_⟩, ⟨by omega, ?_, ?_, ?_, ?_, ?_, ?_⟩, h2, ⟨by omega, ?_, ?_, ?_, ?_, ?_, ?_, ?_, ?_, ?_, ?_, ?_, ?_, ?_⟩, ?_, ?_, ?_, h4, h5, by omega⟩
  all_goals first
    | (rw [cells_at h0]; rfl)
    | (rw [cells_at h1]; rfl)
    | (rw [cells_at h2]; rfl)
    | (rw [cells_at h3]; rfl)
end Go.Proofs.Ytepmmlnopdjjdaa
namespace Go.Proofs.Ytepmmlnopdjjdaa
open Go.RowKit
theorem side_prog : DrSide 20 25 21 23 22 24 :=
  ⟨load_any, unload_any, fun m d c ad cap t w h _ => seek_any m d c ad cap t w h, fun m d c ad cap n w h hn => dread_any m d c ad cap n w h hn.2, dwrite_any, clean_any⟩
end Go.Proofs.Ytepmmlnopdjjdaa
namespace Go.Proofs.Ytepmmlnopdjjdaa
open Go.RowKit
set_option linter.unusedVariables false
set_option linter.unusedSimpArgs false
set_option maxRecDepth 100000
def blE (k : Nat) : List Blk := (List.range k).map fun i => ⟨false, false, [UInt8.ofNat i]⟩
theorem blE_succ (k : Nat) : blE (k + 1) = blE k ++ [⟨false, false, [UInt8.ofNat k]⟩] := by unfold blE; rw [List.range_succ, List.map_append]; rfl
theorem blE_len (k : Nat) : (blE k).length = k := by unfold blE; rw [List.length_map, List.length_range]
abbrev bcE : ByteArray := ⟨#[65]⟩
abbrev mE : Mdl := ⟨40, 30, 20, 1000, 0⟩
abbrev cE (lo pa : Int) : Crt := ⟨bcE, 2, 10, 1, 5, 3, 2, false, false, blE 12, 0, lo, pa⟩
abbrev dE (hd pa : Int) : Drv := ⟨1, bcE, hd, 1, pa, pa⟩
theorem exV : Vld 2 10 1 5 3 2 := ⟨by decide, by decide, by decide, by decide, by decide, by decide, by decide, by decide, by decide, by decide, by decide, by decide, by decide⟩
theorem exH (b : Int) (h0 : 0 ≤ b) (h1 : b ≤ 20) : hav 2 10 1 5 3 2 b = true := hav_iff.2 ⟨exV, h0, h1⟩
theorem ex_loc (a b : Int) (h : 0 ≤ a ∧ a ≤ 20 ∧ 0 ≤ b ∧ b ≤ 20) : loc 2 10 1 5 3 2 a b = mo 2 10 1 5 3 a b := loc_yes (by rw [exH a h.1 h.2.1, exH b h.2.2.1 h.2.2.2]; rfl)
theorem ex_l09 : loc 2 10 1 5 3 2 0 9 = 9 := by rw [ex_loc _ _ (by decide)]; decide +kernel
theorem ex_l110 : loc 2 10 1 5 3 2 11 0 = 16 := by rw [ex_loc _ _ (by decide)]; decide +kernel
theorem ex_r92 : rd 2 10 1 5 3 2 9 2 = 12 := by rw [rd_yes exV (by decide) (by decide) (by decide)]; decide +kernel
theorem ex_p09 : pas 2 10 1 5 3 2 0 9 = 900 := by rw [pas_yes (by rw [exH 0 (by decide) (by decide), exH 9 (by decide) (by decide)]; rfl)]; decide +kernel
theorem ex_p911 : pas 2 10 1 5 3 2 9 11 = 100 := by rw [pas_yes (by rw [exH 9 (by decide) (by decide), exH 11 (by decide) (by decide)]; rfl)]; decide +kernel
theorem ex_p110 : pas 2 10 1 5 3 2 11 0 = 800 := by rw [pas_yes (by rw [exH 11 (by decide) (by decide), exH 0 (by decide) (by decide)]; rfl)]; decide +kernel
theorem exM : mdlU mE = true := by rfl
theorem exCap : capU 2 10 1 5 3 2 = 20 := by rw [capU_yes exV]; rfl
theorem exBar : bar bcE = true := by rfl
theorem exC (lo pa : Int) (h1 : cnt lo = true) (h2 : cnt pa = true) : vldC (cE lo pa) = true := by
  rw [vldC_eq, exBar, vld_iff.2 exV, exCap, h1, h2, decide_eq_true (by rw [blE_len]; omega), show allB (blE 12) = true by rfl]
  rfl
theorem exD (hd pa : Int) (h1 : decide (0 ≤ hd) = true) (h2 : decide (hd ≤ 4096) = true) (h3 : cnt pa = true) : drvU (dE hd pa) = true := by
  unfold drvU
  simp only [h1, h2, h3]
  rfl
theorem exZ : drvU drZ = true := by
  have h : (drZ.bc.toList = []) := by
    show (ByteArray.mk #[]).toList = []
    unfold ByteArray.toList ByteArray.toList.loop
    rfl
  unfold drvU
  rw [decide_eq_true h]
  rfl
theorem exF (hd pa lo : Int) (h1 : decide (0 ≤ hd) = true) (h2 : decide (hd ≤ 4096) = true) (h3 : cnt pa = true) (h4 : cnt lo = true) (h5 : hd ≤ 12) : fstU mE (dE hd pa) (cE lo pa) = 0 := by
  unfold fstU
  rw [exM, exD hd pa h1 h2 h3, exC lo pa h4 h3, if_pos (show (true && (true && true)) = true from rfl), if_neg (show ¬ ((1 : Int) = 2) by decide), if_neg (show ¬ ((1 : Int) = 0) by decide), if_pos (show (dE hd pa).bc.toList = (cE lo pa).bc.toList from rfl), if_neg (by show ¬ ((blE 12).length : Int) < hd; rw [blE_len]; omega)]
theorem exL : ldU mE drZ (cE 0 0) = (dE 0 0, cE 1 0, 40, 0) := by
  unfold ldU
  rw [exM, exZ, exC 0 0 rfl rfl, if_pos (show (true && (true && true)) = true from rfl), if_neg (show ¬ ((0 : Int) = 2) by decide), if_neg (show ¬ ((0 : Int) = 1) by decide), if_neg (show ¬ (due mE drZ = true) by decide)]
  rfl
theorem exS : skU mE (dE 0 0) (cE 1 0) 9 = (dE 9 900, cE 1 900, 9, 0) := by
  unfold skU
  rw [exF 0 0 1 rfl rfl rfl rfl (by omega), if_pos rfl, if_pos (by show 0 ≤ (9 : Int) ∧ (9 : Int) ≤ ((blE 12).length : Int); rw [blE_len]; omega)]
  unfold mvD mvC
  show ((⟨1, bcE, 9, 1, inc 0 (pas 2 10 1 5 3 2 0 9), inc 0 (pas 2 10 1 5 3 2 0 9)⟩ : Drv), (⟨bcE, 2, 10, 1, 5, 3, 2, false, false, blE 12, 0, 1, inc 0 (pas 2 10 1 5 3 2 0 9)⟩ : Crt), loc 2 10 1 5 3 2 0 9, (0 : Int)) = _
  rw [ex_p09, ex_l09]
  rfl
def rdE2 : List Blk := [⟨false, false, [9]⟩, ⟨false, false, [10]⟩]
theorem exR : rdU mE (dE 9 900) (cE 1 900) 2 = (dE 11 1000, cE 1 1000, rdE2, 12, 0) := by
  have h1 : rdR (dE 9 900) (cE 1 900) 2 = (rdE2, 0) := by rfl
  unfold rdU
  rw [exF 9 900 1 rfl rfl rfl rfl (by omega), if_pos rfl, if_neg (by show ¬ ((2 : Int) < 1 ∨ ((blE 12).length : Int) - 9 < 2); rw [blE_len]; omega), h1]
  unfold mvD mvC
  show ((⟨1, bcE, 9 + 2, 1, inc 900 (pas 2 10 1 5 3 2 9 (9 + 2)), inc 900 (pas 2 10 1 5 3 2 9 (9 + 2))⟩ : Drv), (⟨bcE, 2, 10, 1, 5, 3, 2, false, false, blE 12, 0, 1, inc 900 (pas 2 10 1 5 3 2 9 (9 + 2))⟩ : Crt), rdE2, rd 2 10 1 5 3 2 9 2, (0 : Int)) = _
  rw [show (9 : Int) + 2 = 11 by rfl, ex_p911, ex_r92]
  rfl
theorem exU : ulU mE (dE 11 1000) (cE 1 1000) = (⟨0, ⟨#[]⟩, 0, 1, 1800, 1800⟩, cE 1 1800, 46, 0) := by
  unfold ulU
  rw [exF 11 1000 1 rfl rfl rfl rfl (by omega), if_pos rfl]
  unfold ulD mvD mvC
  show ((⟨0, ⟨#[]⟩, 0, 1, inc 1000 (pas 2 10 1 5 3 2 11 0), inc 1000 (pas 2 10 1 5 3 2 11 0)⟩ : Drv), (⟨bcE, 2, 10, 1, 5, 3, 2, false, false, blE 12, 0, 1, inc 1000 (pas 2 10 1 5 3 2 11 0)⟩ : Crt), loc 2 10 1 5 3 2 11 0 + 30, (0 : Int)) = _
  rw [ex_p110, ex_l110]
  rfl
abbrev cEv (ad : Option Addr) (cap : Nat) (lo pa : Int) : Value := crW bcE 2 10 1 5 3 2 false false ad 12 cap 0 lo pa
abbrev mEv : Value := mdW 40 30 20 1000 0
theorem cE_v (lo pa : Int) (ad : Option Addr) (cap : Nat) : crV (cE lo pa) ad cap = cEv ad cap lo pa := by
  show crW bcE 2 10 1 5 3 2 false false ad (blE 12).length cap 0 lo pa = _
  rw [blE_len]
theorem exLoad (ad : Option Addr) (cap : Nat) (X : World) (h : CrIn X (cE 0 0) ad cap) : Calls Try.prog 20 #[mEv, drW 0 ⟨#[]⟩ 0 0 0 0, cEv ad cap 0 0] X fun e w' => ∃ ad' cap', e = .returned (.tuple #[drW 1 bcE 0 1 0 0, cEv ad' cap' 1 0, .int .i64 40, .int .i64 0]) ∧ CrIn w' (cE 1 0) ad' cap' ∧ KpS X ad (blE 12) w' ad' (blE 12) ∧ Below X.heap.size X w' := by
  have hc := load_any mE drZ (cE 0 0) ad cap X h
  rw [exL, cE_v] at hc
  refine hc.mono fun e w' ⟨ad', cap', h1, h2, h3, h4⟩ => ⟨ad', cap', ?_, h2, h3, h4⟩
  rw [h1, cE_v]
theorem exSeek (ad : Option Addr) (cap : Nat) (X : World) (h : CrIn X (cE 1 0) ad cap) : Calls Try.prog 21 #[mEv, drW 1 bcE 0 1 0 0, cEv ad cap 1 0, .int .i64 9] X fun e w' => ∃ ad' cap', e = .returned (.tuple #[drW 1 bcE 9 1 900 900, cEv ad' cap' 1 900, .int .i64 9, .int .i64 0]) ∧ CrIn w' (cE 1 900) ad' cap' ∧ KpS X ad (blE 12) w' ad' (blE 12) ∧ Below X.heap.size X w' := by
  have hc := seek_any mE (dE 0 0) (cE 1 0) ad cap 9 X h
  rw [exS, cE_v] at hc
  refine hc.mono fun e w' ⟨ad', cap', h1, h2, h3, h4⟩ => ⟨ad', cap', ?_, h2, h3, h4⟩
  rw [h1, cE_v]
theorem exRead (ad : Option Addr) (cap : Nat) (X : World) (h : CrIn X (cE 1 900) ad cap) : Calls Try.prog 23 #[mEv, drW 1 bcE 9 1 900 900, cEv ad cap 1 900, .int .i64 2] X fun e w' => ∃ ad' cap' zd zc, e = .returned (.tuple #[drW 1 bcE 11 1 1000 1000, cEv ad' cap' 1 1000, .slice zd 2 zc, .int .i64 12, .int .i64 0]) ∧ CrIn w' (cE 1 1000) ad' cap' ∧ KpS X ad (blE 12) w' ad' (blE 12) ∧ Kfr w' X.heap.size zd rdE2 ∧ Below X.heap.size X w' := by
  have hc := dread_any mE (dE 9 900) (cE 1 900) ad cap 2 X h (by decide)
  rw [exR, cE_v] at hc
  refine hc.mono fun e w' ⟨ad', cap', zd, zn, zc, h1, h2, h3, h4, h5, _, _, _, h8⟩ => ⟨ad', cap', zd, zc, ?_, h3, h4, h5, h8⟩
  rw [h1, cE_v, h2]
  rfl
theorem exUnload (ad : Option Addr) (cap : Nat) (X : World) (h : CrIn X (cE 1 1000) ad cap) : Calls Try.prog 25 #[mEv, drW 1 bcE 11 1 1000 1000, cEv ad cap 1 1000] X fun e w' => ∃ ad' cap', e = .returned (.tuple #[drW 0 ⟨#[]⟩ 0 1 1800 1800, cEv ad' cap' 1 1800, .int .i64 46, .int .i64 0]) ∧ CrIn w' (cE 1 1800) ad' cap' ∧ KpS X ad (blE 12) w' ad' (blE 12) ∧ Below X.heap.size X w' := by
  have hc := unload_any mE (dE 11 1000) (cE 1 1000) ad cap X h
  rw [exU, cE_v] at hc
  refine hc.mono fun e w' ⟨ad', cap', h1, h2, h3, h4⟩ => ⟨ad', cap', ?_, h2, h3, h4⟩
  rw [h1, cE_v]
theorem exDue (X : World) : Calls Try.prog 15 #[mEv, drW 0 ⟨#[]⟩ 0 1 1800 1800] X fun e w' => e = .returned (.bool true) ∧ Below X.heap.size X w' := due_any mE ⟨0, ⟨#[]⟩, 0, 1, 1800, 1800⟩ X
theorem exWorn (ad : Option Addr) (cap : Nat) (X : World) : Calls Try.prog 17 #[mEv, cEv ad cap 1 1800] X fun e w' => e = .returned (.bool false) ∧ Below X.heap.size X w' := by
  have h := worn_any mE (cE 1 1800) ad cap X
  rw [cE_v] at h
  exact h
end Go.Proofs.Ytepmmlnopdjjdaa
