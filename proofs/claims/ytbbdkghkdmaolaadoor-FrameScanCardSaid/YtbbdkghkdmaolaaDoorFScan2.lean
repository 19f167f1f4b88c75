/-
  The program's Scan.
-/
import Derived.Test.YtbbdkghkdmaolaaDoorFScan
namespace Go.Proofs.YtbbdkghkdmaolaaDoor
open Go.RowKit Go.Shelf
set_option linter.unusedVariables false
set_option linter.unusedSimpArgs false
attribute [local go_sem] Oper.semAt_some

set_option maxRecDepth 100000 in
set_option maxHeartbeats 2000000 in
theorem scan_any (ad : Option Addr) (n cap : Nat) (xs : List UInt8) (w : World) (hl : Lie w ad xs) (hn : n = xs.length) (hs : xs.length ≤ 100000) (hc : n ≤ cap) (hcm : cap ≤ maxLen) (had : ad = none → cap = 0) (hm : Mag w) :
    Calls Tryd.prog 17 #[.slice ad n cap] w (ScP w xs) := by
  refine (callsIn_wide (n := 3)).1 ?_
  refine callsIn_of_wp_marks Tryd.func17 rfl trivial ?_ rfl
  simp only [Tryd.ntmps17, List.size_toArray, List.length_cons, List.length_nil, Nat.reduceAdd, Nat.reduceSub, Array.replicate_succ, Array.replicate_zero, List.push_toArray, List.append_toArray, List.nil_append, List.cons_append]
  have hnb : n ≤ 100000 := by omega
  have HN := Lib.hid hn
  have HL := Lib.hid hl
  have HM := Lib.hid hm
  have HHAD := Lib.hid had
  clear hn hl hm had hs
  gi_wp2_with fail
  refine ⟨trivial, ?_⟩
  refine (frames_any _ ad n cap 0 _).mono ?_
  rintro e w' ⟨rfl, rfl⟩
  have bO := Boxed.new w 33 (.slice none 0 0)
  have bE := Boxed.new (w.alloc (.cells #[.slice none 0 0] 33)) 3 (.int .i64 0)
  have bB := Boxed.new ((w.alloc (.cells #[.slice none 0 0] 33)).alloc (.cells #[.int .i64 0] 3)) 22 (.slice ad n cap)
  have bA := Boxed.new (((w.alloc (.cells #[.slice none 0 0] 33)).alloc (.cells #[.int .i64 0] 3)).alloc (.cells #[.slice ad n cap] 22)) 3 (.int .i64 0)
  have hB0 : Below w.heap.size w ((((w.alloc (.cells #[.slice none 0 0] 33)).alloc (.cells #[.int .i64 0] 3)).alloc (.cells #[.slice ad n cap] 22)).alloc (.cells #[.int .i64 0] 3)) :=
    ((((Below.refl _ w).alloc (Nat.le_refl _) _).alloc (by simp) _).alloc (by simp; omega) _).alloc (by simp; omega) _
  have hsz4 : ((((w.alloc (.cells #[.slice none 0 0] 33)).alloc (.cells #[.int .i64 0] 3)).alloc (.cells #[.slice ad n cap] 22)).alloc (.cells #[.int .i64 0] 3)).heap.size = w.heap.size + 1 + 1 + 1 + 1 := by simp
  have bO4 := ((bO.alloc (.cells #[.int .i64 0] 3)).alloc (.cells #[.slice ad n cap] 22)).alloc (.cells #[.int .i64 0] 3)
  have bE4 := (bE.alloc (.cells #[.slice ad n cap] 22)).alloc (.cells #[.int .i64 0] 3)
  have bB4 := bB.alloc (.cells #[.int .i64 0] 3)
  simp only [World.size_alloc] at bE4 bB4 bA
  clear bO bE bB
  gi_wp2
  refine wpIn_seqKn rfl (by decide) (gf := 37) (lb := #[.pointer (some ⟨w.heap.size + 1 + 1, 0, none⟩), .pointer (some ⟨w.heap.size + 1 + 1 + 1, 0, none⟩)]) rfl trivial (enters_of Tryd.func37 (by kernel_rfl) rfl)
    (frames1_kn 2 ad n cap 0 (w.heap.size + 1 + 1) (w.heap.size + 1 + 1 + 1) xs w _ HL.out HN.out (by have := HN.out; omega) hc hcm HHAD.out HM.out hB0 bB4 bA.cell (by rw [hsz4]; omega) (Nat.zero_le _))
    (fun h k => ⟨h.1.trans k.1, fun hb => k.2 (h.2 hb)⟩) (frKp_put (by rw [hsz4]; omega)) (fun _ => rfl)
    (ScI w w.heap.size (w.heap.size + 1 + 1 + 1 + 1) w.heap.size (w.heap.size + 1) [] 0) (by rw [hsz4]; exact scI_own _ _ _ _ _ _ _ (by omega) (Nat.le_refl _)) (fun x => frKn_own _ x)
    ⟨_, bO4, Lz.nil _ _, bE4, hB0, by rw [hsz4]; omega⟩
    (fun x => { tmps := #[.slice ad n cap, undef, .slice none 0 0, .int .i64 0, .pointer (some ⟨w.heap.size, 0, none⟩), .pointer (some ⟨w.heap.size + 1, 0, none⟩), x.val, .int .i64 x.e, .slice ad n cap, .func (.func 37) #[] #[.pointer (some ⟨w.heap.size + 1 + 1, 0, none⟩), .pointer (some ⟨w.heap.size + 1 + 1 + 1, 0, none⟩)], x.val, .int .i64 x.e, undef, undef, undef, undef, undef, undef, undef], defers := [] }) ?assign ?body ?done
  case assign =>
    intro l x W K hK
    gi_wp2
    exact hK
  case body =>
    rintro l pre x W ⟨v, hv, hz, hbe, hB, hWD⟩ hkn hlen
    rw [hsz4]
    obtain ⟨xad, xN, xcap, xl, xe⟩ := x
    have hLl : ([] ++ pre.map (fun x : Fr => x.l)).length = pre.length := by simp
    generalize hLs : ([] ++ pre.map (fun x : Fr => x.l)) = Ls0 at hz hLl
    have HLS := Lib.hid hLs
    have hc1 := hv.cell
    have hWs := hB.size
    have hLb : Ls0.length ≤ 100000 := by omega
    have HV := Lib.hid hv
    have HZ := Lib.hid hz
    have HBE := Lib.hid hbe
    have HB := Lib.hid hB
    have HK := Lib.hid hkn
    clear hv hz hbe hB hkn bO4 bE4 bB4 bA hB0 hLs hLl hlen
    gi_wp2_with (gi_at_builtin; refine wpListIn_append_z rfl (.tmp 12) (.tmp 14) rfl (w.heap.size + 1 + 1 + 1 + 1) _ (.slice xad xN xcap) _ xl rfl (HZ.out.alloc _) ⟨W.heap.size, 0, none⟩ rfl (cell_one_new _ _ _) (HoldS.alloc HK.out _) (Nat.le_trans hLb (by decide)) (by simp; omega) ?_; intro v' w1 hz' hg; obtain ⟨g', cap', rfl⟩ := hz'.cons; have hr := round_collects (n₀ := w.heap.size) (bb := w.heap.size + 1 + 1) (b := .slice ad n cap) (new := .int .i64 xe) HV.out HZ.out HBE.out (Nat.le_refl _) (by omega) (by omega) (by omega) (by omega) (by omega) (by omega) (by omega) (by omega) hWs hz' hg; have hc2 := hr.1.1.cell; have hf2 := hr.1.1.frozen; have hc3 := hr.1.2.cell; have hf3 := hr.1.2.frozen; have HR := Lib.hid hr; clear hz' hg hr)
    obtain ⟨_, ⟨hk1, hk2⟩, hb1, hb2, hz2⟩ := HR.out
    refine ⟨hk1, hk2, _, hb1, ?_, by simpa using hb2, HB.out.trans hk2.1, Nat.le_trans hWD hk1.size⟩
    rw [List.map_append, ← List.append_assoc, HLS.out]
    exact hz2
  case done =>
    rintro ys W ⟨e, hp, hne⟩ ⟨v, hv, hz, hbe, hB, hWD⟩ hK
    rw [hsz4] at hK ⊢
    have hlast := part_last ys 0 e hp
    rw [show ((0 : Nat) : Int) = 0 from rfl] at hlast
    rw [hlast] at hbe
    have hc1 := hv.cell
    have hc2 := hbe.cell
    have HZ := Lib.hid hz
    have HB := Lib.hid hB
    have HK := Lib.hid hK
    have HP := Lib.hid hp
    have HNE := Lib.hid hne
    clear hv hz hbe hB hK bO4 bE4 bB4 bA hB0 hlast hp hne
    gi_wp2_with fail
    gi_quiet (fail)
    gi_wp2
    have hK2 : (W.drewN nq).heap[w.heap.size + 1 + 1 + 1 + 1]? = some (.deferred (some [])) := HK.out
    have hg2 := grownBy_putObj' (W.drewN nq) (w.heap.size + 1 + 1 + 1 + 1) (.deferred none)
    refine ⟨by simp, .inl ⟨_, _, rfl, run_takeDeferred hK2, ?_⟩⟩
    refine ⟨_, results_tmp2 rfl _ _ _, v, ys.map Fr.fr, e, rfl, HP.out, HNE.out, ?_, ?_⟩
    · rw [fr_fst]
      have h1 : Lz (W.drewN nq) (w.heap.size + 1 + 1 + 1 + 1) v (ys.map (·.l)) := Lz.below (by simpa using HZ.out) (below_drewN (.refl _ _) nq)
      exact (h1.kept hg2 (fun r e => by cases e; exact .inr fun cur t fr hh => by rw [hK2] at hh; cases hh)).ls (by omega)
    · exact (below_drewN HB.out nq).grown hg2 (below_drewN HB.out nq).size (fun k e => by cases e; omega)
end Go.Proofs.YtbbdkghkdmaolaaDoor
