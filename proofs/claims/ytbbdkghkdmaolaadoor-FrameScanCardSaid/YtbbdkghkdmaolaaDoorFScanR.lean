/-
  The document's own Scan and Salvage.
-/
import Derived.Test.YtbbdkghkdmaolaaDoorFRes
namespace Go.Proofs.YtbbdkghkdmaolaaDoor
open Go.RowKit
set_option linter.unusedVariables false
set_option linter.unusedSimpArgs false

/-- What Scan answers. -/
def ScP (w : World) (xs : List UInt8) (en : Ending) (w' : World) : Prop :=
  ∃ (v : Value) (ps : List (List UInt8 × Nat)) (e : Nat), en = .returned (.tuple #[v, .int .i64 e]) ∧ Part xs 0 ps e ∧ (chk xs e).2 ≠ 0 ∧ Ls w' w.heap.size v (ps.map (·.1)) ∧ Below w.heap.size w w'
/-- What Salvage answers. -/
def SvP (w : World) (xs : List UInt8) (en : Ending) (w' : World) : Prop :=
  ∃ (v : Value) (ls : List (List UInt8)) (e : Nat), en = .returned v ∧ Salv xs 0 ls e ∧ rs xs e = none ∧ Ls w' w.heap.size v ls ∧ Below w.heap.size w w'
theorem HoldS.below {w w' : World} {B : Nat} {c : Value} {l : List UInt8} (h : HoldS w B c l) (hb : Below w.heap.size w w') : HoldS w' B c l := h.kept (grown_of_below hb) (by simp)
theorem HoldS.alloc {w : World} {B : Nat} {c : Value} {l : List UInt8} (h : HoldS w B c l) (o : Obj) : HoldS (w.alloc o) B c l := h.below ((Below.refl _ _).alloc (Nat.le_refl _) o)
theorem HoldS.of_own {w : World} {B B' : Nat} {v : Value} {l : List UInt8} (h : Own w B' v l) : HoldS w B v l ∧ ∃ ad N cap, v = .slice ad N cap := by
  obtain ⟨ad, cap, e, h1, h2⟩ := LieS.of_own (B := B) h
  exact ⟨⟨ad, cap, e, h1, h2⟩, ad, _, cap, e⟩
theorem map_snoc (ps : List (List UInt8 × Nat)) (l : List UInt8) (n : Nat) : (ps ++ [(l, n)]).map (·.1) = ps.map (·.1) ++ [l] := by simp

set_option maxRecDepth 100000 in
set_option maxHeartbeats 1000000 in
theorem rscan_any (ad : Option Addr) (n cap : Nat) (xs : List UInt8) (w : World) (hl : Lie w ad xs) (hn : n = xs.length) (hs : xs.length ≤ 100000) (hc : n ≤ cap) (hcm : cap ≤ maxLen) (had : ad = none → cap = 0) :
    Calls Tryd.prog 18 #[.slice ad n cap] w (ScP w xs) := by
  have hch := fun (k : Nat) W h1 => rnext_any ad n cap xs (k : Int) W h1 hn (by omega) hc hcm had
  have HCH := Lib.hid hch
  have HL := Lib.hid hl
  have HN := Lib.hid hn
  have hnb : n ≤ 100000 := by omega
  clear hch hl hn hs hcm had hc
  go_enter Tryd.func18, Tryd.ntmps18
  go_wp2
  go_loopw [4, 5] (fun v4 v5 wr => ∃ (ps : List (List UInt8 × Nat)) (e : Nat), v5 = .int .i64 e ∧ e ≤ n ∧ Hid (Part xs 0 ps e) ∧ Hid (Ls wr w.heap.size v4 (ps.map (·.1))) ∧ Hid (Below w.heap.size w wr)) (fun _ v5 _ => n + 1 - (intOf v5).toNat)
  case atStart => exact ⟨[], 0, rfl, Nat.zero_le _, Lib.hid rfl, Lib.hid (Ls.nil _ _), Lib.hid (.refl _ _)⟩
  case round =>
    obtain ⟨ps, e, rfl, hen, hp, hls, hb⟩ := hrel
    have HCALL := Lib.hid (HCH.out e wr (HL.out.below hb.out rfl))
    by_cases he : (chk xs e).2 = 0
    · obtain ⟨m, hm⟩ : ∃ m : Nat, (m : Int) = (chk xs e).1 := ⟨(chk xs e).1.toNat, by have := (chk_bounds xs e).1; omega⟩
      have hst := chk_step he hm
      have HP := Lib.hid (hp.out.snoc he hm)
      have hpl := hp.out.le.1
      have HE := Lib.hid he
      have HM := Lib.hid hm
      have hml : e + 10 ≤ m ∧ m ≤ n := by have := HN.out; omega
      have hpsl : ps.length ≤ 100000 := by omega
      obtain ⟨body, hbody⟩ : ∃ body, bodyAt xs e = body := ⟨_, rfl⟩
      have HBD := Lib.hid hbody
      clear he hm hst hpl hbody
      go_wp2_with fail
      refine HCALL.out.mono ?_
      rintro en w2 ⟨v2, rfl, ho2, hb2⟩
      rw [HE.out, ← HM.out]
      rw [HBD.out] at ho2
      obtain ⟨hh, ad2, N2, cap2, rfl⟩ := HoldS.of_own (B := w.heap.size) ho2
      have HH := Lib.hid hh
      have HLS := Lib.hid (hls.out.below hb2)
      have HB2 := Lib.hid (hb.out.trans (hb2.mono hb.out.size))
      have hsz := HB2.out.size
      have HSZ := Lib.hid hsz
      clear hh ho2 hb2 hsz
      go_wp2_with (at_builtin; refine wpList_append_l rfl (.tmp 20) (.tmp 22) rfl w.heap.size _ (.slice ad2 N2 cap2) _ body rfl (HLS.out.alloc _) _ rfl (cell_one_new _ _ _) (HH.out.alloc _) (by rw [List.length_map]; exact hpsl) (by have := HSZ.out; simp; omega) ?_; intro v3 w3 hls3 hg3)
      go_roundw
      case rel => exact ⟨ps ++ [(body, m)], m, rfl, hml.2, Lib.hid (by rw [← HBD.out]; exact HP.out), Lib.hid (by rw [map_snoc]; exact hls3), Lib.hid (HB2.out.trans (((Below.refl _ _).alloc HSZ.out _).grown hg3 (by have := HSZ.out; simp; omega) (fun k hk => (HLS.out.lt k hk).1)))⟩
      case measure => simp [intOf]; omega
    · obtain ⟨E, hE⟩ : ∃ E, (chk xs e).2 = E := ⟨_, rfl⟩
      have he1 : (E != 0) = true := by rw [bne_iff_ne, ← hE]; exact he
      have HE := Lib.hid hE
      have HNE := Lib.hid he
      clear he hE
      go_wp2_with fail
      refine HCALL.out.mono ?_
      rintro en w2 ⟨v2, rfl, _, hb2⟩
      rw [HE.out]
      have HLS := Lib.hid (hls.out.below hb2)
      have HB2 := Lib.hid (hb.out.trans (hb2.mono hb.out.size))
      clear hb2
      go_wp2
      go_ret2
      exact ⟨_, ps, e, rfl, hp.out, HNE.out, HLS.out, HB2.out⟩

set_option maxRecDepth 100000 in
set_option maxHeartbeats 1000000 in
theorem rsalvage_any (ad : Option Addr) (n cap : Nat) (xs : List UInt8) (w : World) (hl : Lie w ad xs) (hn : n = xs.length) (hs : xs.length ≤ 100000) (hc : n ≤ cap) (hcm : cap ≤ maxLen) (had : ad = none → cap = 0) :
    Calls Tryd.prog 23 #[.slice ad n cap] w (SvP w xs) := by
  have hch := fun (k : Nat) W h1 => rnext_any ad n cap xs (k : Int) W h1 hn (by omega) hc hcm had
  have HCH := Lib.hid hch
  have hrh := fun (k : Nat) W h1 => rresync_from ad n cap k xs (k : Int) W h1 hn (by omega) hc hcm had (by omega)
  have HRH := Lib.hid hrh
  have HL := Lib.hid hl
  have HN := Lib.hid hn
  have hnb : n ≤ 100000 := by omega
  clear hch hrh hl hn hs hcm had hc
  go_enter Tryd.func23, Tryd.ntmps23
  go_wp2
  go_loopw [3, 4] (fun v4 v5 wr => ∃ (ls : List (List UInt8)) (e : Nat), v5 = .int .i64 e ∧ e ≤ n ∧ Hid (Salv xs 0 ls e) ∧ Hid (Ls wr w.heap.size v4 ls) ∧ Hid (Below w.heap.size w wr)) (fun _ v5 _ => n + 1 - (intOf v5).toNat)
  case atStart => exact ⟨[], 0, rfl, Nat.zero_le _, Lib.hid rfl, Lib.hid (Ls.nil _ _), Lib.hid (.refl _ _)⟩
  case round =>
    obtain ⟨ls, e, rfl, hen, hp, hls, hb⟩ := hrel
    have HRC := Lib.hid (HRH.out e wr (HL.out.below hb.out rfl))
    rcases rs_cases xs e with ⟨i, hri, hei, hin, he, _⟩ | ⟨hri, _⟩
    · obtain ⟨m, hm⟩ : ∃ m : Nat, (m : Int) = (chk xs i).1 := ⟨(chk xs i).1.toNat, by have := (chk_bounds xs i).1; omega⟩
      have hst := chk_step he hm
      have HP := Lib.hid (hp.out.snoc hri hm)
      have hpl := hp.out.le.1
      have HE := Lib.hid he
      have HM := Lib.hid hm
      have HRI := Lib.hid hri
      have hml : e + 10 ≤ m ∧ m ≤ n := by have := HN.out; omega
      have hpsl : ls.length ≤ 100000 := by omega
      have hil : i ≤ n := by omega
      obtain ⟨body, hbody⟩ : ∃ body, bodyAt xs i = body := ⟨_, rfl⟩
      have HBD := Lib.hid hbody
      clear he hm hst hpl hbody hri hin
      go_wp2_with fail
      refine HRC.out.mono ?_
      rintro en w1 ⟨hre, hb1⟩
      rw [HRI.out] at hre
      dsimp only at hre
      subst hre
      have HB1 := Lib.hid (hb.out.trans (hb1.mono hb.out.size))
      have HLS1 := Lib.hid (hls.out.below hb1)
      have HCALL := Lib.hid (HCH.out i w1 (HL.out.below HB1.out rfl))
      clear hb1
      go_wp2_with fail
      refine HCALL.out.mono ?_
      rintro en w2 ⟨v2, rfl, ho2, hb2⟩
      rw [HE.out, ← HM.out]
      rw [HBD.out] at ho2
      obtain ⟨hh, ad2, N2, cap2, rfl⟩ := HoldS.of_own (B := w.heap.size) ho2
      have HH := Lib.hid hh
      have HLS := Lib.hid (HLS1.out.below hb2)
      have HB2 := Lib.hid (HB1.out.trans (hb2.mono HB1.out.size))
      have hsz := HB2.out.size
      have HSZ := Lib.hid hsz
      clear hh ho2 hb2 hsz
      go_wp2_with (at_builtin; refine wpList_append_l rfl (.tmp 26) (.tmp 28) rfl w.heap.size _ (.slice ad2 N2 cap2) _ body rfl (HLS.out.alloc _) _ rfl (cell_one_new _ _ _) (HH.out.alloc _) hpsl (by have := HSZ.out; simp; omega) ?_; intro v3 w3 hls3 hg3)
      go_roundw
      case rel => exact ⟨ls ++ [body], m, rfl, hml.2, Lib.hid (by rw [← HBD.out]; exact HP.out), Lib.hid hls3, Lib.hid (HB2.out.trans (((Below.refl _ _).alloc HSZ.out _).grown hg3 (by have := HSZ.out; simp; omega) (fun k hk => (HLS.out.lt k hk).1)))⟩
      case measure => simp [intOf]; omega
    · have HRI := Lib.hid hri
      clear hri
      go_wp2_with fail
      refine HRC.out.mono ?_
      rintro en w1 ⟨hre, hb1⟩
      rw [HRI.out] at hre
      dsimp only at hre
      subst hre
      have HB1 := Lib.hid (hb.out.trans (hb1.mono hb.out.size))
      have HLS1 := Lib.hid (hls.out.below hb1)
      clear hb1
      go_wp2
      go_ret
      exact ⟨_, ls, e, rfl, hp.out, HRI.out, HLS1.out, HB1.out⟩
end Go.Proofs.YtbbdkghkdmaolaaDoor
