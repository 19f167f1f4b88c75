/-
  The law package's few again: the bytes of its blocks lie where they lay.
-/
import Derived.Test.YtjiijjdmkeeilaaDoorCAX
namespace Go.Proofs.YtjiijjdmkeeilaaDoor
open Go.RowKit
set_option linter.unusedVariables false
set_option linter.unusedSimpArgs false
/-- the block's bytes lie below B0 -/
def PB (B0 : Nat) (k : Bk) : Prop := k.x.d = [] ∨ ∃ b off, k.ad = some ⟨b, off, none⟩ ∧ b < B0
/-- blocks of the call's own, their bytes below B0 -/
def Kp (B0 : Nat) (w : World) (B : Nat) (v : Value) (l : List Blk) : Prop := ∃ E : List Bk, E.map Bk.x = l ∧ w.ownsRow B 57 3 v l.length (cellsB E) ∧ ∀ k ∈ E, k.Ok w 0 v.ownBlock ∧ PB B0 k
/-- blocks to be read, their bytes below B0 -/
def Zp (B0 : Nat) (w : World) (y : Option Nat) (ad : Option Addr) (l : List Blk) : Prop := ∃ E : List Bk, E.map Bk.x = l ∧ LieV w ad (cellsB E) ∧ ∀ k ∈ E, k.Ok w 0 y ∧ PB B0 k
theorem Kp.kq {B0 : Nat} {w : World} {B : Nat} {v : Value} {l : List Blk} (h : Kp B0 w B v l) : Kq w B 0 v l := by
  obtain ⟨E, e, h1, h2⟩ := h
  exact ⟨E, e, h1, fun k hk => (h2 k hk).1⟩
theorem Kp.lt {B0 : Nat} {w : World} {B : Nat} {v : Value} {l : List Blk} (h : Kp B0 w B v l) : ∀ k, v.ownBlock = some k → B ≤ k ∧ k < w.heap.size := h.kq.lt
theorem Kp.nil (B0 : Nat) (w : World) (B : Nat) : Kp B0 w B (.slice none 0 0) [] := ⟨[], rfl, ⟨rfl, .inl ⟨rfl, rfl⟩⟩, fun k h => by simp at h⟩
theorem Kp.below {B0 : Nat} {w w' : World} {B : Nat} {v : Value} {l : List Blk} (h : Kp B0 w B v l) (hb : Below w.heap.size w w') : Kp B0 w' B v l := by
  obtain ⟨E, e, h1, h2⟩ := h
  refine ⟨E, e, ⟨h1.1, ?_⟩, fun k hk => ⟨(h2 k hk).1.below hb, (h2 k hk).2⟩⟩
  rcases h1.2 with h0 | ⟨g, cap, cur, hv, hB, hg, h4⟩
  · exact .inl h0
  · exact .inr ⟨g, cap, cur, hv, hB, (hb.block g (Array.getElem?_eq_some_iff.1 hg).1).trans hg, h4⟩
/-- read beside another list -/
theorem Kp.kx {B0 : Nat} {w : World} {B : Nat} {v : Value} {l : List Blk} (h : Kp B0 w B v l) {y : Option Nat} (hy : ∀ g, y = some g → B0 ≤ g) :
    ∃ ad cap, v = .slice ad l.length cap ∧ Kx w 0 y ad l ∧ l.length ≤ cap ∧ cap ≤ maxLen ∧ (ad = none → cap = 0) := by
  obtain ⟨E, e, h1, h2⟩ := h
  obtain ⟨ad, cap, rfl, _, hc, hm, ha, _⟩ := (show Kq w B 0 v l from ⟨E, e, h1, fun k hk => (h2 k hk).1⟩).read
  refine ⟨ad, cap, rfl, ⟨E, e, ?_, fun k hk => ?_⟩, hc, hm, ha⟩
  · rcases h1.2 with ⟨h5, h6⟩ | ⟨g, cap', cur, h5, hB, hg, hle, hm', hsz, htake⟩
    · left
      have hl : l = [] := List.eq_nil_of_length_eq_zero h6
      subst hl
      have hE : E = [] := List.map_eq_nil_iff.1 e
      subst hE
      rfl
    · injection h5 with h5 h7 h8
      subst h5 h8
      refine .inr ⟨g, 0, rfl, (Array.getElem?_eq_some_iff.1 hg).1, fun j u hu => ?_⟩
      rw [Nat.zero_add, cell_of_row w g j cur 57 (0, 0) hg]
      have hj : j < l.length * 3 := by rw [← h1.1]; exact (List.getElem?_eq_some_iff.1 hu).1
      rw [← htake, List.getElem?_take_of_lt hj] at hu
      simpa using hu
  · obtain ⟨hok, hp⟩ := h2 k hk
    refine ⟨?_, hok.le, hok.mx, hok.nn⟩
    rcases hok.lie with h0 | ⟨b, off, e1, q1, q2, q3, q4⟩
    · exact .inl h0
    · rcases hp with hp | ⟨b', off', e2, q5⟩
      · exact .inl hp
      · rw [e1] at e2
        cases e2
        exact .inr ⟨b, off, e1, q1, q2, fun e' => by have := hy b e'.symm; omega, q4⟩
theorem Zp.one {B0 : Nat} {w : World} {y : Option Nat} (m bad : Bool) (ad : Option Addr) (d : List UInt8) (cap : Nat) (hl : LieX w 0 y ad d) (hp : d = [] ∨ ∃ b off, ad = some ⟨b, off, none⟩ ∧ b < B0) (h1 : d.length ≤ cap) (h2 : cap ≤ maxLen) (h3 : ad = none → cap = 0) (g : Nat) (hg : g = w.heap.size) :
    Zp B0 (w.alloc (.cells #[.bool m, .bool bad, .slice ad d.length cap] 57)) y (some ⟨g, 0, none⟩) [⟨m, bad, d⟩] := by
  subst hg
  refine ⟨[⟨⟨m, bad, d⟩, ad, cap⟩], rfl, .inr ⟨w.heap.size, 0, rfl, by simp, fun j u hu => ?_⟩, fun k hk => ?_⟩
  · rw [Nat.zero_add, World.cell?_alloc_mark]
    simpa [cellsB, Bk.cells] using hu
  · obtain rfl : k = ⟨⟨m, bad, d⟩, ad, cap⟩ := by simpa using hk
    exact ⟨⟨hl.below ((Below.refl _ _).alloc (Nat.le_refl _) _), h1, h2, h3⟩, hp⟩
theorem Lie.pb {w : World} {ad : Option Addr} {d : List UInt8} (h : Lie w ad d) : d = [] ∨ ∃ b off, ad = some ⟨b, off, none⟩ ∧ b < w.heap.size := by
  rcases h.at_ with h0 | ⟨b, off, e, hlt, _⟩
  · exact .inl h0
  · exact .inr ⟨b, off, e, hlt⟩
theorem pb_take {B0 : Nat} {ad : Option Addr} {d : List UInt8} (h : d = [] ∨ ∃ b off, ad = some ⟨b, off, none⟩ ∧ b < B0) (k : Nat) : d.take k = [] ∨ ∃ b off, ad = some ⟨b, off, none⟩ ∧ b < B0 := by
  rcases h with rfl | h
  · exact .inl (by simp)
  · exact .inr h
/-- blocks appended to a list of the call's own, their bytes in elder blocks -/
theorem wpList_append_p {w : World} {ops : Array Oper} {rest : List Oper} {o : Oper} {a : Act} {Q : Exit → Act → World → Prop} (hgd : o.guard = none) (s x : Operand)
    (ho : o.op = .call { callee := .builtin .append, args := #[s, x], argTypes := #[29, 29] })
    (B0 B : Nat) (v : Value) (l : List Blk) (hs : a.eval s = v) (hown : Kp B0 w B v l) (ad : Option Addr) (n cap : Nat) (z : List Blk) (hcap : ad = none → cap = 0) (hz : Zp B0 w v.ownBlock ad z) (hn : n = z.length) (hx : a.eval x = .slice ad n cap) (hlen : l.length + n ≤ 100000) (hbase : B ≤ w.heap.size)
    (h : ∀ v' w', Kp B0 w' B v' (l ++ z) → w.grownBy w' v.ownBlock → (v'.ownBlock = v.ownBlock ∨ v'.ownBlock = some w.heap.size) → wpList Tryd.prog ops Q rest (a.put o.dst v') w') : wpList Tryd.prog ops Q (o :: rest) a w := by
  subst hn
  obtain ⟨i, hi, hz0, hz1, hz2⟩ := info_b
  obtain ⟨E, rfl, h1, h2⟩ := hown
  obtain ⟨F, rfl, h3, h4⟩ := hz
  have hnone : ∀ F : List Bk, cellsB F = [] → F = [] := fun F h => List.eq_nil_of_length_eq_zero (by have := cellsB_length F; rw [h] at this; simp at this; omega)
  cases ad with
  | none =>
    have hF : F = [] := by
      rcases h3 with h0 | ⟨b, off, h0, _⟩
      · exact hnone F h0
      · cases h0
    subst hF
    obtain rfl := hcap rfl
    refine wpList_append_own_none hgd s x 29 ho B 57 i 3 Tryd.underlying29 hi v _ (cellsB E) hs h1 hx (h v w ?_ ⟨rfl, rfl, rfl, Nat.le_refl _, fun _ _ _ => rfl⟩ (.inl rfl))
    rw [List.map_nil, List.append_nil]
    exact ⟨E, rfl, h1, h2⟩
  | some a0 =>
    have hnews : ∀ j u, (cellsB F)[j]? = some u → w.cell? (a0.add j) = some u := by
      rcases h3 with h0 | ⟨b, off, e, _, hc⟩
      · rw [h0]; intro j u hu; simp at hu
      · cases e
        intro j u hu
        rw [Go.WideShapes.add_plain]
        exact hc j u hu
    simp only [List.length_map] at hlen hx
    refine wpList_append_own_at w hgd s x 29 ho B 57 i (.agg #[.bool false, .bool false, .slice none 0 0]) 3 32 Tryd.underlying29 hi hz0 hz1 hz2 rfl (by decide) v _ (cellsB E) hs h1 a0 F.length cap (cellsB F) hx (cellsB_length F) hnews (cellsB_one F) (by simp only [List.length_map]; unfold maxLen; omega) (by simp only [List.length_map]; omega) hbase
      (fun v' w' h5 h6 _ hat => h v' w' ⟨E ++ F, by rw [List.map_append], ?_, fun k hk => ?_⟩ h6 hat)
    · rw [List.length_append, List.length_map, List.length_map, cellsB_append]
      rw [List.length_map] at h5
      exact h5
    · rcases List.mem_append.1 hk with hk | hk
      · exact ⟨(h2 k hk).1.grown h6 hat, (h2 k hk).2⟩
      · exact ⟨(h4 k hk).1.grown h6 hat, (h4 k hk).2⟩
/-- what few gives -/
def GivesP (B0 : Nat) (w : World) (l : List Blk) (e : Ending) (w' : World) : Prop := ∃ v, e = .returned v ∧ Kp B0 w' w.heap.size v l ∧ Below w.heap.size w w'
attribute [local irreducible] fewB
set_option maxRecDepth 100000 in
set_option maxHeartbeats 4000000 in
theorem few_low (ad : Option Addr) (n cap : Nat) (l : List Blk) (w0 w : World) (hl : Ki w0 ad l) (hb0 : Below w0.heap.size w0 w) (hn : n = l.length) :
    Calls Tryd.prog 22 #[.slice ad n cap] w (GivesP w0.heap.size w (fewB l)) := by
  have HL := Lib.hid hl
  have HBO := Lib.hid hb0
  have HN := Lib.hid hn
  have HE := Lib.hid (fewB_end l)
  have HNE := Lib.hid (fewB_next l)
  have HZ0 := Lib.hid (show fewB (l.take 0) = [] by unfold fewB; simp)
  have HLE : Hid (∀ k, (fewB (l.take k)).length ≤ 30) := Lib.hid fun k => by unfold fewB; rw [List.length_map, List.length_take]; omega
  clear hl hn hb0
  obtain ⟨N, hN⟩ : ∃ N, N = min n 30 := ⟨_, rfl⟩
  go_enter Tryd.func22, Tryd.ntmps22
  go_wp2_with fail
  go_loopg [3, 4] N (fun gk v3 vk wx => ∃ k : Nat, k + gk = N ∧ vk = .int .i64 k ∧ Hid (Kp w0.heap.size wx w.heap.size v3 (fewB (l.take k))) ∧ Hid (Below w.heap.size w wx))
  case atStart => exact ⟨0, by omega, rfl, Lib.hid (by rw [HZ0.out]; exact Kp.nil _ _ _), Lib.hid (Below.refl _ _)⟩
  case round =>
    obtain ⟨k, hk, rfl, hK, hB⟩ := hrel
    cases gk with
    | zero =>
      have hNk : k = N := by omega
      have HT := Lib.hid (HE.out k (by have := HN.out; omega))
      by_cases hn3 : k < n
      · have h30 : ¬ (k : Int) < 30 := by omega
        go_wp2
        go_ret
        exact ⟨_, rfl, by rw [← HT.out]; exact hK.out, hB.out⟩
      · have hnn : ¬ (k : Int) < (n : Int) := by omega
        go_wp2
        go_ret
        exact ⟨_, rfl, by rw [← HT.out]; exact hK.out, hB.out⟩
    | succ gk0 =>
      have hkn : k < n := by omega
      have hk30 : (k : Int) < 30 := by omega
      have hkl : k < l.length := by rw [← HN.out]; exact hkn
      obtain ⟨b, off, ad', cap', hadr, hlt, q0, q1, q2, hq, hq2, hq3, hq4⟩ := HL.out.get hkl
      subst hadr
      have HBW := Lib.hid (HBO.out.trans (hB.out.mono HBO.out.size))
      have HPB := Lib.hid (hq.pb)
      replace q0 := (HBW.out.cell (p := ⟨b, off + k * 3, none⟩) hlt).trans q0
      replace q1 := (HBW.out.cell (p := ⟨b, off + k * 3 + 1, none⟩) hlt).trans q1
      replace q2 := (HBW.out.cell (p := ⟨b, off + k * 3 + 2, none⟩) hlt).trans q2
      have HNX := Lib.hid (show fewB (l.take (k + 1)) = fewB (l.take k) ++ [⟨l[k].m, l[k].bad, l[k].d.take 70⟩] from HNE.out k hkl (by omega))
      generalize l[k].m = xm at *
      generalize l[k].bad = xb at *
      generalize l[k].d = xd at *
      have HLT := Lib.hid hK.out.lt
      have HSW := Lib.hid (show w.heap.size ≤ wr.heap.size from hB.out.size)
      have hlen2 : (fewB (l.take k)).length + 1 ≤ 100000 := by have := HLE.out k; omega
      have HX0 := Lib.hid (fun W (h : Below w0.heap.size w0 W) => LieX.of_low (lie_take hq 70) h (fun g hg => Nat.le_trans HBO.out.size (hK.out.lt g hg).1))
      have hkn2 : (k : Int) < (n : Int) := by omega
      clear hkl hlt hq
      have hkw : IntKind.i64.wrap ((k : Int) + 1) = ((k + 1 : Nat) : Int) := (IntWalk.i64_in _ (by omega)).trans (by push_cast; rfl)
      by_cases hx : 70 < xd.length
      · have hc70 : 70 ≤ cap' := by omega
        have HZ5 := Lib.hid (fun W (h : Below w0.heap.size w0 W) => Zp.one (w := W) xm xb ad' (xd.take 70) cap' (HX0.out W h) (pb_take HPB.out 70) (by rw [List.length_take]; omega) hq3 hq4 _ rfl)
        rw [show (xd.take 70).length = 70 by rw [List.length_take]; omega] at HZ5
        have HB5 := hB.out.alloc hB.out.size (.cells #[.bool xm, .bool xb, .slice ad' 70 cap'] 57)
        have HB6 := Lib.hid (HB5.alloc HB5.size (.cells #[.bool xm, .bool xb, .slice ad' 70 cap'] 57))
        have HZ6 := Lib.hid (HZ5.out _ (HBO.out.trans (HB5.mono HBO.out.size)))
        rw [World.size_alloc] at HZ6
        have HK6 := Lib.hid (hK.out.below (((Below.refl wr.heap.size wr).alloc (Nat.le_refl _) (.cells #[.bool xm, .bool xb, .slice ad' 70 cap'] 57)).alloc (by simp) (.cells #[.bool xm, .bool xb, .slice ad' 70 cap'] 57)))
        have HW6 := Lib.hid HB6.out.size
        clear HB5 HZ5 HX0
        go_wp2_with (at_builtin; refine wpList_append_p rfl (.tmp 28) (.tmp 30) rfl w0.heap.size w.heap.size u3 _ rfl HK6.out _ 1 1 [⟨xm, xb, xd.take 70⟩] (fun h => by cases h) HZ6.out rfl rfl hlen2 HW6.out ?_; intro v7 w7 ho7 hg7 _; have HK7 := Lib.hid ho7; have HB7 := Lib.hid (HB6.out.grown hg7 HW6.out (fun k hk => (HLT.out k hk).1)); clear ho7 hg7)
        go_roundg gk0
        case rel => exact ⟨k + 1, by omega, by go_num, Lib.hid (by rw [HNX.out]; exact HK7.out), HB7⟩
        case measure => omega
      · have HZ5 := Lib.hid (fun W (h : Below w0.heap.size w0 W) => Zp.one (w := W) xm xb ad' (xd.take 70) cap' (HX0.out W h) (pb_take HPB.out 70) (by rw [List.length_take]; omega) hq3 hq4 _ rfl)
        rw [show xd.take 70 = xd from List.take_of_length_le (by omega)] at HZ5 HNX
        have HB5 := hB.out.alloc hB.out.size (.cells #[.bool xm, .bool xb, .slice ad' xd.length cap'] 57)
        have HB6 := Lib.hid (HB5.alloc HB5.size (.cells #[.bool xm, .bool xb, .slice ad' xd.length cap'] 57))
        have HZ6 := Lib.hid (HZ5.out _ (HBO.out.trans (HB5.mono HBO.out.size)))
        rw [World.size_alloc] at HZ6
        have HK6 := Lib.hid (hK.out.below (((Below.refl wr.heap.size wr).alloc (Nat.le_refl _) (.cells #[.bool xm, .bool xb, .slice ad' xd.length cap'] 57)).alloc (by simp) (.cells #[.bool xm, .bool xb, .slice ad' xd.length cap'] 57)))
        have HW6 := Lib.hid HB6.out.size
        clear HB5 HZ5 HX0
        go_wp2_with (at_builtin; refine wpList_append_p rfl (.tmp 28) (.tmp 30) rfl w0.heap.size w.heap.size u3 _ rfl HK6.out _ 1 1 [⟨xm, xb, xd⟩] (fun h => by cases h) HZ6.out rfl rfl hlen2 HW6.out ?_; intro v7 w7 ho7 hg7 _; have HK7 := Lib.hid ho7; have HB7 := Lib.hid (HB6.out.grown hg7 HW6.out (fun k hk => (HLT.out k hk).1)); clear ho7 hg7)
        go_roundg gk0
        case rel => exact ⟨k + 1, by omega, by go_num, Lib.hid (by rw [HNX.out]; exact HK7.out), HB7⟩
        case measure => omega
end Go.Proofs.YtjiijjdmkeeilaaDoor
