/-
  Lists of lists of structs without references, of the call's own: each inner list has a block of its own.
-/
import Derived.Test.YtpjegenobadckaaCoMem
import Derived.OneCell
namespace Go.Proofs.Ytpjegenobadckaa
open Go.RowKit Go.ChangeShapes
set_option linter.unusedVariables false
/-- a slice -/
structure Slv where
  ad : Option Addr
  n : Nat
  cap : Nat
def slC (s : Slv) : List Value := [.slice s.ad s.n s.cap]
abbrev Slv.val (s : Slv) : Value := .slice s.ad s.n s.cap
theorem celS : Cel slC 1 := ⟨fun _ => rfl, fun x u hu => by simp [slC] at hu; subst hu; rfl, by decide⟩
/-- where the slice that append gives lies -/
theorem run_append_where {P : Program} (w : World) (base : Nat) (t ty e : TypeId) (i : TypeInfo) (z : Value) (size bytes : Nat) (ht : P.underlying t = some (.slice e)) (hi : P.info? e = some i) (hz : i.zero = some z)
    (hsize : i.size = size) (hby : i.bytes = bytes) (v : Value) (n : Nat) (xs : List Value) (hown : w.ownsRow base e size v n xs)
    (a : Addr) (m c : Nat) (news : List Value) (hl : news.length = m * size) (hnews : ∀ j u, news[j]? = some u → w.cell? (a.add j) = some u) (h1 : ∀ u ∈ news, u.oneCell' = true)
    (h63 : n + m ≤ maxLen) (hbytes : (n + m) * bytes ≤ 140737488355328) (v' : Value) (w' : World) (h : (Builtin.append_ #[t, t] ty #[v, .slice (some a) m c]).run P w = .ok v' w') :
    v'.ownBlock = v.ownBlock ∨ ∃ g, v'.ownBlock = some g ∧ w.heap.size ≤ g := by
  subst hsize hby
  have hsmall : n + m ≤ 9223372036854775807 := by simp only [maxLen] at h63; omega
  rcases hown.2 with ⟨rfl, rfl⟩ | ⟨g, cap, cur, rfl, hbg, hg, hnc, hcm, hcs, htake⟩
  · by_cases hm : m = 0
    · subst hm
      have hn : news = [] := List.eq_nil_of_length_eq_zero (by simpa using hl)
      subst hn
      have hr : (Builtin.append_ #[t, t] ty #[.slice none 0 0, .slice (some a) 0 c]).run P w = .ok (.slice none 0 0) w := by
        simp [Builtin.append_, run_underlying ht, sizeOf, typeInfo, hi, Builtin.lenOf, Builtin.firstCells, loadCells, loadCellsFrom]
      rw [hr] at h
      cases h
      exact .inl rfl
    · have hr := run_append_nil (P := P) w t ty e i z ht hi hz a m c news hl hnews (by omega) (by omega) (by have hb := hbytes; simp only [Nat.zero_add] at hb; omega)
      rw [hr] at h
      cases h
      exact .inr ⟨_, rfl, Nat.le_refl _⟩
  · by_cases hroom : n + m ≤ cap
    · have hfit : n * i.size + news.length ≤ cur.size := by rw [hl, hcs, ← Nat.add_mul]; exact Nat.mul_le_mul_right _ hroom
      have hr := run_append_room (P := P) w t ty e i ht hi g n cap cur hg a m c news hl hnews h1 hroom hfit
      rw [hr] at h
      cases h
      exact .inl rfl
    · have holds : ∀ j u, xs[j]? = some u → w.cell? ((⟨g, 0, none⟩ : Addr).add j) = some u := hown.cells (g := g) rfl
      have hr := run_append_grow (P := P) w t ty e i z ht hi hz ⟨g, 0, none⟩ n cap xs hown.1 holds a m c news hl hnews (by omega) (by omega) (growslice_fits (by omega) hbytes)
      rw [hr] at h
      cases h
      exact .inr ⟨_, rfl, Nat.le_refl _⟩
section
variable {α : Type} {c : α → List Value} {k : Nat} {w w' : World} {B : Nat} {ad : Option Addr} {v : Value} {l z : List α} {T ST : TypeId}
theorem wpList_append_g {P : Program} {bytes : Nat} {zv : Value} (ty : Typ P T ST k bytes zv) (hk : Cel c k) {ops : Array Oper} {rest : List Oper} {o : Oper} {a : Act} {Q : Exit → Act → World → Prop} (hgd : o.guard = none) (s x : Operand)
    (ho : o.op = .call { callee := .builtin .append, args := #[s, x], argTypes := #[ST, ST] })
    (B : Nat) (v : Value) (l : List α) (hs : a.eval s = v) (hown : Of T k c w B v l) (a0 : Addr) (n cap : Nat) (z : List α) (hz : Lf c w (some a0) z) (hn : n = z.length) (hx : a.eval x = .slice (some a0) n cap) (hlen : l.length + n ≤ 10000000) (hbase : B ≤ w.heap.size)
    (h : ∀ v' w', Of T k c w' B v' (l ++ z) → w.grownBy w' v.ownBlock → (v'.ownBlock = v.ownBlock ∨ ∃ g, v'.ownBlock = some g ∧ w.heap.size ≤ g) → wpList P ops Q rest (a.put o.dst v') w') : wpList P ops Q (o :: rest) a w := by
  subst hn
  obtain ⟨i, hi, hz0, hz1, hz2⟩ := ty.get
  have hb := ty.small
  have h63 : l.length + z.length ≤ maxLen := by unfold maxLen; omega
  have hby : (l.length + z.length) * bytes ≤ 140737488355328 := by have := Nat.mul_le_mul hlen hb; omega
  have hnews : ∀ j u, (z.flatMap c)[j]? = some u → w.cell? (a0.add j) = some u := by
    intro j u hu
    rcases hz with h0 | ⟨b, off, h0, _, hc⟩
    · rw [h0] at hu; simp at hu
    · cases h0
      rw [Go.WideShapes.add_plain]
      exact hc j u hu
  refine wpList_plain hgd fun K hK => ?_
  obtain ⟨v', w', hr, h2, h3, h4⟩ := run_append_own (P := P) w B ST o.type T i zv k bytes ty.und hi hz0 hz1 hz2 ty.zs hk.pos v _ _ hown.row a0 z.length cap (z.flatMap c) (flat_length hk z) hnews (flat_one hk z) h63 hby hbase
  have h5 := run_append_where (P := P) w B ST o.type T i zv k bytes ty.und hi hz0 hz1 hz2 v _ _ hown.row a0 z.length cap (z.flatMap c) (flat_length hk z) hnews (flat_one hk z) h63 hby v' w' hr
  unfold Oper.wp execOp
  simp only [ho, resolve, invoke, builtin, Sem.run_bind, Sem.run_pure, Result.andThen_ok, List.map_toArray, List.map_cons, List.map_nil, hs, hx, hr]
  refine hK _ _ (h v' w' ?_ h3 h5)
  unfold Of
  rw [List.length_append, List.flatMap_append]
  exact h2
theorem Of.kept {row : Option Nat} (h : Of T k c w B v l) (hg : w.grownBy w' row) (hne : v.ownBlock = none ∨ v.ownBlock ≠ row) : Of T k c w' B v l := World.ownsRow.kept h.row hg hne
theorem Of.other (h : Of T k c w B v l) (g i : Nat) (u : Value) (hne : v.ownBlock ≠ some g) : Of T k c (w.setCell ⟨g, i, none⟩ u) B v l := ownsRow_setCell_other h.row hne u
theorem Of.typ (h : Of T k c w B v l) {g : Nat} (hg : v.ownBlock = some g) : ∃ cur, w.heap[g]? = some (.cells cur T (0, 0)) := by
  rcases h.row.2 with ⟨rfl, _⟩ | ⟨g', cap, cur, rfl, _, hh, _⟩
  · cases hg
  · cases hg
    exact ⟨cur, hh⟩
/-- blocks of two types are two -/
theorem Of.apart {β : Type} {d : β → List Value} {m : Nat} {u : Value} {y : List β} {S : TypeId} {B' : Nat} (h : Of T k c w B v l) (h' : Of S m d w B' u y) (ne : T ≠ S) : v.ownBlock = none ∨ v.ownBlock ≠ u.ownBlock := by
  rcases hv : v.ownBlock with _ | g
  · exact .inl rfl
  · refine .inr fun e => ne ?_
    obtain ⟨c1, h1⟩ := h.typ hv
    obtain ⟨c2, h2⟩ := h'.typ e.symm
    rw [h1] at h2
    cases h2
    rfl
theorem sl_flat (ss : List Slv) : ss.flatMap slC = ss.map Slv.val := by
  induction ss with
  | nil => rfl
  | cons x ss ih => rw [List.flatMap_cons, ih]; rfl
/-- a slice in an own list of slices is replaced -/
theorem Of.setS {ss : List Slv} {OT : TypeId} (h : Of OT 1 slC w B v ss) {g : Nat} (hg : v.ownBlock = some g) (i : Nat) (hi : i < ss.length) (s : Slv) : Of OT 1 slC (w.setCell ⟨g, i, none⟩ s.val) B v (ss.set i s) := by
  have h1 := h.row
  unfold Of
  rw [List.length_set]
  refine ⟨by rw [sl_flat, List.length_map, List.length_set, Nat.mul_one], ?_⟩
  rcases h1.2 with ⟨rfl, _⟩ | ⟨g', cap, cur, rfl, hB, hh, hn, hm, hs, ht⟩
  · cases hg
  · obtain rfl : g' = g := by simpa [Value.ownBlock] using hg
    refine .inr ⟨g', cap, _, rfl, hB, hd_set w g' i _ cur _ _ hh, hn, hm, by simpa using hs, ?_⟩
    rw [Array.toList_setIfInBounds, List.take_set, ht, sl_flat, sl_flat, List.map_set]
/-- .. their slices being ss -/
def Nss (OT T : TypeId) (k : Nat) (c : α → List Value) (w : World) (B : Nat) (v : Value) (ll : List (List α)) (ss : List Slv) : Prop :=
  Of OT 1 slC w B v ss ∧ ss.length = ll.length ∧ (∀ (i : Nat) (s : Slv) (l : List α), ss[i]? = some s → ll[i]? = some l → Of T k c w B s.val l) ∧ (∀ (i j : Nat) (s t : Slv) (g : Nat), ss[i]? = some s → ss[j]? = some t → s.val.ownBlock = some g → t.val.ownBlock = some g → i = j)
/-- Lists of the call's own in a list of the call's own. -/
structure Nn (OT T : TypeId) (k : Nat) (c : α → List Value) (w : World) (B : Nat) (v : Value) (ll : List (List α)) : Prop where
  ss : ∃ ss : List Slv, Nss OT T k c w B v ll ss
variable {OT : TypeId} {ll : List (List α)} {B' : Nat}
theorem Nn.nil (OT T : TypeId) (k : Nat) (c : α → List Value) (w : World) (B : Nat) : Nn OT T k c w B (.slice none 0 0) [] := ⟨[], Of.nil _ _ _ _ _, rfl, fun i s l h => by simp at h, fun i j s t g h => by simp at h⟩
theorem Nn.keep (h : Nn OT T k c w B v ll) (hk : ∀ g, B ≤ g → g < w.heap.size → w'.heap[g]? = w.heap[g]?) : Nn OT T k c w' B v ll := by
  obtain ⟨ss, h1, h2, h3, h4⟩ := h
  exact ⟨ss, h1.keep hk, h2, fun i s l hs hl => (h3 i s l hs hl).keep hk, h4⟩
theorem Nn.below (h : Nn OT T k c w B v ll) (hb : Below w.heap.size w w') : Nn OT T k c w' B v ll := h.keep fun g _ hg => hb.block g hg
theorem Nn.mono (h : Nn OT T k c w B v ll) (hB : B' ≤ B) : Nn OT T k c w B' v ll := by
  obtain ⟨ss, h1, h2, h3, h4⟩ := h
  exact ⟨ss, h1.mono hB, h2, fun i s l hs hl => (h3 i s l hs hl).mono hB, h4⟩
theorem Nn.other (h : Nn OT T k c w B v ll) (g i : Nat) (u : Value) (hg : g < B) : Nn OT T k c (w.setCell ⟨g, i, none⟩ u) B v ll := h.keep fun b hb _ => Below.heap_setCell w ⟨g, i, none⟩ u b (by intro e; have e : b = g := e; omega)
theorem Nn.read (h : Nn OT T k c w B v ll) : ∃ ad cap, v = .slice ad ll.length cap ∧ ll.length ≤ cap ∧ cap ≤ maxLen ∧ (ad = none → cap = 0) := by
  obtain ⟨ss, h1, h2, -⟩ := h
  obtain ⟨ad, cap, e, -, h3⟩ := h1.read
  rw [h2] at e h3
  exact ⟨ad, cap, e, h3⟩
/-- what lies at i -/
theorem Nn.get (h : Nn OT T k c w B v ll) (i : Nat) (hi : i < ll.length) : ∃ g cap ad ncap, v = .slice (some ⟨g, 0, none⟩) ll.length cap ∧ B ≤ g ∧ g < w.heap.size ∧ w.frozen? ⟨g, i, none⟩ = false ∧ w.cell? ⟨g, i, none⟩ = some (.slice ad (ll[i]).length ncap) ∧ Of T k c w B (.slice ad (ll[i]).length ncap) ll[i] := by
  obtain ⟨ss, h1, h2, h3, h4⟩ := h
  have hi' : i < ss.length := by omega
  have h5 := h3 i _ _ (List.getElem?_eq_getElem hi') (List.getElem?_eq_getElem hi)
  obtain ⟨ad, cap, e, hl, h6⟩ := h1.read
  obtain ⟨b, off, rfl, hlt, hc⟩ := hl.get celS hi'
  have hc := hc 0 _ (by decide) rfl
  rcases h1.row.2 with ⟨rfl, _⟩ | ⟨g, cap', cur, e2, hB, hh, _⟩
  · cases e
  · rw [e2] at e
    cases e
    obtain ⟨ad2, cap2, e3, -⟩ := h5.read
    unfold Slv.val at e3 h5
    simp only [Nat.zero_add, Nat.mul_one, Nat.add_zero, e3] at hc
    rw [e3] at h5
    exact ⟨b, cap, ad2, cap2, by rw [e2, h2], hB, hlt, by simp [World.frozen?, hh], hc, h5⟩
/-- an empty list is appended -/
theorem Nss.pushed {ss : List Slv} (h : Nss OT T k c w B v ll ss) (ne : T ≠ OT) {v' : Value} (hg : w.grownBy w' v.ownBlock) (ho : Of OT 1 slC w' B v' (ss ++ [⟨none, 0, 0⟩])) : Nss OT T k c w' B v' (ll ++ [[]]) (ss ++ [⟨none, 0, 0⟩]) := by
  obtain ⟨h1, h2, h3, h4⟩ := h
  refine ⟨ho, by simp [h2], fun i s l hs hl => ?_, fun i j s t g hs ht hgs hgt => ?_⟩
  · by_cases hlt : i < ss.length
    · rw [List.getElem?_append_left hlt] at hs
      rw [List.getElem?_append_left (by omega)] at hl
      have := h3 i s l hs hl
      exact this.kept hg (this.apart h1 ne)
    · rw [List.getElem?_append_right (by omega)] at hs
      rw [List.getElem?_append_right (by omega), ← h2] at hl
      have e : i - ss.length = 0 := by
        have := (List.getElem?_eq_some_iff.1 hs).1
        simpa using this
      rw [e] at hs hl
      simp at hs hl
      subst hs hl
      exact Of.nil _ _ _ _ _
  · by_cases hlt : i < ss.length
    · by_cases hlt2 : j < ss.length
      · rw [List.getElem?_append_left hlt] at hs
        rw [List.getElem?_append_left hlt2] at ht
        exact h4 i j s t g hs ht hgs hgt
      · rw [List.getElem?_append_right (by omega)] at ht
        have e : j - ss.length = 0 := by
          have := (List.getElem?_eq_some_iff.1 ht).1
          simpa using this
        rw [e] at ht
        simp at ht
        subst ht
        cases hgt
    · rw [List.getElem?_append_right (by omega)] at hs
      have e : i - ss.length = 0 := by
        have := (List.getElem?_eq_some_iff.1 hs).1
        simpa using this
      rw [e] at hs
      simp at hs
      subst hs
      cases hgs
/-- a list in it has grown, and is stored back -/
theorem Nss.put {ss : List Slv} (h : Nss OT T k c w B v ll ss) (ne : T ≠ OT) {g i cap : Nat} (hv : v = .slice (some ⟨g, 0, none⟩) ll.length cap) (hi : i < ll.length) {u : Value} {y : List α} {ad2 : Option Addr} {cap2 : Nat} (hu : w.cell? ⟨g, i, none⟩ = some u)
    (ho : Of T k c w' B (.slice ad2 y.length cap2) y) (hg : w.grownBy w' u.ownBlock) (hw : (Value.slice ad2 y.length cap2).ownBlock = u.ownBlock ∨ ∃ g, (Value.slice ad2 y.length cap2).ownBlock = some g ∧ w.heap.size ≤ g) : Nss OT T k c (w'.setCell ⟨g, i, none⟩ (.slice ad2 y.length cap2)) B v (ll.set i y) (ss.set i ⟨ad2, y.length, cap2⟩) := by
  have hget := Nn.get ⟨ss, h⟩ i hi
  obtain ⟨h1, h2, h3, h4⟩ := h
  obtain ⟨g', cap', ad, ncap, e, hB, hlt, -, hc, hin⟩ := hget
  rw [hv] at e
  cases e
  rw [hu] at hc
  cases hc
  have hi' : i < ss.length := by omega
  have hvg : v.ownBlock = some g := by rw [hv]; rfl
  have e1 : (ss[i]).val = .slice ad (ll[i]).length ncap := by
    obtain ⟨ad3, cap3, e, hl, _⟩ := h1.read
    rw [hv, h2] at e
    cases e
    obtain ⟨b, off, e, hlt, hcc⟩ := hl.get celS hi'
    cases e
    have := hcc 0 _ (by decide) rfl
    simp only [Nat.zero_add, Nat.mul_one, Nat.add_zero, hu] at this
    exact (Option.some.inj this).symm
  have h5 := h1.kept hg (by
    rcases hin.apart h1 ne with h0 | h0
    · rw [h0, hvg]; exact .inr (by simp)
    · exact .inr fun e => h0 e.symm)
  have hg1 := h5.setS hvg i hi' ⟨ad2, y.length, cap2⟩
  refine ⟨hg1, by simp [h2], fun j s l hs hl => ?_, fun j m s t b hs ht hgs hgt => ?_⟩
  · rw [List.getElem?_set] at hs hl
    by_cases hij : i = j
    · subst hij
      rw [if_pos rfl, if_pos (by omega)] at hs hl
      cases hs
      cases hl
      refine ho.other g i _ fun e => ?_
      rcases ho.apart h5 ne with h0 | h0
      · rw [h0] at e; cases e
      · exact h0 (e.trans hvg.symm)
    · rw [if_neg hij] at hs hl
      have h6 := h3 j s l hs hl
      refine (h6.kept hg ?_).other g i _ fun e => ?_
      · rcases hb : s.val.ownBlock with _ | b
        · exact .inl rfl
        · refine .inr fun e => hij ?_
          exact h4 i j _ s b (List.getElem?_eq_getElem hi') hs (by rw [e1]; exact e.symm) hb
      · rcases h6.apart h1 ne with h0 | h0
        · rw [h0] at e; cases e
        · exact h0 (e.trans hvg.symm)
  · have key : ∀ (p : Nat) (s : Slv) (b : Nat), p ≠ i → ss[p]? = some s → s.val.ownBlock = some b → (Slv.mk ad2 y.length cap2).val.ownBlock = some b → False := by
      intro p s b hp hs hb hb2
      rcases hw with hw | ⟨g2, hw, hge⟩
      · rw [hb2] at hw
        exact hp (h4 p i s _ b hs (List.getElem?_eq_getElem hi') hb (by rw [e1]; exact hw.symm))
      · rw [hb2] at hw
        cases hw
        obtain ⟨l, hl⟩ : ∃ l, ll[p]? = some l := ⟨_, List.getElem?_eq_getElem (by have := (List.getElem?_eq_some_iff.1 hs).1; omega)⟩
        have := ((h3 p s l hs hl).lt b hb).2
        omega
    rw [List.getElem?_set] at hs ht
    by_cases hj : i = j
    · by_cases hm : i = m
      · omega
      · rw [if_pos hj, if_pos (by omega)] at hs
        rw [if_neg hm] at ht
        cases hs
        exact (key m t b (fun e => hm e.symm) ht hgt hgs).elim
    · rw [if_neg hj] at hs
      by_cases hm : i = m
      · rw [if_pos hm, if_pos (by omega)] at ht
        cases ht
        exact (key j s b (fun e => hj e.symm) hs hgs hgt).elim
      · rw [if_neg hm] at ht
        exact h4 j m s t b hs ht hgs hgt
theorem Nn.put (h : Nn OT T k c w B v ll) (ne : T ≠ OT) {g i cap : Nat} (hv : v = .slice (some ⟨g, 0, none⟩) ll.length cap) (hi : i < ll.length) {u u' : Value} {y : List α} (hu : w.cell? ⟨g, i, none⟩ = some u)
    (ho : Of T k c w' B u' y) (hg : w.grownBy w' u.ownBlock) (hw : u'.ownBlock = u.ownBlock ∨ ∃ g, u'.ownBlock = some g ∧ w.heap.size ≤ g) : Nn OT T k c (w'.setCell ⟨g, i, none⟩ u') B v (ll.set i y) := by
  obtain ⟨ss, h⟩ := h
  obtain ⟨ad2, cap2, rfl, -⟩ := ho.read
  exact ⟨_, Nss.put h ne hv hi hu ho hg hw⟩
theorem Nss.below {ss : List Slv} (h : Nss OT T k c w B v ll ss) (hb : Below w.heap.size w w') : Nss OT T k c w' B v ll ss := by
  obtain ⟨h1, h2, h3, h4⟩ := h
  exact ⟨h1.below hb, h2, fun i s l hs hl => (h3 i s l hs hl).below hb, h4⟩
/-- a cell of a block that is none of theirs -/
theorem Nss.apart {ss : List Slv} (h : Nss OT T k c w B v ll ss) (g i : Nat) (u : Value) (hv : v.ownBlock ≠ some g) (hs : ∀ s ∈ ss, s.val.ownBlock ≠ some g) : Nss OT T k c (w.setCell ⟨g, i, none⟩ u) B v ll ss := by
  obtain ⟨h1, h2, h3, h4⟩ := h
  exact ⟨h1.other g i u hv, h2, fun j s l hsj hl => (h3 j s l hsj hl).other g i u (hs s (List.mem_of_getElem? hsj)), h4⟩
/-- what grows is none of theirs -/
theorem Nss.grown {ss : List Slv} (h : Nss OT T k c w B v ll ss) {row : Option Nat} (hg : w.grownBy w' row) (hv : v.ownBlock = none ∨ v.ownBlock ≠ row) (hs : ∀ s ∈ ss, s.val.ownBlock = none ∨ s.val.ownBlock ≠ row) : Nss OT T k c w' B v ll ss := by
  obtain ⟨h1, h2, h3, h4⟩ := h
  exact ⟨h1.kept hg hv, h2, fun j s l hsj hl => (h3 j s l hsj hl).kept hg (hs s (List.mem_of_getElem? hsj)), h4⟩
theorem Nss.lt {ss : List Slv} (h : Nss OT T k c w B v ll ss) {s : Slv} (hs : s ∈ ss) {g : Nat} (hg : s.val.ownBlock = some g) : B ≤ g ∧ g < w.heap.size := by
  obtain ⟨h1, h2, h3, h4⟩ := h
  obtain ⟨j, hj, rfl⟩ := List.getElem_of_mem hs
  exact (h3 j _ _ (List.getElem?_eq_getElem hj) (List.getElem?_eq_getElem (by omega : j < ll.length))).lt g hg
theorem Nss.nn {ss : List Slv} (h : Nss OT T k c w B v ll ss) : Nn OT T k c w B v ll := ⟨ss, h⟩
theorem Nss.nil (OT T : TypeId) (k : Nat) (c : α → List Value) (w : World) (B : Nat) : Nss OT T k c w B (.slice none 0 0) [] [] := ⟨Of.nil _ _ _ _ _, rfl, fun i s l h => by simp at h, fun i j s t g h => by simp at h⟩
/-- the slice that lies at i -/
theorem Nss.sl {ss : List Slv} (h : Nss OT T k c w B v ll ss) {g i n cap : Nat} (hv : v = .slice (some ⟨g, 0, none⟩) n cap) (hi : i < ss.length) : w.cell? ⟨g, i, none⟩ = some (ss[i]).val := by
  obtain ⟨h1, -⟩ := h
  obtain ⟨ad3, cap3, e, hl, _⟩ := h1.read
  rw [hv] at e
  cases e
  obtain ⟨b, off, e, hlt, hcc⟩ := hl.get celS hi
  cases e
  have := hcc 0 _ (by decide) rfl
  simpa using this
/-- append of an empty list -/
theorem wpList_push_n {P : Program} {OOT : TypeId} (ty : Typ P OT OOT 1 24 (.slice none 0 0)) (ne : T ≠ OT) {ops : Array Oper} {rest : List Oper} {o : Oper} {a : Act} {Q : Exit → Act → World → Prop} (hgd : o.guard = none) (s x : Operand)
    (ho : o.op = .call { callee := .builtin .append, args := #[s, x], argTypes := #[OOT, OOT] })
    (B : Nat) (v : Value) (ll : List (List α)) (hs : a.eval s = v) (hown : Nn OT T k c w B v ll) (a0 : Addr) (hz : Lf slC w (some a0) [⟨none, 0, 0⟩]) (hx : a.eval x = .slice (some a0) 1 1) (hlen : ll.length + 1 ≤ 10000000) (hbase : B ≤ w.heap.size)
    (h : ∀ v' w', Nn OT T k c w' B v' (ll ++ [[]]) → w.grownBy w' v.ownBlock → wpList P ops Q rest (a.put o.dst v') w') : wpList P ops Q (o :: rest) a w := by
  obtain ⟨ss, h1, h2, h3, h4⟩ := id hown
  refine wpList_append_g ty celS hgd s x ho B v ss hs h1 a0 1 1 [⟨none, 0, 0⟩] hz rfl hx (by omega) hbase (fun v' w' hov hg _ => h v' w' ?_ hg)
  exact ⟨_, Nss.pushed ⟨h1, h2, h3, h4⟩ ne hg hov⟩
theorem wpList_push_s {P : Program} {OOT : TypeId} (ty : Typ P OT OOT 1 24 (.slice none 0 0)) (ne : T ≠ OT) {ops : Array Oper} {rest : List Oper} {o : Oper} {a : Act} {Q : Exit → Act → World → Prop} (hgd : o.guard = none) (s x : Operand)
    (ho : o.op = .call { callee := .builtin .append, args := #[s, x], argTypes := #[OOT, OOT] })
    (B : Nat) (v : Value) (ll : List (List α)) (ss : List Slv) (hs : a.eval s = v) (hown : Nss OT T k c w B v ll ss) (a0 : Addr) (hz : Lf slC w (some a0) [⟨none, 0, 0⟩]) (hx : a.eval x = .slice (some a0) 1 1) (hlen : ll.length + 1 ≤ 10000000) (hbase : B ≤ w.heap.size)
    (h : ∀ v' w', Nss OT T k c w' B v' (ll ++ [[]]) (ss ++ [⟨none, 0, 0⟩]) → w.grownBy w' v.ownBlock → wpList P ops Q rest (a.put o.dst v') w') : wpList P ops Q (o :: rest) a w := by
  obtain ⟨h1, h2, h3, h4⟩ := id hown
  refine wpList_append_g ty celS hgd s x ho B v ss hs h1 a0 1 1 [⟨none, 0, 0⟩] hz rfl hx (by omega) hbase (fun v' w' hov hg _ => h v' w' ?_ hg)
  exact Nss.pushed hown ne hg hov
theorem Nn.lt (h : Nn OT T k c w B v ll) : ∀ g, v.ownBlock = some g → B ≤ g ∧ g < w.heap.size := by
  obtain ⟨ss, h1, -⟩ := h
  exact h1.lt
end
/-- a whole number, a place -/
def inC (x : Int) : List Value := [.int .i64 x]
def naC (x : Nat) : List Value := [.int .i64 (x : Int)]
theorem celI : Cel inC 1 := ⟨fun _ => rfl, fun x u hu => by simp [inC] at hu; subst hu; rfl, by decide⟩
theorem celN : Cel naC 1 := ⟨fun _ => rfl, fun x u hu => by simp [naC] at hu; subst hu; rfl, by decide⟩
theorem typI : Typ Try.prog 3 22 1 8 (.int .i64 0) := ⟨by kernel_rfl, Try.underlying22, rfl, by decide⟩
theorem typII : Typ Try.prog 22 37 1 24 (.slice none 0 0) := ⟨by kernel_rfl, Try.underlying37, rfl, by decide⟩
end Go.Proofs.Ytpjegenobadckaa
