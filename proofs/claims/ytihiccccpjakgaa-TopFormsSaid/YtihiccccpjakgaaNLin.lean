/-
  Numbers of 64 bits in memory: lists to be read (Lin), and lists of the call's own (Onu).
-/
import Derived.Test.YtihiccccpjakgaaNNum
import Derived.Test.YtihiccccpjakgaaApp
import Derived.Deep.RegionLaw
namespace Go.Proofs.Ytihiccccpjakgaa
open Go.RowKit Go.ChangeShapes

def cellsN (l : List UInt64) : List Value := l.map fun x => Value.int .u64 (gv x)
theorem cellsN_length (l : List UInt64) : (cellsN l).length = l.length := by simp [cellsN]
theorem cellsN_append (l m : List UInt64) : cellsN l ++ cellsN m = cellsN (l ++ m) := by simp [cellsN]
theorem cellsN_get (l : List UInt64) (j : Nat) (h : j < l.length) : (cellsN l)[j]? = some (.int .u64 (gv (l[j]'h))) := by simp [cellsN, h]
theorem cellsN_one (l : List UInt64) : ∀ u ∈ cellsN l, u.oneCell' = true := by
  intro u hu
  obtain ⟨y, _, rfl⟩ := List.mem_map.1 hu
  rfl

/-- The numbers xs lie at ad. -/
structure Lin (w : World) (ad : Option Addr) (xs : List UInt64) : Prop where
  at_ : xs = [] ∨ ∃ b off, ad = some ⟨b, off, none⟩ ∧ b < w.heap.size ∧ ∀ j (h : j < xs.length), w.cell? ⟨b, off + j, none⟩ = some (.int .u64 (gv (xs[j]'h)))

theorem Lin.nil (w : World) (ad : Option Addr) : Lin w ad [] := ⟨.inl rfl⟩
theorem Lin.below {W w : World} {ad : Option Addr} {xs : List UInt64} {B : Nat} (h : Lin W ad xs) (hb : Below B W w) (hB : B = W.heap.size) : Lin w ad xs := by
  subst hB
  rcases h.at_ with h0 | ⟨b, off, rfl, hlt, hc⟩
  · exact ⟨.inl h0⟩
  · exact ⟨.inr ⟨b, off, rfl, Nat.lt_of_lt_of_le hlt hb.size, fun j hj => by rw [hb.cell (by exact hlt)]; exact hc j hj⟩⟩
theorem Lin.drew {w : World} {ad : Option Addr} {xs : List UInt64} (h : Lin w ad xs) : Lin w.drew ad xs := ⟨h.at_⟩
theorem Lin.drewN {w : World} {ad : Option Addr} {xs : List UInt64} (h : Lin w ad xs) (n : Nat) : Lin (w.drewN n) ad xs := ⟨h.at_⟩
theorem Lin.get {w : World} {ad : Option Addr} {xs : List UInt64} (h : Lin w ad xs) (hp : 0 < xs.length) :
    ∃ b off, ad = some ⟨b, off, none⟩ ∧ b < w.heap.size ∧ ∀ j (h : j < xs.length), w.cell? ⟨b, off + j, none⟩ = some (.int .u64 (gv (xs[j]'h))) := by
  rcases h.at_ with h0 | h1
  · subst h0; simp at hp
  · exact h1
theorem Lin.take {w : World} {ad : Option Addr} {xs : List UInt64} (h : Lin w ad xs) (k : Nat) : Lin w ad (xs.take k) := by
  rcases h.at_ with h0 | ⟨b, off, rfl, hlt, hc⟩
  · subst h0; exact ⟨.inl (by simp)⟩
  · exact ⟨.inr ⟨b, off, rfl, hlt, fun j hj => by rw [hc j (by rw [List.length_take] at hj; omega)]; simp⟩⟩
theorem Lin.drop {w : World} {b off : Nat} {xs : List UInt64} (h : Lin w (some ⟨b, off, none⟩) xs) (k : Nat) : Lin w (some ⟨b, off + k, none⟩) (xs.drop k) := by
  rcases h.at_ with h0 | ⟨b', off', h1, hlt, hc⟩
  · subst h0; exact ⟨.inl (by simp)⟩
  · cases h1
    exact ⟨.inr ⟨b, off + k, rfl, hlt, fun j hj => by
      have := hc (k + j) (by rw [List.length_drop] at hj; omega)
      rw [Nat.add_assoc, this]; simp⟩⟩
theorem Lin.lits (w : World) (cs : Array Value) (fr : Nat × Nat) (xs : List UInt64) (h : cs.toList = cellsN xs) : Lin (w.alloc (.cells cs 44 fr)) (some ⟨w.heap.size, 0, none⟩) xs := by
  refine ⟨.inr ⟨w.heap.size, 0, rfl, by simp, fun j hj => ?_⟩⟩
  rw [World.cell?_alloc_mark, ← Array.getElem?_toList, h, Nat.zero_add]
  exact cellsN_get xs j hj

theorem lin_of (w : World) (a : Option Addr) (len cap : Nat) (zs : List Int)
    (h : (a = none ∧ len = 0 ∧ cap = 0 ∧ zs = []) ∨ ∃ x, a = some x ∧ len ≤ cap ∧ cap ≤ maxLen ∧ zs.length = cap ∧ (∀ i, i < zs.length → w.cell? (x.add i) = some (.int .u64 (zs.getD i 0))) ∧ ∀ n ∈ zs, (Lit.int .u64 n).wf = true) :
    ∃ xs : List UInt64, xs.length = len ∧ Lin w a xs ∧ len ≤ cap ∧ cap ≤ maxLen ∧ (a = none → cap = 0) := by
  rcases h with ⟨rfl, rfl, rfl, rfl⟩ | ⟨x, rfl, hl, hm, hz, hc, hw⟩
  · exact ⟨[], rfl, .nil _ _, Nat.le_refl _, Nat.zero_le _, fun _ => rfl⟩
  · refine ⟨(zs.take len).map fun z => UInt64.ofNat z.toNat, by simp; omega, ⟨?_⟩, hl, hm, fun h => by cases h⟩
    by_cases h0 : len = 0
    · left; subst h0; simp
    · right
      have hp : 0 < zs.length := by omega
      obtain ⟨b, off, rfl, hcell⟩ := ints_at hc hp
      refine ⟨b, off, rfl, ?_, fun j hj => ?_⟩
      · have := hcell 0 hp
        rcases Nat.lt_or_ge b w.heap.size with h' | h'
        · exact h'
        · simp [World.cell?, Array.getElem?_eq_none h'] at this
      · have hj' : j < len := by simp at hj; omega
        have hjz : j < zs.length := by omega
        have hb : 0 ≤ zs[j] ∧ zs[j] ≤ 18446744073709551615 := by simpa [Lit.wf, IntKind.min, IntKind.max, IntKind.signed, IntKind.bits] using hw zs[j] (List.getElem_mem hjz)
        have e : zs.getD j 0 = zs[j] := by simp [hjz]
        rw [hcell j hjz, e]
        simp only [List.getElem_map, List.getElem_take]
        rw [← gv_lit _ (by omega)]
        congr 2
        omega

theorem infoN : (Try.prog.info? 44).map (fun i => (i.zero, i.size, i.bytes)) = some (some (.int .u64 0), 1, 8) := by kernel_rfl
theorem info_n : ∃ i : TypeInfo, Try.prog.info? 44 = some i ∧ i.zero = some (.int .u64 0) ∧ i.size = 1 ∧ i.bytes = 8 := by
  have h := infoN
  rcases hi : Try.prog.info? 44 with _ | i
  · rw [hi] at h; simp at h
  · rw [hi] at h
    simp only [Option.map_some, Option.some.injEq, Prod.mk.injEq] at h
    exact ⟨i, rfl, h.1, h.2.1, h.2.2⟩

/-- The value v owns the numbers l, behind block B. -/
def Onu (w : World) (B : Nat) (v : Value) (l : List UInt64) : Prop := w.ownsRow B 44 1 v l.length (cellsN l)
theorem Onu.row {w : World} {B : Nat} {v : Value} {l : List UInt64} (h : Onu w B v l) : w.ownsRow B 44 1 v l.length (cellsN l) := h
theorem Onu.lt {w : World} {B : Nat} {v : Value} {l : List UInt64} (h : Onu w B v l) : ∀ k, v.ownBlock = some k → B ≤ k ∧ k < w.heap.size := fun k hk => h.row.lt k hk
theorem Onu.slice {w : World} {B : Nat} {v : Value} {l : List UInt64} (h : Onu w B v l) :
    ∃ ad cap, v = .slice ad l.length cap ∧ Lin w ad l ∧ l.length ≤ cap ∧ cap ≤ maxLen ∧ (ad = none → cap = 0) := by
  rcases h.row.2 with ⟨rfl, h0⟩ | ⟨g, cap, cur, rfl, _, hg, hle, hm, hsz, htake⟩
  · have : l = [] := List.eq_nil_of_length_eq_zero h0
    subst this
    exact ⟨none, 0, rfl, .nil _ _, Nat.le_refl _, Nat.zero_le _, fun _ => rfl⟩
  · refine ⟨some ⟨g, 0, none⟩, cap, rfl, ⟨.inr ⟨g, 0, rfl, (Array.getElem?_eq_some_iff.1 hg).1, fun j hj => ?_⟩⟩, hle, hm, fun h => by cases h⟩
    rw [Nat.zero_add, cell_of_row w g j cur 44 (0, 0) hg]
    have h1 : (cur.toList.take (l.length * 1))[j]? = some (.int .u64 (gv (l[j]'hj))) := by rw [htake]; exact cellsN_get l j hj
    rw [List.getElem?_take_of_lt (by omega)] at h1
    simpa using h1
theorem Onu.ofNil (w : World) (B : Nat) : Onu w B (.slice none 0 0) [] := ⟨rfl, .inl ⟨rfl, rfl⟩⟩
theorem Onu.below {w w' : World} {B : Nat} {v : Value} {l : List UInt64} (h : Onu w B v l) (hb : Below w.heap.size w w') : Onu w' B v l := by
  refine ⟨h.row.1, ?_⟩
  rcases h.row.2 with h0 | ⟨g, cap, cur, hv, hB, hg, h1, h2, h3, h4⟩
  · exact .inl h0
  · exact .inr ⟨g, cap, cur, hv, hB, (hb.block g (Array.getElem?_eq_some_iff.1 hg).1).trans hg, h1, h2, h3, h4⟩
theorem Onu.mono {w : World} {B B' : Nat} {v : Value} {l : List UInt64} (h : Onu w B v l) (hB : B' ≤ B) : Onu w B' v l := by
  refine ⟨h.row.1, ?_⟩
  rcases h.row.2 with h0 | ⟨g, cap, cur, hv, hg0, hg⟩
  · exact .inl h0
  · exact .inr ⟨g, cap, cur, hv, Nat.le_trans hB hg0, hg⟩
theorem Onu.drewN {w : World} {B : Nat} {v : Value} {l : List UInt64} (h : Onu w B v l) (n : Nat) : Onu (w.drewN n) B v l := h.below (below_drewN (.refl _ _) n)
theorem Onu.alloc {w : World} {B : Nat} {v : Value} {l : List UInt64} (h : Onu w B v l) (o : Obj) : Onu (w.alloc o) B v l := h.below ((Below.refl _ _).alloc (Nat.le_refl _) o)
theorem Lin.alloc {w : World} {ad : Option Addr} {l : List UInt64} (h : Lin w ad l) (o : Obj) : Lin (w.alloc o) ad l := h.below ((Below.refl _ _).alloc (Nat.le_refl _) o) rfl
/-- a call gives a new slice with the numbers l, and what was there is as it was -/
def GivesN (w : World) (l : List UInt64) (e : Ending) (w' : World) : Prop := ∃ v, e = .returned v ∧ Onu w' w.heap.size v l ∧ Below w.heap.size w w'

/-- one number appended to a list of the call's own -/
theorem wpList_append_n {w : World} {ops : Array Oper} {rest : List Oper} {o : Oper} {a : Act} {Q : Exit → Act → World → Prop} (hgd : o.guard = none) (s x : Operand)
    (ho : o.op = .call { callee := .builtin .append, args := #[s, x], argTypes := #[46, 46] })
    (B : Nat) (v : Value) (ys : List UInt64) (hs : a.eval s = v) (hown : Onu w B v ys) (y : UInt64) (ad : Addr) (hx : a.eval x = .slice (some ad) 1 1) (hcell : w.cell? (ad.add 0) = some (.int .u64 (gv y))) (hlen : ys.length ≤ 1000000) (hbase : B ≤ w.heap.size)
    (h : ∀ v' w', Onu w' B v' (ys ++ [y]) → w.grownBy w' v.ownBlock → wpList Try.prog ops Q rest (a.put o.dst v') w') : wpList Try.prog ops Q (o :: rest) a w := by
  obtain ⟨i, hi, hz0, hz1, hz2⟩ := info_n
  refine wpList_append_own w hgd s x 46 ho B 44 i (.int .u64 0) 1 8 Try.underlying46 hi hz0 hz1 hz2 rfl (by decide) v ys.length (cellsN ys) hs hown.row ad 1 1 [.int .u64 (gv y)] hx rfl ?_ (by simp [Value.oneCell']) (by unfold maxLen; omega) (by omega) hbase (fun v' w' h2 h3 _ => h v' w' ?_ h3)
  · intro j u hu
    match j with
    | 0 => simp only [List.getElem?_cons_zero, Option.some.injEq] at hu; subst hu; exact hcell
    | j + 1 => simp at hu
  · unfold Onu
    rw [List.length_append, List.length_singleton]
    rw [show cellsN ys ++ [Value.int .u64 (gv y)] = cellsN (ys ++ [y]) by simp [cellsN]] at h2
    exact h2
theorem wp_append_n {w : World} {o : Oper} {a : Act} {K : Act → World → Prop} {Q : Exit → Act → World → Prop} (s x : Operand)
    (ho : o.op = .call { callee := .builtin .append, args := #[s, x], argTypes := #[46, 46] })
    (B : Nat) (v : Value) (ys : List UInt64) (hs : a.eval s = v) (hown : Onu w B v ys) (y : UInt64) (ad : Addr) (hx : a.eval x = .slice (some ad) 1 1) (hcell : w.cell? (ad.add 0) = some (.int .u64 (gv y))) (hlen : ys.length ≤ 1000000) (hbase : B ≤ w.heap.size)
    (h : ∀ v' w', Onu w' B v' (ys ++ [y]) → w.grownBy w' v.ownBlock → K (a.put o.dst v') w') : o.wp Try.prog a w K Q := by
  obtain ⟨i, hi, hz0, hz1, hz2⟩ := info_n
  refine wp_append_own w s x 46 ho B 44 i (.int .u64 0) 1 8 Try.underlying46 hi hz0 hz1 hz2 rfl (by decide) v ys.length (cellsN ys) hs hown.row ad 1 1 [.int .u64 (gv y)] hx rfl ?_ (by simp [Value.oneCell']) (by unfold maxLen; omega) (by omega) hbase (fun v' w' h2 h3 _ => h v' w' ?_ h3)
  · intro j u hu
    match j with
    | 0 => simp only [List.getElem?_cons_zero, Option.some.injEq] at hu; subst hu; exact hcell
    | j + 1 => simp at hu
  · unfold Onu
    rw [List.length_append, List.length_singleton]
    rw [show cellsN ys ++ [Value.int .u64 (gv y)] = cellsN (ys ++ [y]) by simp [cellsN]] at h2
    exact h2
theorem cell_newN (W : World) (y : UInt64) : (W.alloc (.cells #[.int .u64 (gv y)] 44)).cell? ⟨W.heap.size, 0, none⟩ = some (.int .u64 (gv y)) := by
  rw [World.cell?_alloc_mark]; rfl
theorem step_append_n {w : World} {ops : Array Oper} {o : Oper} {a : Act} {K : Act → World → Prop} {Q : Exit → Act → World → Prop} {E : Prop} (hgd : o.guard = none) (s x : Operand)
    (ho : o.op = .call { callee := .builtin .append, args := #[s, x], argTypes := #[46, 46] })
    (B : Nat) (v : Value) (ys : List UInt64) (hs : a.eval s = v) (hown : Onu w B v ys) (y : UInt64) (b off : Nat) (hx : a.eval x = .slice (some ⟨b, off, none⟩) 1 1) (hcell : w.cell? ⟨b, off, none⟩ = some (.int .u64 (gv y))) (hlen : ys.length ≤ 1000000) (hbase : B ≤ w.heap.size)
    (h : ∀ v' w', Onu w' B v' (ys ++ [y]) → w.grownBy w' v.ownBlock → K (a.put o.dst v') w') :
    if Region.wanted o (yielded ops a.tmps) = true then Oper.wp Try.prog o a w K Q else E := by
  have hw : Region.wanted o (yielded ops a.tmps) = true := by simp [Region.wanted, hgd]
  rw [if_pos hw]
  exact wp_append_n s x ho B v ys hs hown y ⟨b, off, none⟩ hx hcell hlen hbase h
end Go.Proofs.Ytihiccccpjakgaa
