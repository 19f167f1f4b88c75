/-
  Lists of structs without references, of any type: read, owned, appended to. A struct is given by its cells.
  Bytes that lie in memory: a slice of bytes as a list of bytes.
  Structs in blocks of their own: load, store, and as a first result.
  Headers of containers and their entries in memory.
-/
import Derived.Test.YtjiijjdmkeeilaaDoorRows
import Derived.WalkKit
import Derived.Lib.Hide
import Derived.Below
import Derived.Deep.Draws
import Derived.Laws.AppendOwn
import Derived.Laws.AppendOwnNone
import Derived.OwnWalk
import Derived.OpenShut
import Derived.WalkSpells
import Derived.WalkLawsBesides
namespace Go.Proofs.YtjiijjdmkeeilaaDoor
open Go.RowKit Go.ChangeShapes
set_option linter.unusedVariables false
/-- k cells each, without references -/
structure Cel {α : Type} (c : α → List Value) (k : Nat) : Prop where
  len : ∀ x, (c x).length = k
  one : ∀ x, ∀ u ∈ c x, u.oneCell' = true
  pos : 0 < k
/-- cells that lie -/
def Lv (w : World) (ad : Option Addr) (vs : List Value) : Prop :=
  vs = [] ∨ ∃ b off, ad = some ⟨b, off, none⟩ ∧ b < w.heap.size ∧ ∀ j u, vs[j]? = some u → w.cell? ⟨b, off + j, none⟩ = some u
section
variable {α : Type} {c : α → List Value} {k : Nat}
theorem flat_length (h : Cel c k) (l : List α) : (l.flatMap c).length = l.length * k := by
  induction l with
  | nil => simp
  | cons x l ih => rw [List.flatMap_cons, List.length_append, ih, h.len, List.length_cons, Nat.add_mul, Nat.one_mul, Nat.add_comm]
theorem flat_one (h : Cel c k) (l : List α) : ∀ u ∈ l.flatMap c, u.oneCell' = true := by
  intro u hu
  obtain ⟨x, _, hx⟩ := List.mem_flatMap.1 hu
  exact h.one x u hx
theorem flat_get (h : Cel c k) : ∀ (l : List α) (i : Nat) (hi : i < l.length) (j : Nat), j < k → (l.flatMap c)[i * k + j]? = (c l[i])[j]?
  | x :: l, 0, _, j, hj => by
    rw [List.flatMap_cons, Nat.zero_mul, Nat.zero_add, List.getElem?_append_left (by rw [h.len]; exact hj)]
    rfl
  | x :: l, i + 1, hi, j, hj => by
    have ih := flat_get h l i (by simpa using hi) j hj
    rw [List.flatMap_cons, List.getElem?_append_right (by rw [h.len, Nat.add_mul, Nat.one_mul]; omega), h.len, show (i + 1) * k + j - k = i * k + j by rw [Nat.add_mul, Nat.one_mul]; omega, ih]
    rfl
theorem flat_take (h : Cel c k) : ∀ (l : List α) (n : Nat), (l.flatMap c).take (n * k) = (l.take n).flatMap c
  | [], n => by simp
  | x :: l, 0 => by simp
  | x :: l, n + 1 => by
    rw [List.take_succ_cons, List.flatMap_cons, List.flatMap_cons, List.take_append, h.len, List.take_of_length_le (by rw [h.len, Nat.add_mul, Nat.one_mul]; omega), show (n + 1) * k - k = n * k by rw [Nat.add_mul, Nat.one_mul]; omega, flat_take h l n]
theorem flat_nil (h : Cel c k) {l : List α} (h0 : l.flatMap c = []) : l = [] := by
  have := flat_length h l
  rw [h0] at this
  have hp := h.pos
  cases l with
  | nil => rfl
  | cons x l =>
    rw [List.length_nil, List.length_cons, Nat.add_mul, Nat.one_mul] at this
    omega
/-- structs to be read -/
def Lf (c : α → List Value) (w : World) (ad : Option Addr) (l : List α) : Prop := Lv w ad (l.flatMap c)
/-- structs of the call's own -/
def Of (T : TypeId) (k : Nat) (c : α → List Value) (w : World) (B : Nat) (v : Value) (l : List α) : Prop := w.ownsRow B T k v l.length (l.flatMap c)
variable {w w' w0 : World} {B B' : Nat} {ad : Option Addr} {v : Value} {l z : List α} {T ST : TypeId}
theorem Lf.nil (c : α → List Value) (w : World) (ad : Option Addr) : Lf c w ad [] := .inl rfl
theorem Lf.below (h : Lf c w ad l) (hb : Below w.heap.size w w') : Lf c w' ad l := by
  rcases h with h0 | ⟨b, off, e, hlt, hc⟩
  · exact .inl h0
  · exact .inr ⟨b, off, e, Nat.lt_of_lt_of_le hlt hb.size, fun j u hu => (hb.cell (p := ⟨b, off + j, none⟩) hlt).trans (hc j u hu)⟩
theorem Lf.drewN (h : Lf c w ad l) (n : Nat) : Lf c (w.drewN n) ad l := h
/-- the cells of the element i -/
theorem Lf.get (hk : Cel c k) (h : Lf c w ad l) {i : Nat} (hi : i < l.length) :
    ∃ b off, ad = some ⟨b, off, none⟩ ∧ b < w.heap.size ∧ ∀ j u, j < k → (c l[i])[j]? = some u → w.cell? ⟨b, off + i * k + j, none⟩ = some u := by
  rcases h with h0 | ⟨b, off, e, hlt, hc⟩
  · have := flat_nil hk h0
    subst this
    simp at hi
  · exact ⟨b, off, e, hlt, fun j u hj hu => by rw [Nat.add_assoc]; exact hc _ _ (by rw [flat_get hk l i hi j hj]; exact hu)⟩
theorem Lf.front (hk : Cel c k) (h : Lf c w ad l) (n : Nat) : Lf c w ad (l.take n) := by
  rcases h with h0 | ⟨b, off, e, hlt, hc⟩
  · have := flat_nil hk h0
    subst this
    exact .inl (by simp)
  · refine .inr ⟨b, off, e, hlt, fun j u hu => hc j u ?_⟩
    rw [← flat_take hk, List.getElem?_take] at hu
    split at hu
    · exact hu
    · cases hu
theorem Lf.lits (w : World) (cs : Array Value) (t : TypeId) (h : cs.toList = l.flatMap c) (g : Nat) (hg : g = w.heap.size) : Lf c (w.alloc (.cells cs t)) (some ⟨g, 0, none⟩) l := by
  subst hg
  refine .inr ⟨w.heap.size, 0, rfl, by simp, fun j u hu => ?_⟩
  rw [Nat.zero_add, World.cell?_alloc_mark]
  rw [← h] at hu
  simpa using hu
theorem Of.row (h : Of T k c w B v l) : w.ownsRow B T k v l.length (l.flatMap c) := h
theorem Of.lt (h : Of T k c w B v l) : ∀ g, v.ownBlock = some g → B ≤ g ∧ g < w.heap.size := fun g hg => h.row.lt g hg
theorem Of.nil (T : TypeId) (k : Nat) (c : α → List Value) (w : World) (B : Nat) : Of T k c w B (.slice none 0 0) [] := ⟨by simp, .inl ⟨rfl, rfl⟩⟩
theorem Of.made (T : TypeId) (k : Nat) (c : α → List Value) (w : World) (B g : Nat) (hg : g = w.heap.size) (hB : B ≤ g) : Of T k c (w.alloc (.cells #[] T)) B (.slice (some ⟨g, 0, none⟩) 0 0) [] := by
  subst hg
  exact ⟨by simp, .inr ⟨w.heap.size, 0, #[], rfl, hB, heap_alloc_new w _, Nat.le_refl _, by unfold maxLen; omega, by simp, by simp⟩⟩
theorem Of.below (h : Of T k c w B v l) (hb : Below w.heap.size w w') : Of T k c w' B v l := by
  refine ⟨h.row.1, ?_⟩
  rcases h.row.2 with h0 | ⟨g, cap, cur, hv, hB, hg, h1, h2, h3, h4⟩
  · exact .inl h0
  · exact .inr ⟨g, cap, cur, hv, hB, (hb.block g (Array.getElem?_eq_some_iff.1 hg).1).trans hg, h1, h2, h3, h4⟩
/-- where the blocks from B on are as they were -/
theorem Of.keep (h : Of T k c w B v l) (hk : ∀ g, B ≤ g → g < w.heap.size → w'.heap[g]? = w.heap[g]?) : Of T k c w' B v l := by
  refine ⟨h.row.1, ?_⟩
  rcases h.row.2 with h0 | ⟨g, cap, cur, hv, hB, hg, h1, h2, h3, h4⟩
  · exact .inl h0
  · exact .inr ⟨g, cap, cur, hv, hB, (hk g hB (Array.getElem?_eq_some_iff.1 hg).1).trans hg, h1, h2, h3, h4⟩
theorem Of.mono (h : Of T k c w B v l) (hB : B' ≤ B) : Of T k c w B' v l := by
  refine ⟨h.row.1, ?_⟩
  rcases h.row.2 with h0 | ⟨g, cap, cur, hv, hg0, hg⟩
  · exact .inl h0
  · exact .inr ⟨g, cap, cur, hv, Nat.le_trans hB hg0, hg⟩
theorem Of.read (h : Of T k c w B v l) : ∃ ad cap, v = .slice ad l.length cap ∧ Lf c w ad l ∧ l.length ≤ cap ∧ cap ≤ maxLen ∧ (ad = none → cap = 0) := by
  rcases h.row.2 with ⟨rfl, h0⟩ | ⟨g, cap, cur, rfl, hB, hg, hle, hm, hsz, htake⟩
  · have : l = [] := List.eq_nil_of_length_eq_zero h0
    subst this
    exact ⟨none, 0, rfl, .nil _ _ _, Nat.le_refl _, Nat.zero_le _, fun _ => rfl⟩
  · refine ⟨some ⟨g, 0, none⟩, cap, rfl, .inr ⟨g, 0, rfl, (Array.getElem?_eq_some_iff.1 hg).1, fun j u hu => ?_⟩, hle, hm, fun h => by cases h⟩
    rw [Nat.zero_add, cell_of_row w g j cur T (0, 0) hg]
    rw [← htake, List.getElem?_take] at hu
    split at hu
    · simpa using hu
    · cases hu
/-- a type of structs and of their slices -/
structure Typ (P : Program) (T ST : TypeId) (k bytes : Nat) (zv : Value) : Prop where
  info : (P.info? T).map (fun i => (i.zero, i.size, i.bytes)) = some (some zv, k, bytes)
  und : P.underlying ST = some (.slice T)
  zs : zv.cells.size = k
  small : bytes ≤ 1000
theorem Typ.get {P : Program} {bytes : Nat} {zv : Value} (h : Typ P T ST k bytes zv) : ∃ i : TypeInfo, P.info? T = some i ∧ i.zero = some zv ∧ i.size = k ∧ i.bytes = bytes := by
  have h := h.info
  rcases hi : P.info? T with _ | i
  · rw [hi] at h; simp at h
  · rw [hi] at h
    simp only [Option.map_some, Option.some.injEq, Prod.mk.injEq] at h
    exact ⟨i, rfl, h.1, h.2.1, h.2.2⟩
theorem wpList_append_f {P : Program} {bytes : Nat} {zv : Value} (ty : Typ P T ST k bytes zv) (hk : Cel c k) {ops : Array Oper} {rest : List Oper} {o : Oper} {a : Act} {Q : Exit → Act → World → Prop} (hgd : o.guard = none) (s x : Operand)
    (ho : o.op = .call { callee := .builtin .append, args := #[s, x], argTypes := #[ST, ST] })
    (B : Nat) (v : Value) (l : List α) (hs : a.eval s = v) (hown : Of T k c w B v l) (ad : Option Addr) (n cap : Nat) (z : List α) (hcap : ad = none → cap = 0) (hz : Lf c w ad z) (hn : n = z.length) (hx : a.eval x = .slice ad n cap) (hlen : l.length + n ≤ 10000000) (hbase : B ≤ w.heap.size)
    (h : ∀ v' w', Of T k c w' B v' (l ++ z) → w.grownBy w' v.ownBlock → wpList P ops Q rest (a.put o.dst v') w') : wpList P ops Q (o :: rest) a w := by
  subst hn
  obtain ⟨i, hi, hz0, hz1, hz2⟩ := ty.get
  have hb := ty.small
  cases ad with
  | none =>
    have hxs : z = [] := by
      rcases hz with h0 | ⟨b, off, h0, _⟩
      · exact flat_nil hk h0
      · cases h0
    subst hxs
    obtain rfl := hcap rfl
    refine wpList_append_own_none hgd s x ST ho B T i k ty.und hi v _ _ hs hown.row hx (h v w ?_ ⟨rfl, rfl, rfl, Nat.le_refl _, fun _ _ _ => rfl⟩)
    rw [List.append_nil]
    exact hown
  | some a0 =>
    refine wpList_append_own w hgd s x ST ho B T i zv k bytes ty.und hi hz0 hz1 hz2 ty.zs hk.pos v _ _ hs hown.row a0 z.length cap (z.flatMap c) hx (flat_length hk z) ?_ (flat_one hk z) (by unfold maxLen; omega) ?_ hbase (fun v' w' h2 h3 _ => h v' w' ?_ h3)
    · intro j u hu
      rcases hz with h0 | ⟨b, off, h0, _, hc⟩
      · rw [h0] at hu; simp at hu
      · cases h0
        rw [Go.WideShapes.add_plain]
        exact hc j u hu
    · have := Nat.mul_le_mul hlen hb
      omega
    · unfold Of
      rw [List.length_append, List.flatMap_append]
      exact h2
theorem Of.grow (h : Of T k c w B v l) (hb : Below w0.heap.size w0 w) (hB : w0.heap.size ≤ B) (hg : w.grownBy w' v.ownBlock) : Below w0.heap.size w0 w' :=
  hb.grown hg hb.size fun k hk => Nat.le_trans hB (h.lt k hk).1
end
end Go.Proofs.YtjiijjdmkeeilaaDoor
namespace Go.Proofs.YtjiijjdmkeeilaaDoor
open Go.RowKit Go.ChangeShapes

def cellsU (l : List UInt8) : List Value := l.map fun x => Value.int .u8 (x.toNat : Int)
theorem cellsU_length (l : List UInt8) : (cellsU l).length = l.length := by simp [cellsU]
theorem cellsU_append (l m : List UInt8) : cellsU l ++ cellsU m = cellsU (l ++ m) := by simp [cellsU]
theorem cellsU_get (l : List UInt8) (j : Nat) (h : j < l.length) : (cellsU l)[j]? = some (.int .u8 ((l[j]'h).toNat : Int)) := by simp [cellsU, h]
theorem cellsU_one (l : List UInt8) : ∀ u ∈ cellsU l, u.oneCell' = true := by
  intro u hu
  obtain ⟨y, _, rfl⟩ := List.mem_map.1 hu
  rfl
theorem toNat_ofNat8 (n : Nat) (h : n < 256) : (UInt8.ofNat n).toNat = n := by
  simp [UInt8.toNat_ofNat']; omega

/-- The bytes xs lie at ad. -/
structure Lie (w : World) (ad : Option Addr) (xs : List UInt8) : Prop where
  at_ : xs = [] ∨ ∃ b off, ad = some ⟨b, off, none⟩ ∧ b < w.heap.size ∧ ∀ j (h : j < xs.length), w.cell? ⟨b, off + j, none⟩ = some (.int .u8 ((xs[j]'h).toNat : Int))

theorem Lie.nil (w : World) (ad : Option Addr) : Lie w ad [] := ⟨.inl rfl⟩
theorem Lie.below {W w : World} {ad : Option Addr} {xs : List UInt8} {B : Nat} (h : Lie W ad xs) (hb : Below B W w) (hB : B = W.heap.size) : Lie w ad xs := by
  subst hB
  rcases h.at_ with h0 | ⟨b, off, rfl, hlt, hc⟩
  · exact ⟨.inl h0⟩
  · exact ⟨.inr ⟨b, off, rfl, Nat.lt_of_lt_of_le hlt hb.size, fun j hj => by rw [hb.cell (by exact hlt)]; exact hc j hj⟩⟩
theorem Lie.drew {w : World} {ad : Option Addr} {xs : List UInt8} (h : Lie w ad xs) : Lie w.drew ad xs := ⟨h.at_⟩
theorem Lie.drewN {w : World} {ad : Option Addr} {xs : List UInt8} (h : Lie w ad xs) (n : Nat) : Lie (w.drewN n) ad xs := ⟨h.at_⟩

theorem lie_of (w : World) (a : Option Addr) (len cap : Nat) (zs : List Int)
    (h : (a = none ∧ len = 0 ∧ cap = 0 ∧ zs = []) ∨ ∃ x, a = some x ∧ len ≤ cap ∧ cap ≤ maxLen ∧ zs.length = cap ∧ (∀ i, i < zs.length → w.cell? (x.add i) = some (.int .u8 (zs.getD i 0))) ∧ ∀ n ∈ zs, (Lit.int .u8 n).wf = true) :
    ∃ xs : List UInt8, xs.length = len ∧ Lie w a xs ∧ len ≤ cap ∧ cap ≤ maxLen ∧ (a = none → cap = 0) := by
  rcases h with ⟨rfl, rfl, rfl, rfl⟩ | ⟨x, rfl, hl, hm, hz, hc, hw⟩
  · exact ⟨[], rfl, .nil _ _, Nat.le_refl _, Nat.zero_le _, fun _ => rfl⟩
  · refine ⟨(zs.take len).map fun z => UInt8.ofNat z.toNat, by simp; omega, ⟨?_⟩, hl, hm, fun h => by cases h⟩
    by_cases h0 : len = 0
    · left; subst h0; simp
    · right
      have hp : 0 < zs.length := by omega
      obtain ⟨b, off, rfl, hcell⟩ := ints_at hc hp
      refine ⟨b, off, rfl, ?_, fun j hj => ?_⟩
      · have := hcell 0 hp
        rcases Nat.lt_or_ge b w.heap.size with h' | h'
        · exact h'
        · simp [World.cell?, Array.getElem?_eq_none h'] at this
      · have hj' : j < len := by simp at hj; omega
        have hjz : j < zs.length := by omega
        have hb : 0 ≤ zs[j] ∧ zs[j] ≤ 255 := by simpa [Lit.wf, IntKind.min, IntKind.max, IntKind.signed, IntKind.bits] using hw zs[j] (List.getElem_mem hjz)
        have e : zs.getD j 0 = zs[j] := by simp [hjz]
        rw [hcell j hjz, e]
        simp only [List.getElem_map, List.getElem_take]
        rw [toNat_ofNat8 _ (by omega)]
        congr 2
        omega

theorem lie_own {w : World} {base : Nat} {v : Value} {n : Nat} {zs : List UInt8} (hown : w.ownsRow base 5 1 v n (cellsU zs)) (hn : n = zs.length) :
    ∃ ad cap, v = .slice ad zs.length cap ∧ Lie w ad zs ∧ zs.length ≤ cap ∧ cap ≤ maxLen ∧ (ad = none → cap = 0) := by
  subst hn
  rcases hown.2 with ⟨rfl, h0⟩ | ⟨g, cap, cur, rfl, _, hg, hle, hm, hsz, htake⟩
  · have : zs = [] := List.eq_nil_of_length_eq_zero h0
    subst this
    exact ⟨none, 0, rfl, .nil _ _, Nat.le_refl _, Nat.zero_le _, fun _ => rfl⟩
  · refine ⟨some ⟨g, 0, none⟩, cap, rfl, ⟨.inr ⟨g, 0, rfl, (Array.getElem?_eq_some_iff.1 hg).1, fun j hj => ?_⟩⟩, hle, hm, fun h => by cases h⟩
    rw [Nat.zero_add, cell_of_row w g j cur 5 (0, 0) hg]
    have h1 : (cur.toList.take (zs.length * 1))[j]? = some (.int .u8 ((zs[j]'hj).toNat : Int)) := by rw [htake]; exact cellsU_get zs j hj
    rw [List.getElem?_take_of_lt (by omega)] at h1
    simpa using h1
end Go.Proofs.YtjiijjdmkeeilaaDoor
namespace Go.Proofs.YtjiijjdmkeeilaaDoor
open Go.RowKit
set_option linter.unusedVariables false
theorem wpList_load_agg {P : Program} {ops : Array Oper} {rest : List Oper} {o : Oper} {a : Act} {w : World} {Q : Exit → Act → World → Prop} (hgd : o.guard = none) (ty : TypeId) (x : Operand) (ho : o.op = .load ty x)
    (g : Nat) (hx : a.eval x = .pointer (some ⟨g, 0, none⟩)) (cs : Array Value) (t : TypeId) (d : TypeDesc) (hg : w.heap[g]? = some (.cells cs t (0, 0)))
    (hu : P.underlying ty = some d) (hd : (match d with | .struct _ | .array _ _ => true | _ => false) = true) (hi : (P.info? ty).map (·.size) = some cs.size)
    (h : wpList P ops Q rest (a.put o.dst (.agg cs)) w) : wpList P ops Q (o :: rest) a w := by
  refine wpList_plain hgd fun _ hK => ?_
  unfold Oper.wp execOp
  simp only [ho, hx, Instr.loadAt, Instr.sureAddr, Sem.run_bind, Sem.run_pure, Result.andThen_ok, run_loadVar_row w g t ty cs (0, 0) d hg hu hd hi]
  exact hK _ _ h
theorem wpList_store_agg {P : Program} {ops : Array Oper} {rest : List Oper} {o : Oper} {a : Act} {w : World} {Q : Exit → Act → World → Prop} (hgd : o.guard = none) (ty : TypeId) (x y : Operand) (ho : o.op = .store ty x y)
    (g : Nat) (hx : a.eval x = .pointer (some ⟨g, 0, none⟩)) (cs old : Array Value) (hy : a.eval y = .agg cs) (t : TypeId) (hg : w.heap[g]? = some (.cells old t (0, 0)))
    (hi : (P.info? ty).map (·.size) = some cs.size) (hs : old.size = cs.size) (h1 : cs.all (·.oneCell') = true)
    (h : wpList P ops Q rest (a.put o.dst undef) (w.setRow g cs)) : wpList P ops Q (o :: rest) a w := by
  refine wpList_plain hgd fun _ hK => ?_
  unfold Oper.wp execOp
  simp only [ho, hx, hy, Instr.storeAt, Instr.sureAddr, Sem.run_bind, Sem.run_pure, Result.andThen_ok, run_storeVar_row w g t ty old cs hg hi hs h1]
  exact hK _ _ h
/-- the end of a function whose first result is a struct in a block of its own, the others in slots -/
theorem post_cell3 {P : Program} {fn : Func} {R : Ending → World → Prop} {p q r : Tmp} {ty : TypeId} (h : fn.results = #[.cell p ty, .tmp q, .tmp r]) {a : Act} {w : World} {g : Nat} {cs : Array Value} {t : TypeId} {d : TypeDesc}
    (hp : a.tmps.getD p undef = .pointer (some ⟨g, 0, none⟩)) (hg : w.heap[g]? = some (.cells cs t (0, 0))) (hu : P.underlying ty = some d) (hd : (match d with | .struct _ | .array _ _ => true | _ => false) = true)
    (hi : (P.info? ty).map (·.size) = some cs.size) (hdef : a.defers = []) {x y : Value} (hx : a.tmps.getD q undef = x) (hy : a.tmps.getD r undef = y) (hR : R (.returned (.tuple #[.agg cs, x, y])) w) : bodyPost P fn R .ret a w := by
  subst hx hy
  refine bodyPost_ret (v := .tuple #[.agg cs, a.tmps.getD q undef, a.tmps.getD r undef]) ?_ hdef hR
  have e : (results fn a.tmps).run P w = ((asAddr (a.tmps.getD p undef)).run P w).andThen fun b w1 => ((loadVar ty b).run P w1).andThen fun v w2 => .ok (.tuple #[v, a.tmps.getD q undef, a.tmps.getD r undef]) w2 := by
    simp only [results, h]
    simp [Sem.run_bind, Result.andThen]
  rw [e, hp]
  simp only [asAddr, Sem.run_pure, Result.andThen, run_loadVar_row w g t ty cs (0, 0) d hg hu hd hi]
theorem heap_new (w : World) (o : Obj) : (w.alloc o).heap[w.heap.size]? = some o := heap_alloc_new w o
/-- a block that is new is written -/
theorem below_set {B g : Nat} {W w : World} (h : Below B W w) (hg : B ≤ g) (cs : Array Value) : Below B W (w.setRow g cs) :=
  ⟨h.os, h.tape, h.output, by simpa [World.setRow] using h.size, fun k hk => by rw [setRow_other _ _ _ _ (by omega)]; exact h.block k hk⟩
end Go.Proofs.YtjiijjdmkeeilaaDoor
namespace Go.Proofs.YtjiijjdmkeeilaaDoor
open Go.RowKit
set_option linter.unusedVariables false
/-- an entry: a file, its version, an offset, a length, a checksum -/
structure Ent where
  f : Int
  v : Int
  o : Int
  n : Int
  s : Nat
  deriving DecidableEq
/-- a header -/
structure Hdr where
  id : Int
  kd : Int
  vr : Int
  st : Int
  ix : Int
  da : Int
  pa : Int
  cm : Int
  es : List Ent
  sz : Int
  sm : Nat
def Hdr.zero : Hdr := ⟨0, 0, 0, 0, 0, 0, 0, 0, [], 0, 0⟩
def enC (x : Ent) : List Value := [.int .i64 x.f, .int .i64 x.v, .int .i64 x.o, .int .i64 x.n, .int .u32 (x.s : Int)]
abbrev enV (x : Ent) : Value := .agg #[.int .i64 x.f, .int .i64 x.v, .int .i64 x.o, .int .i64 x.n, .int .u32 (x.s : Int)]
theorem celE : Cel enC 5 := ⟨fun _ => rfl, fun x u hu => by simp [enC] at hu; rcases hu with rfl | rfl | rfl | rfl | rfl <;> rfl, by decide⟩
theorem typE : Typ Tryd.prog 54 22 5 40 (.agg #[.int .i64 0, .int .i64 0, .int .i64 0, .int .i64 0, .int .u32 0]) := ⟨by kernel_rfl, Tryd.underlying22, rfl, by decide⟩
/-- a header's cells, its list at ad -/
abbrev hdC (h : Hdr) (ad : Option Addr) (n cap : Nat) : Array Value := #[.int .i64 h.id, .int .i64 h.kd, .int .i64 h.vr, .int .i64 h.st, .int .i64 h.ix, .int .i64 h.da, .int .i64 h.pa, .int .i64 h.cm, .slice ad n cap, .int .i64 h.sz, .int .u32 (h.sm : Int)]
abbrev hdV (h : Hdr) (ad : Option Addr) (n cap : Nat) : Value := .agg #[.int .i64 h.id, .int .i64 h.kd, .int .i64 h.vr, .int .i64 h.st, .int .i64 h.ix, .int .i64 h.da, .int .i64 h.pa, .int .i64 h.cm, .slice ad n cap, .int .i64 h.sz, .int .u32 (h.sm : Int)]
abbrev boxH (h : Hdr) (ad : Option Addr) (n cap : Nat) : Obj := .cells #[.int .i64 h.id, .int .i64 h.kd, .int .i64 h.vr, .int .i64 h.st, .int .i64 h.ix, .int .i64 h.da, .int .i64 h.pa, .int .i64 h.cm, .slice ad n cap, .int .i64 h.sz, .int .u32 (h.sm : Int)] 25
/-- the header's list lies -/
structure HdIn (w : World) (h : Hdr) (ad : Option Addr) (n cap : Nat) : Prop where
  lf : Lf enC w ad h.es
  len : n = h.es.length
  le : n ≤ cap
  mx : cap ≤ maxLen
  nn : ad = none → cap = 0
theorem HdIn.below {w w' : World} {h : Hdr} {ad : Option Addr} {n cap : Nat} (hi : HdIn w h ad n cap) (hb : Below w.heap.size w w') : HdIn w' h ad n cap := ⟨hi.lf.below hb, hi.len, hi.le, hi.mx, hi.nn⟩
theorem HdIn.zero (w : World) : HdIn w .zero none 0 0 := ⟨.nil _ _ _, rfl, Nat.le_refl _, Nat.zero_le _, fun _ => rfl⟩
/-- the header lies in block g -/
def HdRow (w : World) (g : Nat) (h : Hdr) (ad : Option Addr) (n cap : Nat) : Prop := w.heap[g]? = some (.cells (hdC h ad n cap) 25 (0, 0))
section
variable {w W : World} {g B : Nat} {h : Hdr} {ad : Option Addr} {n cap : Nat}
theorem HdRow.row (hr : HdRow w g h ad n cap) : w.heap[g]? = some (.cells (hdC h ad n cap) 25 (0, 0)) := hr
theorem HdRow.lt (hr : HdRow w g h ad n cap) : g < w.heap.size := (Array.getElem?_eq_some_iff.1 hr).1
theorem HdRow.below (hr : HdRow W g h ad n cap) (hb : Below B W w) (hB : g < B) : HdRow w g h ad n cap := (hb.block g hB).trans hr
theorem HdRow.new (w : World) (h : Hdr) (ad : Option Addr) (n cap : Nat) : HdRow (w.alloc (boxH h ad n cap)) w.heap.size h ad n cap := heap_alloc_new w _
theorem HdRow.frozen (hr : HdRow w g h ad n cap) (k : Nat) : w.frozen? ⟨g, k, none⟩ = false := by
  have := hr.row
  simp [World.frozen?, this]
/-- its cells -/
structure HdAt (w : World) (g : Nat) (h : Hdr) (ad : Option Addr) (n cap : Nat) : Prop where
  lt : g < w.heap.size
  c0 : w.cell? ⟨g, 0, none⟩ = some (.int .i64 h.id)
  c1 : w.cell? ⟨g, 1, none⟩ = some (.int .i64 h.kd)
  c2 : w.cell? ⟨g, 2, none⟩ = some (.int .i64 h.vr)
  c3 : w.cell? ⟨g, 3, none⟩ = some (.int .i64 h.st)
  c4 : w.cell? ⟨g, 4, none⟩ = some (.int .i64 h.ix)
  c5 : w.cell? ⟨g, 5, none⟩ = some (.int .i64 h.da)
  c6 : w.cell? ⟨g, 6, none⟩ = some (.int .i64 h.pa)
  c7 : w.cell? ⟨g, 7, none⟩ = some (.int .i64 h.cm)
  c8 : w.cell? ⟨g, 8, none⟩ = some (.slice ad n cap)
  c9 : w.cell? ⟨g, 9, none⟩ = some (.int .i64 h.sz)
  c10 : w.cell? ⟨g, 10, none⟩ = some (.int .u32 (h.sm : Int))
theorem HdRow.at_ (hr : HdRow w g h ad n cap) : HdAt w g h ad n cap := by
  refine ⟨hr.lt, ?_, ?_, ?_, ?_, ?_, ?_, ?_, ?_, ?_, ?_, ?_⟩ <;> (rw [cell_of_row w g _ _ _ _ hr]; rfl)
theorem infoHd : (Tryd.prog.info? 25).map (·.size) = some 11 := by kernel_rfl
theorem ld_hdr {ops : Array Oper} {rest : List Oper} {o : Oper} {a : Act} {Q : Exit → Act → World → Prop} (hgd : o.guard = none) (x : Operand) (ho : o.op = .load 25 x) (hx : a.eval x = .pointer (some ⟨g, 0, none⟩)) (hr : HdRow w g h ad n cap)
    (hh : wpList Tryd.prog ops Q rest (a.put o.dst (hdV h ad n cap)) w) : wpList Tryd.prog ops Q (o :: rest) a w :=
  wpList_load_agg hgd _ x ho g hx _ _ _ hr.row Tryd.underlying25 rfl infoHd hh
theorem st_hdr {ops : Array Oper} {rest : List Oper} {o : Oper} {a : Act} {Q : Exit → Act → World → Prop} (hgd : o.guard = none) (x y : Operand) (ho : o.op = .store 25 x y) (hx : a.eval x = .pointer (some ⟨g, 0, none⟩)) (h2 : Hdr) (ad2 : Option Addr) (n2 cap2 : Nat) (hy : a.eval y = hdV h2 ad2 n2 cap2) (hr : HdRow w g h ad n cap)
    (hh : wpList Tryd.prog ops Q rest (a.put o.dst undef) (w.setRow g (hdC h2 ad2 n2 cap2))) : wpList Tryd.prog ops Q (o :: rest) a w :=
  wpList_store_agg hgd _ x y ho g hx _ _ hy _ hr.row infoHd rfl (by simp [Value.oneCell']) hh
theorem HdRow.put (hr : HdRow w g h ad n cap) (h2 : Hdr) (ad2 : Option Addr) (n2 cap2 : Nat) : HdRow (w.setRow g (hdC h2 ad2 n2 cap2)) g h2 ad2 n2 cap2 := setRow_heap _ _ _ _ _ _ hr
theorem HdRow.putOther {k : Nat} (hr : HdRow w g h ad n cap) (hk : g ≠ k) (cs : Array Value) : HdRow (w.setRow k cs) g h ad n cap := (setRow_other _ _ _ _ hk).trans hr
theorem HdRow.other {k : Nat} (hr : HdRow w g h ad n cap) (hk : g ≠ k) (j : Nat) (v : Value) : HdRow (w.setCell ⟨k, j, none⟩ v) g h ad n cap := by
  unfold HdRow
  rw [Below.heap_setCell _ _ _ _ (by show g ≠ k; exact hk)]
  exact hr
theorem hd_set (w : World) (b i : Nat) (u : Value) (cur : Array Value) (t : TypeId) (fr : Nat × Nat) (h : w.heap[b]? = some (.cells cur t fr)) : (w.setCell ⟨b, i, none⟩ u).heap[b]? = some (.cells (cur.setIfInBounds i u) t fr) := by
  simp [World.setCell, Array.getElem?_modify, h]
theorem HdRow.setE (hr : HdRow w g h ad n cap) (es : List Ent) (ad2 : Option Addr) (n2 cap2 : Nat) : HdRow (w.setCell ⟨g, 8, none⟩ (.slice ad2 n2 cap2)) g { h with es := es } ad2 n2 cap2 := hd_set w g 8 _ _ _ _ hr
theorem HdRow.setZ (hr : HdRow w g h ad n cap) (z : Int) : HdRow (w.setCell ⟨g, 9, none⟩ (.int .i64 z)) g { h with sz := z } ad n cap := hd_set w g 9 _ _ _ _ hr
theorem HdRow.setS (hr : HdRow w g h ad n cap) (z : Nat) : HdRow (w.setCell ⟨g, 10, none⟩ (.int .u32 (z : Int))) g { h with sm := z } ad n cap := hd_set w g 10 _ _ _ _ hr
end
theorem co_box1 (w : World) (o : Obj) : Below w.heap.size w (w.alloc o) := (Below.refl _ _).alloc (Nat.le_refl _) _
theorem co_box2 (w : World) (o p : Obj) : Below w.heap.size w ((w.alloc o).alloc p) := (co_box1 w o).alloc (by simp) _
end Go.Proofs.YtjiijjdmkeeilaaDoor
