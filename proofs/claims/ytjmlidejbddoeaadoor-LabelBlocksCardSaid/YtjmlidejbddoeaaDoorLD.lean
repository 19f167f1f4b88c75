/-
  Bytes of a slice, one byte, or a string appended to a slice of bytes that the call itself owns.
  The bytes of a number, made by the program.
  The program's join: what it is given, one behind another, in a slice of its own.
  The program's join of texts.
  The program's PutUint.
  The functions that write, and the document's own.
  What is read of what was written: the mathematics of the consequences P2.5, P2.6, P2.7.
-/
import Derived.Test.YtjmlidejbddoeaaDoorLA
import Derived.Laws.AppendOwnNone
import Derived.Lib.AppendStr
import Derived.IntWalk
import Derived.Test.YtjmlidejbddoeaaDoorLC
namespace Go.Proofs.YtjmlidejbddoeaaDoor
open Go.RowKit

theorem infoU : (Tryd.prog.info? 5).map (fun i => (i.zero, i.size, i.bytes)) = some (some (.int .u8 0), 1, 1) := by kernel_rfl
theorem info_u : ∃ i : TypeInfo, Tryd.prog.info? 5 = some i ∧ i.zero = some (.int .u8 0) ∧ i.size = 1 ∧ i.bytes = 1 := by
  have h := infoU
  rcases hi : Tryd.prog.info? 5 with _ | i
  · rw [hi] at h; simp at h
  · rw [hi] at h
    simp only [Option.map_some, Option.some.injEq, Prod.mk.injEq] at h
    exact ⟨i, rfl, h.1, h.2.1, h.2.2⟩

/-- The value v owns the bytes l, behind block B. -/
def Own (w : World) (B : Nat) (v : Value) (l : List UInt8) : Prop := w.ownsRow B 5 1 v l.length (cellsU l)
theorem Own.row {w : World} {B : Nat} {v : Value} {l : List UInt8} (h : Own w B v l) : w.ownsRow B 5 1 v l.length (cellsU l) := h
theorem Own.lt {w : World} {B : Nat} {v : Value} {l : List UInt8} (h : Own w B v l) : ∀ k, v.ownBlock = some k → B ≤ k ∧ k < w.heap.size := fun k hk => h.row.lt k hk
theorem Own.slice {w : World} {B : Nat} {v : Value} {l : List UInt8} (h : Own w B v l) :
    ∃ ad cap, v = .slice ad l.length cap ∧ Lie w ad l ∧ l.length ≤ cap ∧ cap ≤ maxLen ∧ (ad = none → cap = 0) := lie_own h rfl
theorem Own.ofNil (w : World) (B : Nat) : Own w B (.slice none 0 0) [] := ⟨rfl, .inl ⟨rfl, rfl⟩⟩
theorem Own.made (w : World) : Own (w.alloc (.cells #[] 5)) w.heap.size (.slice (some ⟨w.heap.size, 0, none⟩) 0 0) [] := World.ownsRow_made w #[] 0 (Nat.le_refl _) (by decide) rfl
theorem Own.below {w w' : World} {B : Nat} {v : Value} {l : List UInt8} (h : Own w B v l) (hb : Below w.heap.size w w') : Own w' B v l := by
  refine ⟨h.row.1, ?_⟩
  rcases h.row.2 with h0 | ⟨g, cap, cur, hv, hB, hg, h1, h2, h3, h4⟩
  · exact .inl h0
  · exact .inr ⟨g, cap, cur, hv, hB, (hb.block g (Array.getElem?_eq_some_iff.1 hg).1).trans hg, h1, h2, h3, h4⟩
theorem Own.mono {w : World} {B B' : Nat} {v : Value} {l : List UInt8} (h : Own w B v l) (hB : B' ≤ B) : Own w B' v l := by
  refine ⟨h.row.1, ?_⟩
  rcases h.row.2 with h0 | ⟨g, cap, cur, hv, hg0, hg⟩
  · exact .inl h0
  · exact .inr ⟨g, cap, cur, hv, Nat.le_trans hB hg0, hg⟩
theorem Lie.one (w : World) (n : Int) (v : UInt8) (hn : n = (v.toNat : Int)) : Lie (w.alloc (.cells #[.int .u8 n] 5)) (some ⟨w.heap.size, 0, none⟩) [v] := by
  subst hn
  refine ⟨.inr ⟨w.heap.size, 0, rfl, by simp, fun j hj => ?_⟩⟩
  obtain rfl : j = 0 := by simpa using hj
  rw [World.cell?_alloc_mark]
  rfl
theorem strCells_eq (s : ByteArray) : Lib.strCells s = cellsU s.data.toList := rfl

theorem wpList_append_u {w : World} {ops : Array Oper} {rest : List Oper} {o : Oper} {a : Act} {Q : Exit → Act → World → Prop} (hgd : o.guard = none) (s x : Operand)
    (ho : o.op = .call { callee := .builtin .append, args := #[s, x], argTypes := #[36, 36] })
    (B : Nat) (v : Value) (ys : List UInt8) (hs : a.eval s = v) (hown : Own w B v ys)
    (ad : Option Addr) (n cap : Nat) (xs : List UInt8) (hcap : ad = none → cap = 0) (hl : Lie w ad xs) (hn : n = xs.length) (hx : a.eval x = .slice ad n cap) (hlen : ys.length + n ≤ 10000000) (hbase : B ≤ w.heap.size)
    (h : ∀ v' w', Own w' B v' (ys ++ xs) → w.grownBy w' v.ownBlock → wpList Tryd.prog ops Q rest (a.put o.dst v') w') : wpList Tryd.prog ops Q (o :: rest) a w := by
  subst hn
  obtain ⟨i, hi, hz0, hz1, hz2⟩ := info_u
  cases ad with
  | none =>
    have hxs : xs = [] := by
      rcases hl.at_ with h0 | ⟨b, off, h0, _⟩
      · exact h0
      · cases h0
    subst hxs
    obtain rfl := hcap rfl
    refine wpList_append_own_none hgd s x 36 ho B 5 i 1 Tryd.underlying36 hi v ys.length (cellsU ys) hs hown hx (h v w ?_ ⟨rfl, rfl, rfl, Nat.le_refl _, fun _ _ _ => rfl⟩)
    rw [List.append_nil]
    exact hown
  | some a0 =>
    refine wpList_append_own w hgd s x 36 ho B 5 i (.int .u8 0) 1 1 Tryd.underlying36 hi hz0 hz1 hz2 rfl (by decide) v ys.length (cellsU ys) hs hown a0 xs.length cap (cellsU xs) hx ?_ ?_ (cellsU_one _) ?_ ?_ hbase (fun v' w' h2 h3 _ => h v' w' ?_ h3)
    · rw [cellsU_length, Nat.mul_one]
    · intro j u hu
      have hj : j < xs.length := by
        have := (List.getElem?_eq_some_iff.1 hu).1
        rwa [cellsU_length] at this
      rcases hl.at_ with h0 | ⟨b, off, h0, _, hc⟩
      · subst h0; simp at hj
      · cases h0
        rw [Go.WideShapes.add_plain, hc j hj]
        rw [cellsU_get xs j hj] at hu
        exact hu
    · unfold maxLen; omega
    · omega
    · unfold Own
      rw [cellsU_append, List.length_append] at *
      exact h2

theorem wpList_append_s {w : World} {ops : Array Oper} {rest : List Oper} {o : Oper} {a : Act} {Q : Exit → Act → World → Prop} (hgd : o.guard = none) (s x : Operand)
    (ho : o.op = .call { callee := .builtin .append, args := #[s, x], argTypes := #[36, 9] })
    (B : Nat) (v : Value) (ys : List UInt8) (hs : a.eval s = v) (hown : Own w B v ys) (t : ByteArray) (hx : a.eval x = .string t) (hlen : ys.length + t.size ≤ 10000000) (hbase : B ≤ w.heap.size)
    (h : ∀ v' w', Own w' B v' (ys ++ t.data.toList) → w.grownBy w' v.ownBlock → wpList Tryd.prog ops Q rest (a.put o.dst v') w') : wpList Tryd.prog ops Q (o :: rest) a w := by
  obtain ⟨i, hi, hz0, hz1, hz2⟩ := info_u
  refine Lib.wpList_append_own_string w hgd s x 36 9 ho B 5 i Tryd.underlying36 Tryd.underlying9 hi hz0 hz1 hz2 v ys.length (cellsU ys) hs hown t hx (by unfold maxLen; omega) (by omega) hbase (fun v' w' h2 h3 _ => h v' w' ?_ h3)
  unfold Own
  rw [strCells_eq, cellsU_append] at h2
  rw [List.length_append, Array.length_toList]
  exact h2

theorem wpList_make_u {w : World} {ops : Array Oper} {rest : List Oper} {o : Oper} {a : Act} {Q : Exit → Act → World → Prop} (hgd : o.guard = none) (l c : Operand) (hop : o.op = Op.makeSlice 36 l c)
    (B : Nat) (C : Int) (n : Nat) (hl : a.eval l = .int .i64 0) (hc : a.eval c = .int .i64 C) (hC : C = (n : Int)) (hn : n ≤ 10000000) (hB : B ≤ w.heap.size)
    (h : ∀ v' w', Own w' B v' [] → w.grownBy w' Option.none → wpList Tryd.prog ops Q rest (a.put o.dst v') w') : wpList Tryd.prog ops Q (o :: rest) a w := by
  obtain ⟨i, hi, hz0, hz1, hz2⟩ := info_u
  refine wpList_make_own w hgd l c 36 hop B 5 i (.int .u8 0) 1 Tryd.underlying36 hi hz0 hz1 .i64 .i64 C n hl hc hC (by rw [hz2]; omega) (by unfold maxLen; omega) hB (fun w' h2 h3 => h _ w' h2 h3)

theorem below_new {w w1 : World} {o : Obj} {row : Option Nat} (hg : (w.alloc o).grownBy w1 row) (hr : ∀ k, row = some k → w.heap.size ≤ k) : Below w.heap.size w w1 :=
  ((Below.refl _ _).alloc (Nat.le_refl _) o).grown hg (by simp) hr
end Go.Proofs.YtjmlidejbddoeaaDoor
namespace Go.Proofs.YtjmlidejbddoeaaDoor
open Go.RowKit

/-- A call gives a new slice with the bytes l, and what was there is as it was. -/
def Gives (w : World) (l : List UInt8) (e : Ending) (w' : World) : Prop := ∃ v, e = .returned v ∧ Own w' w.heap.size v l ∧ Below w.heap.size w w'

theorem enc_len (n : Nat) (h : n < 18446744073709551616) : (enc n).length ≤ 10 := by
  have aux : ∀ k m : Nat, m < 128 ^ k → (enc m).length ≤ max k 1 := by
    intro k
    induction k with
    | zero => intro m hm; rw [enc_small m (by omega)]; simp
    | succ k ih =>
      intro m hm
      by_cases h : m < 128
      · rw [enc_small m h]; simp
      · rw [enc_big m h, List.length_cons]
        rw [Nat.pow_succ] at hm
        have h1 := ih (m / 128) (by omega)
        have h2 : k ≠ 0 := by rintro rfl; simp at hm; omega
        omega
  exact aux 10 n (by omega)

set_option maxRecDepth 100000 in
set_option maxHeartbeats 600000 in
theorem number_any (n : Nat) (w : World) (hn : n < 18446744073709551616) :
    Calls Tryd.prog 69 #[.int .u64 n] w (Gives w (enc n)) := by
  go_enter Tryd.func69, Tryd.ntmps69
  go_wp2
  go_loopw [0, 3] (fun vm v wr => ∃ (m : Nat) (l : List UInt8), vm = .int .u64 m ∧ m < 18446744073709551616 ∧ enc n = l ++ enc m ∧ Own wr w.heap.size v l ∧ Below w.heap.size w wr) (fun vm _ _ => (intOf vm).toNat)
  case atStart => exact ⟨n, [], rfl, hn, rfl, .ofNil _ _, .refl _ _⟩
  case round =>
    obtain ⟨m, l, rfl, hm, he, hown, hb⟩ := hrel
    have hel := enc_len n hn
    rw [he, List.length_append] at hel
    have hsz := hb.size
    by_cases hlt : m < 128
    · have H1 := Lib.hid (Lie.one wr m (UInt8.ofNat m) (by rw [toNat8 m (by omega)]))
      have HO := Lib.hid (hown.below ((Below.refl _ _).alloc (Nat.le_refl _) (.cells #[.int .u8 (m : Int)] 5)))
      have HE := Lib.hid he
      have HB := Lib.hid hb
      have HS := Lib.hid hsz
      clear he hb hown
      go_wp2_with (at_builtin; refine wpList_append_u rfl (.tmp 15) (.tmp 18) rfl w.heap.size _ l rfl HO.out _ 1 1 [UInt8.ofNat m] (fun h => by cases h) H1.out rfl rfl (by omega) (by simp; omega) ?_; intro v1 w1 hown1 hgrow1)
      go_ret
      refine ⟨v1, rfl, ?_, (HB.out.alloc HS.out _).grown hgrow1 (by simp; omega) (fun k hk => (HO.out.lt k hk).1)⟩
      rw [HE.out, enc_small m hlt]
      exact hown1
    · have hr : UInt8.toNat (UInt8.ofNat (m % 128 + 128)) = m % 128 + 128 := toNat8 _ (by omega)
      have H1 := Lib.hid (Lie.one wr ((m : Int) % 128 + 128) (UInt8.ofNat (m % 128 + 128)) (by rw [hr]; omega))
      have HO := Lib.hid (hown.below ((Below.refl _ _).alloc (Nat.le_refl _) (.cells #[.int .u8 ((m : Int) % 128 + 128)] 5)))
      have HE := Lib.hid he
      have HB := Lib.hid hb
      have HS := Lib.hid hsz
      clear he hb hown hr
      go_wp2_with (at_builtin; refine wpList_append_u rfl (.tmp 8) (.tmp 13) rfl w.heap.size _ l rfl HO.out _ 1 1 [UInt8.ofNat (m % 128 + 128)] (fun h => by cases h) H1.out rfl rfl (by omega) (by simp; omega) ?_; intro v1 w1 hown1 hgrow1)
      refine ⟨⟨m / 128, l ++ [UInt8.ofNat (m % 128 + 128)], by simp, by omega, ?_, hown1, (HB.out.alloc HS.out _).grown hgrow1 (by simp; omega) (fun k hk => (HO.out.lt k hk).1)⟩, by simp [intOf]; omega⟩
      rw [HE.out, enc_big m hlt, List.append_assoc]
      rfl
end Go.Proofs.YtjmlidejbddoeaaDoor
namespace Go.Proofs.YtjmlidejbddoeaaDoor
open Go.RowKit

/-- How many bytes the first k of some texts have. -/
def tot (ls : List (List UInt8)) (k : Nat) : Nat := (ls.take k).flatten.length
theorem tot_succ (ls : List (List UInt8)) (k : Nat) (h : k < ls.length) : tot ls (k + 1) = tot ls k + (ls[k]).length := by
  unfold tot
  rw [List.take_succ_eq_append_getElem h, List.flatten_append, List.length_append, List.flatten_cons, List.flatten_nil, List.append_nil]
theorem tot_le (ls : List (List UInt8)) (k : Nat) : tot ls k ≤ ls.flatten.length := by
  unfold tot
  have h : ls.flatten = (ls.take k).flatten ++ (ls.drop k).flatten := by rw [← List.flatten_append, List.take_append_drop]
  rw [h, List.length_append]
  omega
theorem take_succ_flat (ls : List (List UInt8)) (k : Nat) (h : k < ls.length) : (ls.take (k + 1)).flatten = (ls.take k).flatten ++ ls[k] := by
  rw [List.take_succ_eq_append_getElem h, List.flatten_append, List.flatten_cons, List.flatten_nil, List.append_nil]

theorem lt_of_cell {w : World} {g k : Nat} {v : Value} (h : w.cell? ⟨g, k, none⟩ = some v) : g < w.heap.size := by
  rcases Nat.lt_or_ge g w.heap.size with h' | h'
  · exact h'
  · simp [World.cell?, Array.getElem?_eq_none h'] at h

set_option maxRecDepth 100000 in
set_option maxHeartbeats 800000 in
theorem join_bytes (ad : Option Addr) (cap g : Nat) (xs : List UInt8) (ss : List (Option Addr × Nat × List UInt8)) (w : World) (hl : Lie w ad xs) (hac : ad = none → cap = 0)
    (hc : ∀ k (h : k < ss.length), w.cell? ⟨g, k, none⟩ = some (.slice (ss[k]).1 (ss[k]).2.2.length (ss[k]).2.1) ∧ Lie w (ss[k]).1 (ss[k]).2.2 ∧ ((ss[k]).1 = none → (ss[k]).2.1 = 0)) (hs : xs.length ≤ 1000000) (hss : (ss.map fun s => s.2.2).flatten.length ≤ 1000000) (hn : ss.length ≤ 1000) :
    Calls Tryd.prog 70 #[.slice ad xs.length cap, .slice (some ⟨g, 0, none⟩) ss.length ss.length] w (Gives w (xs ++ (ss.map fun s => s.2.2).flatten)) := by
  obtain ⟨ls, hls⟩ : ∃ ls, ls = ss.map fun s => s.2.2 := ⟨_, rfl⟩
  rw [← hls] at hss ⊢
  have hll : ls.length = ss.length := by rw [hls]; simp
  have hget : ∀ k (h : k < ss.length) (h' : k < ls.length), ls[k] = (ss[k]).2.2 := fun k h h' => by simp [hls]
  have HL := Lib.hid hl
  have HC := Lib.hid hc
  have HN := Lib.hid hll
  have HG := Lib.hid hget
  have HA := Lib.hid hac
  have HS := Lib.hid hss
  clear hl hc hls hll hget hac hss
  go_enter Tryd.func70, Tryd.ntmps70
  go_wp2
  go_loop [5, 15] (fun n i => ∃ k L : Nat, k ≤ ss.length ∧ i = .int .i64 k ∧ n = .int .i64 L ∧ L = xs.length + tot ls k) (fun _ i => (ss.length - (intOf i).toNat))
  case atStart => exact ⟨0, xs.length, by omega, rfl, rfl, rfl⟩
  case round =>
    obtain ⟨k, L, hk, rfl, rfl, hL⟩ := hrel
    have hts := tot_le ls k
    have HS2 := HS.out
    by_cases hlt : k < ss.length
    · have hc := (HC.out k hlt).1
      have HT := Lib.hid (tot_succ ls k (by rw [HN.out]; exact hlt))
      have hsz : (ss[k]).2.2.length = (ls[k]'(by rw [HN.out]; exact hlt)).length := by rw [HG.out k hlt _]
      have hts1 := tot_le ls (k + 1)
      rw [HT.out] at hts1
      have HL2 := Lib.hid hL
      have HZ := Lib.hid hsz
      have hb : L + (ss[k]).2.2.length ≤ 3000000 := by omega
      clear hL hsz hts1 hts
      go_wp2
      refine ⟨⟨k + 1, L + (ss[k]).2.2.length, by omega, by go_num, by go_num, ?_⟩, by simp [intOf]; omega⟩
      rw [HT.out, HZ.out, HL2.out, Nat.add_assoc]
    · obtain rfl : k = ss.length := by omega
      have hb : L ≤ 3000000 := by omega
      clear hL hts HS2
      go_wp2_with (first
        | (at_make; refine wpList_make_u rfl (.const (.int .i64 0)) (.tmp 24) rfl w.heap.size _ L rfl rfl rfl (by omega) (Nat.le_refl _) ?_; intro v0 w0 hown0 hgrow0)
        | (at_builtin; refine wpList_append_u rfl (.tmp 25) (.tmp 26) rfl w.heap.size _ [] rfl hown0 ad _ cap xs HA.out (HL.out.below ((Below.refl _ _).grown hgrow0 (Nat.le_refl _) (by simp)) rfl) rfl rfl (by simp; omega) hgrow0.size ?_; intro v1 w1 hown1 hgrow1))
      have hb0 : Below w.heap.size w w0 := (Below.refl _ _).grown hgrow0 (Nat.le_refl _) (by simp)
      have hb1 : Below w.heap.size w w1 := hb0.grown hgrow1 hb0.size (fun k hk => (hown0.lt k hk).1)
      have HO1 := Lib.hid hown1
      have HB1 := Lib.hid hb1
      clear hown0 hown1 hgrow0 hgrow1 hb0 hb1
      go_loopw [8, 30] (fun v i wr => ∃ k : Nat, k ≤ ss.length ∧ i = .int .i64 k ∧ Own wr w.heap.size v (xs ++ (ls.take k).flatten) ∧ Below w.heap.size w wr) (fun _ i _ => (ss.length - (intOf i).toNat))
      case atStart => exact ⟨0, by omega, rfl, by simpa using HO1.out, HB1.out⟩
      case round =>
        obtain ⟨k, hk, rfl, hown, hb⟩ := hrel
        have HS2 := HS.out
        have hts := tot_le ls k
        by_cases hlt : k < ss.length
        · obtain ⟨hcw, hlw, hnw⟩ := HC.out k hlt
          have hlr := Lib.hid (hlw.below hb rfl)
          have hnr := Lib.hid hnw
          have hc : wr.cell? ⟨g, k, none⟩ = some (.slice (ss[k]).1 (ss[k]).2.2.length (ss[k]).2.1) := by
            rw [hb.cell (p := ⟨g, k, none⟩) (lt_of_cell hcw)]
            exact hcw
          have hk' : k < ls.length := by rw [HN.out]; exact hlt
          have HT := Lib.hid (take_succ_flat ls k hk')
          have hts1 := tot_le ls (k + 1)
          rw [tot_succ ls k hk'] at hts1
          have hsz : (ss[k]).2.2.length = (ls[k]'hk').length := by rw [HG.out k hlt hk']
          have hlen : (xs ++ (ls.take k).flatten).length = xs.length + tot ls k := by rw [List.length_append]; rfl
          have hbd : (xs ++ (ls.take k).flatten).length + (ss[k]).2.2.length ≤ 10000000 := by omega
          have hbs := hb.size
          have HB := Lib.hid hb
          have HO := Lib.hid hown
          clear hts hts1 hsz hlen hcw hown hb hlw hnw
          go_wp2_with (at_builtin; refine wpList_append_u rfl (.tmp 34) (.tmp 35) rfl w.heap.size _ _ rfl HO.out _ _ _ (ss[k]).2.2 hnr.out hlr.out rfl rfl hbd hbs ?_; intro v2 w2 hown2 hgrow2)
          refine ⟨⟨k + 1, by omega, by go_num, ?_, HB.out.grown hgrow2 hbs (fun j hj => (HO.out.lt j hj).1)⟩, by simp [intOf]; omega⟩
          rw [HT.out, HG.out k hlt hk', ← List.append_assoc]
          exact hown2
        · obtain rfl : k = ss.length := by omega
          have HB := Lib.hid hb
          have HO := Lib.hid hown
          clear hown hb hts
          go_wp2
          go_ret
          refine ⟨_, rfl, ?_, HB.out⟩
          have := HO.out
          rw [List.take_of_length_le (by rw [HN.out]; omega)] at this
          exact this
end Go.Proofs.YtjmlidejbddoeaaDoor
namespace Go.Proofs.YtjmlidejbddoeaaDoor
open Go.RowKit

set_option maxRecDepth 100000 in
set_option maxHeartbeats 800000 in
theorem join_text (ad : Option Addr) (cap g : Nat) (xs : List UInt8) (ss : List ByteArray) (w : World) (hl : Lie w ad xs) (hac : ad = none → cap = 0)
    (hc : ∀ k (h : k < ss.length), w.cell? ⟨g, k, none⟩ = some (.string ss[k])) (hs : xs.length ≤ 1000000) (hss : (ss.map fun s => s.data.toList).flatten.length ≤ 1000000) (hn : ss.length ≤ 1000) :
    Calls Tryd.prog 68 #[.slice ad xs.length cap, .slice (some ⟨g, 0, none⟩) ss.length ss.length] w (Gives w (xs ++ (ss.map fun s => s.data.toList).flatten)) := by
  obtain ⟨ls, hls⟩ : ∃ ls, ls = ss.map fun s => s.data.toList := ⟨_, rfl⟩
  rw [← hls] at hss ⊢
  have hll : ls.length = ss.length := by rw [hls]; simp
  have hget : ∀ k (h : k < ss.length) (h' : k < ls.length), ls[k] = (ss[k]).data.toList := fun k h h' => by simp [hls]
  have HL := Lib.hid hl
  have HC := Lib.hid hc
  have HN := Lib.hid hll
  have HG := Lib.hid hget
  have HA := Lib.hid hac
  have HS := Lib.hid hss
  clear hl hc hls hll hget hac hss
  go_enter Tryd.func68, Tryd.ntmps68
  go_wp2
  go_loop [5, 15] (fun n i => ∃ k L : Nat, k ≤ ss.length ∧ i = .int .i64 k ∧ n = .int .i64 L ∧ L = xs.length + tot ls k) (fun _ i => (ss.length - (intOf i).toNat))
  case atStart => exact ⟨0, xs.length, by omega, rfl, rfl, rfl⟩
  case round =>
    obtain ⟨k, L, hk, rfl, rfl, hL⟩ := hrel
    have hts := tot_le ls k
    have HS2 := HS.out
    by_cases hlt : k < ss.length
    · have hc := HC.out k hlt
      have HT := Lib.hid (tot_succ ls k (by rw [HN.out]; exact hlt))
      have hsz : (ss[k]).size = (ls[k]'(by rw [HN.out]; exact hlt)).length := by rw [HG.out k hlt _, Array.length_toList]; rfl
      have hts1 := tot_le ls (k + 1)
      rw [HT.out] at hts1
      have HL2 := Lib.hid hL
      have HZ := Lib.hid hsz
      have hb : L + (ss[k]).size ≤ 3000000 := by omega
      clear hL hsz hts1 hts
      go_wp2
      refine ⟨⟨k + 1, L + (ss[k]).size, by omega, by go_num, by go_num, ?_⟩, by simp [intOf]; omega⟩
      rw [HT.out, HZ.out, HL2.out, Nat.add_assoc]
    · obtain rfl : k = ss.length := by omega
      have hb : L ≤ 3000000 := by omega
      clear hL hts HS2
      go_wp2_with (first
        | (at_make; refine wpList_make_u rfl (.const (.int .i64 0)) (.tmp 24) rfl w.heap.size _ L rfl rfl rfl (by omega) (Nat.le_refl _) ?_; intro v0 w0 hown0 hgrow0)
        | (at_builtin; refine wpList_append_u rfl (.tmp 25) (.tmp 26) rfl w.heap.size _ [] rfl hown0 ad _ cap xs HA.out (HL.out.below ((Below.refl _ _).grown hgrow0 (Nat.le_refl _) (by simp)) rfl) rfl rfl (by simp; omega) hgrow0.size ?_; intro v1 w1 hown1 hgrow1))
      have hb0 : Below w.heap.size w w0 := (Below.refl _ _).grown hgrow0 (Nat.le_refl _) (by simp)
      have hb1 : Below w.heap.size w w1 := hb0.grown hgrow1 hb0.size (fun k hk => (hown0.lt k hk).1)
      have HO1 := Lib.hid hown1
      have HB1 := Lib.hid hb1
      clear hown0 hown1 hgrow0 hgrow1 hb0 hb1
      go_loopw [8, 30] (fun v i wr => ∃ k : Nat, k ≤ ss.length ∧ i = .int .i64 k ∧ Own wr w.heap.size v (xs ++ (ls.take k).flatten) ∧ Below w.heap.size w wr) (fun _ i _ => (ss.length - (intOf i).toNat))
      case atStart => exact ⟨0, by omega, rfl, by simpa using HO1.out, HB1.out⟩
      case round =>
        obtain ⟨k, hk, rfl, hown, hb⟩ := hrel
        have HS2 := HS.out
        have hts := tot_le ls k
        by_cases hlt : k < ss.length
        · have hcw := HC.out k hlt
          have hc : wr.cell? ⟨g, k, none⟩ = some (.string ss[k]) := by
            rw [hb.cell (p := ⟨g, k, none⟩) (lt_of_cell hcw)]
            exact hcw
          have hk' : k < ls.length := by rw [HN.out]; exact hlt
          have HT := Lib.hid (take_succ_flat ls k hk')
          have hts1 := tot_le ls (k + 1)
          rw [tot_succ ls k hk'] at hts1
          have hsz : (ss[k]).size = (ls[k]'hk').length := by rw [HG.out k hlt hk', Array.length_toList]; rfl
          have hlen : (xs ++ (ls.take k).flatten).length = xs.length + tot ls k := by rw [List.length_append]; rfl
          have hbd : (xs ++ (ls.take k).flatten).length + (ss[k]).size ≤ 10000000 := by omega
          have hbs := hb.size
          have HB := Lib.hid hb
          have HO := Lib.hid hown
          clear hts hts1 hsz hlen hcw hown hb
          go_wp2_with (at_builtin; refine wpList_append_s rfl (.tmp 34) (.tmp 35) rfl w.heap.size _ _ rfl HO.out _ rfl hbd hbs ?_; intro v2 w2 hown2 hgrow2)
          refine ⟨⟨k + 1, by omega, by go_num, ?_, HB.out.grown hgrow2 hbs (fun j hj => (HO.out.lt j hj).1)⟩, by simp [intOf]; omega⟩
          rw [HT.out, HG.out k hlt hk', ← List.append_assoc]
          exact hown2
        · obtain rfl : k = ss.length := by omega
          have HB := Lib.hid hb
          have HO := Lib.hid hown
          clear hown hb hts
          go_wp2
          go_ret
          refine ⟨_, rfl, ?_, HB.out⟩
          have := HO.out
          rw [List.take_of_length_le (by rw [HN.out]; omega)] at this
          exact this
end Go.Proofs.YtjmlidejbddoeaaDoor
namespace Go.Proofs.YtjmlidejbddoeaaDoor
open Go.RowKit

theorem Gives.back {w W w' : World} {l : List UInt8} {e : Ending} (h : Gives W l e w') (hb : Below w.heap.size w W) : Gives w l e w' := by
  obtain ⟨v, rfl, ho, hb'⟩ := h
  exact ⟨v, rfl, ho.mono hb.size, hb.trans (hb'.mono hb.size)⟩
theorem Gives.eq {w w' : World} {l m : List UInt8} {e : Ending} (h : Gives w l e w') (hl : l = m) : Gives w m e w' := hl ▸ h

theorem part_one {w : World} {nd : Option Addr} {nc : Nat} {l : List UInt8} (hl : Lie w nd l) (hn : nd = none → nc = 0) (t : TypeId) :
    ∀ k (h : k < [(nd, nc, l)].length), (w.alloc (.cells #[.slice nd l.length nc] t)).cell? ⟨w.heap.size, k, none⟩ = some (.slice ([(nd, nc, l)][k]).1 ([(nd, nc, l)][k]).2.2.length ([(nd, nc, l)][k]).2.1) ∧ Lie (w.alloc (.cells #[.slice nd l.length nc] t)) ([(nd, nc, l)][k]).1 ([(nd, nc, l)][k]).2.2 ∧ (([(nd, nc, l)][k]).1 = none → ([(nd, nc, l)][k]).2.1 = 0) := by
  intro k h
  obtain rfl : k = 0 := by simpa using h
  refine ⟨?_, hl.below ((Below.refl _ _).alloc (Nat.le_refl _) _) rfl, hn⟩
  rw [World.cell?_alloc_mark]
  rfl
theorem join_one (ad : Option Addr) (cap g : Nat) (xs : List UInt8) (nd : Option Addr) (nc : Nat) (l : List UInt8) (w : World) (hl : Lie w ad xs) (hac : ad = none → cap = 0) (hl2 : Lie w nd l) (hn : nd = none → nc = 0) (hs : xs.length ≤ 1000000) (hs2 : l.length ≤ 1000000) (hg : g = w.heap.size) :
    Calls Tryd.prog 70 #[.slice ad xs.length cap, .slice (some ⟨g, 0, none⟩) 1 1] (w.alloc (.cells #[.slice nd l.length nc] 36)) (Gives w (xs ++ l)) := by
  have hb : Below w.heap.size w (w.alloc (.cells #[.slice nd l.length nc] 36)) := (Below.refl _ _).alloc (Nat.le_refl _) _
  subst hg
  refine (join_bytes ad cap w.heap.size xs [(nd, nc, l)] _ (hl.below hb rfl) hac (part_one hl2 hn _) hs (by simpa using hs2) (by simp)).mono ?_
  intro e w' h
  exact (h.back hb).eq (by simp)

end Go.Proofs.YtjmlidejbddoeaaDoor
namespace Go.Proofs.YtjmlidejbddoeaaDoor
open Go.RowKit

/-- The code of an int. -/
def cod (n : Int) : Nat := if 0 ≤ n then 2 * n.toNat else 2 * (-(n + 1)).toNat + 1
theorem cod_lt (n : Int) (h0 : -9223372036854775808 ≤ n) (h1 : n ≤ 9223372036854775807) : cod n < 18446744073709551616 := by
  unfold cod
  split <;> omega
theorem dcd_cod (n : Int) : dcd (cod n) = n := by
  unfold dcd cod
  split <;> split <;> omega
theorem cod_dcd (c : Nat) : cod (dcd c) = c := by
  unfold dcd cod
  split <;> split <;> omega

set_option maxRecDepth 100000 in
theorem code_any (n : Int) (w : World) (h0 : -9223372036854775808 ≤ n) (h1 : n ≤ 9223372036854775807) :
    Calls Tryd.prog 71 #[.int .i64 n] w fun e w' => e = .returned (.int .u64 (cod n)) ∧ w = w' := by
  unfold cod
  by_cases h : 0 ≤ n
  · obtain ⟨m, rfl⟩ : ∃ m : Nat, n = m := ⟨n.toNat, by omega⟩
    rw [if_pos h, Int.toNat_natCast]
    go_enter Tryd.func71, Tryd.ntmps71
    go_wp2
    go_ret
    exact ⟨rfl, rfl⟩
  · obtain ⟨m, rfl⟩ : ∃ m : Nat, n = -(m : Int) - 1 := ⟨(-(n + 1)).toNat, by omega⟩
    rw [if_neg h, show (-(-(m : Int) - 1 + 1)).toNat = m by omega]
    go_enter Tryd.func71, Tryd.ntmps71
    go_wp2
    go_ret
    exact ⟨rfl, rfl⟩
set_option maxRecDepth 100000 in
theorem rcode_any (n : Int) (w : World) (h0 : -9223372036854775808 ≤ n) (h1 : n ≤ 9223372036854775807) :
    Calls Tryd.prog 48 #[.int .i64 n] w fun e w' => e = .returned (.int .u64 (cod n)) ∧ w = w' := by
  unfold cod
  by_cases h : 0 ≤ n
  · obtain ⟨m, rfl⟩ : ∃ m : Nat, n = m := ⟨n.toNat, by omega⟩
    rw [if_pos h, Int.toNat_natCast]
    go_enter Tryd.func48, Tryd.ntmps48
    go_wp2
    go_ret
    exact ⟨rfl, rfl⟩
  · obtain ⟨m, rfl⟩ : ∃ m : Nat, n = -(m : Int) - 1 := ⟨(-(n + 1)).toNat, by omega⟩
    rw [if_neg h, show (-(-(m : Int) - 1 + 1)).toNat = m by omega]
    go_enter Tryd.func48, Tryd.ntmps48
    go_wp2
    go_ret
    exact ⟨rfl, rfl⟩

set_option maxRecDepth 100000 in
set_option maxHeartbeats 600000 in
theorem pint_any (ad : Option Addr) (cap : Nat) (xs : List UInt8) (n : Int) (w : World) (hl : Lie w ad xs) (hac : ad = none → cap = 0) (hs : xs.length ≤ 1000000) (h0 : -9223372036854775808 ≤ n) (h1 : n ≤ 9223372036854775807) :
    Calls Tryd.prog 46 #[.slice ad xs.length cap, .int .i64 n] w (Gives w (xs ++ enc (cod n))) := by
  have HA := Lib.hid hac
  have hcl := cod_lt n h0 h1
  have hel := enc_len _ hcl
  clear hac
  go_enter Tryd.func46, Tryd.ntmps46
  go_wp2_with fail
  refine (code_any n _ h0 h1).mono ?_
  rintro e w' ⟨rfl, rfl⟩
  go_wp2_with fail
  refine (number_any _ _ hcl).mono ?_
  rintro e w1 ⟨v, rfl, hown, hb⟩
  obtain ⟨nd, nc, rfl, hl2, _, _, hn2⟩ := hown.slice
  have HL := Lib.hid (hl.below hb rfl)
  have HL2 := Lib.hid hl2
  have HN2 := Lib.hid hn2
  have HB := Lib.hid hb
  clear hown hl hl2 hn2 hb
  go_wp2_with fail
  refine (join_one ad cap _ xs nd nc (enc (cod n)) _ HL.out HA.out HL2.out HN2.out hs (by omega) rfl).mono ?_
  rintro e w2 ⟨v, rfl, hown, hb⟩
  have HO := Lib.hid hown
  have HB2 := Lib.hid hb
  clear hown hb
  go_wp2
  go_ret
  exact ⟨v, rfl, HO.out.mono HB.out.size, HB.out.trans (HB2.out.mono HB.out.size)⟩

/-- The bytes of a text, and of a bool. -/
def encT (s : ByteArray) : List UInt8 := enc s.size ++ s.data.toList
def encB (v : Bool) : List UInt8 := [if v then 1 else 0]

theorem part_two (w : World) (s t : ByteArray) (ty : TypeId) :
    ∀ k (h : k < [s, t].length), (w.alloc (.cells #[.string s, .string t] ty)).cell? ⟨w.heap.size, k, none⟩ = some (.string ([s, t][k])) := by
  intro k h
  rw [World.cell?_alloc_mark]
  match k, h with
  | 0, _ => rfl
  | 1, _ => rfl
theorem join_two (ad : Option Addr) (cap : Nat) (xs : List UInt8) (s t : ByteArray) (w : World) (hl : Lie w ad xs) (hac : ad = none → cap = 0) (hs : xs.length ≤ 1000000) (hs2 : s.size + t.size ≤ 1000000) :
    Calls Tryd.prog 68 #[.slice ad xs.length cap, .slice (some ⟨w.heap.size, 0, none⟩) 2 2] (w.alloc (.cells #[.string s, .string t] 9)) (Gives w (xs ++ (s.data.toList ++ t.data.toList))) := by
  have hb : Below w.heap.size w (w.alloc (.cells #[.string s, .string t] 9)) := (Below.refl _ _).alloc (Nat.le_refl _) _
  have hsz : ∀ s : ByteArray, s.data.toList.length = s.size := fun s => by rw [Array.length_toList]; rfl
  refine (join_text ad cap w.heap.size xs [s, t] _ (hl.below hb rfl) hac (part_two w s t _) hs (by simp only [List.map_cons, List.map_nil, List.flatten_cons, List.flatten_nil, List.append_nil, List.length_append, hsz]; exact hs2) (by simp)).mono ?_
  intro e w' h
  exact (h.back hb).eq (by simp)

set_option maxRecDepth 100000 in
set_option maxHeartbeats 600000 in
theorem ptext_any (ad : Option Addr) (cap : Nat) (xs : List UInt8) (s : ByteArray) (w : World) (hl : Lie w ad xs) (hac : ad = none → cap = 0) (hs : xs.length ≤ 1000000) (hss : s.size ≤ 100000) :
    Calls Tryd.prog 45 #[.slice ad xs.length cap, .string s] w (Gives w (xs ++ encT s)) := by
  have HA := Lib.hid hac
  have hel := enc_len s.size (by omega)
  clear hac
  go_enter Tryd.func45, Tryd.ntmps45
  go_wp2_with fail
  refine (number_any _ _ (by omega)).mono ?_
  rintro e w1 ⟨v, rfl, hown, hb⟩
  obtain ⟨nd, nc, rfl, hl2, _, _, hn2⟩ := hown.slice
  have hcv := conv_lie nc hl2
  have HL := Lib.hid (hl.below hb rfl)
  have HB := Lib.hid hb
  clear hown hl hl2 hn2 hb
  go_wp2_with fail
  refine (join_two ad cap xs ⟨(enc s.size).toArray⟩ s _ HL.out HA.out hs (by simp only [ByteArray.size, List.size_toArray] at hel hss ⊢; omega)).mono ?_
  rintro e w2 ⟨v, rfl, hown, hb⟩
  have HO := Lib.hid hown
  have HB2 := Lib.hid hb
  clear hown hb
  go_wp2
  go_ret
  exact ⟨v, rfl, HO.out.mono HB.out.size, HB.out.trans (HB2.out.mono HB.out.size)⟩

end Go.Proofs.YtjmlidejbddoeaaDoor
namespace Go.Proofs.YtjmlidejbddoeaaDoor

theorem uR_back (pre rest : List UInt8) (n : Nat) (hn : n < 18446744073709551616) :
    uR (pre ++ (enc n ++ rest)) (pre.length : Nat) = (n, ((pre.length + (enc n).length : Nat) : Int), 0) := by
  have hd : dec 0 0 ((pre ++ (enc n ++ rest)).drop pre.length) = (n, (enc n).length, 0) := by
    rw [List.drop_left, dec_enc n 0 0 rest (by omega) (fun h => absurd h (by omega))]
    simp
  unfold uR
  rw [if_neg (by simp; omega), Int.toNat_natCast, hd]
  rfl
theorem iR_back (pre rest : List UInt8) (n : Int) (h0 : -9223372036854775808 ≤ n) (h1 : n ≤ 9223372036854775807) :
    iR (pre ++ (enc (cod n) ++ rest)) (pre.length : Nat) = (n, ((pre.length + (enc (cod n)).length : Nat) : Int), 0) := by
  unfold iR
  rw [uR_back pre rest _ (cod_lt n h0 h1)]
  simp only [if_true, dcd_cod]
theorem size_toList (s : ByteArray) : s.data.toList.length = s.size := by rw [Array.length_toList]; rfl
theorem tR_back (pre rest : List UInt8) (s : ByteArray) (hs : s.size < 18446744073709551616) :
    tR (pre ++ (encT s ++ rest)) (pre.length : Nat) (s.size : Nat) = (s, ((pre.length + (encT s).length : Nat) : Int), 0) := by
  have e : pre ++ (encT s ++ rest) = pre ++ (enc s.size ++ (s.data.toList ++ rest)) := by simp [encT]
  have hl : (encT s).length = (enc s.size).length + s.size := by rw [encT, List.length_append, size_toList]
  have hd : ((pre ++ (enc s.size ++ (s.data.toList ++ rest))).drop (pre.length + (enc s.size).length)).take s.size = s.data.toList := by
    rw [← List.append_assoc, ← List.length_append, List.drop_left, List.take_append_of_le_length (by rw [size_toList]; omega), List.take_of_length_le (by rw [size_toList]; omega)]
  unfold tR
  rw [e, uR_back pre _ _ hs]
  dsimp only
  rw [if_neg (by simp), if_neg (by omega), if_neg (by simp only [List.length_append, size_toList]; omega), Int.toNat_natCast, hd, hl]
  simp only [Prod.mk.injEq, and_true]
  refine ⟨by simp, by omega⟩
theorem bR_back (pre rest : List UInt8) (v : Bool) :
    bR (pre ++ (encB v ++ rest)) (pre.length : Nat) = (v, ((pre.length + (encB v).length : Nat) : Int), 0) := by
  unfold bR
  rw [if_neg (by simp; omega), Int.toNat_natCast, List.drop_left]
  cases v <;> simp [encB]

theorem uR_cut (n c : Nat) (hn : n < 18446744073709551616) (hc : c < (enc n).length) : uR ((enc n).take c) 0 = (0, 0, 2) := by
  unfold uR
  rw [if_neg (by simp), show (0 : Int).toNat = 0 from rfl, List.drop_zero, dec_cut n 0 0 c (by omega) (fun h => absurd h (by omega)) hc]
  rfl
theorem iR_cut (n : Int) (c : Nat) (h0 : -9223372036854775808 ≤ n) (h1 : n ≤ 9223372036854775807) (hc : c < (enc (cod n)).length) : iR ((enc (cod n)).take c) 0 = (0, 0, 2) := by
  unfold iR
  rw [uR_cut _ c (cod_lt n h0 h1) hc]
  simp
theorem tR_cut (s : ByteArray) (c : Nat) (hs : s.size < 18446744073709551616) (hc : c < (encT s).length) : (tR ((encT s).take c) 0 (s.size : Nat)).2.2 = 2 := by
  have hl : (encT s).length = (enc s.size).length + s.size := by rw [encT, List.length_append, size_toList]
  by_cases h : c < (enc s.size).length
  · have e : (encT s).take c = (enc s.size).take c := by rw [encT, List.take_append_of_le_length (by omega)]
    unfold tR
    rw [e, uR_cut _ c hs h]
    simp
  · have e : (encT s).take c = [] ++ (enc s.size ++ s.data.toList.take (c - (enc s.size).length)) := by
      rw [encT, List.take_append, List.take_of_length_le (by omega)]
      rfl
    have hu := uR_back [] (s.data.toList.take (c - (enc s.size).length)) s.size hs
    simp only [List.length_nil, Nat.zero_add] at hu
    unfold tR
    rw [e, show ((0 : Nat) : Int) = 0 from rfl] at *
    rw [hu]
    dsimp only
    rw [if_neg (by simp), if_neg (by omega), if_pos]
    simp only [List.nil_append, List.length_append, List.length_take, size_toList]
    omega
theorem bR_cut : bR [] 0 = (false, 0, 2) := by decide +kernel

theorem uR_form {xs : List UInt8} {at_ : Int} {n : Nat} {p : Int} (h : uR xs at_ = (n, p, 0)) :
    ∃ a q : Nat, at_ = a ∧ p = q ∧ a < q ∧ q ≤ xs.length ∧ n < 18446744073709551616 ∧ enc n = (xs.drop a).take (q - a) := by
  obtain ⟨hn, a, q, h1, h2, h3, h4, h5⟩ := uR_ok h
  obtain ⟨_, m, hm, hk, he, _⟩ := dec_ok _ _ _ _ _ h5
  refine ⟨a, q, h1, h2, h3, h4, hn, ?_⟩
  obtain rfl : n = m := by omega
  rw [he, Nat.sub_zero]
theorem iR_form {xs : List UInt8} {at_ n p : Int} (h : iR xs at_ = (n, p, 0)) :
    ∃ a q : Nat, at_ = a ∧ p = q ∧ a < q ∧ q ≤ xs.length ∧ (-9223372036854775808 ≤ n ∧ n ≤ 9223372036854775807) ∧ enc (cod n) = (xs.drop a).take (q - a) := by
  unfold iR at h
  rcases hu : uR xs at_ with ⟨m, q, e⟩
  rw [hu] at h
  dsimp only at h
  by_cases he : e = 0
  · subst he
    rw [if_pos rfl] at h
    simp only [Prod.mk.injEq, and_true] at h
    obtain ⟨rfl, rfl⟩ := h
    obtain ⟨a, q, h1, h2, h3, h4, h5, h6⟩ := uR_form hu
    exact ⟨a, q, h1, h2, h3, h4, dcd_bounds m h5, by rw [cod_dcd]; exact h6⟩
  · rw [if_neg he] at h
    simp only [Prod.mk.injEq] at h
    exact absurd h.2.2 he
theorem tR_form {xs : List UInt8} {at_ p : Int} {most : Int} {s : ByteArray} (h : tR xs at_ most = (s, p, 0)) :
    ∃ a q : Nat, at_ = a ∧ p = q ∧ a < q ∧ q ≤ xs.length ∧ s.size ≤ xs.length ∧ encT s = (xs.drop a).take (q - a) := by
  unfold tR at h
  rcases hu : uR xs at_ with ⟨m, q, e⟩
  rw [hu] at h
  dsimp only at h
  by_cases he : e = 0
  · subst he
    rw [if_neg (by simp)] at h
    by_cases h1 : most < 0 ∨ most < (m : Int)
    · rw [if_pos h1] at h; simp at h
    rw [if_neg h1] at h
    by_cases h2 : (xs.length : Int) - q < m
    · rw [if_pos h2] at h; simp at h
    rw [if_neg h2] at h
    simp only [Prod.mk.injEq, and_true] at h
    obtain ⟨rfl, rfl⟩ := h
    obtain ⟨a, q, rfl, rfl, h5, h6, _, h8⟩ := uR_form hu
    have hz : (ByteArray.mk ((xs.drop (q : Int).toNat).take m).toArray).size = m := by
      simp only [ByteArray.size, List.size_toArray, List.length_take, List.length_drop, Int.toNat_natCast]
      omega
    refine ⟨a, q + m, rfl, by simp, by omega, by omega, by rw [hz]; omega, ?_⟩
    unfold encT
    rw [hz, h8, show q + m - a = (q - a) + m by omega, List.take_add, List.drop_drop, show a + (q - a) = q by omega, Int.toNat_natCast]
  · rw [if_pos he] at h
    simp only [Prod.mk.injEq] at h
    exact absurd h.2.2 he
theorem bR_form {xs : List UInt8} {at_ p : Int} {v : Bool} (h : bR xs at_ = (v, p, 0)) :
    ∃ a : Nat, at_ = a ∧ p = ((a + 1 : Nat) : Int) ∧ a + 1 ≤ xs.length ∧ encB v = (xs.drop a).take 1 := by
  by_cases ho : at_ < 0 ∨ xs.length < at_
  · unfold bR at h
    rw [if_pos ho] at h; simp at h
  obtain ⟨a, rfl⟩ : ∃ a : Nat, at_ = a := ⟨at_.toNat, by omega⟩
  by_cases hl : a < xs.length
  · rw [bR_in xs a hl] at h
    by_cases h1 : 1 < (xs[a]).toNat
    · rw [if_pos h1] at h; simp at h
    rw [if_neg h1] at h
    simp only [Prod.mk.injEq, and_true] at h
    obtain ⟨rfl, rfl⟩ := h
    refine ⟨a, rfl, by simp, by omega, ?_⟩
    rw [List.drop_eq_getElem_cons hl, List.take_succ_cons, List.take_zero]
    have hv : (xs[a]).toNat = 0 ∨ (xs[a]).toNat = 1 := by omega
    unfold encB
    rcases hv with hv | hv
    · rw [hv]; congr 1; exact (UInt8.toNat_inj.1 hv).symm
    · rw [hv]; congr 1; exact (UInt8.toNat_inj.1 hv).symm
  · obtain rfl : a = xs.length := by omega
    unfold bR at h
    rw [if_neg ho, Int.toNat_natCast, List.drop_length] at h
    simp at h
end Go.Proofs.YtjmlidejbddoeaaDoor
