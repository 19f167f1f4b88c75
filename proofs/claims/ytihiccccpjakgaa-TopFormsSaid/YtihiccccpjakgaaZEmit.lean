/-
  The closures that emit tokens: a number and bytes behind what was packed.
-/
import Derived.Test.YtihiccccpjakgaaZVisit
import Derived.Deep.RegionLaw
namespace Go.Proofs.Ytihiccccpjakgaa
open Go.RowKit
set_option linter.unusedVariables false
set_option linter.unusedSimpArgs false
theorem wp_append_us {w : World} {o : Oper} {a : Act} {K : Act → World → Prop} {Q : Exit → Act → World → Prop} (s x : Operand)
    (ho : o.op = .call { callee := .builtin .append, args := #[s, x], argTypes := #[22, 22] })
    (B : Nat) (v : Value) (ys : List UInt8) (hs : a.eval s = v) (hown : Own w B v ys) (b off n cap : Nat) (xs : List UInt8) (hl : Lie w (some ⟨b, off, none⟩) xs) (hn : n = xs.length) (hx : a.eval x = .slice (some ⟨b, off, none⟩) n cap) (hlen : ys.length + n ≤ 10000000) (hbase : B ≤ w.heap.size)
    (h : ∀ v' w', Own w' B v' (ys ++ xs) → w.grownBy w' v.ownBlock → K (a.put o.dst v') w') : o.wp Try.prog a w K Q := by
  subst hn
  obtain ⟨i, hi, hz0, hz1, hz2⟩ := info_u
  refine wp_append_own w s x 22 ho B 5 i (.int .u8 0) 1 1 Try.underlying22 hi hz0 hz1 hz2 rfl (by decide) v ys.length (cellsU ys) hs hown.row ⟨b, off, none⟩ xs.length cap (cellsU xs) hx ?_ ?_ (cellsU_one _) (by unfold maxLen; omega) (by omega) hbase (fun v' w' h2 h3 _ => h v' w' ?_ h3)
  · rw [cellsU_length, Nat.mul_one]
  · intro j u hu
    have hj : j < xs.length := by
      have := (List.getElem?_eq_some_iff.1 hu).1
      rwa [cellsU_length] at this
    rcases hl.at_ with h0 | ⟨b', off', h0, _, hc⟩
    · subst h0; simp at hj
    · cases h0
      rw [Go.WideShapes.add_plain, hc j hj]
      rw [cellsU_get xs j hj] at hu
      exact hu
  · unfold Own
    rw [cellsU_append, List.length_append] at *
    exact h2
theorem step_append_u {w : World} {ops : Array Oper} {o : Oper} {a : Act} {K : Act → World → Prop} {Q : Exit → Act → World → Prop} {E : Prop} (hgd : o.guard = none) (s x : Operand)
    (ho : o.op = .call { callee := .builtin .append, args := #[s, x], argTypes := #[22, 22] })
    (B : Nat) (v : Value) (ys : List UInt8) (hs : a.eval s = v) (hown : Own w B v ys) (b off n cap : Nat) (xs : List UInt8) (hl : Lie w (some ⟨b, off, none⟩) xs) (hn : n = xs.length) (hx : a.eval x = .slice (some ⟨b, off, none⟩) n cap) (hlen : ys.length + n ≤ 10000000) (hbase : B ≤ w.heap.size)
    (h : ∀ v' w', Own w' B v' (ys ++ xs) → w.grownBy w' v.ownBlock → K (a.put o.dst v') w') :
    if Region.wanted o (yielded ops a.tmps) = true then Oper.wp Try.prog o a w K Q else E := by
  have hw : Region.wanted o (yielded ops a.tmps) = true := by simp [Region.wanted, hgd]
  rw [if_pos hw]
  exact wp_append_us s x ho B v ys hs hown b off n cap xs hl hn hx hlen hbase h
theorem puint0 (m : Nat) (w : World) (hm : m < 18446744073709551616) : Calls Try.prog 34 #[.slice none 0 0, .int .u64 m] w (Gives w (enc m)) := by
  have := puint_any none 0 [] m w (.nil _ _) (fun _ => rfl) (by simp) hm
  exact this
/-- bytes that lie apart from a block and from a row -/
structure LieN (w : World) (bp : Nat) (row : Option Nat) (ad : Option Addr) (xs : List UInt8) : Prop where
  lie : Lie w ad xs
  ne : xs = [] ∨ ∃ b off, ad = some ⟨b, off, none⟩ ∧ b < w.heap.size ∧ b ≠ bp ∧ row ≠ some b
theorem LieN.keep {w w' : World} {bp : Nat} {row : Option Nat} {ad : Option Addr} {xs : List UInt8} (h : LieN w bp row ad xs) (hk : ∀ k, k < w.heap.size → k ≠ bp → some k ≠ row → w'.heap[k]? = w.heap[k]?) (hs : w.heap.size ≤ w'.heap.size) : Lie w' ad xs := by
  rcases h.ne with h0 | ⟨b, off, rfl, hlt, h1, h2⟩
  · exact ⟨.inl h0⟩
  · rcases h.lie.at_ with h0 | ⟨b', off', e, _, hc⟩
    · exact ⟨.inl h0⟩
    · cases e
      refine ⟨.inr ⟨b, off, rfl, by omega, fun j hj => ?_⟩⟩
      have hb := hk b hlt h1 (fun e => h2 e.symm)
      rw [World.cell?_of_block (a := ⟨b, off + j, none⟩) hb]
      exact hc j hj
theorem Lie.some_of {w : World} {ad : Option Addr} {xs : List UInt8} (h : Lie w ad xs) (h0 : 0 < xs.length) : ∃ b off, ad = some ⟨b, off, none⟩ ∧ b < w.heap.size := by
  rcases h.at_ with h1 | ⟨b, off, e, hlt, _⟩
  · subst h1; simp at h0
  · exact ⟨b, off, e, hlt⟩
set_option maxRecDepth 100000 in
set_option maxHeartbeats 1000000 in
theorem emit_any (B C bp : Nat) (v : Value) (l rs : List UInt8) (m : Nat) (rad : Option Addr) (rc : Nat) (w : World) (hb : w.heap[bp]? = some (.cells #[v] 22 (0, 0))) (ho : Own w B v l) (hr : LieN w bp v.ownBlock rad rs) (hrc : rad = none → rc = 0)
    (hC : C ≤ B) (hCb : C ≤ bp) (hB : B ≤ w.heap.size) (hm : m ≤ 1000000) (hl : l.length ≤ 1000000) (hrl : rs.length ≤ 1000000) :
    Calls Try.prog 33 #[.int .i64 m, .slice rad rs.length rc, .pointer (some ⟨bp, 0, none⟩)] w fun e w' => e = .returned (.tuple #[]) ∧ BoxU w' B bp (l ++ enc m ++ rs) ∧ KeepV C bp w w' := by
  have hel := enc_len m (by omega)
  have hep := enc_pos m
  have HP := Lib.hid (fun W => puint0 m W (by omega))
  obtain ⟨av, cv, rfl, _, _, _, _⟩ := ho.slice
  have hc := cell_of_one hb
  have hD : Below w.heap.size w w.drew := (Below.refl _ _).drew
  have HV := Lib.hid hb
  have HO := Lib.hid ho
  have HR := Lib.hid hr
  have HRC := Lib.hid hrc
  have HB := Lib.hid hB
  have hlt := lt_of_block hb
  clear hb ho hr hrc
  have hcd : w.drew.cell? ⟨bp, 0, none⟩ = some (.slice av l.length cv) := hc
  have hwm : IntKind.u64.wrap (m : Int) = (m : Int) := by rw [IntKind.wrap_u64]; omega
  go_enter Try.func33, Try.ntmps33
  go_wp2_with fail
  go_region_law (first
    | (refine step_append_u rfl (.tmp 5) (.tmp 8) rfl B _ l rfl HO2.out b2 o2 _ _ (enc m) HL2.out rfl rfl (by omega) HB2.out ?_; intro v3 w3 ho3 hg3; have HK3 := Lib.hid (KeepU.grown HO2.out hg3 HB2.out); have HV3 := Lib.hid (HK3.out.cell HV2.out (by decide)); have hc3 := cell_of_one HV3.out; have hf3 := free_of_one HV3.out; obtain ⟨a3, c3, rfl, _, _, _, _⟩ := ho3.slice; have HG3 := Lib.hid hg3; have HO3 : Hid (Own w3 B (.slice a3 (l.length + (enc m).length) c3) (l ++ enc m)) := Lib.hid (by rw [← List.length_append]; exact ho3); clear ho3 hg3)
    | (go_simp; go_at_call 34; (with_reducible refine (HP.out _).mono ?_); rintro e w2 ⟨v2, rfl, ho2, hb2⟩; obtain ⟨a2, c2, rfl, hl2, _, _, _⟩ := ho2.slice; obtain ⟨b2, o2, rfl, _⟩ := hl2.some_of hep; have HL2 := Lib.hid hl2; have HO2 := Lib.hid (HO.out.below (hD.trans hb2)); have HB2 := Lib.hid (Nat.le_trans HB.out hb2.size); have HV2 := Lib.hid ((hb2.block _ hlt).trans HV.out); have hc2 := cell_of_one HV2.out; have HBL := Lib.hid hb2; clear ho2 hb2 hl2))
  all_goals
    have hk4 : ∀ k, k < w.heap.size → k ≠ bp → some k ≠ (Value.slice av l.length cv).ownBlock → (w3.setCell ⟨bp, 0, none⟩ (.slice a3 (l.length + (enc m).length) c3)).heap[k]? = w.heap[k]? := fun k k1 k2 k3 =>
      (Below.heap_setCell w3 ⟨bp, 0, none⟩ _ k k2).trans ((HG3.out.block k (Nat.lt_of_lt_of_le k1 HBL.out.size) k3).trans (HBL.out.block k k1))
    have HLR := Lib.hid (HR.out.keep hk4 (by rw [World.size_setCell]; exact Nat.le_trans HBL.out.size HG3.out.size))
    have HV4 : Hid ((w3.setCell ⟨bp, 0, none⟩ (.slice a3 (l.length + (enc m).length) c3)).heap[bp]? = some (.cells #[.slice a3 (l.length + (enc m).length) c3] 22 (0, 0))) := Lib.hid (one_setCell HV3.out)
    have HO4 : Hid (Own (w3.setCell ⟨bp, 0, none⟩ (.slice a3 (l.length + (enc m).length) c3)) B (.slice a3 (l.length + (enc m).length) c3) (l ++ enc m)) := Lib.hid (ownsRow_setCell_other HO3.out.row (a := ⟨bp, 0, none⟩) (HO3.out.ne_box HV3.out (by decide)) _)
    have HK4 : Hid (KeepV C bp w (w3.setCell ⟨bp, 0, none⟩ (.slice a3 (l.length + (enc m).length) c3))) := Lib.hid (((KeepV.new (hD.trans HBL.out) (Nat.le_trans hC HB.out)).trans (HK3.out.v hC)).trans (KeepV.set hCb))
    have HB4 : Hid (B ≤ (w3.setCell ⟨bp, 0, none⟩ (.slice a3 (l.length + (enc m).length) c3)).heap.size) := Lib.hid (by rw [World.size_setCell]; exact Nat.le_trans HB2.out HG3.out.size)
    have HLEN := Lib.hid (show (l ++ enc m).length + rs.length ≤ 10000000 by rw [List.length_append]; omega)
    have hc4 := cell_of_one HV4.out
    clear hk4 hc2 hc3 hf3 hc
    generalize w3.setCell ⟨bp, 0, none⟩ (.slice a3 (l.length + (enc m).length) c3) = w4 at HLR HV4 HO4 HK4 HB4 hc4 ⊢
    go_wp2_with (at_builtin; refine wpList_append_u rfl (.tmp 10) (.tmp 11) rfl B _ (l ++ enc m) rfl HO4.out rad _ rc rs HRC.out HLR.out rfl rfl HLEN.out HB4.out ?_; intro v5 w5 ho5 hg5; have HK5 := Lib.hid (KeepU.grown HO4.out hg5 HB4.out); have HV5 := Lib.hid (HK5.out.cell HV4.out (by decide)); have hc5 := cell_of_one HV5.out; have hf5 := free_of_one HV5.out; obtain ⟨a5, c5, rfl, _, _, _, _⟩ := ho5.slice; have HO5 := Lib.hid ho5; clear ho5 hg5)
    go_end0
    have e5 : (l ++ enc m ++ rs).length = l.length + ((enc m).length + rs.length) := by rw [List.length_append, List.length_append, Nat.add_assoc]
    have HO6 := HO5.out
    rw [e5] at HO6
    exact ⟨rfl, BoxU.put HV5.out HO6, HK4.out.trans ((HK5.out.v hC).trans (KeepV.set hCb))⟩
end Go.Proofs.Ytihiccccpjakgaa
