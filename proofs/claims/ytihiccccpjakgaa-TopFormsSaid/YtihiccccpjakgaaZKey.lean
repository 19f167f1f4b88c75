/-
  The program's key: the first bytes at a position, as a number.
-/
import Derived.Test.YtihiccccpjakgaaZSave
namespace Go.Proofs.Ytihiccccpjakgaa
open Go.RowKit
set_option linter.unusedVariables false
set_option linter.unusedSimpArgs false
/-- a byte more of a key -/
def kst (a v : Nat) : Nat := a * 256 % 4294967296 ||| v
theorem kst_lt (a v : Nat) (hv : v < 256) : kst a v < 4294967296 := Nat.or_lt_two_pow (n := 32) (Nat.mod_lt _ (by omega)) (by omega)
theorem kst_bits (a v : Nat) (hv : v < 256) : bits .or .u32 ((a : Int) * 256 % 4294967296) (v : Int) = (kst a v : Int) := by
  rw [show (a : Int) * 256 % 4294967296 = ((a * 256 % 4294967296 : Nat) : Int) by omega]
  exact u32_or_nat _ v (Nat.mod_lt _ (by omega)) (by omega)
/-- the key of bytes -/
def kyF (l : List UInt8) : Nat := l.foldl (fun a x => kst a x.toNat) 0
theorem kyF_snoc (l : List UInt8) (x : UInt8) : kyF (l ++ [x]) = kst (kyF l) x.toNat := by unfold kyF; rw [List.foldl_append]; rfl
theorem kyF_lt (l : List UInt8) : kyF l < 4294967296 := by
  rcases List.eq_nil_or_concat l with rfl | ⟨m, x, rfl⟩
  · decide
  · rw [List.concat_eq_append, kyF_snoc]; exact kst_lt _ _ x.toNat_lt
/-- the key at a position -/
def kyA (xs : List UInt8) (p : Nat) : Nat := kyF ((xs.drop p).take 4)
attribute [local irreducible] kst
set_option maxRecDepth 100000 in
set_option maxHeartbeats 1000000 in
theorem key_any (ad : Option Addr) (cap : Nat) (xs : List UInt8) (m : Option Nat) (p : Nat) (w : World) (hl : Lie w ad xs) (hn : xs.length ≤ cap) (hs : xs.length ≤ 1000000) (hp : p < xs.length) :
    Calls Try.prog 50 #[.agg #[.slice ad xs.length cap, .map m], .int .i64 p] w fun e w' => e = .returned (.int .u32 (kyA xs p : Nat)) ∧ Below w.heap.size w w' := by
  have h0 : Below w.heap.size w (w.alloc (.cells #[.slice ad xs.length cap, .map m] 63)) := (Below.refl _ _).alloc (Nat.le_refl _) _
  have HL := Lib.hid hl
  have HB := Lib.hid h0
  clear hl h0
  rcases HL.out.at_ with h1 | ⟨b, off, rfl, _, _⟩
  · subst h1; rw [List.length_nil] at hp; omega
  have hcap : p < cap := by omega
  by_cases h4 : xs.length ≤ p + 4
  · go_enter Try.func50, Try.ntmps50
    go_wp2
    go_loopw [5, 19] (fun u5 u19 wr => ∃ i key : Nat, u5 = .int .u32 key ∧ u19 = .int .i64 i ∧ key < 4294967296 ∧ i ≤ (xs.length - p) ∧ Hid (key = kyF ((xs.drop p).take i)) ∧ Hid (Below w.heap.size w wr)) (fun _ u19 _ => (xs.length - p) - (intOf u19).toNat)
    case atStart => exact ⟨0, 0, rfl, rfl, by omega, by omega, Lib.hid rfl, HB⟩
    case round =>
      obtain ⟨i, key, rfl, rfl, hk, hi, hkey, hb⟩ := hrel
      by_cases hlt : i < (xs.length - p)
      · have hpi : p + i < xs.length := by omega
        obtain ⟨x, hx⟩ : ∃ x : UInt8, xs[p + i] = x := ⟨_, rfl⟩
        obtain ⟨v, hv⟩ : ∃ v, x.toNat = v := ⟨_, rfl⟩
        have hv8 : v < 256 := by rw [← hv]; exact x.toNat_lt
        have hlr := HL.out.below hb.out rfl
        have hcell : wr.cell? ⟨b, off + p + i, none⟩ = some (.int .u8 (v : Int)) := by
          rcases hlr.at_ with h1 | ⟨b', off', e, _, hc'⟩
          · subst h1; rw [List.length_nil] at hp; omega
          · cases e
            rw [← hv, ← hx, Nat.add_assoc]
            exact hc' (p + i) hpi
        have hbits := kst_bits key v hv8
        have hkl := kst_lt key v hv8
        obtain ⟨k2, hk2⟩ : ∃ k2, kst key v = k2 := ⟨_, rfl⟩
        rw [hk2] at hbits hkl
        have hsn : k2 = kyF ((xs.drop p).take (i + 1)) := by
          rw [List.take_succ_eq_append_getElem (show i < (xs.drop p).length by rw [List.length_drop]; omega), kyF_snoc, ← hkey.out, List.getElem_drop, hx, hv, hk2]
        have HSN := Lib.hid hsn
        have HBr := hb
        clear hsn hk2 hv hx hlr hb hkey
        go_wp2
        refine ⟨⟨i + 1, k2, rfl, by rw [Int.natCast_add]; rfl, hkl, by omega, HSN, HBr⟩, ?_⟩
        show (xs.length - p) - ((i : Int) + 1).toNat < (xs.length - p) - (i : Int).toNat
        omega
      · obtain rfl : i = (xs.length - p) := by omega
        have hend : key = kyA xs p := by
          rw [hkey.out]
          unfold kyA
          rw [List.take_of_length_le (by rw [List.length_drop]; omega), List.take_of_length_le (by rw [List.length_drop]; omega)]
        have HE := Lib.hid hend
        clear hend
        go_wp2
        go_ret
        exact ⟨by rw [← HE.out]; rfl, hb.out⟩
  · go_enter Try.func50, Try.ntmps50
    go_wp2
    go_loopw [5, 19] (fun u5 u19 wr => ∃ i key : Nat, u5 = .int .u32 key ∧ u19 = .int .i64 i ∧ key < 4294967296 ∧ i ≤ (p + 4 - p) ∧ Hid (key = kyF ((xs.drop p).take i)) ∧ Hid (Below w.heap.size w wr)) (fun _ u19 _ => (p + 4 - p) - (intOf u19).toNat)
    case atStart => exact ⟨0, 0, rfl, rfl, by omega, by omega, Lib.hid rfl, HB⟩
    case round =>
      obtain ⟨i, key, rfl, rfl, hk, hi, hkey, hb⟩ := hrel
      by_cases hlt : i < (p + 4 - p)
      · have hpi : p + i < xs.length := by omega
        obtain ⟨x, hx⟩ : ∃ x : UInt8, xs[p + i] = x := ⟨_, rfl⟩
        obtain ⟨v, hv⟩ : ∃ v, x.toNat = v := ⟨_, rfl⟩
        have hv8 : v < 256 := by rw [← hv]; exact x.toNat_lt
        have hlr := HL.out.below hb.out rfl
        have hcell : wr.cell? ⟨b, off + p + i, none⟩ = some (.int .u8 (v : Int)) := by
          rcases hlr.at_ with h1 | ⟨b', off', e, _, hc'⟩
          · subst h1; rw [List.length_nil] at hp; omega
          · cases e
            rw [← hv, ← hx, Nat.add_assoc]
            exact hc' (p + i) hpi
        have hbits := kst_bits key v hv8
        have hkl := kst_lt key v hv8
        obtain ⟨k2, hk2⟩ : ∃ k2, kst key v = k2 := ⟨_, rfl⟩
        rw [hk2] at hbits hkl
        have hsn : k2 = kyF ((xs.drop p).take (i + 1)) := by
          rw [List.take_succ_eq_append_getElem (show i < (xs.drop p).length by rw [List.length_drop]; omega), kyF_snoc, ← hkey.out, List.getElem_drop, hx, hv, hk2]
        have HSN := Lib.hid hsn
        have HBr := hb
        clear hsn hk2 hv hx hlr hb hkey
        go_wp2
        refine ⟨⟨i + 1, k2, rfl, by rw [Int.natCast_add]; rfl, hkl, by omega, HSN, HBr⟩, ?_⟩
        show (p + 4 - p) - ((i : Int) + 1).toNat < (p + 4 - p) - (i : Int).toNat
        omega
      · obtain rfl : i = (p + 4 - p) := by omega
        have hend : key = kyA xs p := by
          rw [hkey.out]
          unfold kyA
          rw [show p + 4 - p = 4 by omega]
        have HE := Lib.hid hend
        clear hend
        go_wp2
        go_ret
        exact ⟨by rw [← HE.out]; rfl, hb.out⟩
end Go.Proofs.Ytihiccccpjakgaa
