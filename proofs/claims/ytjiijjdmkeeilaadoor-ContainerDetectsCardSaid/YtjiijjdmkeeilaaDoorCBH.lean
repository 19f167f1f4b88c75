/-
  Plain mathematics of Merkle trees, over any hash of two hashes.
  Numbers of 64 bits, and FNV-1a as plain mathematics.
  One byte more, by the program.
  The hash of a block, by the program and by the specification.
  Numbers of 64 bits in memory: lists to be read (Lin), and lists of the call's own (Onu).
  The parts of a string, as plain mathematics; how a list of the call's own is kept.
  How many parts a string has, and which bytes each part holds.
-/
import Derived.RowKit
import Derived.Test.YtjiijjdmkeeilaaDoorCBK
import Derived.Deep.LoopGhost
import Derived.Deep.RegionWith
import Derived.BigQuiet
import Derived.Deep.DeepCutAuto
import Derived.StillTailTactics
import Derived.Test.YtjiijjdmkeeilaaDoorCAC
import Derived.Deep.RegionLaw
import Derived.Test.YtjiijjdmkeeilaaDoorCBB
namespace Go.Proofs.YtjiijjdmkeeilaaDoor
/-- the greatest power of 2 less than n -/
def spl (n : Nat) : Nat := 2 ^ Nat.log2 (n - 1)
theorem spl_pos (n : Nat) : 1 ≤ spl n := Nat.one_le_two_pow
theorem spl_lt {n : Nat} (h : 2 ≤ n) : spl n < n := by
  have := Nat.log2_self_le (n := n - 1) (by omega)
  unfold spl
  omega
theorem spl_half {n : Nat} (h : 2 ≤ n) : n ≤ 2 * spl n := by
  have := Nat.lt_log2_self (n := n - 1)
  rw [Nat.pow_succ] at this
  unfold spl
  omega
/-- the only power of 2 there -/
theorem spl_unique {n d : Nat} (h1 : 2 ^ d < n) (h2 : n ≤ 2 * 2 ^ d) : spl n = 2 ^ d := by
  unfold spl
  have hn : n - 1 ≠ 0 := by have := Nat.one_le_two_pow (n := d); omega
  have e : Nat.log2 (n - 1) = d := by
    rw [Nat.log2_eq_iff hn, Nat.pow_succ]
    omega
  rw [e]
/-- a beginning that reaches behind the split has the same split -/
theorem spl_begin {n m : Nat} (hn : 2 ≤ n) (h1 : spl n < m) (h2 : m ≤ n) : spl m = spl n :=
  spl_unique h1 (by have := spl_half hn; unfold spl at this; omega)
section
variable {α : Type} (nd : α → α → α) (e : α)
/-- the root of the tree -/
def rootM (l : List α) : α :=
  if _h : 2 ≤ l.length then nd (rootM (l.take (spl l.length))) (rootM (l.drop (spl l.length))) else l.headD e
termination_by l.length
decreasing_by
  · have := spl_lt _h; rw [List.length_take]; omega
  · have := spl_pos l.length; rw [List.length_drop]; omega
/-- the path to leaf i -/
def pathM (l : List α) (i : Nat) : List α :=
  if _h : 2 ≤ l.length then
    if i < spl l.length then pathM (l.take (spl l.length)) i ++ [rootM nd e (l.drop (spl l.length))]
    else pathM (l.drop (spl l.length)) (i - spl l.length) ++ [rootM nd e (l.take (spl l.length))]
  else []
termination_by l.length
decreasing_by
  · have := spl_lt _h; rw [List.length_take]; omega
  · have := spl_pos l.length; rw [List.length_drop]; omega
/-- what results from a proof, and whether it has the right length -/
def reachM (leaf : α) (i n : Nat) (p : List α) : α × Bool :=
  if _h : 2 ≤ n then
    match p.getLast? with
    | none => (e, false)
    | some x =>
      if i < spl n then (nd (reachM leaf i (spl n) p.dropLast).1 x, (reachM leaf i (spl n) p.dropLast).2)
      else (nd x (reachM leaf (i - spl n) (n - spl n) p.dropLast).1, (reachM leaf (i - spl n) (n - spl n) p.dropLast).2)
  else (leaf, decide (p.length = 0))
termination_by n
decreasing_by
  all_goals first
    | exact spl_lt _h
    | (have := spl_pos n; omega)
/-- the link of a beginning -/
def linkM (l : List α) (m : Nat) (flag : Bool) : List α :=
  if m = l.length then (if flag then [] else [rootM nd e l])
  else if _h : 2 ≤ l.length then
    if m ≤ spl l.length then linkM (l.take (spl l.length)) m flag ++ [rootM nd e (l.drop (spl l.length))]
    else linkM (l.drop (spl l.length)) (m - spl l.length) false ++ [rootM nd e (l.take (spl l.length))]
  else []
termination_by l.length
decreasing_by
  · have := spl_lt _h; rw [List.length_take]; omega
  · have := spl_pos l.length; rw [List.length_drop]; omega
/-- the two hashes that result from a link, and whether it has the right length -/
def growM (old : α) (m n : Nat) (flag : Bool) (p : List α) : α × α × Bool :=
  if m = n then (if flag then (old, old, decide (p.length = 0)) else if p.length = 1 then (p.headD e, p.headD e, true) else (e, e, false))
  else if _h : 2 ≤ n then
    match p.getLast? with
    | none => (e, e, false)
    | some x =>
      if m ≤ spl n then ((growM old m (spl n) flag p.dropLast).1, nd (growM old m (spl n) flag p.dropLast).2.1 x, (growM old m (spl n) flag p.dropLast).2.2)
      else (nd x (growM old (m - spl n) (n - spl n) false p.dropLast).1, nd x (growM old (m - spl n) (n - spl n) false p.dropLast).2.1, (growM old (m - spl n) (n - spl n) false p.dropLast).2.2)
  else (e, e, false)
termination_by n
decreasing_by
  all_goals first
    | exact spl_lt _h
    | (have := spl_pos n; omega)
variable {nd e}
theorem rootM_two {l : List α} (h : 2 ≤ l.length) : rootM nd e l = nd (rootM nd e (l.take (spl l.length))) (rootM nd e (l.drop (spl l.length))) := by rw [rootM, dif_pos h]
theorem rootM_one {l : List α} (h : ¬ 2 ≤ l.length) : rootM nd e l = l.headD e := by rw [rootM, dif_neg h]
/-- every proof that is made is verified -/
theorem reach_path {e' : α} (N : Nat) : ∀ (l : List α) (i : Nat) (x : α), l[i]? = some x → l.length ≤ N → reachM nd e' x i l.length (pathM nd e l i) = (rootM nd e l, true) := by
  induction N with
  | zero =>
    intro l i x hi h
    have := (List.getElem?_eq_some_iff.1 hi).1
    omega
  | succ N ih =>
    intro l i x hx hN
    have hi := (List.getElem?_eq_some_iff.1 hx).1
    by_cases h : 2 ≤ l.length
    · have hs := spl_lt h
      have hp := spl_pos l.length
      rw [rootM_two h, pathM, dif_pos h]
      by_cases hk : i < spl l.length
      · have hl : (l.take (spl l.length)).length = spl l.length := by rw [List.length_take]; omega
        have := ih (l.take (spl l.length)) i x (by rw [List.getElem?_take_of_lt hk]; exact hx) (by omega)
        rw [hl] at this
        rw [if_pos hk, reachM, dif_pos h, List.getLast?_concat]
        simp only [List.dropLast_concat, if_pos hk, this]
      · have hl : (l.drop (spl l.length)).length = l.length - spl l.length := List.length_drop
        have := ih (l.drop (spl l.length)) (i - spl l.length) x (by rw [List.getElem?_drop, show spl l.length + (i - spl l.length) = i by omega]; exact hx) (by omega)
        rw [hl] at this
        rw [if_neg hk, reachM, dif_pos h, List.getLast?_concat]
        simp only [List.dropLast_concat, if_neg hk, this]
    · have h1 : l.length = 1 := by omega
      obtain ⟨y, rfl⟩ := List.length_eq_one_iff.1 h1
      obtain rfl : i = 0 := by simpa using hi
      have hxy : y = x := by simpa using hx
      rw [rootM_one h, pathM, dif_neg h, reachM, dif_neg h, hxy]
      rfl
/-- a proof is short -/
theorem path_length (d : Nat) : ∀ (l : List α) (i : Nat), l.length ≤ 2 ^ d → (pathM nd e l i).length ≤ d := by
  induction d with
  | zero => intro l i h; rw [pathM, dif_neg (by omega)]; exact Nat.le_refl _
  | succ d ih =>
    intro l i hl
    rw [pathM]
    by_cases h : 2 ≤ l.length
    · rw [dif_pos h]
      have hs := spl_lt h
      have hh := spl_half h
      have hk : spl l.length ≤ 2 ^ d := by
        have h2 : 2 ^ Nat.log2 (l.length - 1) < 2 ^ (d + 1) := by unfold spl at hs; omega
        have h3 := (Nat.pow_lt_pow_iff_right (by omega : 1 < 2)).1 h2
        exact Nat.pow_le_pow_right (by omega) (by omega)
      split
      · have := ih (l.take (spl l.length)) i (by rw [List.length_take]; omega)
        rw [List.length_append, List.length_singleton]; omega
      · have := ih (l.drop (spl l.length)) (i - spl l.length) (by rw [List.length_drop]; omega)
        rw [List.length_append, List.length_singleton]; omega
    · rw [dif_neg h]; exact Nat.zero_le _
/-- the link of every beginning shows that the tree extends it -/
theorem grow_link {e' : α} (N : Nat) : ∀ (l : List α) (m : Nat) (flag : Bool), 1 ≤ m → m ≤ l.length → l.length ≤ N → ∀ old, (flag = true → old = rootM nd e (l.take m)) → growM nd e' old m l.length flag (linkM nd e l m flag) = (rootM nd e (l.take m), rootM nd e l, true) := by
  induction N with
  | zero => intro l m flag h1 h2 h3; omega
  | succ N ih =>
    intro l m flag h1 h2 hN old hold
    rw [linkM, growM]
    by_cases hm : m = l.length
    · rw [if_pos hm, if_pos hm]
      have ht : l.take m = l := by rw [hm]; exact List.take_length
      rw [ht] at hold ⊢
      cases flag
      · simp
      · simp [hold rfl]
    · have h : 2 ≤ l.length := by omega
      have hs := spl_lt h
      have hp := spl_pos l.length
      rw [if_neg hm, if_neg hm, dif_pos h, dif_pos h]
      by_cases hk : m ≤ spl l.length
      · have hl : (l.take (spl l.length)).length = spl l.length := by rw [List.length_take]; omega
        have ht : (l.take (spl l.length)).take m = l.take m := by rw [List.take_take, Nat.min_eq_left hk]
        have := ih (l.take (spl l.length)) m flag h1 (by omega) (by omega) old (by rw [ht]; exact hold)
        rw [hl, ht] at this
        rw [if_pos hk, List.getLast?_concat]
        simp only [List.dropLast_concat, if_pos hk, this]
        rw [← rootM_two (nd := nd) (e := e) h]
      · have hl : (l.drop (spl l.length)).length = l.length - spl l.length := List.length_drop
        have := ih (l.drop (spl l.length)) (m - spl l.length) false (by omega) (by omega) (by omega) old (fun h => by cases h)
        rw [hl] at this
        rw [if_neg hk, List.getLast?_concat]
        simp only [List.dropLast_concat, if_neg hk, this]
        have hlm : (l.take m).length = m := by rw [List.length_take]; omega
        have hsm : spl m = spl l.length := spl_begin h (by omega) (by omega)
        have e1 : rootM nd e (l.take m) = nd (rootM nd e (l.take (spl l.length))) (rootM nd e ((l.drop (spl l.length)).take (m - spl l.length))) := by
          rw [rootM_two (l := l.take m) (by omega), hlm, hsm, List.take_take, Nat.min_eq_left (by omega), List.drop_take]
        rw [← e1, ← rootM_two (nd := nd) (e := e) h]
end
end Go.Proofs.YtjiijjdmkeeilaaDoor
namespace Go.Proofs.YtjiijjdmkeeilaaDoor
open Go.RowKit

/-- the number of a value of 64 bits; kept closed -/
@[irreducible] def gv (x : UInt64) : Int := (x.toNat : Int)
theorem gv_nat (x : UInt64) : gv x = (x.toNat : Int) := by unfold gv; rfl
theorem gv_lo (x : UInt64) : 0 ≤ gv x := by rw [gv_nat]; omega
theorem gv_hi (x : UInt64) : gv x < 18446744073709551616 := by rw [gv_nat]; have := x.toNat_lt; omega
theorem gv_inj {x y : UInt64} (h : gv x = gv y) : x = y := by rw [gv_nat, gv_nat] at h; exact UInt64.toNat_inj.1 (by omega)
theorem gv_lit (n : Nat) (h : n < 18446744073709551616) : (n : Int) = gv (UInt64.ofNat n) := by rw [gv_nat, UInt64.toNat_ofNat']; omega
theorem exists_gv (z : Int) (h0 : 0 ≤ z) (h1 : z < 18446744073709551616) : ∃ x, z = gv x := ⟨UInt64.ofNat z.toNat, by rw [← gv_lit _ (by omega)]; omega⟩
theorem gv_lit' (n : Nat) (x : UInt64) (h : x.toNat = n) : gv x = (n : Int) := by rw [gv_nat, h]
theorem ev_lit' (n : Nat) (x : UInt8) (h : x.toNat = n) : ev x = (n : Int) := by rw [ev_nat, h]
theorem bits_xor_gv (a b : UInt64) : bits .xor .u64 (gv a) (gv b) = gv (a ^^^ b) := by
  rw [gv_nat, gv_nat, gv_nat, u64_xor_nat _ _ a.toNat_lt b.toNat_lt, UInt64.toNat_xor]
theorem ev_gv (x : UInt8) : ev x = gv x.toUInt64 := by rw [ev_nat, gv_nat, UInt8.toNat_toUInt64]
theorem bits_xor_ge (a : UInt64) (x : UInt8) : bits .xor .u64 (gv a) (ev x) = gv (a ^^^ x.toUInt64) := by rw [ev_gv, bits_xor_gv]

/-- one byte more -/
def fnv (h : UInt64) (x : UInt8) : UInt64 := (h ^^^ x.toUInt64) * 1099511628211
theorem fnv_num (h : UInt64) (x : UInt8) : gv (h ^^^ x.toUInt64) * 1099511628211 % 18446744073709551616 = gv (fnv h x) := by
  unfold fnv
  rw [gv_nat, gv_nat, UInt64.toNat_mul]
  show _ = ((_ * 1099511628211 % 18446744073709551616 : Nat) : Int)
  omega
/-- the hash of the empty string -/
def basis : UInt64 := 14695981039346656037
/-- the hash of a string -/
def hashU (b : List UInt8) : UInt64 := b.foldl fnv basis
def leafU (b : List UInt8) : UInt64 := hashU (0 :: b)
/-- byte k of a number, from the lowest -/
def byteU (n : UInt64) (k : Nat) : UInt8 := UInt8.ofNat (n.toNat / 2 ^ (8 * k))
/-- the first j of the 8 bytes of a number, the most significant one first -/
def beU (n : UInt64) (j : Nat) : List UInt8 := (List.range j).map fun i => byteU n (7 - i)
theorem beU_zero (n : UInt64) : beU n 0 = [] := rfl
theorem beU_succ (n : UInt64) (j : Nat) : beU n (j + 1) = beU n j ++ [byteU n (7 - j)] := by
  unfold beU; rw [List.range_succ, List.map_append]; rfl
theorem beU_length (n : UInt64) (j : Nat) : (beU n j).length = j := by unfold beU; simp
/-- the hash of two numbers -/
def nodeU (a b : UInt64) : UInt64 := hashU (1 :: (beU a 8 ++ beU b 8))
theorem byte_shr (n : UInt64) (k : Nat) : gv n / 2 ^ (8 * k) % 256 = ev (byteU n k) := by
  rw [gv_nat, ev_nat]
  unfold byteU
  rw [UInt8.toNat_ofNat', show (2 : Nat) ^ 8 = 256 from rfl, Int.natCast_emod, Int.natCast_ediv, Int.natCast_pow]
  rfl
theorem ret_u64 {a b : Int} (h : a = b) : Ending.returned (.int .u64 a) = .returned (.int .u64 b) := by rw [h]
theorem gv_basis : gv basis = 14695981039346656037 := gv_lit' 14695981039346656037 _ rfl

abbrev rootU (l : List UInt64) : UInt64 := rootM nodeU basis l
abbrev pathU (l : List UInt64) (i : Nat) : List UInt64 := pathM nodeU basis l i
abbrev linkU (l : List UInt64) (m : Nat) (flag : Bool) : List UInt64 := linkM nodeU basis l m flag
end Go.Proofs.YtjiijjdmkeeilaaDoor
namespace Go.Proofs.YtjiijjdmkeeilaaDoor
open Go.RowKit
end Go.Proofs.YtjiijjdmkeeilaaDoor
namespace Go.Proofs.YtjiijjdmkeeilaaDoor
open Go.RowKit
/-- a string hashed on -/
def accU (h : UInt64) (b : List UInt8) : UInt64 := b.foldl fnv h
theorem accU_nil (h : UInt64) : accU h [] = h := rfl
theorem accU_snoc (h : UInt64) (b : List UInt8) (x : UInt8) : accU h (b ++ [x]) = fnv (accU h b) x := by unfold accU; rw [List.foldl_append]; rfl
theorem accU_append (h : UInt64) (b c : List UInt8) : accU h (b ++ c) = accU (accU h b) c := by unfold accU; rw [List.foldl_append]
theorem accU_next (h : UInt64) (b : List UInt8) (k : Nat) (hk : k < b.length) : fnv (accU h (b.take k)) b[k] = accU h (b.take (k + 1)) := by
  rw [List.take_succ_eq_append_getElem hk, accU_snoc]
theorem hashU_acc (b : List UInt8) : hashU b = accU basis b := rfl
theorem leafU_acc (b : List UInt8) : leafU b = accU (fnv basis 0) b := rfl
attribute [local irreducible] accU fnv basis
end Go.Proofs.YtjiijjdmkeeilaaDoor
namespace Go.Proofs.YtjiijjdmkeeilaaDoor
open Go.RowKit Go.ChangeShapes

def cellsN (l : List UInt64) : List Value := l.map fun x => Value.int .u64 (gv x)
theorem cellsN_length (l : List UInt64) : (cellsN l).length = l.length := by simp [cellsN]
theorem cellsN_append (l m : List UInt64) : cellsN l ++ cellsN m = cellsN (l ++ m) := by simp [cellsN]
theorem cellsN_get (l : List UInt64) (j : Nat) (h : j < l.length) : (cellsN l)[j]? = some (.int .u64 (gv (l[j]'h))) := by simp [cellsN, h]
theorem cellsN_one (l : List UInt64) : ∀ u ∈ cellsN l, u.oneCell' = true := by
  intro u hu
  obtain ⟨y, _, rfl⟩ := List.mem_map.1 hu
  rfl

/-- The numbers xs lie at ad. -/
structure Lin (w : World) (ad : Option Addr) (xs : List UInt64) : Prop where
  at_ : xs = [] ∨ ∃ b off, ad = some ⟨b, off, none⟩ ∧ b < w.heap.size ∧ ∀ j (h : j < xs.length), w.cell? ⟨b, off + j, none⟩ = some (.int .u64 (gv (xs[j]'h)))

theorem Lin.nil (w : World) (ad : Option Addr) : Lin w ad [] := ⟨.inl rfl⟩
theorem Lin.below {W w : World} {ad : Option Addr} {xs : List UInt64} {B : Nat} (h : Lin W ad xs) (hb : Below B W w) (hB : B = W.heap.size) : Lin w ad xs := by
  subst hB
  rcases h.at_ with h0 | ⟨b, off, rfl, hlt, hc⟩
  · exact ⟨.inl h0⟩
  · exact ⟨.inr ⟨b, off, rfl, Nat.lt_of_lt_of_le hlt hb.size, fun j hj => by rw [hb.cell (by exact hlt)]; exact hc j hj⟩⟩
theorem Lin.drew {w : World} {ad : Option Addr} {xs : List UInt64} (h : Lin w ad xs) : Lin w.drew ad xs := ⟨h.at_⟩
theorem Lin.drewN {w : World} {ad : Option Addr} {xs : List UInt64} (h : Lin w ad xs) (n : Nat) : Lin (w.drewN n) ad xs := ⟨h.at_⟩
theorem Lin.get {w : World} {ad : Option Addr} {xs : List UInt64} (h : Lin w ad xs) (hp : 0 < xs.length) :
    ∃ b off, ad = some ⟨b, off, none⟩ ∧ b < w.heap.size ∧ ∀ j (h : j < xs.length), w.cell? ⟨b, off + j, none⟩ = some (.int .u64 (gv (xs[j]'h))) := by
  rcases h.at_ with h0 | h1
  · subst h0; simp at hp
  · exact h1
theorem Lin.take {w : World} {ad : Option Addr} {xs : List UInt64} (h : Lin w ad xs) (k : Nat) : Lin w ad (xs.take k) := by
  rcases h.at_ with h0 | ⟨b, off, rfl, hlt, hc⟩
  · subst h0; exact ⟨.inl (by simp)⟩
  · exact ⟨.inr ⟨b, off, rfl, hlt, fun j hj => by rw [hc j (by rw [List.length_take] at hj; omega)]; simp⟩⟩
theorem Lin.drop {w : World} {b off : Nat} {xs : List UInt64} (h : Lin w (some ⟨b, off, none⟩) xs) (k : Nat) : Lin w (some ⟨b, off + k, none⟩) (xs.drop k) := by
  rcases h.at_ with h0 | ⟨b', off', h1, hlt, hc⟩
  · subst h0; exact ⟨.inl (by simp)⟩
  · cases h1
    exact ⟨.inr ⟨b, off + k, rfl, hlt, fun j hj => by
      have := hc (k + j) (by rw [List.length_drop] at hj; omega)
      rw [Nat.add_assoc, this]; simp⟩⟩
theorem Lin.lits (w : World) (cs : Array Value) (fr : Nat × Nat) (xs : List UInt64) (h : cs.toList = cellsN xs) : Lin (w.alloc (.cells cs 94 fr)) (some ⟨w.heap.size, 0, none⟩) xs := by
  refine ⟨.inr ⟨w.heap.size, 0, rfl, by simp, fun j hj => ?_⟩⟩
  rw [World.cell?_alloc_mark, ← Array.getElem?_toList, h, Nat.zero_add]
  exact cellsN_get xs j hj

theorem lin_of (w : World) (a : Option Addr) (len cap : Nat) (zs : List Int)
    (h : (a = none ∧ len = 0 ∧ cap = 0 ∧ zs = []) ∨ ∃ x, a = some x ∧ len ≤ cap ∧ cap ≤ maxLen ∧ zs.length = cap ∧ (∀ i, i < zs.length → w.cell? (x.add i) = some (.int .u64 (zs.getD i 0))) ∧ ∀ n ∈ zs, (Lit.int .u64 n).wf = true) :
    ∃ xs : List UInt64, xs.length = len ∧ Lin w a xs ∧ len ≤ cap ∧ cap ≤ maxLen ∧ (a = none → cap = 0) := by
  rcases h with ⟨rfl, rfl, rfl, rfl⟩ | ⟨x, rfl, hl, hm, hz, hc, hw⟩
  · exact ⟨[], rfl, .nil _ _, Nat.le_refl _, Nat.zero_le _, fun _ => rfl⟩
  · refine ⟨(zs.take len).map fun z => UInt64.ofNat z.toNat, by simp; omega, ⟨?_⟩, hl, hm, fun h => by cases h⟩
    by_cases h0 : len = 0
    · left; subst h0; simp
    · right
      have hp : 0 < zs.length := by omega
      obtain ⟨b, off, rfl, hcell⟩ := ints_at hc hp
      refine ⟨b, off, rfl, ?_, fun j hj => ?_⟩
      · have := hcell 0 hp
        rcases Nat.lt_or_ge b w.heap.size with h' | h'
        · exact h'
        · simp [World.cell?, Array.getElem?_eq_none h'] at this
      · have hj' : j < len := by simp at hj; omega
        have hjz : j < zs.length := by omega
        have hb : 0 ≤ zs[j] ∧ zs[j] ≤ 18446744073709551615 := by simpa [Lit.wf, IntKind.min, IntKind.max, IntKind.signed, IntKind.bits] using hw zs[j] (List.getElem_mem hjz)
        have e : zs.getD j 0 = zs[j] := by simp [hjz]
        rw [hcell j hjz, e]
        simp only [List.getElem_map, List.getElem_take]
        rw [← gv_lit _ (by omega)]
        congr 2
        omega

theorem infoN : (Tryd.prog.info? 94).map (fun i => (i.zero, i.size, i.bytes)) = some (some (.int .u64 0), 1, 8) := by kernel_rfl
theorem info_n : ∃ i : TypeInfo, Tryd.prog.info? 94 = some i ∧ i.zero = some (.int .u64 0) ∧ i.size = 1 ∧ i.bytes = 8 := by
  have h := infoN
  rcases hi : Tryd.prog.info? 94 with _ | i
  · rw [hi] at h; simp at h
  · rw [hi] at h
    simp only [Option.map_some, Option.some.injEq, Prod.mk.injEq] at h
    exact ⟨i, rfl, h.1, h.2.1, h.2.2⟩

/-- The value v owns the numbers l, behind block B. -/
def Onu (w : World) (B : Nat) (v : Value) (l : List UInt64) : Prop := w.ownsRow B 94 1 v l.length (cellsN l)
theorem Onu.row {w : World} {B : Nat} {v : Value} {l : List UInt64} (h : Onu w B v l) : w.ownsRow B 94 1 v l.length (cellsN l) := h
theorem Onu.lt {w : World} {B : Nat} {v : Value} {l : List UInt64} (h : Onu w B v l) : ∀ k, v.ownBlock = some k → B ≤ k ∧ k < w.heap.size := fun k hk => h.row.lt k hk
theorem Onu.slice {w : World} {B : Nat} {v : Value} {l : List UInt64} (h : Onu w B v l) :
    ∃ ad cap, v = .slice ad l.length cap ∧ Lin w ad l ∧ l.length ≤ cap ∧ cap ≤ maxLen ∧ (ad = none → cap = 0) := by
  rcases h.row.2 with ⟨rfl, h0⟩ | ⟨g, cap, cur, rfl, _, hg, hle, hm, hsz, htake⟩
  · have : l = [] := List.eq_nil_of_length_eq_zero h0
    subst this
    exact ⟨none, 0, rfl, .nil _ _, Nat.le_refl _, Nat.zero_le _, fun _ => rfl⟩
  · refine ⟨some ⟨g, 0, none⟩, cap, rfl, ⟨.inr ⟨g, 0, rfl, (Array.getElem?_eq_some_iff.1 hg).1, fun j hj => ?_⟩⟩, hle, hm, fun h => by cases h⟩
    rw [Nat.zero_add, cell_of_row w g j cur 94 (0, 0) hg]
    have h1 : (cur.toList.take (l.length * 1))[j]? = some (.int .u64 (gv (l[j]'hj))) := by rw [htake]; exact cellsN_get l j hj
    rw [List.getElem?_take_of_lt (by omega)] at h1
    simpa using h1
theorem Onu.ofNil (w : World) (B : Nat) : Onu w B (.slice none 0 0) [] := ⟨rfl, .inl ⟨rfl, rfl⟩⟩
theorem Onu.below {w w' : World} {B : Nat} {v : Value} {l : List UInt64} (h : Onu w B v l) (hb : Below w.heap.size w w') : Onu w' B v l := by
  refine ⟨h.row.1, ?_⟩
  rcases h.row.2 with h0 | ⟨g, cap, cur, hv, hB, hg, h1, h2, h3, h4⟩
  · exact .inl h0
  · exact .inr ⟨g, cap, cur, hv, hB, (hb.block g (Array.getElem?_eq_some_iff.1 hg).1).trans hg, h1, h2, h3, h4⟩
theorem Onu.mono {w : World} {B B' : Nat} {v : Value} {l : List UInt64} (h : Onu w B v l) (hB : B' ≤ B) : Onu w B' v l := by
  refine ⟨h.row.1, ?_⟩
  rcases h.row.2 with h0 | ⟨g, cap, cur, hv, hg0, hg⟩
  · exact .inl h0
  · exact .inr ⟨g, cap, cur, hv, Nat.le_trans hB hg0, hg⟩
theorem Onu.drewN {w : World} {B : Nat} {v : Value} {l : List UInt64} (h : Onu w B v l) (n : Nat) : Onu (w.drewN n) B v l := h.below (below_drewN (.refl _ _) n)
theorem Onu.alloc {w : World} {B : Nat} {v : Value} {l : List UInt64} (h : Onu w B v l) (o : Obj) : Onu (w.alloc o) B v l := h.below ((Below.refl _ _).alloc (Nat.le_refl _) o)
theorem Lin.alloc {w : World} {ad : Option Addr} {l : List UInt64} (h : Lin w ad l) (o : Obj) : Lin (w.alloc o) ad l := h.below ((Below.refl _ _).alloc (Nat.le_refl _) o) rfl
/-- a call gives a new slice with the numbers l, and what was there is as it was -/
def GivesN (w : World) (l : List UInt64) (e : Ending) (w' : World) : Prop := ∃ v, e = .returned v ∧ Onu w' w.heap.size v l ∧ Below w.heap.size w w'

theorem cell_newN (W : World) (y : UInt64) : (W.alloc (.cells #[.int .u64 (gv y)] 94)).cell? ⟨W.heap.size, 0, none⟩ = some (.int .u64 (gv y)) := by
  rw [World.cell?_alloc_mark]; rfl
end Go.Proofs.YtjiijjdmkeeilaaDoor
namespace Go.Proofs.YtjiijjdmkeeilaaDoor
open Go.RowKit
/-- the leaves of the parts -/
def blkU (xs : List UInt8) (size : Int) : List UInt64 := if size < 1 then [] else (partsF size.toNat xs).map leafU
theorem blkU_no (xs : List UInt8) (size : Int) (h : size < 1) : blkU xs size = [] := if_pos h
theorem blkU_yes (xs : List UInt8) (s : Nat) (h : 1 ≤ s) : blkU xs s = (partsF s xs).map leafU := by unfold blkU; rw [if_neg (by omega), Int.toNat_natCast]
theorem Onu.kept {w w' : World} {B : Nat} {v : Value} {l : List UInt64} {row : Option Nat} (h : Onu w B v l) (hg : w.grownBy w' row) (hne : v.ownBlock = none ∨ v.ownBlock ≠ row) : Onu w' B v l := h.row.kept hg hne
theorem Onu.own {w : World} {B : Nat} {v : Value} {l : List UInt64} (h : Onu w B v l) : ∀ k, v.ownBlock = some k → B ≤ k ∧ k < w.heap.size ∧ ∃ cur, w.heap[k]? = some (.cells cur 94 (0, 0)) := by
  intro k hk
  rcases h.row.2 with ⟨rfl, _⟩ | ⟨g, cap, cur, rfl, hB, hgg, _⟩
  · cases hk
  · have e : some g = some k := hk
    cases e
    exact ⟨hB, (Array.getElem?_eq_some_iff.1 hgg).1, cur, hgg⟩
end Go.Proofs.YtjiijjdmkeeilaaDoor
namespace Go.Proofs.YtjiijjdmkeeilaaDoor
theorem parts_length (s : Nat) (h1 : 1 ≤ s) (N : Nat) : ∀ xs : List UInt8, xs.length ≤ N → (partsF s xs).length = (xs.length + s - 1) / s := by
  induction N with
  | zero =>
    intro xs h
    rw [parts_nil s xs (by omega), show xs.length = 0 by omega]
    exact (Nat.div_eq_of_lt (by omega)).symm
  | succ N ih =>
    intro xs h
    by_cases hx : 0 < xs.length
    · rw [parts_cons s xs h1 hx, List.length_cons, ih _ (by rw [List.length_drop]; omega), List.length_drop]
      by_cases hs : s ≤ xs.length
      · rw [show xs.length + s - 1 = (xs.length - s + s - 1) + s by omega, Nat.add_div_right _ (by omega)]
      · rw [show xs.length - s + s - 1 = s - 1 by omega, Nat.div_eq_of_lt (by omega : s - 1 < s), show xs.length + s - 1 = (xs.length - 1) + s by omega, Nat.add_div_right _ (by omega), Nat.div_eq_of_lt (by omega)]
    · rw [parts_nil s xs hx, show xs.length = 0 by omega]
      exact (Nat.div_eq_of_lt (by omega)).symm
theorem parts_get (s : Nat) (h1 : 1 ≤ s) : ∀ (i : Nat) (xs : List UInt8) (h : i < (partsF s xs).length), (partsF s xs)[i] = (xs.drop (i * s)).take s := by
  intro i
  induction i with
  | zero =>
    intro xs h
    have hx : 0 < xs.length := by
      rcases Nat.eq_zero_or_pos xs.length with h0 | h0
      · rw [parts_nil s xs (by omega)] at h; simp at h
      · exact h0
    have e := parts_cons s xs h1 hx
    simp only [e, List.getElem_cons_zero, Nat.zero_mul, List.drop_zero]
  | succ i ih =>
    intro xs h
    have hx : 0 < xs.length := by
      rcases Nat.eq_zero_or_pos xs.length with h0 | h0
      · rw [parts_nil s xs (by omega)] at h; simp at h
      · exact h0
    have e := parts_cons s xs h1 hx
    have h2 : i < (partsF s (xs.drop s)).length := by rw [e, List.length_cons] at h; omega
    simp only [e, List.getElem_cons_succ]
    rw [ih (xs.drop s) h2, List.drop_drop, Nat.succ_mul, Nat.add_comm]
end Go.Proofs.YtjiijjdmkeeilaaDoor
