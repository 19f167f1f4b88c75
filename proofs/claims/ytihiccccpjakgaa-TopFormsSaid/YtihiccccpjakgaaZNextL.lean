/-
  The program's nextLiterals: a token of literals.
-/
import Derived.Test.YtihiccccpjakgaaZNx
import Derived.Test.YtihiccccpjakgaaCPutU
import Derived.Test.YtihiccccpjakgaaZStr
namespace Go.Proofs.Ytihiccccpjakgaa
open Go.RowKit
set_option linter.unusedVariables false
set_option linter.unusedSimpArgs false
theorem infoTok : (Try.prog.info? 55).map (fun i => (i.zero, i.size)) = some (some (.agg #[.int .i64 0, .int .i64 0, .slice none 0 0]), 3) := by kernel_rfl
theorem sizeTok : (Try.prog.info? 55).map (·.size) = some 3 := by
  have h := infoTok
  cases hi : Try.prog.info? 55 with
  | none => rw [hi] at h; cases h
  | some i => rw [hi] at h; simp only [Option.map_some, Option.some.injEq, Prod.mk.injEq] at h ⊢; exact h.2
/-- the value of a token -/
abbrev tokV (n d : Int) (ad : Option Addr) (ln lc : Nat) : Value := .agg #[.int .i64 n, .int .i64 d, .slice ad ln lc]
/-- a token into a block of a token -/
theorem wpList_store_tok {ops : Array Oper} {rest : List Oper} {o : Oper} {a : Act} {w : World} {Q : Exit → Act → World → Prop} (hgd : o.guard = none) (x y : Operand) (ho : o.op = .store 55 x y)
    (g : Nat) (hx : a.eval x = .pointer (some ⟨g, 0, none⟩)) (n d : Int) (ad : Option Addr) (ln lc : Nat) (hy : a.eval y = tokV n d ad ln lc) (u1 u2 u3 : Value) (hg : w.heap[g]? = some (.cells #[u1, u2, u3] 55 (0, 0)))
    (h : wpList Try.prog ops Q rest (a.put o.dst undef) (w.setRow g #[.int .i64 n, .int .i64 d, .slice ad ln lc])) : wpList Try.prog ops Q (o :: rest) a w :=
  wpList_store_agg hgd _ x y ho g hx _ _ hy _ hg sizeTok rfl (by simp [Value.oneCell']) h
/-- the offset behind the token -/
def Nx.to (x : Nx) (k : Nat) : Int := ((if x.e = 0 then k + x.len else 0 : Nat) : Int)
/-- what a call that reads a token hands back -/
def NxV (ad : Option Addr) (xs : List UInt8) (k : Nat) (x : Nx) (e : Ending) : Prop :=
  ∃ lad ln lc, e = .returned (.tuple #[tokV x.n x.d lad ln lc, .int .i64 (x.to k), .int .i64 x.e]) ∧
    (lad = none → lc = 0) ∧ (x.e = 0 → x.d = 0 → ln = x.n ∧ ∀ W, Lie W ad xs → Lie W lad ((xs.drop (k + x.h)).take x.n))
theorem NxV.err {ad : Option Addr} {xs : List UInt8} {k : Nat} {er : Nat} (h : er ≠ 0) : NxV ad xs k ⟨er, 0, 0, 0⟩ (.returned (.tuple #[tokV 0 0 none 0 0, .int .i64 0, .int .i64 er])) :=
  ⟨none, 0, 0, by unfold Nx.to; rw [if_neg h]; rfl, fun _ => rfl, fun h1 => absurd h1 h⟩
theorem below_one {B : Nat} {w W : World} (h : Below B w W) (hB : B ≤ W.heap.size) (o : Obj) : Below B w (W.alloc o) := h.alloc hB o
theorem Lie.part2 {w : World} {b off : Nat} {xs : List UInt8} (h : Lie w (some ⟨b, off, none⟩) xs) (q n : Nat) : Lie w (some ⟨b, off + q, none⟩) ((xs.drop q).take n) := by
  rcases h.at_ with h0 | ⟨b', off', e, hb, hc⟩
  · subst h0; exact ⟨.inl (by simp)⟩
  · cases e
    refine ⟨.inr ⟨b, off + q, rfl, hb, fun j hj => ?_⟩⟩
    rw [List.length_take, List.length_drop] at hj
    rw [Nat.add_assoc, hc (q + j) (by omega)]
    simp
set_option maxRecDepth 100000 in
set_option maxHeartbeats 600000 in
theorem nextl_any (ad : Option Addr) (cap : Nat) (xs : List UInt8) (k hd n room : Nat) (w : World) (hl : Lie w ad xs) (hn : xs.length ≤ cap) (hs : xs.length ≤ 1000000) (ha : ad = none → cap = 0) (hk : k + hd ≤ xs.length) (h0 : 0 < n) (hr : room ≤ 1000000) :
    Calls Try.prog 59 #[.slice ad xs.length cap, .int .i64 ((k : Int) + (hd : Int)), .int .i64 n, .int .i64 room] w fun e w' => NxV ad xs k (nxl (xs.drop k) hd n room) e ∧ Below w.heap.size w w' := by
  unfold nxl
  rw [List.length_drop]
  by_cases h1 : room < n
  · rw [if_pos h1]
    go_enter Try.func59, Try.ntmps59
    go_wp2
    refine post_cell3 rfl rfl (heap_new _ _) Try.underlying55 rfl sizeTok rfl rfl rfl ⟨NxV.err (by decide), (Below.refl _ _).alloc (Nat.le_refl _) _⟩
  rw [if_neg h1]
  by_cases h2 : xs.length - k - hd < n
  · rw [if_pos h2]
    go_enter Try.func59, Try.ntmps59
    go_wp2
    refine post_cell3 rfl rfl (heap_new _ _) Try.underlying55 rfl sizeTok rfl rfl rfl ⟨NxV.err (by decide), (Below.refl _ _).alloc (Nat.le_refl _) _⟩
  rw [if_neg h2]
  rcases hl.at_ with h3 | ⟨b, off, rfl, _⟩
  · subst h3; simp at h2; omega
  have hcap : k + hd < cap := by omega
  go_enter Try.func59, Try.ntmps59
  go_wp2
  have e : ((k + (hd + n) : Nat) : Int) = (k : Int) + hd + n := by omega
  refine post_cell3 rfl rfl (heap_new _ _) Try.underlying55 rfl sizeTok rfl rfl rfl ⟨?_, (Below.refl _ _).alloc (Nat.le_refl _) _⟩
  refine ⟨some ⟨b, off + (k + hd), none⟩, n, cap - (k + hd), ?_, (fun h => by cases h), fun _ _ => ⟨rfl, fun W h => h.part2 (k + hd) n⟩⟩
  unfold Nx.to
  show _ = Ending.returned (.tuple #[_, .int .i64 ((k + (hd + n) : Nat) : Int), _])
  rw [e]
  rfl
end Go.Proofs.Ytihiccccpjakgaa
