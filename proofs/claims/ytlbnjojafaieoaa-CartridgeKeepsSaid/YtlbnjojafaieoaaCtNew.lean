/-
  The specification's New, Free and Erase.
-/
import Derived.Test.YtlbnjojafaieoaaCtSameC
import Derived.Test.YtlbnjojafaieoaaNHeld
namespace Go.Proofs.Ytlbnjojafaieoaa
open Go.RowKit
set_option linter.unusedVariables false
theorem infoC : (Try.prog.info? 26).map (·.size) = some 13 := by kernel_rfl
/-- the zero cartridge -/
def crZ : Crt := ⟨⟨#[]⟩, 0, 0, 0, 0, 0, 0, false, false, [], 0, 0, 0⟩
/-- a call hands back a cartridge and an error -/
def RetC (w : World) (r : Crt × Int) (e : Ending) (w' : World) : Prop := ∃ ad cap, e = .returned (.tuple #[crV r.1 ad cap, .int .i64 r.2]) ∧ CrIn w' r.1 ad cap ∧ Below w.heap.size w w'
/-- the cells of a block of a cartridge -/
abbrev crK (bc : ByteArray) (W L S T J R : Int) (wo lk : Bool) (ad : Option Addr) (n cap : Nat) (ep lo pa : Int) : Array Value := #[.string bc, .int .i64 W, .int .i64 L, .int .i64 S, .int .i64 T, .int .i64 J, .int .i64 R, .bool wo, .bool lk, .slice ad n cap, .int .i64 ep, .int .i64 lo, .int .i64 pa]
theorem wpList_store_cr {ops : Array Oper} {rest : List Oper} {o : Oper} {a : Act} {w : World} {Q : Exit → Act → World → Prop} (hgd : o.guard = none) (x y : Operand) (ho : o.op = .store 26 x y)
    (g : Nat) (hx : a.eval x = .pointer (some ⟨g, 0, none⟩)) (bc : ByteArray) (W L S T J R : Int) (wo lk : Bool) (ad : Option Addr) (n cap : Nat) (ep lo pa : Int) (hy : a.eval y = .agg (crK bc W L S T J R wo lk ad n cap ep lo pa))
    (bc0 : ByteArray) (W0 L0 S0 T0 J0 R0 : Int) (wo0 lk0 : Bool) (ad0 : Option Addr) (n0 cap0 : Nat) (ep0 lo0 pa0 : Int) (hg : w.heap[g]? = some (.cells (crK bc0 W0 L0 S0 T0 J0 R0 wo0 lk0 ad0 n0 cap0 ep0 lo0 pa0) 26 (0, 0)))
    (h : wpList Try.prog ops Q rest (a.put o.dst undef) (w.setRow g (crK bc W L S T J R wo lk ad n cap ep lo pa))) : wpList Try.prog ops Q (o :: rest) a w :=
  wpList_store_agg hgd _ x y ho g hx _ _ hy _ hg infoC rfl (by simp [Value.oneCell']) h
theorem post_cellC {P : Program} {fn : Func} {R : Ending → World → Prop} {p q : Tmp} {ty : TypeId} (h : fn.results = #[.cell p ty, .tmp q]) {a : Act} {w : World} {g : Nat} {cs : Array Value} {t : TypeId} {d : TypeDesc}
    (hp : a.tmps.getD p undef = .pointer (some ⟨g, 0, none⟩)) (hg : w.heap[g]? = some (.cells cs t (0, 0))) (hu : P.underlying ty = some d) (hd : (match d with | .struct _ | .array _ _ => true | _ => false) = true)
    (hi : (P.info? ty).map (·.size) = some cs.size) (hdef : a.defers = []) {x : Value} (hx : a.tmps.getD q undef = x) (hR : R (.returned (.tuple #[.agg cs, x])) w) : bodyPost P fn R .ret a w := by
  subst hx
  refine bodyPost_ret (v := .tuple #[.agg cs, a.tmps.getD q undef]) ?_ hdef hR
  have e : (results fn a.tmps).run P w = ((asAddr (a.tmps.getD p undef)).run P w).andThen fun b w1 => ((loadVar ty b).run P w1).andThen fun v w2 => .ok (.tuple #[v, a.tmps.getD q undef]) w2 := by
    simp only [results, h]
    simp [Sem.run_bind, Result.andThen]
  rw [e, hp]
  simp only [asAddr, Sem.run_pure, Result.andThen, run_loadVar_row w g t ty cs (0, 0) d hg hu hd hi]
theorem retZ {w W' : World} {x : Int} (h : Below w.heap.size w W') : RetC w (crZ, x) (.returned (.tuple #[.agg (crK ⟨#[]⟩ 0 0 0 0 0 0 false false none 0 0 0 0 0), .int .i64 x])) W' :=
  ⟨none, 0, rfl, ⟨Ki.nil _ _, Nat.le_refl _, Nat.zero_le _, fun _ => rfl, Nat.zero_le _⟩, h⟩
noncomputable def newC (bc : ByteArray) (W L S T J R : Int) (wo : Bool) : Crt × Int :=
  if bar bc = true then (if vld W L S T J R = true then (⟨bc, W, L, S, T, J, R, wo, false, [], 0, 0, 0⟩, 0) else (crZ, 7)) else (crZ, 8)
/-- the zero cartridge's box behind another box -/
theorem zero_row (w : World) (o : Obj) : ((w.alloc o).alloc (boxK ⟨#[]⟩ 0 0 0 0 0 0 false false none 0 0 0 0 0)).heap[w.heap.size + 1]? = some (.cells (crK ⟨#[]⟩ 0 0 0 0 0 0 false false none 0 0 0 0 0) 26 (0, 0)) := by
  have := heap_alloc_new (w.alloc o) (boxK ⟨#[]⟩ 0 0 0 0 0 0 false false none 0 0 0 0 0)
  rwa [World.size_alloc] at this
attribute [local irreducible] tim vld bar cnt okB capU allB vldC eqK
set_option maxRecDepth 100000 in
set_option maxHeartbeats 4000000 in
theorem rnew_any (bc : ByteArray) (W L S T J R : Int) (wo : Bool) (w : World) (hs : bc.size ≤ maxLen) :
    Calls Try.prog 13 #[.string bc, geV W L S T J R, .bool wo] w fun e w' => RetC w (newC bc W L S T J R wo) e w' := by
  have HB0 := Lib.hid (below_box2 w (.cells #[.int .i64 W, .int .i64 L, .int .i64 S, .int .i64 T, .int .i64 J, .int .i64 R] 23) (boxK ⟨#[]⟩ 0 0 0 0 0 0 false false none 0 0 0 0 0))
  have HG := Lib.hid ((GeoAt.new w W L S T J R 23).alloc (boxK ⟨#[]⟩ 0 0 0 0 0 0 false false none 0 0 0 0 0))
  have HN := Lib.hid (zero_row w (.cells #[.int .i64 W, .int .i64 L, .int .i64 S, .int .i64 T, .int .i64 J, .int .i64 R] 23))
  have HS0 : Hid (((w.alloc (.cells #[.int .i64 W, .int .i64 L, .int .i64 S, .int .i64 T, .int .i64 J, .int .i64 R] 23)).alloc (boxK ⟨#[]⟩ 0 0 0 0 0 0 false false none 0 0 0 0 0)).heap.size = w.heap.size + 2) := Lib.hid (by simp)
  cases hb : bar bc
  · have HR := Lib.hid (show newC bc W L S T J R wo = (crZ, 8) by unfold newC; rw [if_neg (by rw [hb]; simp)])
    have HBR := Lib.hid hb
    clear hb
    go_enter Try.func13, Try.ntmps13
    go_wp2_with fail
    generalize World.alloc _ _ = X0 at *
    refine (rbar_any bc X0 hs).mono ?_
    rw [HBR.out]
    rintro e w1 ⟨rfl, rfl⟩
    go_wp2_with (with_reducible refine wpList_store_cr rfl (.tmp 6) (.tmp 11) rfl (w.heap.size + 1) rfl _ _ _ _ _ _ _ _ _ _ _ _ _ _ _ rfl _ _ _ _ _ _ _ _ _ _ _ _ _ _ _ HN.out ?_)
    refine post_cellC rfl rfl (setRow_heap _ _ _ _ _ _ HN.out) Try.underlying26 rfl infoC rfl rfl ?_
    rw [HR.out]
    exact retZ (below_set HB0.out (by omega) _)
  have HBR := Lib.hid hb
  cases hv : vld W L S T J R
  · have HR := Lib.hid (show newC bc W L S T J R wo = (crZ, 7) by unfold newC; rw [if_pos hb, if_neg (by rw [hv]; simp)])
    have HV := Lib.hid hv
    clear hb hv
    go_enter Try.func13, Try.ntmps13
    go_wp2_with fail
    generalize World.alloc _ _ = X0 at *
    refine (rbar_any bc X0 hs).mono ?_
    rw [HBR.out]
    rintro e w1 ⟨rfl, rfl⟩
    obtain ⟨_, g0, g1, g2, g3, g4, g5⟩ := HG.out
    go_wp2_with fail
    refine (rvalid_any W L S T J R _).mono ?_
    rw [HV.out]
    rintro e w2 ⟨rfl, hb⟩
    have HB2 := Lib.hid (HB0.out.trans (hb.mono HB0.out.size))
    have HN2 := Lib.hid ((hb.block (w.heap.size + 1) (by rw [HS0.out]; omega)).trans HN.out)
    clear hb g0 g1 g2 g3 g4 g5
    go_wp2_with (with_reducible refine wpList_store_cr rfl (.tmp 6) (.tmp 15) rfl (w.heap.size + 1) rfl _ _ _ _ _ _ _ _ _ _ _ _ _ _ _ rfl _ _ _ _ _ _ _ _ _ _ _ _ _ _ _ HN2.out ?_)
    refine post_cellC rfl rfl (setRow_heap _ _ _ _ _ _ HN2.out) Try.underlying26 rfl infoC rfl rfl ?_
    rw [HR.out]
    exact retZ (below_set HB2.out (by omega) _)
  have HR := Lib.hid (show newC bc W L S T J R wo = (⟨bc, W, L, S, T, J, R, wo, false, [], 0, 0, 0⟩, 0) by unfold newC; rw [if_pos hb, if_pos hv])
  have HV := Lib.hid hv
  clear hb hv
  go_enter Try.func13, Try.ntmps13
  go_wp2_with fail
  generalize World.alloc _ _ = X0 at *
  refine (rbar_any bc X0 hs).mono ?_
  rw [HBR.out]
  rintro e w1 ⟨rfl, rfl⟩
  obtain ⟨_, g0, g1, g2, g3, g4, g5⟩ := HG.out
  go_wp2_with fail
  refine (rvalid_any W L S T J R _).mono ?_
  rw [HV.out]
  rintro e w2 ⟨rfl, hb⟩
  have HB2 := Lib.hid (HB0.out.trans (hb.mono HB0.out.size))
  have HN2 := Lib.hid ((hb.block (w.heap.size + 1) (by rw [HS0.out]; omega)).trans HN.out)
  clear g0 g1 g2 g3 g4 g5
  obtain ⟨_, g0, g1, g2, g3, g4, g5⟩ := HG.out.below hb HG.out.lt
  clear hb
  go_wp2_with (with_reducible refine wpList_store_cr rfl (.tmp 6) (.tmp 19) rfl (w.heap.size + 1) rfl _ _ _ _ _ _ _ _ _ _ _ _ _ _ _ rfl _ _ _ _ _ _ _ _ _ _ _ _ _ _ _ HN2.out ?_)
  refine post_cellC rfl rfl (setRow_heap _ _ _ _ _ _ HN2.out) Try.underlying26 rfl infoC rfl rfl ?_
  rw [HR.out]
  exact ⟨none, 0, rfl, ⟨Ki.nil _ _, Nat.le_refl _, Nat.zero_le _, fun _ => rfl, hs⟩, below_set HB2.out (by omega) _⟩
end Go.Proofs.Ytlbnjojafaieoaa
