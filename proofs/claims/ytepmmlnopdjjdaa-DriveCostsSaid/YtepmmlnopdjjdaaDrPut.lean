/-
  The parts of an operation's result, stored one after another.
-/
import Derived.Test.YtepmmlnopdjjdaaQSide
namespace Go.Proofs.Ytepmmlnopdjjdaa
open Go.RowKit
set_option linter.unusedVariables false
theorem putL_size : ∀ (vs : List Value) (C : Array Value) (o : Nat), (putL C o vs).size = C.size
  | [], C, o => rfl
  | v :: r, C, o => by rw [putL, putL_size r]; simp
/-- the result's cells with a drive, a cartridge, blocks, a time, an error put in -/
def put1 (C : Array Value) (d : Drv) : Array Value := putL C 0 [.int .i64 d.st, .string d.bc, .int .i64 d.hd, .int .i64 d.lo, .int .i64 d.pa, .int .i64 d.si]
def put2 (C : Array Value) (c : Crt) (ad : Option Addr) (n cap : Nat) : Array Value := putL C 6 [.string c.bc, .int .i64 c.W, .int .i64 c.L, .int .i64 c.S, .int .i64 c.T, .int .i64 c.J, .int .i64 c.R, .bool c.wo, .bool c.lk, .slice ad n cap, .int .i64 c.ep, .int .i64 c.lo, .int .i64 c.pa]
def put3 (C : Array Value) (zd : Option Addr) (zn zc : Nat) : Array Value := putL C 19 [.slice zd zn zc]
def put4 (C : Array Value) (t : Int) : Array Value := putL C 20 [.int .i64 t]
def put5 (C : Array Value) (e : Int) : Array Value := putL C 21 [.int .i64 e]
theorem put1_size (C : Array Value) (d : Drv) : (put1 C d).size = C.size := putL_size _ _ _
theorem put2_size (C : Array Value) (c : Crt) (ad : Option Addr) (n cap : Nat) : (put2 C c ad n cap).size = C.size := putL_size _ _ _
theorem put3_size (C : Array Value) (zd : Option Addr) (zn zc : Nat) : (put3 C zd zn zc).size = C.size := putL_size _ _ _
theorem put4_size (C : Array Value) (t : Int) : (put4 C t).size = C.size := putL_size _ _ _
theorem put5_size (C : Array Value) (e : Int) : (put5 C e).size = C.size := putL_size _ _ _
theorem dn_all (d : Drv) (c : Crt) (ad : Option Addr) (n cap : Nat) (t e : Int) : put5 (put4 (put2 (put1 dnZ d) c ad n cap) t) e = dnK d c ad n cap none 0 0 t e := by
  unfold put1 put2 put4 put5
  simp only [putL, List.setIfInBounds_toArray, List.set_cons_zero, List.set_cons_succ]
theorem dn_all3 (d : Drv) (c : Crt) (ad : Option Addr) (n cap : Nat) (zd : Option Addr) (zn zc : Nat) (t e : Int) : put5 (put4 (put3 (put2 (put1 dnZ d) c ad n cap) zd zn zc) t) e = dnK d c ad n cap zd zn zc t e := by
  unfold put1 put2 put3 put4 put5
  simp only [putL, List.setIfInBounds_toArray, List.set_cons_zero, List.set_cons_succ]
theorem dn_allc (d : Drv) (c : Crt) (ad : Option Addr) (n cap : Nat) (t e : Int) : put2 (put5 (put4 (put1 dnZ d) t) e) c ad n cap = dnK d c ad n cap none 0 0 t e := by
  unfold put1 put2 put4 put5
  simp only [putL, List.setIfInBounds_toArray, List.set_cons_zero, List.set_cons_succ]
section
variable {ops : Array Oper} {rest : List Oper} {o : Oper} {a : Act} {w : World} {Q : Exit → Act → World → Prop} (hgd : o.guard = none) (x y : Operand) (g : Nat) {C : Array Value} (hg : w.heap[g]? = some (.cells C 39 (0, 0))) (hC : C.size = 22)
include hgd hg hC
theorem st_d (ho : o.op = .store 25 x y) (hx : a.eval x = .pointer (some ⟨g, 0, none⟩)) (d : Drv) (hy : a.eval y = drV d) (h : wpList Try.prog ops Q rest (a.put o.dst undef) (w.setRow g (put1 C d))) : wpList Try.prog ops Q (o :: rest) a w :=
  wpList_store_in hgd _ x y ho g 0 hx _ hy (drK d) rfl C _ hg infoD (by rw [hC]; show 0 + 6 ≤ 22; omega) (by simp [Value.oneCell']) _ rfl h
theorem st_c (ho : o.op = .store 30 x y) (hx : a.eval x = .pointer (some ⟨g, 6, none⟩)) (bc : ByteArray) (W L S T J R : Int) (wo lk : Bool) (ad : Option Addr) (n cap : Nat) (ep lo pa : Int) (hy : a.eval y = crW bc W L S T J R wo lk ad n cap ep lo pa) (c : Crt) (hc : c.bc = bc ∧ c.W = W ∧ c.L = L ∧ c.S = S ∧ c.T = T ∧ c.J = J ∧ c.R = R ∧ c.wo = wo ∧ c.lk = lk ∧ c.ep = ep ∧ c.lo = lo ∧ c.pa = pa) (h : wpList Try.prog ops Q rest (a.put o.dst undef) (w.setRow g (put2 C c ad n cap))) : wpList Try.prog ops Q (o :: rest) a w := by
  obtain ⟨rfl, rfl, rfl, rfl, rfl, rfl, rfl, rfl, rfl, rfl, rfl, rfl⟩ := hc
  exact wpList_store_in hgd _ x y ho g 6 hx _ hy (crK c.bc c.W c.L c.S c.T c.J c.R c.wo c.lk ad n cap c.ep c.lo c.pa) rfl C _ hg infoC (by rw [hC]; show 6 + 13 ≤ 22; omega) (by simp [Value.oneCell']) _ rfl h
theorem st_l (ho : o.op = .store 28 x y) (hx : a.eval x = .pointer (some ⟨g, 19, none⟩)) (zd : Option Addr) (zn zc : Nat) (hy : a.eval y = .slice zd zn zc) (h : wpList Try.prog ops Q rest (a.put o.dst undef) (w.setRow g (put3 C zd zn zc))) : wpList Try.prog ops Q (o :: rest) a w :=
  wpList_store_in hgd _ x y ho g 19 hx _ hy #[.slice zd zn zc] rfl C _ hg infoS (by rw [hC]; show 19 + 1 ≤ 22; omega) (by simp [Value.oneCell']) _ rfl h
theorem st_t (ho : o.op = .store 3 x y) (hx : a.eval x = .pointer (some ⟨g, 20, none⟩)) (t : Int) (hy : a.eval y = .int .i64 t) (h : wpList Try.prog ops Q rest (a.put o.dst undef) (w.setRow g (put4 C t))) : wpList Try.prog ops Q (o :: rest) a w :=
  wpList_store_in hgd _ x y ho g 20 hx _ hy #[.int .i64 t] rfl C _ hg infoI (by rw [hC]; show 20 + 1 ≤ 22; omega) (by simp [Value.oneCell']) _ rfl h
theorem st_e (ho : o.op = .store 37 x y) (hx : a.eval x = .pointer (some ⟨g, 21, none⟩)) (e : Int) (hy : a.eval y = .int .i64 e) (h : wpList Try.prog ops Q rest (a.put o.dst undef) (w.setRow g (put5 C e))) : wpList Try.prog ops Q (o :: rest) a w :=
  wpList_store_in hgd _ x y ho g 21 hx _ hy #[.int .i64 e] rfl C _ hg infoE (by rw [hC]; show 21 + 1 ≤ 22; omega) (by simp [Value.oneCell']) _ rfl h
end
theorem ld_dn {ops : Array Oper} {rest : List Oper} {o : Oper} {a : Act} {w : World} {Q : Exit → Act → World → Prop} (hgd : o.guard = none) (x : Operand) (ho : o.op = .load 39 x) (g : Nat) (hx : a.eval x = .pointer (some ⟨g, 0, none⟩)) (d : Drv) (c : Crt) (ad : Option Addr) (n cap : Nat) (zd : Option Addr) (zn zc : Nat) (t e : Int) (hg : w.heap[g]? = some (.cells (dnK d c ad n cap zd zn zc t e) 39 (0, 0)))
    (h : wpList Try.prog ops Q rest (a.put o.dst (.agg (dnK d c ad n cap zd zn zc t e))) w) : wpList Try.prog ops Q (o :: rest) a w :=
  wpList_load_row hgd _ x ho g hx _ _ hg _ Try.underlying39 rfl infoDn h
theorem st_dn {ops : Array Oper} {rest : List Oper} {o : Oper} {a : Act} {w : World} {Q : Exit → Act → World → Prop} (hgd : o.guard = none) (x y : Operand) (ho : o.op = .store 39 x y) (g : Nat) (hx : a.eval x = .pointer (some ⟨g, 0, none⟩)) (d : Drv) (c : Crt) (ad : Option Addr) (n cap : Nat) (zd : Option Addr) (zn zc : Nat) (t e : Int) (hy : a.eval y = .agg (dnK d c ad n cap zd zn zc t e)) (hg : w.heap[g]? = some (.cells dnZ 39 (0, 0)))
    (h : wpList Try.prog ops Q rest (a.put o.dst undef) (w.setRow g (dnK d c ad n cap zd zn zc t e))) : wpList Try.prog ops Q (o :: rest) a w :=
  wpList_store_agg hgd _ x y ho g hx _ dnZ hy _ hg infoDn rfl (by simp [Value.oneCell']) h
theorem st_z {ops : Array Oper} {rest : List Oper} {o : Oper} {a : Act} {w : World} {Q : Exit → Act → World → Prop} (hgd : o.guard = none) (x y : Operand) (ho : o.op = .store 39 x y) (g : Nat) (hx : a.eval x = .pointer (some ⟨g, 0, none⟩)) (hy : a.eval y = .agg dnZ) (hg : w.heap[g]? = some (.cells dnZ 39 (0, 0)))
    (h : wpList Try.prog ops Q rest (a.put o.dst undef) w) : wpList Try.prog ops Q (o :: rest) a w :=
  wpList_store_agg hgd _ x y ho g hx _ dnZ hy _ hg infoDn rfl (by simp [Value.oneCell']) (by rw [setRow_self hg]; exact h)
theorem ld_c {ops : Array Oper} {rest : List Oper} {o : Oper} {a : Act} {w : World} {Q : Exit → Act → World → Prop} (hgd : o.guard = none) (x : Operand) (ho : o.op = .load 30 x) (g : Nat) (hx : a.eval x = .pointer (some ⟨g, 0, none⟩)) (bc : ByteArray) (W L S T J R : Int) (wo lk : Bool) (ad : Option Addr) (n cap : Nat) (ep lo pa : Int) (hg : w.heap[g]? = some (.cells (crK bc W L S T J R wo lk ad n cap ep lo pa) 30 (0, 0)))
    (h : wpList Try.prog ops Q rest (a.put o.dst (crW bc W L S T J R wo lk ad n cap ep lo pa)) w) : wpList Try.prog ops Q (o :: rest) a w :=
  wpList_load_row hgd _ x ho g hx _ _ hg _ Try.underlying30 rfl infoC h
end Go.Proofs.Ytepmmlnopdjjdaa
