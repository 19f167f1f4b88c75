/-
  The contracts as the laws want them: the number of blocks is a letter.
-/
import Derived.Test.YtlbnjojafaieoaaCtAwake
import Derived.Test.YtlbnjojafaieoaaCtLight
import Derived.Test.YtlbnjojafaieoaaCtDamageP
namespace Go.Proofs.Ytlbnjojafaieoaa
open Go.RowKit
set_option linter.unusedVariables false
abbrev crX (c : Crt) (ad : Option Addr) (M cap : Nat) : Value := crW c.bc c.W c.L c.S c.T c.J c.R c.wo c.lk ad M cap c.ep c.lo c.pa
abbrev boxX (c : Crt) (ad : Option Addr) (M cap : Nat) : Obj := boxK c.bc c.W c.L c.S c.T c.J c.R c.wo c.lk ad M cap c.ep c.lo c.pa
abbrev AtX (w : World) (g : Nat) (c : Crt) (ad : Option Addr) (M cap : Nat) : Prop := CrAt w g c.bc c.W c.L c.S c.T c.J c.R c.wo c.lk ad M cap c.ep c.lo c.pa
theorem AtX.new (w : World) (c : Crt) (ad : Option Addr) (M cap : Nat) : AtX (w.alloc (boxX c ad M cap)) w.heap.size c ad M cap := CrAt.new _ _ _ _ _ _ _ _ _ _ _ _ _ _ _ _ _
section
variable {c : Crt} {M : Nat} (hM : M = c.l.length) {ad : Option Addr} {cap : Nat} (X : World) (h : CrIn X c ad cap)
include hM h
theorem light_m : Calls Try.prog 10 #[crX c ad M cap] X fun e w' => e = .returned (.bool (liC c)) ∧ Below X.heap.size X w' := by subst hM; exact light_any c ad cap X h
theorem valid_m : Calls Try.prog 14 #[crX c ad M cap] X fun e w' => e = .returned (.bool (vldC c)) ∧ Below X.heap.size X w' := by subst hM; exact valc_any c ad cap X h
theorem rvalid_m : Calls Try.prog 15 #[crX c ad M cap] X fun e w' => e = .returned (.bool (vldC c)) ∧ Below X.heap.size X w' := by subst hM; exact rvalc_any c ad cap X h
theorem free_m (hs : M ≤ 100000) : Calls Try.prog 17 #[crX c ad M cap] X fun e w' => e = .returned (.int .i64 (freeC c)) ∧ Below X.heap.size X w' := by subst hM; exact free_any c ad cap X h hs
theorem rfree_m (hs : M ≤ 100000) : Calls Try.prog 18 #[crX c ad M cap] X fun e w' => e = .returned (.int .i64 (freeC c)) ∧ Below X.heap.size X w' := by subst hM; exact rfree_any c ad cap X h hs
theorem marks_m {a n : Int} (hs : M ≤ 100000) (nb : n ≤ 9223372036854775807) : Calls Try.prog 26 #[crX c ad M cap, .int .i64 a, .int .i64 n] X fun e w' => e = .returned (.tuple #[.int .i64 (marksC (vldC c) c.l a n).1, .int .i64 (marksC (vldC c) c.l a n).2]) ∧ Below X.heap.size X w' := by subst hM; exact marks_any c ad cap a n X h hs nb
theorem rmarks_m {a n : Int} (hs : M ≤ 100000) (nb : n ≤ 9223372036854775807) : Calls Try.prog 27 #[crX c ad M cap, .int .i64 a, .int .i64 n] X fun e w' => e = .returned (.tuple #[.int .i64 (marksC (vldC c) c.l a n).1, .int .i64 (marksC (vldC c) c.l a n).2]) ∧ Below X.heap.size X w' := by subst hM; exact rmarks_any c ad cap a n X h hs nb
theorem read_m {f n : Int} (f1 : f ≤ 9223372036854775807) (n1 : n ≤ 9223372036854775807) : Calls Try.prog 24 #[crX c ad M cap, .agg #[.int .i64 f, .int .i64 n]] X fun e w' => RetK X (readC (vldC c) c.l f n) e w' := by subst hM; exact read_any c ad cap f n X h f1 n1
theorem rread_m {f n : Int} (f1 : f ≤ 9223372036854775807) (n1 : n ≤ 9223372036854775807) : Calls Try.prog 25 #[crX c ad M cap, .agg #[.int .i64 f, .int .i64 n]] X fun e w' => RetK X (readC (vldC c) c.l f n) e w' := by subst hM; exact rread_k c ad cap f n X h f1 n1
end
/-- what a call that hands back a cartridge and an error leaves -/
def Gets (X : World) (d : Crt) (M : Nat) (er : Int) (e : Ending) (w' : World) : Prop := ∃ ad cap, e = .returned (.tuple #[crX d ad M cap, .int .i64 er]) ∧ CrIn w' d ad cap ∧ Below X.heap.size X w'
def GetD (X : World) (d : Crt) (M : Nat) (e : Ending) (w' : World) : Prop := ∃ ad cap, e = .returned (crX d ad M cap) ∧ CrIn w' d ad cap ∧ Below X.heap.size X w'
theorem RetC.gets {X w' : World} {r : Crt × Int} {e : Ending} (h : RetC X r e w') {d : Crt} {er : Int} (hr : (d, er) = r) {M : Nat} (hM : M = d.l.length) : Gets X d M er e w' := by subst hr hM; exact h
theorem RetD.gets {X w' : World} {r : Crt} {e : Ending} (h : RetD X r e w') {M : Nat} (hM : M = r.l.length) : GetD X r M e w' := by subst hM; exact h
section
variable {c : Crt} {M : Nat} (hM : M = c.l.length) {ad : Option Addr} {cap : Nat} (X : World) (h : CrIn X c ad cap) {d : Crt} {er : Int} {D : Nat} (hD : D = d.l.length)
include hM h hD
theorem erase_m (hr : (d, er) = eraC c) : Calls Try.prog 28 #[crX c ad M cap] X fun e w' => Gets X d D er e w' := by subst hM; exact (erase_any c ad cap X h).mono fun e w' h => h.gets hr hD
theorem rerase_m (hr : (d, er) = eraC c) : Calls Try.prog 29 #[crX c ad M cap] X fun e w' => Gets X d D er e w' := by subst hM; exact (rerase_any c ad cap X h).mono fun e w' h => h.gets hr hD
theorem write_m {a : Int} {zd : Option Addr} {zn zc : Nat} {z : List Blk} (hz : Ki X zd z) (hzn : zn = z.length) (hzs : zn ≤ 100000) (hznil : zd = none → zc = 0) (a0 : -9223372036854775808 ≤ a) (a1 : a ≤ 9223372036854775807) (hr : (d, er) = wriC (vldC c) c a z) :
    Calls Try.prog 21 #[crX c ad M cap, .int .i64 a, .slice zd zn zc] X fun e w' => Gets X d D er e w' := by subst hM; exact (write_any c ad cap a zd zn zc z X h hz hzn hzs hznil a0 a1).mono fun e w' h => h.toC.gets hr hD
theorem rwrite_m {a : Int} {zd : Option Addr} {zn zc : Nat} {z : List Blk} (hz : Ki X zd z) (hzn : zn = z.length) (hzs : zn ≤ 100000) (a0 : -9223372036854775808 ≤ a) (a1 : a ≤ 9223372036854775807) (hr : (d, er) = wriC (vldC c) c a z) :
    Calls Try.prog 22 #[crX c ad M cap, .int .i64 a, .slice zd zn zc] X fun e w' => Gets X d D er e w' := by subst hM; exact (rwrite_any c ad cap a zd zn zc z X h hz hzn hzs a0 a1).mono fun e w' h => h.toC.gets hr hD
theorem damage_m {f n : Int} (f0 : -9223372036854775808 ≤ f) (f1 : f ≤ 9223372036854775807) (n0 : -9223372036854775808 ≤ n) (n1 : n ≤ 9223372036854775807) (hr : d = dmgC (vldC c) c f n) :
    Calls Try.prog 30 #[crX c ad M cap, .agg #[.int .i64 f, .int .i64 n]] X fun e w' => GetD X d D e w' := by subst hM hr; exact (damage_any c ad cap f n X h f0 f1 n0 n1).mono fun e w' h => h.gets hD
theorem rdamage_m {f n : Int} (f0 : -9223372036854775808 ≤ f) (f1 : f ≤ 9223372036854775807) (n0 : -9223372036854775808 ≤ n) (n1 : n ≤ 9223372036854775807) (hr : d = dmgC (vldC c) c f n) :
    Calls Try.prog 31 #[crX c ad M cap, .agg #[.int .i64 f, .int .i64 n]] X fun e w' => GetD X d D e w' := by subst hM hr; exact (rdamage_any c ad cap f n X h f0 f1 n0 n1).mono fun e w' h => h.gets hD
end
theorem new_m {bc : ByteArray} {W L S T J R : Int} {wo : Bool} (X : World) (hs : bc.size ≤ maxLen) {d : Crt} {er : Int} {D : Nat} (hD : D = d.l.length) (hr : (d, er) = newC bc W L S T J R wo) :
    Calls Try.prog 12 #[.string bc, geV W L S T J R, .bool wo] X fun e w' => Gets X d D er e w' := (new_any bc W L S T J R wo X hs).mono fun e w' h => h.gets hr hD
theorem rnew_m {bc : ByteArray} {W L S T J R : Int} {wo : Bool} (X : World) (hs : bc.size ≤ maxLen) {d : Crt} {er : Int} {D : Nat} (hD : D = d.l.length) (hr : (d, er) = newC bc W L S T J R wo) :
    Calls Try.prog 13 #[.string bc, geV W L S T J R, .bool wo] X fun e w' => Gets X d D er e w' := (rnew_any bc W L S T J R wo X hs).mono fun e w' h => h.gets hr hD
theorem same_m {d : Crt} {D : Nat} (hD : D = d.l.length) {ad bd : Option Addr} {cap cap2 : Nat} (X : World) (h1 : CrIn X d ad cap) (h2 : CrIn X d bd cap2) (hs : D ≤ 100000) :
    Calls Try.prog 16 #[crX d ad D cap, crX d bd D cap2] X fun e w' => e = .returned (.bool true) ∧ Below X.heap.size X w' := by subst hD; exact rsamec_any d ad bd cap cap2 X h1.ki h2.ki hs
theorem newC_len (bc : ByteArray) (W L S T J R : Int) (wo : Bool) : (newC bc W L S T J R wo).1.l = [] := by
  unfold newC
  split
  · split <;> rfl
  · rfl
theorem eraC_len (c : Crt) : (eraC c).1.l = [] := by
  unfold eraC
  split
  · split
    · rfl
    · split <;> rfl
  · rfl
theorem dmgC_len (v : Bool) (c : Crt) (f n : Int) : (dmgC v c f n).l.length ≤ c.l.length := by
  unfold dmgC
  split
  · rw [dmN_length]; exact Nat.le_refl _
  · exact Nat.zero_le _
theorem wriC_len (v : Bool) (c : Crt) (a : Int) (z : List Blk) : (wriC v c a z).1.l.length ≤ c.l.length + z.length := by
  by_cases h : (wriC v c a z).2 = 0
  · obtain ⟨h1, _⟩ := wri_good h
    rw [h1]
    show (if z = [] then c.l else c.l.take a.toNat ++ z).length ≤ _
    split
    · omega
    · rw [List.length_append, List.length_take]; omega
  · rw [wri_bad h]
    exact Nat.zero_le _
theorem liC_iff {c : Crt} (h : liC c = true) : c.l.length ≤ 300 ∧ (∀ b ∈ c.l, b.d.length ≤ 200) ∧ c.bc.size ≤ 100 := by
  unfold liC at h
  rw [Bool.and_eq_true, decide_eq_true_iff] at h
  exact ⟨(liB_iff.1 h.1).1, (liB_iff.1 h.1).2, h.2⟩
end Go.Proofs.Ytlbnjojafaieoaa
