/-
  The program's withBlocks: a cartridge with copies of given blocks.
-/
import Derived.Test.YtlbnjojafaieoaaCtCopyP
import Derived.Test.YtlbnjojafaieoaaCtWrite
namespace Go.Proofs.Ytlbnjojafaieoaa
open Go.RowKit
set_option linter.unusedVariables false
/-- a call hands back a cartridge whose blocks are of the call's own -/
def RetW (w : World) (bc : ByteArray) (W L S T J R : Int) (wo lk : Bool) (l : List Blk) (ep lo pa : Int) (e : Ending) (w' : World) : Prop :=
  ∃ ad n cap, e = .returned (crW bc W L S T J R wo lk ad n cap ep lo pa) ∧ n = l.length ∧ Kq w' w.heap.size w.heap.size (.slice ad n cap) l ∧ Below w.heap.size w w'
theorem with_end {w wr w3 : World} {bc : ByteArray} {W L S T J R : Int} {wo lk : Bool} {ad : Option Addr} {n cap : Nat} {ep lo pa : Int} (HW : Way w wr bc W L S T J R wo lk ad n cap ep lo pa) (h3 : w.heap.size + 2 ≤ w3.heap.size)
    {ad5 : Option Addr} {m cap5 : Nat} {l : List Blk} (hK : Kq wr w3.heap.size w3.heap.size (.slice ad5 m cap5) l) (hm : m = l.length) :
    RetW w bc W L S T J R wo lk l ep lo pa (.returned (.agg (crK bc W L S T J R wo lk ad5 m cap5 ep lo pa))) ((wr.setCell ⟨w.heap.size, 9, none⟩ (.slice ad5 m cap5)).setRow (w.heap.size + 1) (crK bc W L S T J R wo lk ad5 m cap5 ep lo pa)) := by
  have hk2 := hK.keep (w' := (wr.setCell ⟨w.heap.size, 9, none⟩ (.slice ad5 m cap5)).setRow (w.heap.size + 1) (crK bc W L S T J R wo lk ad5 m cap5 ep lo pa)) (fun k hk _ => by
    rw [setRow_other _ _ _ _ (by omega), Below.heap_setCell _ _ _ _ (by show k ≠ w.heap.size; omega)]) (by simp [World.setRow, World.setCell])
  exact ⟨ad5, m, cap5, rfl, hm, hk2.mono (by omega) (by omega), below_set (HW.b.setCell (Nat.le_refl _) _) (by omega) _⟩
set_option maxRecDepth 100000 in
set_option maxHeartbeats 4000000 in
theorem with_any (bc : ByteArray) (W L S T J R : Int) (wo lk : Bool) (ad : Option Addr) (n cap : Nat) (ep lo pa : Int) (zd : Option Addr) (zn zc : Nat) (z : List Blk) (w : World) (hz : Ki w zd z) (hzn : zn = z.length) (hs : zn ≤ 4096) (hd : ∀ b ∈ z, b.d.length ≤ 10000) (hnil : zd = none → zc = 0) :
    Calls Try.prog 44 #[crW bc W L S T J R wo lk ad n cap ep lo pa, .slice zd zn zc] w fun e w' => RetW w bc W L S T J R wo lk z ep lo pa e w' := by
  have HX := Lib.hid (fun X (h : Below w.heap.size w X) => copied_any zd zn zc z X (hz.below h) hzn hs hd hnil)
  have HZN := Lib.hid hzn
  clear hz hzn hd hnil
  have HW := Lib.hid (Way.start w bc W L S T J R wo lk ad n cap ep lo pa)
  go_enter Try.func44, Try.ntmps44
  go_wp2_with fail
  generalize World.alloc _ _ = X0 at *
  refine (HX.out X0 HW.out.b).mono ?_
  rintro e w3 ⟨v5, rfl, hk5, hb⟩
  have HS := Lib.hid HW.out.s
  replace HW := Lib.hid (HW.out.next hb)
  obtain ⟨ad5, cap5, rfl, -, -, -, -, -⟩ := hk5.read
  rw [← HZN.out] at hk5 ⊢
  have HK5 := Lib.hid hk5
  obtain ⟨_, k0, k1, k2, k3, k4, k5, k6, k7, k8, k9, k10, k11, k12⟩ := HW.out.c.at_
  have f9 := HW.out.c.frozen 9
  have HZ : Hid ((w3.setCell ⟨w.heap.size, 9, none⟩ (.slice ad5 zn cap5)).heap[w.heap.size + 1]? = some (.cells (crK ⟨#[]⟩ 0 0 0 0 0 0 false false none 0 0 0 0 0) 26 (0, 0))) := Lib.hid (by
    rw [Below.heap_setCell _ _ _ _ (by show w.heap.size + 1 ≠ w.heap.size; omega)]
    exact HW.out.z)
  clear hk5 hb
  go_wp2_with (with_reducible refine wpList_store_cr rfl (.tmp 4) (.tmp 8) rfl (w.heap.size + 1) rfl _ _ _ _ _ _ _ _ _ _ _ _ _ _ _ rfl _ _ _ _ _ _ _ _ _ _ _ _ _ _ _ HZ.out ?_)
  refine post_cellD rfl rfl (setRow_heap _ _ _ _ _ _ HZ.out) Try.underlying26 rfl infoC rfl ?_
  exact with_end HW.out HS.out HK5.out HZN.out
end Go.Proofs.Ytlbnjojafaieoaa
