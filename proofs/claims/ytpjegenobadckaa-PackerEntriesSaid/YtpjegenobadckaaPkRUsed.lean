/-
  The specification's used.
-/
import Derived.Test.YtpjegenobadckaaPkVal
namespace Go.Proofs.Ytpjegenobadckaa
open Go.RowKit
set_option linter.unusedVariables false
set_option linter.unusedSimpArgs false
set_option maxRecDepth 100000 in
set_option maxHeartbeats 1000000 in
theorem rused_any (ad : Option Addr) (n cap : Nat) (l : List Pc) (w : World) (hl : Lf pcC w ad l) (hn : n = l.length) (hs : n ≤ 1000000) (hp : ∀ p ∈ l, 0 ≤ p.n) (hu : usedP l ≤ 1125899906842624) :
    Calls Try.prog 27 #[.slice ad n cap] w fun e w' => e = .returned (.int .i64 (usedP l)) ∧ w = w' := by
  have HL := Lib.hid hl
  have HN := Lib.hid hn
  have HT := Lib.hid (usedP_take_le hp)
  have HU := Lib.hid hu
  clear hl hn hp hu
  go_enter Try.func27, Try.ntmps27
  go_wp2
  go_loopg [3, 4] n (fun gk v3 v4 wx => ∃ (k : Nat) (T : Int), v3 = .int .i64 T ∧ v4 = .int .i64 k ∧ k + gk = n ∧ w = wx ∧ Hid (T = usedP (l.take k)))
  case atStart => exact ⟨0, 0, rfl, rfl, by omega, rfl, Lib.hid (by simp [usedP])⟩
  case round =>
    obtain ⟨k, T, rfl, rfl, hk, rfl, hT⟩ := hrel
    have h1 := HT.out k
    rw [← hT.out] at h1
    have h2 := HU.out
    cases gk with
    | zero =>
      obtain rfl : k = n := by omega
      have HR := Lib.hid (show usedP l = T by rw [hT.out, List.take_of_length_le (by have := HN.out; omega)])
      go_wp2
      go_ret
      exact ⟨by rw [HR.out]; rfl, rfl⟩
    | succ gk0 =>
      have hkn : k < n := by omega
      have hkl : k < l.length := by have := HN.out; omega
      obtain ⟨b, off, rfl, hlt, q⟩ := HL.out.get celP hkl
      have q2 : World.cell? w ⟨b, off + k * 3 + 2, none⟩ = some (.int .i64 l[k].n) := q 2 _ (by decide) rfl
      clear q hlt
      have HS := Lib.hid (show usedP (l.take (k + 1)) = T + l[k].n by rw [List.take_succ_eq_append_getElem hkl, usedP_snoc, ← hT.out])
      have h3 := HT.out (k + 1)
      rw [HS.out] at h3
      generalize l[k] = x at *
      obtain ⟨xf, xo, xn⟩ := x
      dsimp only at q2 h3 HS
      have hw : IntKind.i64.wrap (T + xn) = T + xn := IntWalk.i64_in _ (by omega)
      go_wp2
      go_roundg gk0
      case rel => exact ⟨k + 1, T + xn, rfl, by go_num, by omega, rfl, Lib.hid HS.out.symm⟩
      case measure => omega
end Go.Proofs.Ytpjegenobadckaa
