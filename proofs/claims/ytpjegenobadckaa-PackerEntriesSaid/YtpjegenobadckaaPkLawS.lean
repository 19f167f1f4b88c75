/-
  The law package's light, samePieces, same, alike.
-/
import Derived.Test.YtpjegenobadckaaPkRFill
import Derived.Test.YtpjegenobadckaaPkRFit
namespace Go.Proofs.Ytpjegenobadckaa
open Go.RowKit
set_option linter.unusedVariables false
set_option linter.unusedSimpArgs false
theorem drewN_add (w : World) (a b : Nat) : (w.drewN a).drewN b = w.drewN (a + b) := by simp [World.drewN, Nat.add_assoc]
/-- light's answer -/
def LitP (n : Nat) (e : Ending) : Prop := ∃ b, e = .returned (.bool b) ∧ (b = true → n ≤ 600)
set_option maxRecDepth 100000 in
set_option maxHeartbeats 2000000 in
theorem light_any (ad : Option Addr) (n cap : Nat) (l : List Int) (c : Int) (w : World) (hl : Lf inC w ad l) (hn : n = l.length) (hs : n ≤ 9223372036854775807) :
    Calls Try.prog 9 #[.slice ad n cap, .int .i64 c] w fun e w' => LitP n e ∧ w = w' := by
  have HL := Lib.hid hl
  have HN := Lib.hid hn
  clear hl hn
  go_enter Try.func9, Try.ntmps9
  by_cases h6 : 600 < n
  · go_wp2
    go_ret
    exact ⟨⟨false, rfl, by simp⟩, rfl⟩
  have HN6 := Lib.hid (show n ≤ 600 by omega)
  go_wp2
  go_loopg [5, 6] n (fun gk v5 v6 wx => ∃ (i : Nat) (T : Int), v5 = .int .i64 T ∧ v6 = .int .i64 i ∧ i + gk = n ∧ w = wx ∧ 0 ≤ T ∧ T ≤ 4096 * i)
  case atStart => exact ⟨0, 0, rfl, rfl, by omega, rfl, by omega, by omega⟩
  case round =>
    obtain ⟨i, T, rfl, rfl, hi, rfl, hT0, hT1⟩ := hrel
    cases gk with
    | zero =>
      obtain rfl : i = n := by omega
      by_cases hc : c < 1
      · go_wp2
        go_ret
        exact ⟨⟨true, rfl, fun _ => HN6.out⟩, rfl⟩
      · have hc00 : (c == 0) = false := eq_f (by omega)
        have hq0 : 0 ≤ T / c := Int.ediv_nonneg (by omega) (by omega)
        have hq1 : T / c ≤ T := Int.ediv_le_self c (by omega)
        obtain ⟨K, hK⟩ : ∃ K, K = T / c := ⟨_, rfl⟩
        have hk2 : IntKind.i64.wrap (T.tdiv c) = K := by
          rw [Int.tdiv_eq_ediv_of_nonneg hT0, ← hK]
          exact IntWalk.i64_in _ (by omega)
        rw [← hK] at hq0 hq1
        clear hK
        by_cases hk3 : K ≤ 3000
        · go_wp2
          go_ret
          exact ⟨⟨true, rfl, fun _ => HN6.out⟩, rfl⟩
        · have hk4 : decide (K ≤ 3000) = false := decide_eq_false hk3
          go_wp2
          go_ret
          exact ⟨⟨false, rfl, fun _ => HN6.out⟩, rfl⟩
    | succ gk0 =>
      have hin : i < n := by omega
      have hil : i < l.length := by have := HN.out; omega
      obtain ⟨bq, off, rfl, hlt, q⟩ := HL.out.get celI hil
      have q0 : w.cell? ⟨bq, off + i, none⟩ = some (.int .i64 l[i]) := by simpa using q 0 _ (by decide) rfl
      clear q hlt
      generalize l[i] = x at *
      clear hil
      rcases Int.lt_trichotomy x 4096 with h1 | h1 | h1
      · rcases Int.lt_trichotomy x 0 with h2 | h2 | h2
        · go_wp2
          go_roundg gk0
          case rel => exact ⟨i + 1, T, by go_num, by go_num, by omega, rfl, by omega, by omega⟩
          case measure => omega
        · subst h2
          go_wp2
          go_roundg gk0
          case rel => exact ⟨i + 1, T, by go_num, by go_num, by omega, rfl, by omega, by omega⟩
          case measure => omega
        · have hw : IntKind.i64.wrap (T + x) = T + x := IntWalk.i64_in _ (by omega)
          go_wp2
          go_roundg gk0
          case rel => exact ⟨i + 1, T + x, rfl, by go_num, by omega, rfl, by omega, by omega⟩
          case measure => omega
      · subst h1
        have hw : IntKind.i64.wrap (T + 4096) = T + 4096 := IntWalk.i64_in _ (by omega)
        go_wp2
        go_roundg gk0
        case rel => exact ⟨i + 1, T + 4096, rfl, by go_num, by omega, rfl, by omega, by omega⟩
        case measure => omega
      · have hw : IntKind.i64.wrap (T + 4096) = T + 4096 := IntWalk.i64_in _ (by omega)
        go_wp2
        go_roundg gk0
        case rel => exact ⟨i + 1, T + 4096, rfl, by go_num, by omega, rfl, by omega, by omega⟩
        case measure => omega
set_option maxRecDepth 100000 in
set_option maxHeartbeats 2000000 in
theorem samepieces_any (ad : Option Addr) (cap : Nat) (ad2 : Option Addr) (cap2 n : Nat) (l : List Pc) (w : World) (hl : Lf pcC w ad l) (hl2 : Lf pcC w ad2 l) (hn : n = l.length) (hs : n ≤ 1000000) :
    Calls Try.prog 13 #[.slice ad n cap, .slice ad2 n cap2] w fun e w' => e = .returned (.bool true) ∧ ∃ q, w' = w.drewN q := by
  have HL := Lib.hid hl
  have HL2 := Lib.hid hl2
  have HN := Lib.hid hn
  have hnn := ne_f (show (n : Int) = (n : Int) from rfl)
  clear hl hn hl2
  go_enter Try.func13, Try.ntmps13
  go_wp2
  go_loopg [5] n (fun gk v5 wx => ∃ i q : Nat, v5 = .int .i64 i ∧ i + gk = n ∧ wx = w.drewN q)
  case atStart => exact ⟨0, 0, rfl, by omega, rfl⟩
  case round =>
    obtain ⟨i, q, rfl, hi, rfl⟩ := hrel
    cases gk with
    | zero =>
      obtain rfl : i = n := by omega
      go_wp2
      go_ret
      exact ⟨rfl, q, rfl⟩
    | succ gk0 =>
      have hin : i < n := by omega
      have hil : i < l.length := by have := HN.out; omega
      obtain ⟨b, off, rfl, -, q⟩ := HL.out.get celP hil
      have q0 : w.cell? ⟨b, off + i * 3, none⟩ = some (.int .i64 l[i].f) := q 0 _ (by decide) rfl
      have q1 : w.cell? ⟨b, off + i * 3 + 1, none⟩ = some (.int .i64 l[i].o) := q 1 _ (by decide) rfl
      have q2 : w.cell? ⟨b, off + i * 3 + 2, none⟩ = some (.int .i64 l[i].n) := q 2 _ (by decide) rfl
      obtain ⟨b', off', rfl, -, r⟩ := HL2.out.get celP hil
      have r0 : w.cell? ⟨b', off' + i * 3, none⟩ = some (.int .i64 l[i].f) := r 0 _ (by decide) rfl
      have r1 : w.cell? ⟨b', off' + i * 3 + 1, none⟩ = some (.int .i64 l[i].o) := r 1 _ (by decide) rfl
      have r2 : w.cell? ⟨b', off' + i * 3 + 2, none⟩ = some (.int .i64 l[i].n) := r 2 _ (by decide) rfl
      clear q r
      generalize l[i] = x at *
      obtain ⟨f, o, m⟩ := x
      dsimp only at q0 q1 q2 r0 r1 r2
      have e0 := ne_f (show f = f from rfl)
      have e1 := ne_f (show o = o from rfl)
      have e2 := ne_f (show m = m from rfl)
      go_wp2_with fail
      go_quiet (fail)
      go_wp2_with fail
      go_roundg gk0
      case rel => exact ⟨i + 1, _, by go_num, by omega, rfl⟩
      case measure => omega
set_option maxRecDepth 100000 in
set_option maxHeartbeats 2000000 in
theorem same_any (ad : Option Addr) (cap : Nat) (ad2 : Option Addr) (cap2 n : Nat) (l : List Nat) (w : World) (hl : Lf naC w ad l) (hl2 : Lf naC w ad2 l) (hn : n = l.length) (hs : n ≤ 1000000) :
    Calls Try.prog 33 #[.slice ad n cap, .slice ad2 n cap2] w fun e w' => e = .returned (.bool true) ∧ ∃ q, w' = w.drewN q := by
  have HL := Lib.hid hl
  have HL2 := Lib.hid hl2
  have HN := Lib.hid hn
  have hnn := ne_f (show (n : Int) = (n : Int) from rfl)
  clear hl hn hl2
  go_enter Try.func33, Try.ntmps33
  go_wp2
  go_loopg [5] n (fun gk v5 wx => ∃ i q : Nat, v5 = .int .i64 i ∧ i + gk = n ∧ wx = w.drewN q)
  case atStart => exact ⟨0, 0, rfl, by omega, rfl⟩
  case round =>
    obtain ⟨i, q, rfl, hi, rfl⟩ := hrel
    cases gk with
    | zero =>
      obtain rfl : i = n := by omega
      go_wp2
      go_ret
      exact ⟨rfl, q, rfl⟩
    | succ gk0 =>
      have hin : i < n := by omega
      have hil : i < l.length := by have := HN.out; omega
      obtain ⟨b, off, rfl, -, q⟩ := HL.out.get celN hil
      have q0 : w.cell? ⟨b, off + i, none⟩ = some (.int .i64 ((l[i] : Nat) : Int)) := by simpa using q 0 _ (by decide) rfl
      obtain ⟨b', off', rfl, -, r⟩ := HL2.out.get celN hil
      have r0 : w.cell? ⟨b', off' + i, none⟩ = some (.int .i64 ((l[i] : Nat) : Int)) := by simpa using r 0 _ (by decide) rfl
      clear q r
      generalize l[i] = x at *
      have e0 := ne_f (show (x : Int) = (x : Int) from rfl)
      go_wp2_with fail
      go_quiet (fail)
      go_wp2_with fail
      go_roundg gk0
      case rel => exact ⟨i + 1, _, by go_num, by omega, rfl⟩
      case measure => omega
set_option maxRecDepth 100000 in
set_option maxHeartbeats 2000000 in
theorem alike_any (v v2 : Value) (B B2 : Nat) (ll : List (List Nat)) (w : World) (hv : NI w B v ll) (hv2 : NI w B2 v2 ll) (hs : ll.length ≤ 1000000) (hl : ∀ l ∈ ll, l.length ≤ 64) :
    Calls Try.prog 18 #[v, v2] w fun e w' => e = .returned (.bool true) ∧ ∃ q, w' = w.drewN q := by
  have HV := Lib.hid hv
  have HV2 := Lib.hid hv2
  have HL := Lib.hid hl
  obtain ⟨ad, cap, rfl, -⟩ := hv.read
  obtain ⟨ad2, cap2, rfl, -⟩ := hv2.read
  obtain ⟨n, hn⟩ : ∃ n, n = ll.length := ⟨_, rfl⟩
  rw [← hn] at HV HV2 hs ⊢
  have HN := Lib.hid hn
  have hnn := ne_f (show (n : Int) = (n : Int) from rfl)
  clear hv hn hv2 hl
  go_enter Try.func18, Try.ntmps18
  go_wp2
  go_loopg [5] n (fun gk v5 wx => ∃ i q : Nat, v5 = .int .i64 i ∧ i + gk = n ∧ wx = w.drewN q)
  case atStart => exact ⟨0, 0, rfl, by omega, rfl⟩
  case round =>
    obtain ⟨i, q, rfl, hi, rfl⟩ := hrel
    cases gk with
    | zero =>
      obtain rfl : i = n := by omega
      go_wp2
      go_ret
      exact ⟨rfl, q, rfl⟩
    | succ gk0 =>
      have hin : i < n := by omega
      have hil : i < ll.length := by have := HN.out; omega
      have hv3 := HV.out.below (drew_below w q)
      have hv4 := HV2.out.below (drew_below w q)
      obtain ⟨X, hX⟩ : ∃ X, X = w.drewN q := ⟨_, rfl⟩
      rw [← hX] at hv3 hv4 ⊢
      have HX := Lib.hid hX
      clear hX
      obtain ⟨g, c1, a1, n1, e1, -, -, -, q0, o1⟩ := hv3.get i hil
      rw [← HN.out] at e1
      cases e1
      obtain ⟨g', c2, a2, n2, e2, -, -, -, r0, o2⟩ := hv4.get i hil
      rw [← HN.out] at e2
      cases e2
      obtain ⟨_, _, e1, l1, -⟩ := o1.read
      cases e1
      obtain ⟨_, _, e1, l2, -⟩ := o2.read
      cases e1
      have hlen := HL.out _ (List.getElem_mem hil)
      have HS := Lib.hid (fun k => same_any a1 n1 a2 n2 (ll[i]).length ll[i] (X.drewN k) (l1.below ⟨rfl, rfl, rfl, Nat.le_refl _, fun _ _ => rfl⟩) (l2.below ⟨rfl, rfl, rfl, Nat.le_refl _, fun _ _ => rfl⟩) rfl (by omega))
      clear o1 o2 l1 l2 hv3 hv4
      generalize ll[i] = x at *
      generalize x.length = L at *
      go_wp2_with fail
      go_quiet ((go_at_call 33; exact (HS.out _).mono (fun e w' h => ⟨h.1, h.2.elim fun k2 hk => ⟨_, hk.trans (drewN_add _ _ _)⟩⟩)))
      go_wp2_with fail
      go_roundg gk0
      case rel => exact ⟨i + 1, _, by go_num, by omega, by rw [HX.out, drewN_add]⟩
      case measure => omega
end Go.Proofs.Ytpjegenobadckaa
