/-
  Are two lists of shards equal? By the program.
-/
import Derived.Test.YtinfjidclkgfnaaERSame
namespace Go.Proofs.Ytinfjidclkgfnaa
open Go.RowKit
set_option maxRecDepth 100000 in
set_option maxHeartbeats 1000000 in
theorem bequal_any (ad bd : Option Addr) (n m cap mcap : Nat) (xs ys : List UInt8) (w : World) (h1 : Lie w ad xs) (h2 : Lie w bd ys) (hn : n = xs.length) (hm : m = ys.length) :
    Calls Try.prog 40 #[.slice ad n cap, .slice bd m mcap] w fun e w' => e = .returned (.bool (decide (xs = ys))) ∧ w = w' := by
  subst hn hm
  have g1 := conv_lie cap h1
  have g2 := conv_lie mcap h2
  by_cases he : xs = ys
  · subst he
    generalize (⟨xs.toArray⟩ : ByteArray) = S at g1 g2
    go_enter Try.func40, Try.ntmps40
    go_wp2
    go_ret
    exact ⟨by simp, rfl⟩
  · have hd := decide_eq_false he
    have hst := text_beq (text_inj he)
    generalize (⟨xs.toArray⟩ : ByteArray) = S at g1 hst
    generalize (⟨ys.toArray⟩ : ByteArray) = T at g2 hst
    go_enter Try.func40, Try.ntmps40
    go_wp2
    go_ret
    exact ⟨by rw [hd]; rfl, rfl⟩
set_option maxRecDepth 100000 in
set_option maxHeartbeats 1000000 in
theorem eqfunc_any (ad bd : Option Addr) (n m cap mcap : Nat) (ls ms : List (List UInt8)) (w : World) (h1 : Lr w ad ls) (h2 : Lr w bd ms) (hn : n = ls.length) (hm : m = ms.length) (hs : n ≤ 1000000) :
    Calls Try.prog 39 #[.slice ad n cap, .slice bd m mcap, .func (.func 40) #[] #[]] w fun e w' => e = .returned (.bool (eqL ls ms)) ∧ w = w' := by
  have H1 := Lib.hid h1
  have H2 := Lib.hid h2
  have HN := Lib.hid hn
  have HM := Lib.hid hm
  have HY := Lib.hid (@eqL_yes ls ms)
  have HA := Lib.hid (@eqL_at ls ms)
  by_cases hnm : n = m
  rotate_left
  · have HF := Lib.hid (eqL_len (ls := ls) (ms := ms) (by omega))
    have hnm2 : ¬ (n : Int) = (m : Int) := by omega
    clear h1 h2 hn hm
    go_enter Try.func39, Try.ntmps39
    go_wp2
    go_ret
    exact ⟨by rw [HF.out]; rfl, rfl⟩
  subst hnm
  clear h1 h2 hn hm
  go_enter Try.func39, Try.ntmps39
  go_wp2
  go_loop [17] (fun vk => ∃ k : Nat, vk = .int .i64 k ∧ k ≤ n ∧ Hid (∀ j (h : j < ls.length) (h' : j < ms.length), j < k → ls[j] = ms[j])) (fun vk => n - (intOf vk).toNat)
  case atStart => exact ⟨0, rfl, by omega, Lib.hid fun j _ _ hj => by omega⟩
  case round =>
    obtain ⟨k, rfl, hk, hall⟩ := hrel
    by_cases hlt : k < n
    · have hkl : k < ls.length := by have := HN.out; omega
      have hkm : k < ms.length := by have := HM.out; omega
      obtain ⟨b, off, rfl, -, a1, c1, f1, l1, -⟩ := H1.out.row k hkl
      obtain ⟨b2, off2, rfl, -, a2, c2, f2, l2, -⟩ := H2.out.row k hkm
      have HB := Lib.hid (bequal_any a1 a2 (ls[k]).length (ms[k]).length c1 c2 (ls[k]) (ms[k]) w l1 l2 rfl rfl)
      by_cases he : ls[k] = ms[k]
      · have HNX : Hid (∀ j (h : j < ls.length) (h' : j < ms.length), j < k + 1 → ls[j] = ms[j]) := Lib.hid fun j h h' hj => by
          rcases Nat.lt_or_ge j k with h3 | h3
          · exact hall.out j h h' h3
          · obtain rfl : j = k := by omega
            exact he
        rw [decide_eq_true he] at HB
        generalize (ls[k]).length = N at *
        generalize (ms[k]).length = M at *
        clear l1 l2 hkl hkm he
        go_wp2_with fail
        refine HB.out.mono ?_
        rintro e w' ⟨rfl, rfl⟩
        go_wp2
        go_round
        case rel => exact ⟨k + 1, by go_num, by omega, HNX⟩
        case measure => simp [intOf]; omega
      · have HF := Lib.hid (HA.out k hkl hkm he)
        rw [decide_eq_false he] at HB
        generalize (ls[k]).length = N at *
        generalize (ms[k]).length = M at *
        clear l1 l2 hkl hkm he
        go_wp2_with fail
        refine HB.out.mono ?_
        rintro e w' ⟨rfl, rfl⟩
        go_wp2
        go_ret
        exact ⟨by rw [HF.out]; rfl, rfl⟩
    · have HE := Lib.hid (HY.out (by rw [← HN.out, ← HM.out]) fun j h h' => hall.out j h h' (by have := HN.out; omega))
      go_wp2
      go_ret
      exact ⟨by rw [HE.out]; rfl, rfl⟩
end Go.Proofs.Ytinfjidclkgfnaa
