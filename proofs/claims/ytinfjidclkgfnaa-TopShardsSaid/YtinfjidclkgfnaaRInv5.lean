/-
  The inverse, by the specification.
-/
import Derived.Test.YtinfjidclkgfnaaQRows
import Derived.Test.YtinfjidclkgfnaaRCop5
import Derived.Test.YtinfjidclkgfnaaRRed5
import Derived.Test.YtinfjidclkgfnaaHRValid
namespace Go.Proofs.Ytinfjidclkgfnaa
open Go.RowKit
/-- the identity matrix beside the first k rows -/
def jnF (n k : Nat) (M : Nat → Nat → UInt8) (i j : Nat) : UInt8 := if j < n then M i j else if i < k then dl i (j - n) else 0
theorem jnF_zero (n : Nat) (M : Nat → Nat → UInt8) (i j : Nat) : jnF n 0 M i j = padF n M i j := by
  unfold jnF padF
  rw [if_neg (Nat.not_lt_zero i)]
theorem jnF_left (n k : Nat) (M : Nat → Nat → UInt8) (i j : Nat) (h : j < n) : jnF n k M i j = M i j := if_pos h
theorem jnF_yes (n k : Nat) (M : Nat → Nat → UInt8) (i j : Nat) (h : ¬ j < n) (h2 : i < k) : jnF n k M i j = dl i (j - n) := by unfold jnF; rw [if_neg h, if_pos h2]
theorem jnF_no (n k : Nat) (M : Nat → Nat → UInt8) (i j : Nat) (h : ¬ j < n) (h2 : ¬ i < k) : jnF n k M i j = 0 := by unfold jnF; rw [if_neg h, if_neg h2]
theorem jnF_next (n k : Nat) (M : Nat → Nat → UInt8) (i j : Nat) : jnF n (k + 1) M i j = updE (jnF n k M) k (n + k) 1 i j := by
  unfold updE
  by_cases hj : j < n
  · rw [if_neg (fun h => by have := h.2; omega), jnF_left n _ M i j hj, jnF_left n _ M i j hj]
  · by_cases e : i = k
    · subst e
      rw [jnF_yes n _ M i j hj (Nat.lt_succ_self _)]
      by_cases e2 : j = n + i
      · subst e2; rw [if_pos ⟨rfl, rfl⟩, Nat.add_sub_cancel_left, dl_same]
      · rw [if_neg (fun h => e2 h.2), jnF_no n _ M i j hj (Nat.lt_irrefl _), dl_ne (by omega)]
    · rw [if_neg (fun h => e h.1)]
      by_cases h : i < k
      · rw [jnF_yes n _ M i j hj (by omega), jnF_yes n _ M i j hj h]
      · rw [jnF_no n _ M i j hj (by omega), jnF_no n _ M i j hj h]
theorem jnF_end (n : Nat) (M : Nat → Nat → UInt8) (i j : Nat) (hi : i < n) : joinF n M i j = jnF n n M i j := by
  unfold joinF jnF
  rw [if_pos hi]
theorem Lie.sub {w : World} {b off : Nat} {l : List UInt8} (h : Lie w (some ⟨b, off, none⟩) l) (n : Nat) : Lie w (some ⟨b, off + n, none⟩) (l.drop n) := by
  rcases h.at_ with h0 | ⟨b', off', e, h1, h3⟩
  · exact ⟨.inl (by rw [h0]; simp)⟩
  · cases e
    refine ⟨.inr ⟨b, off + n, rfl, h1, fun j hj => ?_⟩⟩
    rw [List.length_drop] at hj
    rw [List.getElem_drop, Nat.add_assoc]
    exact h3 (n + j) (by omega)
attribute [local irreducible] matL rowF padF joinF jnF dl
set_option maxRecDepth 100000 in
set_option maxHeartbeats 1000000 in
theorem rinvert_any (ad : Option Addr) (n cap : Nat) (ls : List (List UInt8)) (w : World) (hl : Lr w ad ls) (hn : n = ls.length) (hm : n ≤ maxLen) :
    Calls Try.prog 44 #[.slice ad n cap] w (InvP w ls) := by
  rcases vld_cases ls with ⟨hv, hV⟩ | ⟨hv, hV⟩
  rotate_left
  · have HL := Lib.hid hl
    have HN := Lib.hid hn
    have HM := Lib.hid hm
    clear hl hn hm
    go_enter Try.func44, Try.ntmps44
    go_wp2_with fail
    refine (rvalid_b _ n cap ls w HL.out HN.out HM.out).mono ?_
    rintro e w' ⟨rfl, hb⟩
    have HB := Lib.hid hb
    rw [hv]
    clear hb
    go_wp2
    go_ret2
    exact InvP.no (fun h => hV h.1) HB.out
  obtain ⟨C, hC⟩ : ∃ C, C = cols ls := ⟨_, rfl⟩
  obtain ⟨b, off, rfl, HCa⟩ := hl.mat hV n C hn hC
  have hC1 := hV.cpos
  have hC2 := hV.cle
  rw [← hC] at hC1 hC2
  have hn64 : n ≤ 64 := by have := hV.le; omega
  have hn1 : 0 < n := by have := hV.pos; omega
  have hn0 : (0 : Int) < (n : Int) := by omega
  have HL := Lib.hid hl
  have HN := Lib.hid hn
  have HV := Lib.hid hV
  have HC := Lib.hid hC
  have HM := Lib.hid hm
  clear hV hC hl hn hm
  by_cases hnC : n = C
  rotate_left
  · have hnC2 : ¬ (n : Int) = (C : Int) := by omega
    have HNO : Hid (¬ (ValidL ls ∧ ls.length = cols ls ∧ ∃ A, Inv ls.length A (ent ls))) := Lib.hid fun h => hnC (by rw [HN.out, HC.out]; exact h.2.1)
    go_enter Try.func44, Try.ntmps44
    go_wp2_with fail
    refine (rvalid_b _ n cap ls w HL.out HN.out HM.out).mono ?_
    rintro e w1 ⟨rfl, hb⟩
    have HB := Lib.hid hb
    obtain ⟨x1, x2, x3, f0, g0, m0, -⟩ := HCa.out w1 hb 0 hn1
    rw [Nat.add_zero] at f0
    rw [hv]
    clear hb
    go_wp2
    go_ret2
    exact InvP.no HNO.out HB.out
  subst hnC
  go_enter Try.func44, Try.ntmps44
  go_wp2_with fail
  refine (rvalid_b _ n cap ls w HL.out HN.out HM.out).mono ?_
  rintro e w1 ⟨rfl, hb⟩
  have HB1 := Lib.hid hb
  obtain ⟨x1, x2, x3, f0, g0, m0, -⟩ := HCa.out w1 hb 0 hn1
  rw [Nat.add_zero] at f0
  rw [hv]
  clear hb
  go_wp2_with fail
  refine (rcopied_any _ n cap n n ls w1 (HL.out.below HB1.out) HN.out HV.out HC.out (by omega)).mono ?_
  rintro e w2 ⟨v, rfl, hx, hb⟩
  have HB2 := Lib.hid (HB1.out.trans (hb.mono HB1.out.size))
  have HS1 : Hid (w.heap.size ≤ w1.heap.size) := Lib.hid HB1.out.size
  obtain ⟨g, vc, gs, cps, rfl, hvc, hvm, hOM⟩ := hx.open_ hn1
  have HX : Hid (OM w2 w1.heap.size g gs cps n (n + n) (jnF n 0 (ent ls))) := Lib.hid (hOM.congr fun i _ j _ => jnF_zero n (ent ls) i j)
  unfold maxLen at hvm
  clear hx hb hOM f0 g0 m0
  go_wp2_with fail
  go_loopg [6] n (fun gk vk wx => ∃ k : Nat, vk = .int .i64 k ∧ k + gk = n ∧ Hid (OM wx w1.heap.size g gs cps n (n + n) (jnF n k (ent ls))) ∧ Hid (Below w.heap.size w wx))
  case atStart => exact ⟨0, rfl, by omega, HX, HB2⟩
  case round =>
    obtain ⟨k, rfl, hk, hO, HB⟩ := hrel
    clear HX HB2
    cases gk with
    | succ gk0 =>
      have hlt : (k : Int) < (n : Int) := by omega
      have f1 := (hO.out.rowCell k (by omega)).1
      have f2 := (hO.out.cell k (n + k) (by omega) (by omega)).1
      have hz := (hO.out.cell k (n + k) (by omega) (by omega)).2
      have he1 := ev_one
      have HX2 : Hid (OM (wr.setCell ⟨gs k, n + k, none⟩ (.int .u8 1)) w1.heap.size g gs cps n (n + n) (jnF n (k + 1) (ent ls))) := Lib.hid (by
        have h := hO.out.setE k (n + k) (by omega) (by omega) 1
        rw [ev_one] at h
        exact h.congr fun i _ j _ => jnF_next n k (ent ls) i j)
      have HB3 : Hid (Below w.heap.size w (wr.setCell ⟨gs k, n + k, none⟩ (.int .u8 1))) := Lib.hid (HB.out.setCell (p := ⟨gs k, n + k, none⟩) (Nat.le_trans HS1.out (hO.out.rows k (by omega)).1) _)
      have hnk : (((n + k : Nat) : Int)) = (n : Int) + (k : Int) := by omega
      clear he1
      go_wp2
      go_roundg gk0
      case rel => exact ⟨k + 1, by go_num, by omega, HX2, HB3⟩
      case measure => omega
    | zero =>
      have hlt : ¬ (k : Int) < (n : Int) := by omega
      obtain rfl : k = n := by omega
      have HO : Hid (OM wr w1.heap.size g gs cps k (k + k) (joinF k (ent ls))) := Lib.hid (hO.out.congr fun i hi j _ => jnF_end k (ent ls) i j hi)
      clear hO
      go_wp2_with fail
      refine (rreduce_any w1.heap.size g k (k + k) k vc gs cps (joinF k (ent ls)) _ HO.out (by omega) (by omega) (by omega)).mono ?_
      rintro e w3 ⟨R, M, p, gs2, cps2, rfl, hR, hO3, hB3⟩
      have HB3 := Lib.hid (HB.out.trans (hB3.mono HS1.out))
      have HR := Lib.hid hR
      have HO3 := Lib.hid hO3
      have hRle := hR.le
      clear hR hO3 hB3 HO HB
      by_cases hRk : R < k
      · have hRk2 : (R : Int) < (k : Int) := by omega
        have HNO : Hid (¬ (ValidL ls ∧ ls.length = cols ls ∧ ∃ A, Inv ls.length A (ent ls))) := Lib.hid (by
          rintro ⟨_, _, A, hA⟩
          rw [← HN.out] at hA
          exact HR.out.no_inv (by omega) hRk (hA.congr (fun _ _ _ _ => rfl) fun i _ j hj => (joinF_left k (ent ls) i j hj).symm))
        go_wp2
        go_ret2
        exact InvP.no HNO.out HB3.out
      · have hRk2 : ¬ (R : Int) < (k : Int) := by omega
        obtain rfl : R = k := by omega
        have HA : Hid (Inv R (fun i j => M i (R + j)) (ent ls)) := Lib.hid ((HR.out.inv fun i _ j _ => joinF_right R (ent ls) i j).congr (fun _ _ _ _ => rfl) fun i _ j hj => joinF_left R (ent ls) i j hj)
        have HO1 := Lib.hid (OMv.made w3 (w3.alloc (.cells #[] 33)).heap.size R (fun i j => M i (R + j)))
        have HA1 := Lib.hid ((Below.refl w3.heap.size w3).alloc (Nat.le_refl _) (.cells #[] 33))
        go_wp2_with fail
        go_loopg [7, 8] R (fun gk vm vj wx => ∃ j : Nat, vj = .int .i64 j ∧ j + gk = R ∧ Hid (OMv wx w3.heap.size wx.heap.size vm j R (fun i j => M i (R + j))) ∧ Hid (Below w3.heap.size w3 wx))
        case atStart => exact ⟨0, rfl, by omega, HO1, HA1⟩
        case round =>
          obtain ⟨j, rfl, hj, hO, hB⟩ := hrel
          cases gk with
          | zero =>
            have hlt2 : ¬ (j : Int) < (R : Int) := by omega
            obtain rfl : j = R := by omega
            obtain ⟨ad, cap, e, h2, h3, h4⟩ := hO.out.lr (by omega)
            have H2 := Lib.hid h2
            have H4 := Lib.hid h4
            subst e
            clear h2 h4
            go_wp2
            go_ret2
            refine ⟨HB3.out.trans (hB.out.mono HB3.out.size), .inl ⟨HV.out, by rw [← HN.out, ← HC.out], fun i q => M i (j + q), ad, cap, ?_⟩⟩
            rw [← HN.out]
            exact ⟨HA.out, rfl, H2.out, h3, H4.out⟩
          | succ gj0 =>
            have hlt2 : (j : Int) < (R : Int) := by omega
            have hOM := HO3.out.below hB.out
            have hAl := (Below.refl wr.heap.size wr).alloc (Nat.le_refl _) (.cells #[] 5)
            have f1 := ((hOM.below hAl).rowCell j (by omega)).1
            have g1 := (hOM.rows j (by omega)).2.1
            have m1 := (hOM.rows j (by omega)).2.2.1
            have hLs : Hid (Lie (wr.alloc (.cells #[] 5)) (some ⟨gs2 j, R, none⟩) ((List.range R).map fun q => M j (R + q))) := Lib.hid (by
              have h := ((hOM.below hAl).lie j (by omega)).sub R
              rw [Nat.zero_add, ← rowF_def, rowF_drop, rowF_def] at h
              exact h)
            have HA2 := Lib.hid hAl
            unfold maxLen at m1
            clear hOM hAl
            go_wp2_with (first
              | (at_builtin; refine wpList_append_u rfl (.tmp 51) (.tmp 57) rfl wr.heap.size _ [] rfl (Own.made wr) (some ⟨gs2 j, R, none⟩) R (cps2 j - R) ((List.range R).map fun q => M j (R + q)) (fun h => by cases h) hLs.out (by simp) (by first | rfl | simp) (by simp; omega) HA2.out.size ?_; intro v1 w4 ho1 hg1; have HW2 := Lib.hid (HA2.out.grown hg1 HA2.out.size (fun q hq => ((Own.made wr).lt q hq).1)); rw [List.nil_append] at ho1; have HO2 := Lib.hid ho1; obtain ⟨ad2, cap2, e2, -⟩ := ho1.slice; rw [List.length_map, List.length_range] at e2; subst e2; have HW4 := Lib.hid (HW2.out.alloc HW2.out.size (.cells #[.slice ad2 R cap2] 33)); have HO4 : Hid (Own (w4.alloc (.cells #[.slice ad2 R cap2] 33)) wr.heap.size (.slice ad2 R cap2) ((List.range R).map ((fun i j => M i (R + j)) j))) := Lib.hid (HO2.out.below ((Below.refl _ _).alloc (Nat.le_refl _) (.cells #[.slice ad2 R cap2] 33))); clear ho1 hg1)
              | (at_builtin; refine wpList_append_row rfl (.tmp 50) (.tmp 59) rfl w3.heap.size u7 (.slice ad2 R cap2) j R (fun i j => M i (R + j)) wr.heap.size rfl (hO.out.below HW4.out) _ rfl (cell_one_at _ _ _ _ (by simp)) HO4.out (by omega) hB.out.size (by omega) (Nat.le_trans hB.out.size HW4.out.size) ?_; intro v3 w5 ho3 hg3; have HO5 := Lib.hid ho3; have HB5 := Lib.hid ((hO.out.below HW4.out).below_lt (hB.out.trans (HW4.out.mono hB.out.size)) (Nat.le_trans hB.out.size HW4.out.size) hg3); clear ho3 hg3))
            go_roundg gj0
            case rel => exact ⟨j + 1, by go_num, by omega, HO5, HB5⟩
            case measure => omega
end Go.Proofs.Ytinfjidclkgfnaa
