/-
  The walk of the statement CodecPrefixes: what is cut off is too short.
-/
import Derived.Test.YtckbgefeamkjnaaCSmall
import Derived.Test.YtckbgefeamkjnaaCLawMath
namespace Go.Proofs.Ytckbgefeamkjnaa
open Go.RowKit

theorem items_one (w : World) (x : It) (t : TypeId) : Lies (w.alloc (.cells x.cells t)) (some ⟨w.heap.size, 0, none⟩) [x] := by
  refine ⟨.inr ⟨w.heap.size, 0, rfl, by simp, fun i hi => ?_⟩⟩
  obtain rfl : i = 0 := by simpa using hi
  refine ⟨?_, ?_, ?_, ?_, ?_⟩
  all_goals
    rw [World.cell?_alloc_mark]
    rfl
theorem small1_yes (w : World) (x : It) (t : TypeId) (g : Nat) (hg : g = w.heap.size) (h : x.s.size ≤ 4096) :
    Calls Try.prog 10 #[.slice (some ⟨g, 0, none⟩) 1 1] (w.alloc (.cells x.cells t)) fun e w' => e = .returned (.bool true) ∧ w.alloc (.cells x.cells t) = w' := by
  subst hg
  refine small_yes _ 1 [x] _ (items_one w x t) ⟨by simp, fun i hi => ?_⟩
  obtain rfl : i = 0 := by simpa using hi
  exact h
theorem small1_no (w : World) (x : It) (t : TypeId) (g : Nat) (hg : g = w.heap.size) (h : ¬ x.s.size ≤ 4096) :
    Calls Try.prog 10 #[.slice (some ⟨g, 0, none⟩) 1 1] (w.alloc (.cells x.cells t)) fun e w' => e = .returned (.bool false) ∧ w.alloc (.cells x.cells t) = w' := by
  subst hg
  exact small_no _ 1 [x] _ (items_one w x t) fun hf => h (hf.2 0 (by simp))
theorem put_nil (x : It) (w : World) (hx : x.Ok) (hss : x.s.size ≤ 4096) :
    Calls Try.prog 11 #[.slice none 0 0, .agg x.cells] w (Gives w x.enc) := by
  have := put_any none 0 [] x w (.nil _ _) (fun _ => rfl) (by simp) hx (by omega)
  rwa [List.nil_append] at this
theorem encT_len (s : ByteArray) (hs : s.size ≤ 4096) : (encT s).length ≤ 5000 := by
  have h1 := enc_len s.size (by omega)
  rw [encT, List.length_append, size_toList]
  omega
theorem encI_len (x : It) (hx : x.Ok) (hs : x.s.size ≤ 4096) : x.enc.length ≤ 5000 := by
  have h1 := enc_len x.u hx.u
  have h2 := enc_len (cod x.n) (cod_lt x.n hx.n0 hx.n1)
  have h3 := encT_len x.s hs
  unfold It.enc
  split
  · omega
  split
  · omega
  split
  · omega
  · simp [encB]

theorem itAt_new (w : World) (x : It) (t : TypeId) : ItAt (w.alloc (.cells x.cells t)) w.heap.size 0 x := by
  refine ⟨?_, ?_, ?_, ?_, ?_⟩
  all_goals
    rw [World.cell?_alloc_mark]
    rfl
theorem ItAt.below {W w : World} {b o : Nat} {x : It} {B : Nat} (h : ItAt W b o x) (hb : Below B W w) (hB : b < B) : ItAt w b o x :=
  ⟨(hb.cell (by exact hB)).trans h.c0, (hb.cell (by exact hB)).trans h.c1, (hb.cell (by exact hB)).trans h.c2, (hb.cell (by exact hB)).trans h.c3, (hb.cell (by exact hB)).trans h.c4⟩

theorem Lie.take {w : World} {ad : Option Addr} {xs : List UInt8} (h : Lie w ad xs) (c : Nat) : Lie w ad (xs.take c) := by
  rcases h.at_ with rfl | ⟨b, off, rfl, hb, hc⟩
  · exact ⟨.inl (by simp)⟩
  · refine ⟨.inr ⟨b, off, rfl, hb, fun j hj => ?_⟩⟩
    have hj' : j < xs.length := by simp at hj; omega
    rw [hc j hj']
    simp
theorem ucut_any (n c : Nat) (w : World) (ad : Option Addr) (cap : Nat) (hl : Lie w ad ((enc n).take c)) (hn : n < 18446744073709551616) (hc : c < (enc n).length) (hcap : c ≤ cap) (ha : ad = none → cap = 0) :
    Calls Try.prog 13 #[.slice ad c cap, .int .i64 0] w fun e w' => e = .returned (.tuple #[.int .u64 0, .int .i64 0, .int .i64 2]) ∧ w = w' := by
  have h1 := enc_len n hn
  have h := uint_any ad cap _ 0 w hl (by simp; omega) (by simp; omega) ha
  rw [uR_cut n c hn hc, show ((enc n).take c).length = c by simp; omega] at h
  exact h
theorem icut_any (n : Int) (c : Nat) (w : World) (ad : Option Addr) (cap : Nat) (hl : Lie w ad ((enc (cod n)).take c)) (h0 : -9223372036854775808 ≤ n) (h1 : n ≤ 9223372036854775807) (hc : c < (enc (cod n)).length) (hcap : c ≤ cap) (ha : ad = none → cap = 0) :
    Calls Try.prog 15 #[.slice ad c cap, .int .i64 0] w fun e w' => e = .returned (.tuple #[.int .i64 0, .int .i64 0, .int .i64 2]) ∧ w = w' := by
  have h2 := enc_len _ (cod_lt n h0 h1)
  have h := int_any ad cap _ 0 w hl (by simp; omega) (by simp; omega) ha
  rw [iR_cut n c h0 h1 hc, show ((enc (cod n)).take c).length = c by simp; omega] at h
  exact h
theorem tcut_any (s : ByteArray) (c : Nat) (w : World) (ad : Option Addr) (cap : Nat) (hl : Lie w ad ((encT s).take c)) (hs : s.size ≤ 4096) (hc : c < (encT s).length) (hcap : c ≤ cap) (ha : ad = none → cap = 0) :
    Calls Try.prog 17 #[.slice ad c cap, .int .i64 0, .int .i64 s.size] w fun e w' => (∃ (t : ByteArray) (p : Int), e = .returned (.tuple #[.string t, .int .i64 p, .int .i64 2])) ∧ w = w' := by
  have h2 := encT_len s hs
  have h := text_any ad cap _ 0 s.size w hl (by simp; omega) (by simp; omega) ha (by omega)
  rw [tR_cut s c (by omega) hc, show ((encT s).take c).length = c by simp; omega] at h
  exact h.mono fun e w' he => ⟨⟨_, _, he.1⟩, he.2⟩
theorem bcut_any (w : World) (ad : Option Addr) (cap : Nat) :
    Calls Try.prog 19 #[.slice ad 0 cap, .int .i64 0] w fun e w' => e = .returned (.tuple #[.bool false, .int .i64 0, .int .i64 2]) ∧ w = w' := by
  have h := bool_any ad cap [] 0 w (.nil _ _) (by simp)
  rw [bR_cut] at h
  exact h

set_option maxRecDepth 100000 in
set_option maxHeartbeats 800000 in
theorem law_prefixes (x : It) (cut : Int) (w : World) (hx : x.Ok) :
    Calls Try.prog 7 #[.agg x.cells, .int .i64 cut] w fun e w' => e = .returned (.bool true) ∧ Below w.heap.size w w' := by
  have hi0 := itAt_new w x 29
  have hb0 : Below w.heap.size w (w.alloc (.cells x.cells 29)) := (Below.refl _ _).alloc (Nat.le_refl _) _
  by_cases hs : x.s.size ≤ 4096
  · have hsm := fun W g hg => small1_yes W x 29 g hg hs
    have hput := fun W => put_nil x W hx hs
    have hel := encI_len x hx hs
    have HSM := Lib.hid hsm
    have HI0 := Lib.hid hi0
    have HB0 := Lib.hid hb0
    have HPUT := Lib.hid hput
    obtain ⟨l, hle⟩ : ∃ l, l = x.enc := ⟨_, rfl⟩
    rw [← hle] at HPUT hel
    have HE := Lib.hid hle
    clear hsm hi0 hb0 hput hle
    by_cases hcut : cut < 0 ∨ (l.length : Int) ≤ cut
    · clear hx
      obtain ⟨k, u, n, s, v⟩ := x
      unfold It.cells at HSM HB0 HPUT ⊢
      dsimp only at HSM HB0 HPUT ⊢
      go_enter Try.func7, Try.ntmps7
      go_wp2_with fail
      refine (lives_any _).mono ?_
      rintro e w1 ⟨rfl, hb⟩
      have hit := HI0.out.below hb (by simp)
      obtain ⟨c0, c1, c2, c3, c4⟩ := hit
      simp only [Nat.zero_add] at c1 c2 c3 c4
      have hz : w.heap.size < w1.heap.size := by have := hb.size; simp at this; omega
      have HB := Lib.hid (HB0.out.trans (hb.mono HB0.out.size))
      clear hb
      go_wp2_with fail
      refine (HSM.out _ _ rfl).mono ?_
      rintro e w' ⟨rfl, rfl⟩
      go_wp2_with fail
      refine (HPUT.out _).mono ?_
      rintro e w2 ⟨vv, rfl, hown, hb2⟩
      obtain ⟨nd, nc, rfl, hl2, hn2, hm2, ha2⟩ := hown.slice
      have HB2 := Lib.hid ((HB.out.alloc (Nat.le_of_lt hz) _).trans (hb2.mono (Nat.le_trans (Nat.le_of_lt hz) (by simp))))
      clear hown hl2 hn2 hm2 ha2 hb2
      rcases hcut with hcut | hcut
      · go_wp2
        go_ret
        exact ⟨rfl, HB2.out⟩
      · go_wp2
        all_goals
          go_ret
          exact ⟨rfl, HB2.out⟩
    · obtain ⟨c, rfl⟩ : ∃ c : Nat, cut = c := ⟨cut.toNat, by omega⟩
      have hcl : c < l.length := by omega
      clear hcut
      by_cases hk0 : x.k = 0
      · have hk := hk0
        obtain ⟨k, u, n, s, v⟩ := x
        dsimp only at hk hx hs HE
        unfold It.enc at HE
        dsimp only at HE
        subst hk
        rw [if_pos rfl] at HE
        obtain rfl := HE.out
        have hu := hx.u
        clear HE hk0 hx
        unfold It.cells at HSM HB0 HPUT ⊢
        dsimp only at HSM HB0 HPUT ⊢
        go_enter Try.func7, Try.ntmps7
        go_wp2_with fail
        refine (lives_any _).mono ?_
        rintro e w1 ⟨rfl, hb⟩
        have hit := HI0.out.below hb (by simp)
        have HIT := Lib.hid hit
        obtain ⟨c0, c1, c2, c3, c4⟩ := hit
        simp only [Nat.zero_add] at c1 c2 c3 c4
        have hz : w.heap.size < w1.heap.size := by have := hb.size; simp at this; omega
        have HB := Lib.hid (HB0.out.trans (hb.mono HB0.out.size))
        clear hb
        go_wp2_with fail
        refine (HSM.out _ _ rfl).mono ?_
        rintro e w' ⟨rfl, rfl⟩
        go_wp2_with fail
        refine (HPUT.out _).mono ?_
        rintro e w2 ⟨vv, rfl, hown, hb2⟩
        obtain ⟨nd, nc, rfl, hl2, hn2, hm2, ha2⟩ := hown.slice
        have HB2 := Lib.hid ((HB.out.alloc (Nat.le_of_lt hz) _).trans (hb2.mono (Nat.le_trans (Nat.le_of_lt hz) (by simp))))
        have hit2 := (HIT.out.below ((Below.refl _ _).alloc (Nat.le_refl _) (.cells #[.int .i64 0, .int .u64 u, .int .i64 n, .string s, .bool v] 29)) hz).below hb2 (by simp; omega)
        obtain ⟨f0, f1, f2, f3, f4⟩ := hit2
        simp only [Nat.zero_add] at f1 f2 f3 f4
        have hlt := Lib.hid (hl2.take c)
        have hne : ¬ nc = 0 := by omega
        rcases hl2.at_ with h0 | ⟨b, off, rfl, _, _⟩
        · rw [h0] at hcl; simp at hcl
        have hcn : (c : Int) ≤ (nc : Int) := by omega
        have HN := Lib.hid hn2
        clear hown hl2 hm2 ha2 hb2 c0 c1 c2 c3 c4 f1 f2 f4 hn2
        go_wp2_with fail
        refine (ucut_any u c _ _ nc hlt.out hu hcl (by omega) (fun h => by cases h)).mono ?_
        rintro e w' ⟨rfl, rfl⟩
        go_wp2
        go_ret
        exact ⟨rfl, HB2.out⟩
      by_cases hk1 : x.k = 1
      · have hk := hk1
        obtain ⟨k, u, n, s, v⟩ := x
        dsimp only at hk hx hs HE
        unfold It.enc at HE
        dsimp only at HE
        subst hk
        rw [if_neg (by decide), if_pos rfl] at HE
        obtain rfl := HE.out
        have hu0 := hx.n0
        have hu1 := hx.n1
        clear HE hk0 hk1 hx
        unfold It.cells at HSM HB0 HPUT ⊢
        dsimp only at HSM HB0 HPUT ⊢
        go_enter Try.func7, Try.ntmps7
        go_wp2_with fail
        refine (lives_any _).mono ?_
        rintro e w1 ⟨rfl, hb⟩
        have hit := HI0.out.below hb (by simp)
        have HIT := Lib.hid hit
        obtain ⟨c0, c1, c2, c3, c4⟩ := hit
        simp only [Nat.zero_add] at c1 c2 c3 c4
        have hz : w.heap.size < w1.heap.size := by have := hb.size; simp at this; omega
        have HB := Lib.hid (HB0.out.trans (hb.mono HB0.out.size))
        clear hb
        go_wp2_with fail
        refine (HSM.out _ _ rfl).mono ?_
        rintro e w' ⟨rfl, rfl⟩
        go_wp2_with fail
        refine (HPUT.out _).mono ?_
        rintro e w2 ⟨vv, rfl, hown, hb2⟩
        obtain ⟨nd, nc, rfl, hl2, hn2, hm2, ha2⟩ := hown.slice
        have HB2 := Lib.hid ((HB.out.alloc (Nat.le_of_lt hz) _).trans (hb2.mono (Nat.le_trans (Nat.le_of_lt hz) (by simp))))
        have hit2 := (HIT.out.below ((Below.refl _ _).alloc (Nat.le_refl _) (.cells #[.int .i64 1, .int .u64 u, .int .i64 n, .string s, .bool v] 29)) hz).below hb2 (by simp; omega)
        obtain ⟨f0, f1, f2, f3, f4⟩ := hit2
        simp only [Nat.zero_add] at f1 f2 f3 f4
        have hlt := Lib.hid (hl2.take c)
        have hne : ¬ nc = 0 := by omega
        rcases hl2.at_ with h0 | ⟨b, off, rfl, _, _⟩
        · rw [h0] at hcl; simp at hcl
        have hcn : (c : Int) ≤ (nc : Int) := by omega
        have HN := Lib.hid hn2
        clear hown hl2 hm2 ha2 hb2 c0 c1 c2 c3 c4 f1 f2 f4 hn2
        go_wp2_with fail
        refine (icut_any n c _ _ nc hlt.out hu0 hu1 hcl (by omega) (fun h => by cases h)).mono ?_
        rintro e w' ⟨rfl, rfl⟩
        go_wp2
        go_ret
        exact ⟨rfl, HB2.out⟩
      by_cases hk2 : x.k = 2
      · have hk := hk2
        obtain ⟨k, u, n, s, v⟩ := x
        dsimp only at hk hx hs HE
        unfold It.enc at HE
        dsimp only at HE
        subst hk
        rw [if_neg (by decide), if_neg (by decide), if_pos rfl] at HE
        obtain rfl := HE.out
        clear HE hk0 hk1 hk2 hx
        unfold It.cells at HSM HB0 HPUT ⊢
        dsimp only at HSM HB0 HPUT ⊢
        go_enter Try.func7, Try.ntmps7
        go_wp2_with fail
        refine (lives_any _).mono ?_
        rintro e w1 ⟨rfl, hb⟩
        have hit := HI0.out.below hb (by simp)
        have HIT := Lib.hid hit
        obtain ⟨c0, c1, c2, c3, c4⟩ := hit
        simp only [Nat.zero_add] at c1 c2 c3 c4
        have hz : w.heap.size < w1.heap.size := by have := hb.size; simp at this; omega
        have HB := Lib.hid (HB0.out.trans (hb.mono HB0.out.size))
        clear hb
        go_wp2_with fail
        refine (HSM.out _ _ rfl).mono ?_
        rintro e w' ⟨rfl, rfl⟩
        go_wp2_with fail
        refine (HPUT.out _).mono ?_
        rintro e w2 ⟨vv, rfl, hown, hb2⟩
        obtain ⟨nd, nc, rfl, hl2, hn2, hm2, ha2⟩ := hown.slice
        have HB2 := Lib.hid ((HB.out.alloc (Nat.le_of_lt hz) _).trans (hb2.mono (Nat.le_trans (Nat.le_of_lt hz) (by simp))))
        have hit2 := (HIT.out.below ((Below.refl _ _).alloc (Nat.le_refl _) (.cells #[.int .i64 2, .int .u64 u, .int .i64 n, .string s, .bool v] 29)) hz).below hb2 (by simp; omega)
        obtain ⟨f0, f1, f2, f3, f4⟩ := hit2
        simp only [Nat.zero_add] at f1 f2 f3 f4
        have hlt := Lib.hid (hl2.take c)
        have hne : ¬ nc = 0 := by omega
        rcases hl2.at_ with h0 | ⟨b, off, rfl, _, _⟩
        · rw [h0] at hcl; simp at hcl
        have hcn : (c : Int) ≤ (nc : Int) := by omega
        have HN := Lib.hid hn2
        clear hown hl2 hm2 ha2 hb2 c0 c1 c2 c3 c4 f1 f2 f4 hn2
        go_wp2_with fail
        refine (tcut_any s c _ _ nc hlt.out hs hcl (by omega) (fun h => by cases h)).mono ?_
        rintro e w' ⟨⟨tt, pp, rfl⟩, rfl⟩
        go_wp2
        go_ret
        exact ⟨rfl, HB2.out⟩
      · have hk : ¬ x.k = 0 ∧ ¬ x.k = 1 ∧ ¬ x.k = 2 := ⟨hk0, hk1, hk2⟩
        obtain ⟨k, u, n, s, v⟩ := x
        dsimp only at hk hx hs HE
        unfold It.enc at HE
        dsimp only at HE
        obtain ⟨h0, h1, h2⟩ := hk
        rw [if_neg h0, if_neg h1, if_neg h2] at HE
        obtain rfl := HE.out
        obtain rfl : c = 0 := by simp [encB] at hcl; exact hcl
        rw [show ((0 : Nat) : Int) = 0 from rfl]
        have hq0 : (k == 0) = false := by simpa using h0
        have hq1 : (k == 1) = false := by simpa using h1
        have hq2 : (k == 2) = false := by simpa using h2
        clear HE hk0 hk1 hk2 hx
        unfold It.cells at HSM HB0 HPUT ⊢
        dsimp only at HSM HB0 HPUT ⊢
        go_enter Try.func7, Try.ntmps7
        go_wp2_with fail
        refine (lives_any _).mono ?_
        rintro e w1 ⟨rfl, hb⟩
        have hit := HI0.out.below hb (by simp)
        have HIT := Lib.hid hit
        obtain ⟨c0, c1, c2, c3, c4⟩ := hit
        simp only [Nat.zero_add] at c1 c2 c3 c4
        have hz : w.heap.size < w1.heap.size := by have := hb.size; simp at this; omega
        have HB := Lib.hid (HB0.out.trans (hb.mono HB0.out.size))
        clear hb
        go_wp2_with fail
        refine (HSM.out _ _ rfl).mono ?_
        rintro e w' ⟨rfl, rfl⟩
        go_wp2_with fail
        refine (HPUT.out _).mono ?_
        rintro e w2 ⟨vv, rfl, hown, hb2⟩
        obtain ⟨nd, nc, rfl, hl2, hn2, hm2, ha2⟩ := hown.slice
        have HB2 := Lib.hid ((HB.out.alloc (Nat.le_of_lt hz) _).trans (hb2.mono (Nat.le_trans (Nat.le_of_lt hz) (by simp))))
        have hit2 := (HIT.out.below ((Below.refl _ _).alloc (Nat.le_refl _) (.cells #[.int .i64 k, .int .u64 u, .int .i64 n, .string s, .bool v] 29)) hz).below hb2 (by simp; omega)
        obtain ⟨f0, f1, f2, f3, f4⟩ := hit2
        simp only [Nat.zero_add] at f1 f2 f3 f4
        have hlt := Lib.hid (hl2.take 0)
        have hne : ¬ nc = 0 := by omega
        rcases hl2.at_ with h0 | ⟨b, off, rfl, _, _⟩
        · rw [h0] at hcl; simp at hcl
        have hcn : (0 : Int) ≤ (nc : Int) := by omega
        have HN := Lib.hid hn2
        clear hown hl2 hm2 ha2 hb2 c0 c1 c2 c3 c4 f1 f2 f4 hn2
        go_wp2_with fail
        refine (bcut_any _ _ nc).mono ?_
        rintro e w' ⟨rfl, rfl⟩
        go_wp2
        go_ret
        exact ⟨rfl, HB2.out⟩
  · have hsm := fun W g hg => small1_no W x 29 g hg hs
    have HSM := Lib.hid hsm
    have HI0 := Lib.hid hi0
    have HB0 := Lib.hid hb0
    clear hsm hi0 hb0 hx hs
    obtain ⟨k, u, n, s, v⟩ := x
    unfold It.cells at HSM HB0 ⊢
    dsimp only at HSM HB0 ⊢
    go_enter Try.func7, Try.ntmps7
    go_wp2_with fail
    refine (lives_any _).mono ?_
    rintro e w1 ⟨rfl, hb⟩
    obtain ⟨c0, c1, c2, c3, c4⟩ := HI0.out.below hb (by simp)
    simp only [Nat.zero_add] at c1 c2 c3 c4
    have hz : w.heap.size < w1.heap.size := by have := hb.size; simp at this; omega
    have HB := Lib.hid (HB0.out.trans (hb.mono HB0.out.size))
    clear hb
    go_wp2_with fail
    refine (HSM.out _ _ rfl).mono ?_
    rintro e w' ⟨rfl, rfl⟩
    go_wp2
    go_ret
    exact ⟨rfl, HB.out.alloc (Nat.le_of_lt hz) _⟩
end Go.Proofs.Ytckbgefeamkjnaa
