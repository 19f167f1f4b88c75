/-
  The program's scan: all tokens one behind another; for Size (nothing is done with a token), for Unpack (it is appended).
-/
import Derived.Test.YtihiccccpjakgaaZVisit
namespace Go.Proofs.Ytihiccccpjakgaa
open Go.RowKit
set_option linter.unusedVariables false
set_option linter.unusedSimpArgs false
/-- how far a scan is -/
structure ScAt (xs : List UInt8) (room : Nat) (out : List UInt8) (k : Nat) : Prop where
  kle : k ≤ xs.length
  outle : out.length ≤ room
  eqn : unq room xs [] = unq room (xs.drop k) out
theorem ScAt.start (xs : List UInt8) (room : Nat) : ScAt xs room [] 0 := ⟨Nat.zero_le _, Nat.zero_le _, rfl⟩
theorem ScAt.stop {xs out : List UInt8} {room k : Nat} (h : ScAt xs room out k) (hk : ¬ k < xs.length) : unq room xs [] = (out, 0) := by
  rw [h.eqn, List.drop_eq_nil_of_le (by omega), unq_nil]
theorem drop_ne {xs : List UInt8} {k : Nat} (hk : k < xs.length) : xs.drop k ≠ [] := fun h => by
  have := congrArg List.length h
  rw [List.length_drop] at this
  simp at this
  omega
theorem ScAt.err {xs out : List UInt8} {room k : Nat} (h : ScAt xs room out k) (hk : k < xs.length) {x : Nx} (hx : nx (xs.drop k) out.length (room - out.length) = x) (he : x.e ≠ 0) : unq room xs [] = ([], x.e) := by
  rw [h.eqn, unq_nx room _ out (drop_ne hk), hx, if_pos he]
theorem ScAt.next {xs out : List UInt8} {room k : Nat} (h : ScAt xs room out k) (hk : k < xs.length) {x : Nx} (hx : nx (xs.drop k) out.length (room - out.length) = x) (he : x.e = 0) :
    ScAt xs room (x.ex (xs.drop k) out) (k + x.len) ∧ (x.ex (xs.drop k) out).length = out.length + x.n ∧ 0 < x.len ∧ x.to k = ((k + x.len : Nat) : Int) ∧ x.n ≤ room - out.length ∧ x.d ≤ out.length ∧ x.h ≤ (xs.drop k).length := by
  have h1 := Nx.ex_length (out := out) (tl := xs.drop k) (before := out.length) (room := room - out.length) (by rw [hx]; exact he)
  have h2 := nx_ok (tl := xs.drop k) (before := out.length) (room := room - out.length) (by rw [hx]; exact he)
  rw [hx] at h1 h2
  obtain ⟨h3, h4, h5, h6, h7, h8, _⟩ := h2
  rw [List.length_drop] at h5
  have := h.outle
  refine ⟨⟨by omega, by omega, ?_⟩, h1, h4, ?_, h6, h7, h8⟩
  · rw [h.eqn, unq_nx room _ out (drop_ne hk), hx, if_neg (by omega), List.drop_drop]
  · unfold Nx.to; rw [if_pos he]
/-- what a scan hands back -/
def ScV (r : List UInt8 × Nat) (e : Ending) : Prop := e = .returned (.tuple #[.int .i64 (r.1.length : Nat), .int .i64 (r.2 : Nat)])
/-- what appendTo does with a token that was read -/
theorem appx_any {ad : Option Addr} {xs out : List UInt8} {B k : Nat} {x : Nx} {v : Value} {lad : Option Addr} {ln lc : Nat} {w : World} (hl : Lie w ad xs) (ho : Own w B v out) (hB : B ≤ w.heap.size) (hs : out.length + x.n ≤ 10000000) (hd : x.d ≤ out.length) (hn : x.d = 0 → x.h + x.n ≤ (xs.drop k).length)
    (hc : lad = none → lc = 0) (hv : x.d = 0 → ln = x.n ∧ ∀ W, Lie W ad xs → Lie W lad ((xs.drop (k + x.h)).take x.n)) :
    Calls Try.prog 29 #[tokV x.n x.d lad ln lc, v] w (GivesK B w (x.ex (xs.drop k) out)) := by
  unfold Nx.ex
  by_cases h0 : x.d = 0
  · rw [if_pos h0]
    obtain ⟨h1, h2⟩ := hv h0
    have hl2 : ((xs.drop (k + x.h)).take x.n).length = x.n := by
      have := hn h0
      rw [List.length_drop] at this
      rw [List.length_take, List.length_drop]
      omega
    have := appl_any B v out ((xs.drop (k + x.h)).take x.n) x.n lad lc w ho (h2 w hl) hc hB (by rw [hl2]; exact hs)
    rw [hl2] at this
    rw [h0, h1, List.drop_drop]
    exact this
  · rw [if_neg h0]
    exact appc_any B v out x.n x.d lad ln lc w ho hB hs (by omega) hd
def RelS (xs : List UInt8) (room C : Nat) (w : World) (u8 u9 : Value) (wr : World) : Prop := ∃ out k, u8 = .int .i64 (out.length : Nat) ∧ u9 = .int .i64 (k : Nat) ∧ ScAt xs room out k ∧ Below C w wr
def RelU (xs : List UInt8) (room B C bx : Nat) (w : World) (u8 u9 : Value) (wr : World) : Prop := ∃ out k, u8 = .int .i64 (out.length : Nat) ∧ u9 = .int .i64 (k : Nat) ∧ ScAt xs room out k ∧ KeepV C bx w wr ∧ BoxU wr B bx out
set_option maxRecDepth 100000 in
set_option maxHeartbeats 1000000 in
theorem scan0_nat (ad : Option Addr) (cap : Nat) (xs : List UInt8) (most : Nat) (w : World) (hl : Lie w ad xs) (hn : xs.length ≤ cap) (hs : xs.length ≤ 1000000) (ha : ad = none → cap = 0) (hm : most ≤ 1000000) :
    Calls Try.prog 27 #[.slice ad xs.length cap, .int .i64 most, .func (.func 31) #[] #[]] w fun e w' => ScV (unq most xs []) e ∧ Below w.heap.size w w' := by
  have HNX := Lib.hid (fun (W : World) (k before R : Nat) (h : Lie W ad xs) (hk : k ≤ xs.length) (hb : before ≤ 1000000) (hr : R ≤ 1000000) => lznext_any ad cap xs k before R W h hn hs ha hk hb hr)
  have HL := Lib.hid hl
  have HMX := Lib.hid hs
  clear hl ha hs
  go_enter Try.func27, Try.ntmps27
  go_wp2
  go_loopw [8, 9] (fun u8 u9 wr => RelS xs most w.heap.size w u8 u9 wr) (fun _ u9 _ => xs.length - (intOf u9).toNat)
  case atStart => exact ⟨[], 0, rfl, rfl, .start _ _, .refl _ _⟩
  case round =>
    obtain ⟨out, k, rfl, rfl, hat, hb⟩ := hrel
    have hko := hat.kle
    have hoo := hat.outle
    have HAT := Lib.hid hat
    have HLr := Lib.hid (HL.out.below hb rfl)
    have HBr := Lib.hid hb
    clear hat hb
    by_cases hk : k < xs.length
    · obtain ⟨R, hR⟩ : ∃ R : Nat, (most : Int) - (out.length : Int) = R := ⟨most - out.length, by omega⟩
      obtain ⟨x, hx⟩ : ∃ x, nx (xs.drop k) out.length R = x := ⟨_, rfl⟩
      have HX := Lib.hid hx
      have hRr : most - out.length = R := by omega
      have HR := Lib.hid hRr
      have hR6 : R ≤ 1000000 := by omega
      obtain ⟨L, hL⟩ : ∃ L : Nat, out.length = L := ⟨_, rfl⟩
      have HLL := Lib.hid hL
      rw [hL] at hR hoo
      rw [hL]
      have hL6 : L ≤ 1000000 := by omega
      clear hx hRr hL
      by_cases he : x.e = 0
      · go_wp2_with fail
        refine (HNX.out _ k L R HLr.out hko hL6 hR6).mono ?_
        rintro e w2 ⟨hv, hb2⟩
        rw [← HLL.out, HX.out] at hv
        obtain ⟨lad, ln, lc, rfl, hv1, hv2⟩ := hv
        obtain ⟨n1, n2, n3, n4, n5, n6, n7⟩ := HAT.out.next (x := x) hk (by rw [HR.out]; exact HX.out) he
        rw [n4, he]
        have hn6 : x.n ≤ 1000000 := by omega
        have HV := Lib.hid (hv2 he)
        have HV1 := Lib.hid hv1
        have HB2 := Lib.hid hb2
        have HN1 := Lib.hid n1
        have HN2 := Lib.hid n2
        have HN6 := Lib.hid n6
        have HN5 := Lib.hid n5
        have HN7 := Lib.hid n7
        have HN3 := Lib.hid n3
        clear hv1 hv2 n1 n2 n3 n4 n5 n6 n7 hb2
        go_wp2_with fail
        refine (visit0_any _ #[.int .i64 x.n, .int .i64 x.d, .slice lad ln lc] rfl rfl _).mono ?_
        rintro e w3 ⟨rfl, hb3⟩
        have hb0 : Below w2.heap.size w2 w3 := ((Below.refl _ _).alloc (Nat.le_refl _) _).trans (hb3.mono (Nat.le_of_lt (by simp)))
        have hg3 : w3.heap[w2.heap.size]? = some (.cells #[.int .i64 x.n, .int .i64 x.d, .slice lad ln lc] 55 (0, 0)) := (hb3.block _ (by simp)).trans (heap_new _ _)
        have hc3 : w3.cell? ⟨w2.heap.size, 0, none⟩ = some (.int .i64 x.n) := by rw [cell_of_row _ _ 0 _ _ _ hg3]; rfl
        have HB3 := Lib.hid (HBr.out.trans ((HB2.out.mono HBr.out.size).trans (hb0.mono (Nat.le_trans HBr.out.size HB2.out.size))))
        clear hb0 hg3 hb3
        go_wp2
        refine ⟨⟨x.ex (xs.drop k) out, k + x.len, ?_, rfl, HN1.out, HB3.out⟩, ?_⟩
        · rw [HN2.out, HLL.out, Int.natCast_add]
        · have := HN3.out
          have := HN1.out.kle
          show xs.length - ((k + x.len : Nat) : Int).toNat < xs.length - ((k : Nat) : Int).toNat
          rw [Int.toNat_natCast, Int.toNat_natCast]
          omega
      · obtain ⟨E, hE⟩ : ∃ E : Nat, x.e = E := ⟨_, rfl⟩
        have HE := Lib.hid hE
        have he2 : ((E : Int) == 0) = false := by rw [beq_eq_false_iff_ne]; omega
        clear hE he
        go_wp2_with fail
        refine (HNX.out _ k L R HLr.out hko hL6 hR6).mono ?_
        rintro e w2 ⟨hv, hb2⟩
        rw [← HLL.out, HX.out] at hv
        obtain ⟨lad, ln, lc, rfl, hv1, hv2⟩ := hv
        obtain ⟨T, hT⟩ : ∃ T, x.to k = T := ⟨_, rfl⟩
        rw [HE.out, hT]
        have HB2 := Lib.hid hb2
        clear hv1 hv2 hT hb2
        go_wp2
        go_ret2
        refine ⟨?_, (HBr.out.trans (HB2.out.mono HBr.out.size)).alloc (Nat.le_trans HBr.out.size HB2.out.size) _⟩
        rw [HAT.out.err (x := x) hk (by rw [HR.out]; exact HX.out) (by rw [HE.out]; intro h0; rw [h0] at he2; simp at he2), HE.out]
        rfl
    · have hend := HAT.out.stop hk
      have HEND := Lib.hid hend
      clear hend
      go_wp2
      go_ret2
      exact ⟨by rw [HEND.out]; rfl, HBr.out⟩
set_option maxRecDepth 100000 in
set_option maxHeartbeats 1000000 in
theorem scan0_neg (ad : Option Addr) (cap : Nat) (xs : List UInt8) (most : Int) (w : World) (hl : Lie w ad xs) (hn : xs.length ≤ cap) (hs : xs.length ≤ 1000000) (ha : ad = none → cap = 0) (hm : most < 0) :
    Calls Try.prog 27 #[.slice ad xs.length cap, .int .i64 most, .func (.func 31) #[] #[]] w fun e w' => ScV (unq 0 xs []) e ∧ Below w.heap.size w w' := by
  have HNX := Lib.hid (fun (W : World) (k before R : Nat) (h : Lie W ad xs) (hk : k ≤ xs.length) (hb : before ≤ 1000000) (hr : R ≤ 1000000) => lznext_any ad cap xs k before R W h hn hs ha hk hb hr)
  have HL := Lib.hid hl
  have HMX := Lib.hid hs
  clear hl ha hs
  go_enter Try.func27, Try.ntmps27
  go_wp2
  go_loopw [8, 9] (fun u8 u9 wr => RelS xs 0 w.heap.size w u8 u9 wr) (fun _ u9 _ => xs.length - (intOf u9).toNat)
  case atStart => exact ⟨[], 0, rfl, rfl, .start _ _, .refl _ _⟩
  case round =>
    obtain ⟨out, k, rfl, rfl, hat, hb⟩ := hrel
    have hko := hat.kle
    have hoo := hat.outle
    have HAT := Lib.hid hat
    have HLr := Lib.hid (HL.out.below hb rfl)
    have HBr := Lib.hid hb
    clear hat hb
    by_cases hk : k < xs.length
    · obtain ⟨R, hR⟩ : ∃ R : Nat, (0 : Int) - (out.length : Int) = R := ⟨0 - out.length, by omega⟩
      obtain ⟨x, hx⟩ : ∃ x, nx (xs.drop k) out.length R = x := ⟨_, rfl⟩
      have HX := Lib.hid hx
      have hRr : 0 - out.length = R := by omega
      have HR := Lib.hid hRr
      have hR6 : R ≤ 1000000 := by omega
      obtain ⟨L, hL⟩ : ∃ L : Nat, out.length = L := ⟨_, rfl⟩
      have HLL := Lib.hid hL
      rw [hL] at hR hoo
      rw [hL]
      have hL6 : L ≤ 1000000 := by omega
      clear hx hRr hL
      by_cases he : x.e = 0
      · go_wp2_with fail
        refine (HNX.out _ k L R HLr.out hko hL6 hR6).mono ?_
        rintro e w2 ⟨hv, hb2⟩
        rw [← HLL.out, HX.out] at hv
        obtain ⟨lad, ln, lc, rfl, hv1, hv2⟩ := hv
        obtain ⟨n1, n2, n3, n4, n5, n6, n7⟩ := HAT.out.next (x := x) hk (by rw [HR.out]; exact HX.out) he
        rw [n4, he]
        have hn6 : x.n ≤ 1000000 := by omega
        have HV := Lib.hid (hv2 he)
        have HV1 := Lib.hid hv1
        have HB2 := Lib.hid hb2
        have HN1 := Lib.hid n1
        have HN2 := Lib.hid n2
        have HN6 := Lib.hid n6
        have HN5 := Lib.hid n5
        have HN7 := Lib.hid n7
        have HN3 := Lib.hid n3
        clear hv1 hv2 n1 n2 n3 n4 n5 n6 n7 hb2
        go_wp2_with fail
        refine (visit0_any _ #[.int .i64 x.n, .int .i64 x.d, .slice lad ln lc] rfl rfl _).mono ?_
        rintro e w3 ⟨rfl, hb3⟩
        have hb0 : Below w2.heap.size w2 w3 := ((Below.refl _ _).alloc (Nat.le_refl _) _).trans (hb3.mono (Nat.le_of_lt (by simp)))
        have hg3 : w3.heap[w2.heap.size]? = some (.cells #[.int .i64 x.n, .int .i64 x.d, .slice lad ln lc] 55 (0, 0)) := (hb3.block _ (by simp)).trans (heap_new _ _)
        have hc3 : w3.cell? ⟨w2.heap.size, 0, none⟩ = some (.int .i64 x.n) := by rw [cell_of_row _ _ 0 _ _ _ hg3]; rfl
        have HB3 := Lib.hid (HBr.out.trans ((HB2.out.mono HBr.out.size).trans (hb0.mono (Nat.le_trans HBr.out.size HB2.out.size))))
        clear hb0 hg3 hb3
        go_wp2
        refine ⟨⟨x.ex (xs.drop k) out, k + x.len, ?_, rfl, HN1.out, HB3.out⟩, ?_⟩
        · rw [HN2.out, HLL.out, Int.natCast_add]
        · have := HN3.out
          have := HN1.out.kle
          show xs.length - ((k + x.len : Nat) : Int).toNat < xs.length - ((k : Nat) : Int).toNat
          rw [Int.toNat_natCast, Int.toNat_natCast]
          omega
      · obtain ⟨E, hE⟩ : ∃ E : Nat, x.e = E := ⟨_, rfl⟩
        have HE := Lib.hid hE
        have he2 : ((E : Int) == 0) = false := by rw [beq_eq_false_iff_ne]; omega
        clear hE he
        go_wp2_with fail
        refine (HNX.out _ k L R HLr.out hko hL6 hR6).mono ?_
        rintro e w2 ⟨hv, hb2⟩
        rw [← HLL.out, HX.out] at hv
        obtain ⟨lad, ln, lc, rfl, hv1, hv2⟩ := hv
        obtain ⟨T, hT⟩ : ∃ T, x.to k = T := ⟨_, rfl⟩
        rw [HE.out, hT]
        have HB2 := Lib.hid hb2
        clear hv1 hv2 hT hb2
        go_wp2
        go_ret2
        refine ⟨?_, (HBr.out.trans (HB2.out.mono HBr.out.size)).alloc (Nat.le_trans HBr.out.size HB2.out.size) _⟩
        rw [HAT.out.err (x := x) hk (by rw [HR.out]; exact HX.out) (by rw [HE.out]; intro h0; rw [h0] at he2; simp at he2), HE.out]
        rfl
    · have hend := HAT.out.stop hk
      have HEND := Lib.hid hend
      clear hend
      go_wp2
      go_ret2
      exact ⟨by rw [HEND.out]; rfl, HBr.out⟩
set_option maxRecDepth 100000 in
set_option maxHeartbeats 1000000 in
theorem scan1_nat (ad : Option Addr) (cap : Nat) (xs : List UInt8) (most : Nat) (w0 w : World) (B bx : Nat) (hl : Lie w0 ad xs) (h0 : Below w0.heap.size w0 w) (hbox : BoxU w B bx []) (hCB : w0.heap.size ≤ B) (hCb : w0.heap.size ≤ bx) (hBw : B ≤ w.heap.size) (hU : (unq most xs []).2 = 0) (hn : xs.length ≤ cap) (hs : xs.length ≤ 1000000) (ha : ad = none → cap = 0) (hm : most ≤ 1000000) :
    Calls Try.prog 27 #[.slice ad xs.length cap, .int .i64 most, .func (.func 28) #[] #[.pointer (some ⟨bx, 0, none⟩)]] w fun e w' => ScV (unq most xs []) e ∧ BoxU w' B bx (unq most xs []).1 ∧ Below w0.heap.size w0 w' := by
  have HNX := Lib.hid (fun (W : World) (k before R : Nat) (h : Lie W ad xs) (hk : k ≤ xs.length) (hb : before ≤ 1000000) (hr : R ≤ 1000000) => lznext_any ad cap xs k before R W h hn hs ha hk hb hr)
  have HL := Lib.hid hl
  have HMX := Lib.hid hs
  have HB0 := Lib.hid h0
  have HBX := Lib.hid hbox
  have HCB := Lib.hid hCB
  have HCb := Lib.hid hCb
  have HBw := Lib.hid hBw
  have HU := Lib.hid hU
  clear h0 hbox hCB hCb hBw hU
  clear hl ha hs
  go_enter Try.func27, Try.ntmps27
  go_wp2
  go_loopw [8, 9] (fun u8 u9 wr => RelU xs most B w0.heap.size bx w u8 u9 wr) (fun _ u9 _ => xs.length - (intOf u9).toNat)
  case atStart => exact ⟨[], 0, rfl, rfl, .start _ _, .refl _ _ _, HBX.out⟩
  case round =>
    obtain ⟨out, k, rfl, rfl, hat, hkv, hbo⟩ := hrel
    have hko := hat.kle
    have hoo := hat.outle
    have HAT := Lib.hid hat
    have HLr := Lib.hid (HL.out.below (HB0.out.trans hkv.below) rfl)
    have HKV := Lib.hid hkv
    have HBO := Lib.hid hbo
    clear hat hkv hbo
    by_cases hk : k < xs.length
    · obtain ⟨R, hR⟩ : ∃ R : Nat, (most : Int) - (out.length : Int) = R := ⟨most - out.length, by omega⟩
      obtain ⟨x, hx⟩ : ∃ x, nx (xs.drop k) out.length R = x := ⟨_, rfl⟩
      have HX := Lib.hid hx
      have hRr : most - out.length = R := by omega
      have HR := Lib.hid hRr
      have hR6 : R ≤ 1000000 := by omega
      obtain ⟨L, hL⟩ : ∃ L : Nat, out.length = L := ⟨_, rfl⟩
      have HLL := Lib.hid hL
      rw [hL] at hR hoo
      rw [hL]
      have hL6 : L ≤ 1000000 := by omega
      clear hx hRr hL
      by_cases he : x.e = 0
      · go_wp2_with fail
        refine (HNX.out _ k L R HLr.out hko hL6 hR6).mono ?_
        rintro e w2 ⟨hv, hb2⟩
        rw [← HLL.out, HX.out] at hv
        obtain ⟨lad, ln, lc, rfl, hv1, hv2⟩ := hv
        obtain ⟨n1, n2, n3, n4, n5, n6, n7⟩ := HAT.out.next (x := x) hk (by rw [HR.out]; exact HX.out) he
        rw [n4, he]
        have hn6 : x.n ≤ 1000000 := by omega
        have HV := Lib.hid (hv2 he)
        have HV1 := Lib.hid hv1
        have HB2 := Lib.hid hb2
        have HN1 := Lib.hid n1
        have HN2 := Lib.hid n2
        have HN6 := Lib.hid n6
        have HN5 := Lib.hid n5
        have HN7 := Lib.hid n7
        have HN3 := Lib.hid n3
        clear hv1 hv2 n1 n2 n3 n4 n5 n6 n7 hb2
        go_wp2_with fail
        have hbw2 : Below wr.heap.size wr (w2.alloc (.cells #[.int .i64 x.n, .int .i64 x.d, .slice lad ln lc] 55)) := HB2.out.alloc HB2.out.size _
        refine (visit1_any B w0.heap.size bx out (x.ex (xs.drop k) out) x.n x.d lad ln lc _ (HBO.out.below hbw2) HCB.out HCb.out (Nat.le_trans HBw.out (Nat.le_trans HKV.out.below.size hbw2.size)) ?_).mono ?_
        · intro W v hbW hoW
          refine appx_any (k := k) (HLr.out.below (hbw2.trans (hbW.mono hbw2.size)) rfl) hoW (Nat.le_trans HBw.out (Nat.le_trans HKV.out.below.size (Nat.le_trans hbw2.size hbW.size))) ?_ HN6.out ?_ HV1.out HV.out
          · have := HN5.out; have := HLL.out; omega
          · intro hd0
            have := HN1.out.kle
            rw [List.length_drop]
            unfold Nx.len at this
            rw [if_pos hd0] at this
            omega
        rintro e w3 ⟨rfl, hbo3, hkv3⟩
        have hne : w2.heap.size ≠ bx := by
          obtain ⟨v, h1, _⟩ := HBO.out
          have := lt_of_block h1
          have := HB2.out.size
          omega
        have hg3 : w3.heap[w2.heap.size]? = some (.cells #[.int .i64 x.n, .int .i64 x.d, .slice lad ln lc] 55 (0, 0)) := hkv3.cell hne (heap_new _ _) (by decide)
        have hc3 : w3.cell? ⟨w2.heap.size, 0, none⟩ = some (.int .i64 x.n) := by rw [cell_of_row _ _ 0 _ _ _ hg3]; rfl
        have HB3 := Lib.hid (HKV.out.trans ((KeepV.new hbw2 (Nat.le_trans HB0.out.size HKV.out.below.size)).trans hkv3))
        have HBO3 := Lib.hid hbo3
        clear hbw2 hg3 hkv3 hbo3 hne
        go_wp2
        refine ⟨⟨x.ex (xs.drop k) out, k + x.len, ?_, rfl, HN1.out, HB3.out, HBO3.out⟩, ?_⟩
        · rw [HN2.out, HLL.out, Int.natCast_add]
        · have := HN3.out
          have := HN1.out.kle
          show xs.length - ((k + x.len : Nat) : Int).toNat < xs.length - ((k : Nat) : Int).toNat
          rw [Int.toNat_natCast, Int.toNat_natCast]
          omega
      · obtain ⟨E, hE⟩ : ∃ E : Nat, x.e = E := ⟨_, rfl⟩
        have HE := Lib.hid hE
        have he2 : ((E : Int) == 0) = false := by rw [beq_eq_false_iff_ne]; omega
        clear hE he
        go_wp2_with fail
        refine (HNX.out _ k L R HLr.out hko hL6 hR6).mono ?_
        rintro e w2 ⟨hv, hb2⟩
        rw [← HLL.out, HX.out] at hv
        obtain ⟨lad, ln, lc, rfl, hv1, hv2⟩ := hv
        obtain ⟨T, hT⟩ : ∃ T, x.to k = T := ⟨_, rfl⟩
        rw [HE.out, hT]
        have HB2 := Lib.hid hb2
        clear hv1 hv2 hT hb2
        go_wp2
        go_ret2
        exfalso
        have := HU.out
        rw [HAT.out.err (x := x) hk (by rw [HR.out]; exact HX.out) (by rw [HE.out]; intro h0; rw [h0] at he2; simp at he2), HE.out] at this
        dsimp only at this
        rw [this] at he2
        simp at he2
    · have hend := HAT.out.stop hk
      have HEND := Lib.hid hend
      clear hend
      go_wp2
      go_ret2
      exact ⟨by rw [HEND.out]; rfl, by rw [HEND.out]; exact HBO.out, HB0.out.trans HKV.out.below⟩
set_option maxRecDepth 100000 in
set_option maxHeartbeats 1000000 in
theorem scan1_neg (ad : Option Addr) (cap : Nat) (xs : List UInt8) (most : Int) (w0 w : World) (B bx : Nat) (hl : Lie w0 ad xs) (h0 : Below w0.heap.size w0 w) (hbox : BoxU w B bx []) (hCB : w0.heap.size ≤ B) (hCb : w0.heap.size ≤ bx) (hBw : B ≤ w.heap.size) (hU : (unq 0 xs []).2 = 0) (hn : xs.length ≤ cap) (hs : xs.length ≤ 1000000) (ha : ad = none → cap = 0) (hm : most < 0) :
    Calls Try.prog 27 #[.slice ad xs.length cap, .int .i64 most, .func (.func 28) #[] #[.pointer (some ⟨bx, 0, none⟩)]] w fun e w' => ScV (unq 0 xs []) e ∧ BoxU w' B bx (unq 0 xs []).1 ∧ Below w0.heap.size w0 w' := by
  have HNX := Lib.hid (fun (W : World) (k before R : Nat) (h : Lie W ad xs) (hk : k ≤ xs.length) (hb : before ≤ 1000000) (hr : R ≤ 1000000) => lznext_any ad cap xs k before R W h hn hs ha hk hb hr)
  have HL := Lib.hid hl
  have HMX := Lib.hid hs
  have HB0 := Lib.hid h0
  have HBX := Lib.hid hbox
  have HCB := Lib.hid hCB
  have HCb := Lib.hid hCb
  have HBw := Lib.hid hBw
  have HU := Lib.hid hU
  clear h0 hbox hCB hCb hBw hU
  clear hl ha hs
  go_enter Try.func27, Try.ntmps27
  go_wp2
  go_loopw [8, 9] (fun u8 u9 wr => RelU xs 0 B w0.heap.size bx w u8 u9 wr) (fun _ u9 _ => xs.length - (intOf u9).toNat)
  case atStart => exact ⟨[], 0, rfl, rfl, .start _ _, .refl _ _ _, HBX.out⟩
  case round =>
    obtain ⟨out, k, rfl, rfl, hat, hkv, hbo⟩ := hrel
    have hko := hat.kle
    have hoo := hat.outle
    have HAT := Lib.hid hat
    have HLr := Lib.hid (HL.out.below (HB0.out.trans hkv.below) rfl)
    have HKV := Lib.hid hkv
    have HBO := Lib.hid hbo
    clear hat hkv hbo
    by_cases hk : k < xs.length
    · obtain ⟨R, hR⟩ : ∃ R : Nat, (0 : Int) - (out.length : Int) = R := ⟨0 - out.length, by omega⟩
      obtain ⟨x, hx⟩ : ∃ x, nx (xs.drop k) out.length R = x := ⟨_, rfl⟩
      have HX := Lib.hid hx
      have hRr : 0 - out.length = R := by omega
      have HR := Lib.hid hRr
      have hR6 : R ≤ 1000000 := by omega
      obtain ⟨L, hL⟩ : ∃ L : Nat, out.length = L := ⟨_, rfl⟩
      have HLL := Lib.hid hL
      rw [hL] at hR hoo
      rw [hL]
      have hL6 : L ≤ 1000000 := by omega
      clear hx hRr hL
      by_cases he : x.e = 0
      · go_wp2_with fail
        refine (HNX.out _ k L R HLr.out hko hL6 hR6).mono ?_
        rintro e w2 ⟨hv, hb2⟩
        rw [← HLL.out, HX.out] at hv
        obtain ⟨lad, ln, lc, rfl, hv1, hv2⟩ := hv
        obtain ⟨n1, n2, n3, n4, n5, n6, n7⟩ := HAT.out.next (x := x) hk (by rw [HR.out]; exact HX.out) he
        rw [n4, he]
        have hn6 : x.n ≤ 1000000 := by omega
        have HV := Lib.hid (hv2 he)
        have HV1 := Lib.hid hv1
        have HB2 := Lib.hid hb2
        have HN1 := Lib.hid n1
        have HN2 := Lib.hid n2
        have HN6 := Lib.hid n6
        have HN5 := Lib.hid n5
        have HN7 := Lib.hid n7
        have HN3 := Lib.hid n3
        clear hv1 hv2 n1 n2 n3 n4 n5 n6 n7 hb2
        go_wp2_with fail
        have hbw2 : Below wr.heap.size wr (w2.alloc (.cells #[.int .i64 x.n, .int .i64 x.d, .slice lad ln lc] 55)) := HB2.out.alloc HB2.out.size _
        refine (visit1_any B w0.heap.size bx out (x.ex (xs.drop k) out) x.n x.d lad ln lc _ (HBO.out.below hbw2) HCB.out HCb.out (Nat.le_trans HBw.out (Nat.le_trans HKV.out.below.size hbw2.size)) ?_).mono ?_
        · intro W v hbW hoW
          refine appx_any (k := k) (HLr.out.below (hbw2.trans (hbW.mono hbw2.size)) rfl) hoW (Nat.le_trans HBw.out (Nat.le_trans HKV.out.below.size (Nat.le_trans hbw2.size hbW.size))) ?_ HN6.out ?_ HV1.out HV.out
          · have := HN5.out; have := HLL.out; omega
          · intro hd0
            have := HN1.out.kle
            rw [List.length_drop]
            unfold Nx.len at this
            rw [if_pos hd0] at this
            omega
        rintro e w3 ⟨rfl, hbo3, hkv3⟩
        have hne : w2.heap.size ≠ bx := by
          obtain ⟨v, h1, _⟩ := HBO.out
          have := lt_of_block h1
          have := HB2.out.size
          omega
        have hg3 : w3.heap[w2.heap.size]? = some (.cells #[.int .i64 x.n, .int .i64 x.d, .slice lad ln lc] 55 (0, 0)) := hkv3.cell hne (heap_new _ _) (by decide)
        have hc3 : w3.cell? ⟨w2.heap.size, 0, none⟩ = some (.int .i64 x.n) := by rw [cell_of_row _ _ 0 _ _ _ hg3]; rfl
        have HB3 := Lib.hid (HKV.out.trans ((KeepV.new hbw2 (Nat.le_trans HB0.out.size HKV.out.below.size)).trans hkv3))
        have HBO3 := Lib.hid hbo3
        clear hbw2 hg3 hkv3 hbo3 hne
        go_wp2
        refine ⟨⟨x.ex (xs.drop k) out, k + x.len, ?_, rfl, HN1.out, HB3.out, HBO3.out⟩, ?_⟩
        · rw [HN2.out, HLL.out, Int.natCast_add]
        · have := HN3.out
          have := HN1.out.kle
          show xs.length - ((k + x.len : Nat) : Int).toNat < xs.length - ((k : Nat) : Int).toNat
          rw [Int.toNat_natCast, Int.toNat_natCast]
          omega
      · obtain ⟨E, hE⟩ : ∃ E : Nat, x.e = E := ⟨_, rfl⟩
        have HE := Lib.hid hE
        have he2 : ((E : Int) == 0) = false := by rw [beq_eq_false_iff_ne]; omega
        clear hE he
        go_wp2_with fail
        refine (HNX.out _ k L R HLr.out hko hL6 hR6).mono ?_
        rintro e w2 ⟨hv, hb2⟩
        rw [← HLL.out, HX.out] at hv
        obtain ⟨lad, ln, lc, rfl, hv1, hv2⟩ := hv
        obtain ⟨T, hT⟩ : ∃ T, x.to k = T := ⟨_, rfl⟩
        rw [HE.out, hT]
        have HB2 := Lib.hid hb2
        clear hv1 hv2 hT hb2
        go_wp2
        go_ret2
        exfalso
        have := HU.out
        rw [HAT.out.err (x := x) hk (by rw [HR.out]; exact HX.out) (by rw [HE.out]; intro h0; rw [h0] at he2; simp at he2), HE.out] at this
        dsimp only at this
        rw [this] at he2
        simp at he2
    · have hend := HAT.out.stop hk
      have HEND := Lib.hid hend
      clear hend
      go_wp2
      go_ret2
      exact ⟨by rw [HEND.out]; rfl, by rw [HEND.out]; exact HBO.out, HB0.out.trans HKV.out.below⟩
end Go.Proofs.Ytihiccccpjakgaa
