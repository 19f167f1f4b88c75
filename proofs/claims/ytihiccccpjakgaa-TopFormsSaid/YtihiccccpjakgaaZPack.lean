/-
  The program's Pack.
-/
import Derived.Test.YtihiccccpjakgaaZPk
import Derived.Laws.EntriesVeiled
namespace Go.Proofs.Ytihiccccpjakgaa
open Go.RowKit
set_option linter.unusedVariables false
set_option linter.unusedSimpArgs false
attribute [local irreducible] kyA lng
/-- a round of Pack begins -/
def RelP (w : World) (ad : Option Addr) (cap : Nat) (xs : List UInt8) (wr : World) : Prop := ∃ from_ at_ ts, PkI xs at_ from_ ts ∧ packU xs = forms (pkl xs at_ from_ ts) ∧ PkW w wr ad cap xs from_ at_ at_ (forms ts)
/-- positions are passed -/
def RelQ (w : World) (ad : Option Addr) (cap : Nat) (xs : List UInt8) (f a p : Nat) (l : List UInt8) (u : Value) (wr : World) : Prop := ∃ j : Nat, u = .int .i64 (j : Nat) ∧ j ≤ p ∧ PkW w wr ad cap xs f (a + j) (a + j) l
theorem forms_lit {xs : List UInt8} {from_ at_ : Nat} (ts : List Tk) (h : at_ ≤ xs.length) : forms (ts ++ litT xs from_ at_) = forms ts ++ litF xs from_ at_ := by
  unfold litT litF
  by_cases hf : from_ < at_
  · rw [if_pos hf, if_pos hf, forms_snoc]
    have hl : ((xs.drop from_).take (at_ - from_)).length = at_ - from_ := by rw [List.length_take, List.length_drop]; omega
    show _ ++ (enc (2 * _) ++ _) = _
    rw [hl]
  · rw [if_neg hf, if_neg hf, List.append_nil, List.append_nil]
theorem pk_start (w : World) (ad : Option Addr) (cap : Nat) (xs : List UInt8) :
    PkW w (((((((w.alloc (.cells #[.slice ad xs.length cap] 22)).alloc (.cells #[.slice none 0 0] 22)).alloc (.cells #[.func (.func 33) #[] #[.pointer (some ⟨w.heap.size + 1, 0, none⟩)]] 60)).alloc (.cells #[.int .i64 0] 3)).alloc (.cells #[.int .i64 0] 3)).alloc (.map #[] 0)).alloc (.cells #[.slice ad xs.length cap, .map (some (w.heap.size + 5))] 63)) ad cap xs 0 0 0 [] := by
  obtain ⟨o1, h1⟩ : ∃ o : Obj, o = .cells #[.slice ad xs.length cap] 22 := ⟨_, rfl⟩
  obtain ⟨o2, h2⟩ : ∃ o : Obj, o = .cells #[.slice none 0 0] 22 := ⟨_, rfl⟩
  obtain ⟨o3, h3⟩ : ∃ o : Obj, o = .cells #[.func (.func 33) #[] #[.pointer (some ⟨w.heap.size + 1, 0, none⟩)]] 60 := ⟨_, rfl⟩
  obtain ⟨o4, h4⟩ : ∃ o : Obj, o = .cells #[.int .i64 0] 3 := ⟨_, rfl⟩
  obtain ⟨o7, h7⟩ : ∃ o : Obj, o = .cells #[.slice ad xs.length cap, .map (some (w.heap.size + 5))] 63 := ⟨_, rfl⟩
  rw [← h1, ← h2, ← h3, ← h4, ← h7]
  have old : ∀ (W : World) (o : Obj) (k : Nat), k < W.heap.size → (W.alloc o).heap[k]? = W.heap[k]? := fun W o k hk => Below.heap_alloc W o k hk
  have hm := Grp.made (((((w.alloc o1).alloc o2).alloc o3).alloc o4).alloc o4) xs
  have hz : (((((w.alloc o1).alloc o2).alloc o3).alloc o4).alloc o4).heap.size = w.heap.size + 5 := by simp
  rw [hz] at hm
  have e1 : (w.alloc o1).heap[w.heap.size]? = some o1 := heap_new _ _
  have e2 : ((w.alloc o1).alloc o2).heap[w.heap.size + 1]? = some o2 := by have := heap_new (w.alloc o1) o2; simpa using this
  have e3 : (((w.alloc o1).alloc o2).alloc o3).heap[w.heap.size + 2]? = some o3 := by have := heap_new ((w.alloc o1).alloc o2) o3; simpa using this
  have e4 : ((((w.alloc o1).alloc o2).alloc o3).alloc o4).heap[w.heap.size + 3]? = some o4 := by have := heap_new (((w.alloc o1).alloc o2).alloc o3) o4; simpa using this
  have e5 : (((((w.alloc o1).alloc o2).alloc o3).alloc o4).alloc o4).heap[w.heap.size + 4]? = some o4 := by have := heap_new ((((w.alloc o1).alloc o2).alloc o3).alloc o4) o4; simpa using this
  have e7 : (((((((w.alloc o1).alloc o2).alloc o3).alloc o4).alloc o4).alloc (.map #[] 0)).alloc o7).heap[w.heap.size + 6]? = some o7 := by have := heap_new ((((((w.alloc o1).alloc o2).alloc o3).alloc o4).alloc o4).alloc (.map #[] 0)) o7; simpa using this
  refine ⟨⟨?_, ?_, ?_, ?_⟩, ⟨.slice none 0 0, ?_, Own.ofNil _ _⟩, ?_, ?_, ?_⟩
  · rw [old _ _ _ (by simp <;> omega), old _ _ _ (by simp <;> omega), old _ _ _ (by simp <;> omega), old _ _ _ (by simp <;> omega), old _ _ _ (by simp <;> omega), old _ _ _ (by simp <;> omega), e1, h1]
  · rw [old _ _ _ (by simp <;> omega), old _ _ _ (by simp <;> omega), old _ _ _ (by simp <;> omega), old _ _ _ (by simp <;> omega), e3, h3]
  · rw [old _ _ _ (by simp <;> omega), old _ _ _ (by simp <;> omega), old _ _ _ (by simp <;> omega), e4, h4]; rfl
  · rw [old _ _ _ (by simp <;> omega), old _ _ _ (by simp <;> omega), e5, h4]; rfl
  · rw [old _ _ _ (by simp <;> omega), old _ _ _ (by simp <;> omega), old _ _ _ (by simp <;> omega), old _ _ _ (by simp <;> omega), old _ _ _ (by simp <;> omega), e2, h2]
  · exact hm.below ((Below.refl _ _).alloc (Nat.le_refl _) _)
  · exact h7 ▸ e7
  · exact (((((((Below.refl _ _).alloc (Nat.le_refl _) _).alloc (by simp <;> omega) _).alloc (by simp <;> omega) _).alloc (by simp <;> omega) _).alloc (by simp <;> omega) _).alloc (by simp <;> omega) _).alloc (by simp <;> omega) _
set_option maxRecDepth 100000 in
set_option maxHeartbeats 4000000 in
theorem pack_any (ad : Option Addr) (cap : Nat) (xs : List UInt8) (w : World) (hl : Lie w ad xs) (hn : xs.length ≤ cap) (hcm : cap ≤ maxLen) (hs : xs.length ≤ 100000) (ha : ad = none → cap = 0) :
    Calls Try.prog 15 #[.slice ad xs.length cap] w (Gives w (packU xs)) := by
  have HLW := Lib.hid hl
  have HST := Lib.hid (pk_start w ad cap xs)
  have HEL := Lib.hid (fun (W : World) (f a : Nat) (l : List UInt8) (hW : Below w.heap.size w W) (hbx : Boxes W w.heap.size ad xs.length cap f a) (hbu : BoxU W w.heap.size (w.heap.size + 1) l) (h1 : f ≤ a) (h2 : a ≤ xs.length) (h3 : l.length ≤ 1000000) => elit_any ad cap xs l w W f a hl hn (by omega) hW hbx hbu h1 h2 h3)
  have hmm := @run_makeMap Try.prog
  clear hl
  go_enter Try.func15, Try.ntmps15
  go_wp2
  simp only [Nat.add_assoc, Nat.reduceAdd]
  generalize (World.alloc (World.alloc _ _) _) = W0 at HST ⊢
  go_loopw [9] (fun _ wr => RelP w ad cap xs wr) (fun _ wr => xs.length - atMu w.heap.size wr)
  case atStart => exact ⟨0, 0, [], .start xs, rfl, HST.out⟩
  case round =>
    obtain ⟨from_, at_, ts, hpi, hpk, hW⟩ := hrel
    have hft := hpi.ft
    have hle := hpi.le
    have hfl := hpi.len
    have HPI := Lib.hid hpi
    have HPK := Lib.hid hpk
    have HW := Lib.hid hW
    have hx0 := hW.ps.c0
    have hx1 := hW.ps.c1
    have hxb := cell_of_one hW.bx.b1
    have hx3 := cell_of_one hW.bx.fb
    have hx4 := cell_of_one hW.bx.ab
    have HM0 := Lib.hid (atMu_of hx4)
    clear hpi hpk hW
    by_cases hlt : at_ < xs.length
    · have hLo := longest_any ad cap xs (w.heap.size + 5) at_ wr (HLW.out.below HW.out.bl rfl) hn (by omega) hlt HW.out.gr
      have hle2 := lng_le xs at_
      obtain ⟨s, hs1⟩ : ∃ s, (lng xs at_).1 = s := ⟨_, rfl⟩
      obtain ⟨d, hd1⟩ : ∃ d, (lng xs at_).2 = d := ⟨_, rfl⟩
      rw [hs1, hd1] at hLo hle2
      obtain ⟨L, hL⟩ : ∃ L : Nat, (at_ : Int) - (from_ : Int) = L := ⟨at_ - from_, by omega⟩
      have hL2 : at_ - from_ = L := by omega
      have HSV := Lib.hid (fun W => saves_any s d L W (by omega) (by omega) (by omega))
      have HLO := Lib.hid hLo
      have HS1 := Lib.hid hs1
      have HD1 := Lib.hid hd1
      have HL2 := Lib.hid hL2
      obtain ⟨hsle, hdle⟩ := hle2
      clear hLo hs1 hd1 hL2
      by_cases hsv : sav s d L = true
      · have hsp := sav_pos hsv
        have p1 := enc_pos (2 * s + 1)
        have HSVT := Lib.hid hsv
        unfold sav at hsv
        rw [hsv] at HSV
        obtain ⟨hcp, hcl⟩ := HPI.out.copy (by omega) (by rw [HS1.out, HD1.out, HL2.out]; exact HSVT.out)
        have hpk2 := HPK.out
        rw [pkl, dif_pos hlt, dif_pos (by rw [HS1.out, HD1.out, HL2.out]; exact HSVT.out)] at hpk2
        rw [HS1.out, HD1.out] at hcp hpk2
        have hfo : forms (ts ++ litT xs from_ at_ ++ [.cp s d]) = forms ts ++ litF xs from_ at_ ++ enc (2 * s + 1) ++ enc d := by
          rw [forms_snoc, forms_lit ts hle]
          show _ ++ (enc _ ++ enc _) = _
          simp only [List.append_assoc]
        have hll : (forms ts ++ litF xs from_ at_).length ≤ 400000 := by
          have h9 := hcp.len
          rw [hfo, List.length_append, List.length_append] at h9
          have := hcp.le
          omega
        have HCP := Lib.hid hcp
        have HPK2 := Lib.hid hpk2
        have HFO := Lib.hid hfo
        have hale : at_ + s ≤ xs.length := hcp.le
        have h2s : 2 * s + 1 ≤ 1000000 := by omega
        have hd6 : d ≤ 1000000 := by omega
        have hs0 : 0 < s := by omega
        clear hsp hcp hpk2 hfo hsv hcl
        go_wp2_with fail
        refine HLO.out.mono ?_
        rintro e w2 ⟨rfl, hb2⟩
        have hW2 := HW.out.below hb2
        have hx3b := cell_of_one hW2.bx.fb
        have hx4b := cell_of_one hW2.bx.ab
        have HW2 := Lib.hid hW2
        clear hW2 hb2
        go_wp2_with fail
        refine (HSV.out _).mono ?_
        rintro e w3 ⟨rfl, hb3⟩
        have hW3 := HW2.out.below hb3
        have HW3 := Lib.hid hW3
        clear hW3 hb3
        go_wp2_with fail
        refine (HEL.out w3 from_ at_ (forms ts) HW3.out.bl HW3.out.bx HW3.out.bu hft hle (by omega)).mono ?_
        rintro e w4 ⟨rfl, hbu4, hk4⟩
        have hW4 := HW3.out.v hk4 hbu4
        have HW4 := Lib.hid hW4
        have HWD := Lib.hid (hW4.below (Below.drew (Below.refl _ _)))
        clear hW4 hbu4 hk4
        have hw1 : IntKind.i64.wrap (2 * (s : Int)) = 2 * (s : Int) := by rw [IntKind.wrap_i64]; omega
        have hw2 : IntKind.i64.wrap (2 * (s : Int) + 1) = 2 * (s : Int) + 1 := by rw [IntKind.wrap_i64]; omega
        have hw3 : IntKind.u64.wrap (d : Int) = (d : Int) := by rw [IntKind.wrap_u64]; omega
        go_wp2_with fail
        refine wp_region_noPanic ?_
        refine wp_region_held_drew (S := fun X => Boxes X w.heap.size ad xs.length cap from_ at_) (by kernel_rfl) (HWD.out.bx) (fun hS0 => ?_)
        refine held_take (i := 0) (v := ?_) rfl (by kernel_rfl) (by kernel_rfl) (by kernel_rfl) (fun _ _ _ h => h) (by rfl) ?_ (by assumption) ?_
        rotate_left
        · intro X hSX
          try dsimp only at hSX
          have hcell := cell_of_one hSX.em
          go_simp <;> with_reducible rfl
        simp only [Act.put, List.setIfInBounds_toArray, List.set_cons_zero, List.set_cons_succ]
        refine held_take (i := 1) (v := ?_) rfl (by kernel_rfl) (by kernel_rfl) (by kernel_rfl) (fun _ _ _ h => h) (by rfl) ?_ (by assumption) ?_
        rotate_left
        · intro X hSX
          try dsimp only at hSX
          go_simp <;> with_reducible rfl
        simp only [Act.put, List.setIfInBounds_toArray, List.set_cons_zero, List.set_cons_succ]
        refine held_take (i := 2) (v := ?_) rfl (by kernel_rfl) (by kernel_rfl) (by kernel_rfl) (fun _ _ _ h => h) (by rfl) ?_ (by assumption) ?_
        rotate_left
        · intro X hSX
          try dsimp only at hSX
          go_simp <;> with_reducible rfl
        simp only [Act.put, List.setIfInBounds_toArray, List.set_cons_zero, List.set_cons_succ]
        refine held_take (i := 3) (v := ?_) rfl (by kernel_rfl) (by kernel_rfl) (by kernel_rfl) (fun _ _ _ h => h) (by rfl) ?_ (by assumption) ?_
        rotate_left
        · intro X hSX
          try dsimp only at hSX
          go_simp <;> with_reducible rfl
        simp only [Act.put, List.setIfInBounds_toArray, List.set_cons_zero, List.set_cons_succ]
        refine held_take (i := 4) (v := ?_) rfl (by kernel_rfl) (by kernel_rfl) (by kernel_rfl) (fun _ _ _ h => h) (by rfl) ?_ (by assumption) ?_
        rotate_left
        · intro X hSX
          try dsimp only at hSX
          go_simp <;> with_reducible rfl
        simp only [Act.put, List.setIfInBounds_toArray, List.set_cons_zero, List.set_cons_succ]
        refine held_take (i := 5) (v := ?_) rfl (by kernel_rfl) (by kernel_rfl) (by kernel_rfl) (fun _ _ _ h => h) (by rfl) ?_ (by assumption) ?_
        rotate_left
        · intro X hSX
          try dsimp only at hSX
          go_simp <;> with_reducible rfl
        simp only [Act.put, List.setIfInBounds_toArray, List.set_cons_zero, List.set_cons_succ]
        refine held_call (i := 6) rfl (by kernel_rfl) (by rfl) (fun K' hK' => ?_)
        go_simp
        refine (puint0 d _ (by omega)).mono ?_
        rintro e w5 ⟨v5, rfl, ho5, hb5⟩
        have hW5 := HWD.out.below hb5
        obtain ⟨a5, c5, rfl, hl5, _, _, hn5⟩ := ho5.slice
        obtain ⟨b5, o5, rfl, hlt5⟩ := hl5.some_of (enc_pos d)
        have hem : Calls Try.prog 33 #[.int .i64 (2 * (s : Int) + 1), .slice (some ⟨b5, o5, none⟩) (enc d).length c5, .pointer (some ⟨w.heap.size + 1, 0, none⟩)] w5 fun e w' => e = .returned (.tuple #[]) ∧ BoxU w' w.heap.size (w.heap.size + 1) (forms ts ++ litF xs from_ at_ ++ enc (2 * s + 1) ++ enc d) ∧ KeepV w.heap.size (w.heap.size + 1) w5 w' := by
          obtain ⟨v, hv, ho⟩ := HWD.out.bu
          have hv5 := (hb5.block _ (lt_of_block hv)).trans hv
          have hbz := (ho5.lt b5 rfl).1
          have hd5 := enc_len d (by omega)
          have := emit_any w.heap.size w.heap.size (w.heap.size + 1) v (forms ts ++ litF xs from_ at_) (enc d) (2 * s + 1) (some ⟨b5, o5, none⟩) c5 w5 hv5 (ho.below hb5)
            ⟨hl5, .inr ⟨b5, o5, rfl, hlt5, fun e => by have := lt_of_block hv; omega, fun e => by have := (ho.lt b5 e).2; omega⟩⟩ (fun h => by cases h) (Nat.le_refl _) (Nat.le_succ _) hW5.bl.size h2s (by omega) (by omega)
          push_cast at this
          exact this
        have HEM := Lib.hid hem
        have HW5 := Lib.hid hW5
        clear hem hW5 ho5 hb5 hl5 hlt5 hn5
        refine held_go hK' (HW5.out.bx) ?_
        try simp only [Act.put, List.setIfInBounds_toArray, List.set_cons_zero, List.set_cons_succ]
        refine held_call (i := 7) rfl (by kernel_rfl) (by rfl) (fun K' hK' => ?_)
        go_simp
        refine HEM.out.mono ?_
        rintro e w6 ⟨rfl, hbu6, hk6⟩
        have hW6 := HW5.out.v hk6 hbu6
        have HW6 := Lib.hid hW6
        clear hW6 hbu6 hk6
        refine held_go hK' (HW6.out.bx) ?_
        try simp only [Act.put, List.setIfInBounds_toArray, List.set_cons_zero, List.set_cons_succ]
        refine wpAnyH_done (by kernel_rfl) ?_ _
        refine NoPanic.normal ?_
        have HWE := Lib.hid (HW6.out.below (Below.drew (Below.refl _ _)))
        have hx4c := cell_of_one HW6.out.bx.ab
        have hx3c := cell_of_one HW6.out.bx.fb
        have hf3c := free_of_one HW6.out.bx.fb
        have hx4d := cell_of_one HWE.out.bx.ab
        have hx3d := cell_of_one HWE.out.bx.fb
        have hf3d := free_of_one HWE.out.bx.fb
        clear hx0 hx1 hx3 hx4 hxb hx3b hx4b
        have hW7 := HWE.out.setF (at_ + s)
        rw [Int.natCast_add] at hW7
        have HW7 := Lib.hid hW7
        clear hW7
        go_wp2_with fail
        go_region
        go_wp2_with fail
        go_loopw [48] (fun u48 wq => RelQ w ad cap xs (at_ + s) at_ s (forms ts ++ litF xs from_ at_ ++ enc (2 * s + 1) ++ enc d) u48 wq) (fun u48 _ => s - (intOf u48).toNat)
        case atStart => exact ⟨0, rfl, Nat.zero_le _, HW7.out⟩
        case round =>
          obtain ⟨j, rfl, hj, hQ⟩ := hrel
          by_cases hjp : j < s
          · have hx0 := hQ.ps.c0
            have hx1 := hQ.ps.c1
            have hx4 := cell_of_one hQ.bx.ab
            have hadd := add_any ad cap xs (w.heap.size + 5) (at_ + j) wr (HLW.out.below hQ.bl rfl) hn (by omega) (by omega) hQ.gr
            rw [Int.natCast_add] at hadd hx4
            have HADD := Lib.hid hadd
            have HQ := Lib.hid hQ
            clear hadd hQ
            go_wp2_with fail
            refine HADD.out.mono ?_
            rintro e w9 ⟨rfl, hg9, hk9⟩
            have hQ9 := HQ.out.add hk9 hg9
            have hx4' := cell_of_one hQ9.bx.ab
            have hf4 := free_of_one hQ9.bx.ab
            rw [Int.natCast_add] at hx4'
            have hQ10 := hQ9.setA (at_ + (j + 1))
            have eA : ((at_ + (j + 1) : Nat) : Int) = (at_ : Int) + j + 1 := by omega
            rw [eA] at hQ10
            have HQ10 := Lib.hid hQ10
            clear hQ9 hQ10 hg9 hk9 hx0 hx1 hx4
            go_wp2
            refine ⟨⟨j + 1, by rw [Int.natCast_add]; rfl, by omega, HQ10.out⟩, ?_⟩
            show s - ((j : Int) + 1).toNat < s - (j : Int).toNat
            omega
          · obtain rfl : s = j := by omega
            have hm9 := atMu_of (cell_of_one hQ.bx.ab)
            have HM9 := Lib.hid hm9
            have HQ := Lib.hid hQ
            clear hQ hm9
            go_wp2
            refine ⟨⟨(at_ + s), at_ + s, ts ++ litT xs from_ at_ ++ [.cp s d], HCP.out, HPK2.out, by rw [HFO.out]; exact HQ.out⟩, ?_⟩
            rw [HM9.out, HM0.out]
            omega
      · have hsf : sav s d L = false := by simpa using hsv
        have HSF := Lib.hid hsf
        have HNS := Lib.hid hsv
        clear hsv
        unfold sav at hsf
        rw [hsf] at HSV
        have hpk2 := HPK.out
        rw [pkl, dif_pos hlt, dif_neg (by rw [HS1.out, HD1.out, HL2.out]; exact HNS.out)] at hpk2
        have HPK2 := Lib.hid hpk2
        have hale : at_ + 1 ≤ xs.length := hlt
        clear hpk2 hsf
        go_wp2_with fail
        refine HLO.out.mono ?_
        rintro e w2 ⟨rfl, hb2⟩
        have hW2 := HW.out.below hb2
        have hx3b := cell_of_one hW2.bx.fb
        have hx4b := cell_of_one hW2.bx.ab
        have HW2 := Lib.hid hW2
        clear hW2 hb2
        go_wp2_with fail
        refine (HSV.out _).mono ?_
        rintro e w3 ⟨rfl, hb3⟩
        have hW3 := HW2.out.below hb3
        have HW3 := Lib.hid hW3
        clear hW3 hb3 hx0 hx1 hx3 hx4 hxb hx3b hx4b
        go_wp2_with fail
        go_loopw [48] (fun u48 wq => RelQ w ad cap xs from_ at_ 1 (forms ts) u48 wq) (fun u48 _ => 1 - (intOf u48).toNat)
        case atStart => exact ⟨0, rfl, Nat.zero_le _, HW3.out⟩
        case round =>
          obtain ⟨j, rfl, hj, hQ⟩ := hrel
          by_cases hjp : j < 1
          · have hx0 := hQ.ps.c0
            have hx1 := hQ.ps.c1
            have hx4 := cell_of_one hQ.bx.ab
            have hadd := add_any ad cap xs (w.heap.size + 5) (at_ + j) wr (HLW.out.below hQ.bl rfl) hn (by omega) (by omega) hQ.gr
            rw [Int.natCast_add] at hadd hx4
            have HADD := Lib.hid hadd
            have HQ := Lib.hid hQ
            clear hadd hQ
            go_wp2_with fail
            refine HADD.out.mono ?_
            rintro e w9 ⟨rfl, hg9, hk9⟩
            have hQ9 := HQ.out.add hk9 hg9
            have hx4' := cell_of_one hQ9.bx.ab
            have hf4 := free_of_one hQ9.bx.ab
            rw [Int.natCast_add] at hx4'
            have hQ10 := hQ9.setA (at_ + (j + 1))
            have eA : ((at_ + (j + 1) : Nat) : Int) = (at_ : Int) + j + 1 := by omega
            rw [eA] at hQ10
            have HQ10 := Lib.hid hQ10
            clear hQ9 hQ10 hg9 hk9 hx0 hx1 hx4
            go_wp2
            refine ⟨⟨j + 1, by rw [Int.natCast_add]; rfl, by omega, HQ10.out⟩, ?_⟩
            show 1 - ((j : Int) + 1).toNat < 1 - (j : Int).toNat
            omega
          · obtain rfl : 1 = j := by omega
            have hm9 := atMu_of (cell_of_one hQ.bx.ab)
            have HM9 := Lib.hid hm9
            have HQ := Lib.hid hQ
            clear hQ hm9
            go_wp2
            refine ⟨⟨from_, at_ + 1, ts, HPI.out.one hlt, HPK2.out, HQ.out⟩, ?_⟩
            rw [HM9.out, HM0.out]
            omega
    · have hend := HPK.out
      rw [pkl, dif_neg hlt] at hend
      obtain rfl : at_ = xs.length := by omega
      rw [forms_lit ts (Nat.le_refl _)] at hend
      have HEND := Lib.hid hend
      clear hend
      go_wp2_with fail
      refine (HEL.out wr from_ xs.length (forms ts) HW.out.bl HW.out.bx HW.out.bu hft (Nat.le_refl _) (by omega)).mono ?_
      rintro e w4 ⟨rfl, hbu4, hk4⟩
      obtain ⟨v4, hv4, ho4⟩ := hbu4
      have hc4 := cell_of_one hv4
      obtain ⟨a4, c4, rfl, _, _, _, _⟩ := ho4.slice
      have HO4 := Lib.hid ho4
      have HK4 := Lib.hid hk4
      clear hv4 ho4 hk4 hx0 hx1 hx3 hx4 hxb
      go_wp2
      go_ret
      have HO5 := HO4.out
      rw [List.length_append] at HO5
      exact ⟨_, rfl, by rw [HEND.out]; exact HO5, HW.out.bl.trans HK4.out.below⟩
end Go.Proofs.Ytihiccccpjakgaa
