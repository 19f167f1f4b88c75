/-
  The program's sums, doublings and products are those of the plain mathematics.
  The program's table of the products of an element with all others.
  The program's powers of the generator and their exponents are those of the plain mathematics.
  Powers, inverses and quotients, of the program and of the specification, are those of the plain mathematics.
-/
import Derived.Test.YtinfjidclkgfnaaQMem
import Derived.Test.YtinfjidclkgfnaaQRows
import Derived.Test.YtinfjidclkgfnaaHeld
namespace Go.Proofs.Ytinfjidclkgfnaa
open Go.RowKit
set_option maxRecDepth 100000 in
set_option maxHeartbeats 400000 in
theorem add_any (a b : UInt8) (w : World) :
    Calls Try.prog 55 #[.int .u8 (ev a), .int .u8 (ev b)] w fun e w' => e = .returned (.int .u8 (ev (a ^^^ b))) ∧ w = w' := by
  have hx := bits_xor_ev a b
  go_enter Try.func55, Try.ntmps55
  go_wp2
  go_ret
  exact ⟨rfl, rfl⟩

theorem dbl_great (a : UInt8) (h : ¬ ev a < 128) : bits .xor .u8 (ev a * 2 % 256) 29 = ev (dblU a) := by
  have hl := ev_hi a
  rw [ev_nat] at h hl ⊢
  rw [ev_nat, dbl_hi a (by omega), show (a.toNat : Int) * 2 % 256 = ((2 * a.toNat - 256 : Nat) : Int) by omega]
  exact u8_xor_nat _ 29 (by omega) (by decide)

set_option maxRecDepth 100000 in
set_option maxHeartbeats 400000 in
theorem double_any (a : UInt8) (w : World) :
    Calls Try.prog 63 #[.int .u8 (ev a)] w fun e w' => e = .returned (.int .u8 (ev (dblU a))) ∧ w = w' := by
  have h0 := ev_lo a
  have h1 := ev_hi a
  by_cases hm : ev a < 128
  · have hr := Lib.hid (dbl_small a hm)
    go_enter Try.func63, Try.ntmps63
    go_wp2
    go_ret
    exact ⟨ret_u8 hr.out, rfl⟩
  · have hr := Lib.hid (dbl_great a hm)
    go_enter Try.func63, Try.ntmps63
    go_wp2
    go_ret
    exact ⟨ret_u8 hr.out, rfl⟩

theorem shr_ev (b : UInt8) (k : Nat) : ev b / (2 : Int) ^ k = ((b.toNat / 2 ^ k : Nat) : Int) := by
  rw [ev_nat, Int.natCast_ediv]; norm_cast
theorem bit_ev (b : UInt8) (k : Nat) : bits .and .u8 (ev b / 2 ^ k) 1 = ((b.toNat / 2 ^ k % 2 : Nat) : Int) := by
  rw [shr_ev, show (1 : Int) = ((1 : Nat) : Int) from rfl, u8_and_nat _ 1 (Nat.lt_of_le_of_lt (Nat.div_le_self _ _) b.toNat_lt) (by decide), Nat.and_one_is_mod]
theorem low_one (a b : UInt8) (k : Nat) (hk : k < 8) (h : b.toNat / 2 ^ (7 - k) % 2 = 1) : dblU (lowU a (b.toNat / 2 ^ (8 - k)) k) ^^^ a = lowU a (b.toNat / 2 ^ (8 - (k + 1))) (k + 1) := by
  rw [show 8 - (k + 1) = 7 - k by omega, lowU_top a b.toNat k hk, if_pos h]
theorem low_nil (a b : UInt8) (k : Nat) (hk : k < 8) (h : ¬ b.toNat / 2 ^ (7 - k) % 2 = 1) : dblU (lowU a (b.toNat / 2 ^ (8 - k)) k) = lowU a (b.toNat / 2 ^ (8 - (k + 1))) (k + 1) := by
  rw [show 8 - (k + 1) = 7 - k by omega, lowU_top a b.toNat k hk, if_neg h]
attribute [local irreducible] dblU lowU mulU

set_option maxRecDepth 100000 in
set_option maxHeartbeats 400000 in
theorem mul_any (a b : UInt8) (w : World) :
    Calls Try.prog 49 #[.int .u8 (ev a), .int .u8 (ev b)] w fun e w' => e = .returned (.int .u8 (ev (mulU a b))) ∧ w = w' := by
  have b0 := ev_lo b
  have b1 := ev_hi b
  go_enter Try.func49, Try.ntmps49
  go_wp2
  go_loop [5, 7] (fun vp vk => ∃ k : Nat, k ≤ 8 ∧ vk = .int .i64 k ∧ vp = .int .u8 (ev (lowU a (b.toNat / 2 ^ (8 - k)) k))) (fun _ i => 8 - (intOf i).toNat)
  case atStart => exact ⟨0, by omega, rfl, by unfold lowU; exact val_zero⟩
  case round =>
    obtain ⟨k, hk, rfl, rfl⟩ := hrel
    by_cases hlt : k < 8
    · have ht := bit_ev b (7 - k)
      by_cases hb : b.toNat / 2 ^ (7 - k) % 2 = 1
      · have HN := Lib.hid (low_one a b k hlt hb)
        rw [hb] at ht
        clear hb
        generalize lowU a (b.toNat / 2 ^ (8 - k)) k = r at HN ⊢
        go_wp2_with fail
        refine (double_any _ _).mono ?_
        rintro e w' ⟨rfl, rfl⟩
        go_wp2_with fail
        refine (add_any _ _ _).mono ?_
        rintro e w' ⟨rfl, rfl⟩
        rw [HN.out]
        go_wp2
        go_round
        case rel => exact ⟨k + 1, by omega, by go_num, by rw [show 8 - (k + 1) = 7 - k by omega]⟩
        case measure => simp [intOf]; omega
      · have HN := Lib.hid (low_nil a b k hlt hb)
        rw [show b.toNat / 2 ^ (7 - k) % 2 = 0 by omega] at ht
        clear hb
        generalize lowU a (b.toNat / 2 ^ (8 - k)) k = r at HN ⊢
        go_wp2_with fail
        refine (double_any _ _).mono ?_
        rintro e w' ⟨rfl, rfl⟩
        rw [HN.out]
        go_wp2
        go_round
        case rel => exact ⟨k + 1, by omega, by go_num, by rw [show 8 - (k + 1) = 7 - k by omega]⟩
        case measure => simp [intOf]; omega
    · obtain rfl : k = 8 := by omega
      go_wp2
      go_ret
      exact ⟨by unfold mulU; rfl, rfl⟩
end Go.Proofs.Ytinfjidclkgfnaa
namespace Go.Proofs.Ytinfjidclkgfnaa
open Go.RowKit
/-- the products of all elements with a -/
def prodT (a : UInt8) (i : Nat) : UInt8 := mulU (UInt8.ofNat i) a
/-- the same, below 2 x -/
def prodX (a : UInt8) (x i : Nat) : UInt8 := if i < 2 * x then prodT a i else 0
theorem prodX_zero (a : UInt8) : arr 256 (fun _ => 0) = arr 256 (prodX a 0) := arr_congr _ _ _ fun i _ => by simp [prodX]
theorem prodX_all (a : UInt8) : arr 256 (prodX a 128) = arr 256 (prodT a) := arr_congr _ _ _ fun i h => by unfold prodX; rw [if_pos (by omega)]
theorem prodX_at (a : UInt8) (x : Nat) : prodX a x x = prodT a x := by
  unfold prodX
  split
  · rfl
  · have : x = 0 := by omega
    subst this
    exact (zero_mulU a).symm
theorem twice_nat : ∀ x : Fin 128, dblU (UInt8.ofNat x.val) = UInt8.ofNat (2 * x.val) ∧ UInt8.ofNat (2 * x.val) ^^^ 1 = UInt8.ofNat (2 * x.val + 1) := by decide +kernel
theorem prodT_even (a : UInt8) (x : Nat) (hx : x < 128) : dblU (prodT a x) = prodT a (2 * x) := by
  unfold prodT
  rw [← dbl_mulU, (twice_nat ⟨x, hx⟩).1]
theorem prodT_odd (a : UInt8) (x : Nat) (hx : x < 128) : prodT a (2 * x) ^^^ a = prodT a (2 * x + 1) := by
  unfold prodT
  rw [← (twice_nat ⟨x, hx⟩).2, xor_mulU, one_mulU]
/-- .. and at 2 x too -/
def prodY (a : UInt8) (x i : Nat) : UInt8 := if i < 2 * x + 1 then prodT a i else 0
theorem prod_first (a : UInt8) (x : Nat) (hx : x < 128) : (arr 256 (prodX a x)).setIfInBounds (2 * x) (.int .u8 (ev (dblU (prodT a x)))) = arr 256 (prodY a x) := by
  rw [arr_set, prodT_even a x hx]
  refine arr_congr _ _ _ fun i _ => ?_
  unfold prodX prodY
  by_cases h : i = 2 * x
  · subst h; simp
  · rw [if_neg h]
    by_cases h2 : i < 2 * x
    · rw [if_pos h2, if_pos (by omega)]
    · rw [if_neg h2, if_neg (by omega)]
theorem prodY_at (a : UInt8) (x : Nat) : prodY a x (2 * x) = prodT a (2 * x) := by unfold prodY; rw [if_pos (by omega)]
theorem prod_second (a : UInt8) (x : Nat) (hx : x < 128) : (arr 256 (prodY a x)).setIfInBounds (2 * x + 1) (.int .u8 (ev (prodT a (2 * x) ^^^ a))) = arr 256 (prodX a (x + 1)) := by
  rw [arr_set, prodT_odd a x hx]
  refine arr_congr _ _ _ fun i _ => ?_
  unfold prodX prodY
  by_cases h : i = 2 * x + 1
  · subst h; rw [if_pos rfl, if_pos (by omega)]
  · rw [if_neg h]
    by_cases h2 : i < 2 * x + 1
    · rw [if_pos h2, if_pos (by omega)]
    · rw [if_neg h2, if_neg (by omega)]

theorem ev_prodT (a v : UInt8) : prodT a (ev v).toNat = mulU v a := by
  unfold prodT
  rw [show (ev v).toNat = v.toNat by rw [ev_nat]; rfl, UInt8.ofNat_toNat]
attribute [local irreducible] dblU lowU mulU prodT prodX prodY arr

set_option maxRecDepth 100000 in
set_option maxHeartbeats 1000000 in
theorem products_any (a : UInt8) (w : World) :
    Calls Try.prog 69 #[.int .u8 (ev a)] w fun e w' => e = .returned (.agg (arr 256 (prodT a))) ∧ Below w.heap.size w w' := by
  have hz := zeroP
  go_enter Try.func69, Try.ntmps69
  go_wp2
  rw [prodX_zero a]
  go_loopw [5] (fun vk wr => ∃ k : Nat, k ≤ 128 ∧ vk = .int .i64 k ∧ wr = (w.alloc (.cells (arr 256 (prodX a 0)) 75)).alloc (.cells (arr 256 (prodX a k)) 75)) (fun i _ => 128 - (intOf i).toNat)
  case atStart => exact ⟨0, by omega, rfl, rfl⟩
  case round =>
    obtain ⟨k, hk, rfl, rfl⟩ := hrel
    by_cases hlt : k < 128
    · have hc := arr_get 256 (prodX a k) k (by omega)
      rw [prodX_at] at hc
      have hc1 := arr_get 256 (prodX a k) (2 * k) (by omega)
      have h1 := prod_first a k hlt
      have hc2 := arr_get 256 (prodY a k) (2 * k) (by omega)
      rw [prodY_at] at hc2
      have hc3 := arr_get 256 (prodY a k) (2 * k + 1) (by omega)
      have h2 := prod_second a k hlt
      go_wp2_with fail
      refine (double_any _ _).mono ?_
      rintro e w' ⟨rfl, rfl⟩
      go_wp2_with fail
      refine (add_any _ _ _).mono ?_
      rintro e w' ⟨rfl, rfl⟩
      go_wp2
      go_roundw
      case rel => exact ⟨k + 1, by omega, by go_num, rfl⟩
      case measure => simp [intOf]; omega
    · obtain rfl : k = 128 := by omega
      rw [prodX_all]
      have hsz := Lib.hid (arr_size 256 (prodT a))
      clear hz
      go_wp2_with fail
      refine wp_load_arr (P := Try.prog) 75 (.tmp 3) rfl (w.heap.size + 1) rfl (arr 256 (prodT a)) 256 5 75 ?_ Try.underlying75 (by rw [hsz.out]; exact sizeP) ?_
      · rw [show w.heap.size + 1 = (w.alloc (.cells (arr 256 (prodX a 0)) 75)).heap.size from by simp]
        exact heap_alloc_last _ _
      go_wp2_with fail
      rw [run_storeCells_arr (P := Try.prog) _ w.heap.size 75 (arr 256 (prodX a 0)) (arr 256 (prodT a)) ?_ (by rw [arr_size, arr_size]) (arr_one _ _)]
      · rw [setRow_past_arr _ _ _ _ (by simp), World.setRow_alloc_new]
        simp only [Result.andThen]
        rw [Oper.upon_skip]
        go_wp2_with fail
        refine bodyPost_ret (v := .agg (arr 256 (prodT a))) ?_ rfl ⟨rfl, ((Below.refl _ _).alloc (Nat.le_refl _) _).alloc (by simp) _⟩
        rw [results_cell_arr rfl]
        have hrow := run_loadVar_row (P := Try.prog) ((w.alloc (.cells (arr 256 (prodT a)) 75)).alloc (.cells (arr 256 (prodT a)) 75)) w.heap.size 75 75 (arr 256 (prodT a)) (0, 0) _
          (by rw [heap_past_arr _ _ _ (by simp)]; exact heap_alloc_last _ _) Try.underlying75 rfl (by rw [arr_size]; exact sizeP)
        simp only [Act.put]
        show ((asAddr (.pointer (some ⟨w.heap.size, 0, none⟩))).run Try.prog _).andThen _ = _
        simp only [asAddr, Sem.run_pure, Result.andThen, hrow]
      · rw [heap_past_arr _ _ _ (by simp)]
        exact heap_alloc_last _ _
end Go.Proofs.Ytinfjidclkgfnaa
namespace Go.Proofs.Ytinfjidclkgfnaa
open Go.RowKit
def powX (k i : Nat) : UInt8 := if i < k then gp i else 0
def expX (k i : Nat) : UInt8 := UInt8.ofNat (expA k (UInt8.ofNat i))
def expT (i : Nat) : UInt8 := UInt8.ofNat (logU (UInt8.ofNat i))
theorem powX_next (k j : Nat) : powX (k + 1) j = if j = k then gp k else powX k j := by
  unfold powX
  by_cases h : j = k
  · subst h; rw [if_pos (by omega), if_pos rfl]
  · rw [if_neg h]
    by_cases h2 : j < k
    · rw [if_pos h2, if_pos (by omega)]
    · rw [if_neg h2, if_neg (by omega)]
theorem expX_next (k j : Nat) (hj : j < 256) : expX (k + 1) j = if j = (gp k).toNat then UInt8.ofNat k else expX k j := by
  unfold expX
  have e : (UInt8.ofNat j = gp k) ↔ j = (gp k).toNat := by
    constructor
    · intro h; rw [← h, UInt8.toNat_ofNat']; omega
    · intro h; rw [h, UInt8.ofNat_toNat]
  simp only [expA]
  by_cases h : j = (gp k).toNat
  · rw [if_pos (e.2 h), if_pos h]
  · rw [if_neg (fun h' => h (e.1 h')), if_neg h]
theorem powX_all (i : Nat) (hi : i < 255) : gp i = powX 255 i := by unfold powX; rw [if_pos hi]

theorem expT_all (i : Nat) (_ : i < 256) : expT i = expX 255 i := rfl
theorem gp_next (k : Nat) : dblU (gp k) = gp (k + 1) := rfl
theorem infoE : (Try.prog.info? 77).map (fun i => (i.zero, i.size)) = some (some (.agg (Array.replicate 255 (.int .u8 0))), 255) := by kernel_rfl
theorem zeroE (w : World) : (zeroValue 77).run Try.prog w = .ok (.agg (arr 255 fun _ => 0)) w := by rw [← arr_zero]; exact (zero_of_info infoE).1 w
theorem sizeE : (Try.prog.info? 77).map (·.size) = some 255 := (zero_of_info infoE).2
theorem start_pow : arr 255 (fun _ => 0) = arr 255 (powX 0) := arr_congr _ _ _ fun i _ => by simp [powX]
theorem start_exp : arr 256 (fun _ => 0) = arr 256 (expX 0) := arr_congr _ _ _ fun i _ => by simp [expX, expA]
attribute [local irreducible] dblU lowU mulU powX expX expT arr gp expA

set_option maxRecDepth 100000 in
set_option maxHeartbeats 1000000 in
theorem logs_any (w : World) :
    Calls Try.prog 71 #[] w fun e w' => e = .returned (.tuple #[.agg (arr 255 gp), .agg (arr 256 expT)]) ∧ Below w.heap.size w w' := by
  have hz := zeroP
  have hz2 := zeroE
  go_enter Try.func71, Try.ntmps71
  go_wp2
  rw [start_pow, start_exp]
  clear hz hz2
  go_loopw [2, 4] (fun ve vk wr => ∃ k : Nat, k ≤ 255 ∧ vk = .int .i64 k ∧ ve = .int .u8 (ev (gp k)) ∧ Hid (Arr wr w.heap.size 77 255 (powX k)) ∧ Hid (Arr wr (w.heap.size + 1) 75 256 (expX k)) ∧ Hid (Below w.heap.size w wr)) (fun _ i _ => 255 - (intOf i).toNat)
  case atStart => exact ⟨0, by omega, rfl, by simp [gp, ev_one], Lib.hid ((Arr.new _ _ _ _).past _), Lib.hid (by have := Arr.new (w.alloc (.cells (arr 255 (powX 0)) 77)) 75 256 (expX 0); simpa using this), Lib.hid (((Below.refl _ _).alloc (Nat.le_refl _) _).alloc (by simp) _)⟩
  case round =>
    obtain ⟨k, hk, rfl, rfl, hp, he, hb⟩ := hrel
    by_cases hlt : k < 255
    · have hpc := hp.out.cell k hlt
      have hpf := hp.out.frozen k
      have x0 := ev_lo (gp k)
      have x1 := ev_hi (gp k)
      have hj : (ev (gp k)).toNat = (gp k).toNat := by rw [ev_nat]; rfl
      have hec := he.out.cell (ev (gp k)).toNat (by omega)
      have hef := he.out.frozen (ev (gp k)).toNat
      have HJ := Lib.hid hj
      clear hj
      have HP : Hid (Arr ((wr.setCell ⟨w.heap.size, k, none⟩ (.int .u8 (ev (gp k)))).setCell ⟨w.heap.size + 1, (ev (gp k)).toNat, none⟩ (.int .u8 (k : Int))) w.heap.size 77 255 (powX (k + 1))) :=
        Lib.hid ((hp.out.set_ k (gp k) (fun j _ => powX_next k j)).other (by omega))
      have HE : Hid (Arr ((wr.setCell ⟨w.heap.size, k, none⟩ (.int .u8 (ev (gp k)))).setCell ⟨w.heap.size + 1, (ev (gp k)).toNat, none⟩ (.int .u8 (k : Int))) (w.heap.size + 1) 75 256 (expX (k + 1))) :=
        Lib.hid (by rw [ev_lit k (by omega), HJ.out]; exact (he.out.other (by omega)).set_ _ (UInt8.ofNat k) (fun j hj => expX_next k j hj))
      have HB : Hid (Below w.heap.size w ((wr.setCell ⟨w.heap.size, k, none⟩ (.int .u8 (ev (gp k)))).setCell ⟨w.heap.size + 1, (ev (gp k)).toNat, none⟩ (.int .u8 (k : Int)))) :=
        Lib.hid ((hb.out.setCell (Nat.le_refl _) _).setCell (by show w.heap.size ≤ w.heap.size + 1; omega) _)
      have HG : Hid (Value.int .u8 (ev (dblU (gp k))) = .int .u8 (ev (gp (k + 1)))) := Lib.hid (by rw [gp_next])
      clear hp he hb
      go_wp2_with fail
      refine (double_any _ _).mono ?_
      rintro e w' ⟨rfl, rfl⟩
      clear hpc hpf hec hef
      generalize World.setCell (World.setCell wr _ _) _ _ = w2 at HP HE HB ⊢
      go_wp2
      go_roundw
      case rel => exact ⟨k + 1, by omega, by go_num, HG.out, HP, HE, HB⟩
      case measure => simp [intOf]; omega
    · obtain rfl : k = 255 := by omega
      have HP : Hid (Arr wr w.heap.size 77 255 gp) := Lib.hid (hp.out.congr powX_all)
      have HE : Hid (Arr wr (w.heap.size + 1) 75 256 expT) := Lib.hid (he.out.congr expT_all)
      clear hp he
      go_wp2_with fail
      refine wp_region_noPanic ?_
      refine wp_region_held_drew (S := fun w' => w' = wr.drew) (by kernel_rfl) rfl (fun hHeld => ?_)
      refine held_take (i := 0) (v := .agg (arr 255 gp)) rfl (by kernel_rfl) (by kernel_rfl) (by kernel_rfl) (fun _ _ _ h => h) (by rfl) ?_ rfl ?_
      · rintro w' rfl
        exact load_arr _ rfl HP.out.drew (Try.underlying77) rfl (by rw [arr_size]; exact sizeE)
      simp only [Act.put, List.setIfInBounds_toArray, List.set_cons_zero, List.set_cons_succ]
      refine held_take (i := 1) (v := .agg (arr 256 expT)) rfl (by kernel_rfl) (by kernel_rfl) (by kernel_rfl) (fun _ _ _ h => h) (by rfl) ?_ rfl ?_
      · rintro w' rfl
        exact load_arr _ rfl HE.out.drew (Try.underlying75) rfl (by rw [arr_size]; exact sizeP)
      simp only [Act.put, List.setIfInBounds_toArray, List.set_cons_zero, List.set_cons_succ]
      refine held_call (i := 2) rfl (by kernel_rfl) (by rfl) (fun K' hK' => ?_)
      refine wp_store_self 77 (.tmp 0) (.tmp 17) rfl w.heap.size rfl (arr 255 gp) rfl 77 HP.out.drew (by rw [arr_size]; exact sizeE) (arr_one _ _) ?_
      refine hK'.out _ _ rfl (fun _ => ?_)
      refine held_call (i := 3) rfl (by kernel_rfl) (by rfl) (fun K' hK' => ?_)
      refine wp_store_self 75 (.tmp 1) (.tmp 18) rfl (w.heap.size + 1) rfl (arr 256 expT) rfl 75 HE.out.drew (by rw [arr_size]; exact sizeP) (arr_one _ _) ?_
      refine hK'.out _ _ rfl (fun _ => ?_)
      refine wpAnyH_done (by kernel_rfl) ?_ _
      simp only [Act.put]
      refine NoPanic.normal ?_
      go_wp2_with fail
      refine bodyPost_ret (v := .tuple #[.agg (arr 255 gp), .agg (arr 256 expT)]) ?_ rfl ⟨rfl, hb.out.drew⟩
      rw [results_cell_two rfl]
      have h1 := run_loadVar_row (P := Try.prog) wr.drew w.heap.size 77 77 _ (0, 0) _ HP.out.drew Try.underlying77 rfl (by rw [arr_size]; exact sizeE)
      have h2 := run_loadVar_row (P := Try.prog) wr.drew (w.heap.size + 1) 75 75 _ (0, 0) _ HE.out.drew Try.underlying75 rfl (by rw [arr_size]; exact sizeP)
      show ((asAddr (.pointer (some ⟨w.heap.size, 0, none⟩))).run Try.prog _).andThen (fun a w₁ => ((loadVar 77 a).run Try.prog w₁).andThen fun v w₂ => ((asAddr (.pointer (some ⟨w.heap.size + 1, 0, none⟩))).run Try.prog w₂).andThen fun b w₃ => ((loadVar 75 b).run Try.prog w₃).andThen fun u w₄ => Result.ok (Value.tuple #[v, u]) w₄) = _
      simp only [asAddr, Sem.run_pure, Result.andThen, h1, h2]
end Go.Proofs.Ytinfjidclkgfnaa
namespace Go.Proofs.Ytinfjidclkgfnaa
open Go.RowKit

/-- the power with any exponent -/
def powI (a : UInt8) (n : Int) : UInt8 := if n < 0 then 0 else powU a n.toNat
theorem powI_neg (a : UInt8) (n : Int) (h : n < 0) : powI a n = 0 := if_pos h
theorem powI_nat (a : UInt8) (n : Nat) : powI a n = powU a n := by
  unfold powI
  rw [if_neg (by omega)]
  congr 1
theorem val_powI_neg (a : UInt8) (n : Int) (h : n < 0) : Value.int .u8 0 = .int .u8 (ev (powI a n)) := by rw [powI_neg a n h, ev_zero]
theorem val_powI_zero (a : UInt8) : Value.int .u8 1 = .int .u8 (ev (powI a 0)) := by
  rw [show powI a 0 = 1 from powI_nat a 0, ev_one]
theorem val_powI_of_zero (n : Nat) (h : n ≠ 0) : Value.int .u8 0 = .int .u8 (ev (powI 0 n)) := by rw [powI_nat, powU_zero n h, ev_zero]
theorem log_lt (a : UInt8) : logU a < 255 := expA_lt a 255 (Nat.le_refl _)
theorem ev_expT (a : UInt8) : ev (expT a.toNat) = (logU a : Int) := by
  unfold expT
  rw [UInt8.ofNat_toNat, ← ev_lit _ (Nat.lt_trans (log_lt a) (by decide))]
theorem log_mul (L r : Nat) (hL : L < 255) (hr : r < 255) : (L : Int) * (r : Int) = ((L * r : Nat) : Int) ∧ L * r ≤ 64516 := by
  refine ⟨by norm_cast, ?_⟩
  have := Nat.mul_le_mul (show L ≤ 254 by omega) (show r ≤ 254 by omega)
  omega
attribute [local irreducible] dblU lowU mulU expT arr gp expA logU powU powI

theorem run_store_first {P : Program} (w : World) (t : TypeId) (old cs : Array Value) (o : Obj) (hs : old.size = cs.size) (h1 : cs.all (·.oneCell') = true) :
    (storeCells ⟨w.heap.size, 0, none⟩ cs.toList 0).run P ((w.alloc (.cells old t)).alloc o) = .ok () ((w.alloc (.cells cs t)).alloc o) := by
  rw [run_storeCells_arr (P := P) _ w.heap.size t old cs (by rw [heap_past_arr _ _ _ (by simp)]; exact heap_alloc_last _ _) hs h1, setRow_past_arr _ _ _ _ (by simp), World.setRow_alloc_new]

set_option maxRecDepth 100000 in
set_option maxHeartbeats 1000000 in
theorem pow_any (a : UInt8) (n : Int) (w : World) (h0 : -9223372036854775808 ≤ n) (h1 : n ≤ 9223372036854775807) :
    Calls Try.prog 62 #[.int .u8 (ev a), .int .i64 n] w fun e w' => e = .returned (.int .u8 (ev (powI a n))) ∧ Below w.heap.size w w' := by
  by_cases hn : n < 0
  · have hr := Lib.hid (val_powI_neg a n hn)
    go_enter Try.func62, Try.ntmps62
    go_wp2
    rw [hr.out]
    go_ret
    exact ⟨rfl, Below.refl _ _⟩
  obtain ⟨N, rfl⟩ := Int.eq_ofNat_of_zero_le (show 0 ≤ n by omega)
  by_cases hN : N = 0
  · subst hN
    have hr := Lib.hid (val_powI_zero a)
    go_enter Try.func62, Try.ntmps62
    go_wp2
    go_ret
    exact ⟨congrArg _ hr.out, Below.refl _ _⟩
  by_cases ha : a = 0
  · subst ha
    have hr := Lib.hid (val_powI_of_zero N hN)
    have he := ev_zero
    go_enter Try.func62, Try.ntmps62
    go_wp2
    rw [hr.out]
    go_ret
    exact ⟨rfl, Below.refl _ _⟩
  have ha0 : ev a ≠ 0 := fun h => ha ((ev_eq0 a).1 h)
  have HP := Lib.hid (pow_log a N ha)
  have HV := Lib.hid (powI_nat a N)
  have hz := zeroP
  have hz2 := zeroE
  have x0 := ev_lo a
  have x1 := ev_hi a
  clear ha
  go_enter Try.func62, Try.ntmps62
  go_wp2_with fail
  refine (logs_any _).mono ?_
  rintro e w1 ⟨rfl, hb1⟩
  have HB1 := Lib.hid hb1
  clear hb1
  have hs1 := arr_size 255 gp
  have hs2 := arr_size 256 expT
  go_wp2_with fail
  rw [run_store_first _ _ _ _ _ (by rw [arr_size, arr_size]) (arr_one _ _)]
  simp only [Result.andThen]
  rw [Oper.upon_skip]
  go_wp2_with fail
  rw [run_storeCells_new_arr _ (w1.heap.size + 1) (by simp) _ _ _ (by rw [arr_size, arr_size]) (arr_one _ _)]
  simp only [Result.andThen]
  rw [Oper.upon_skip]
  clear hz hz2 hs1 hs2
  have hA : Arr ((w1.alloc (.cells (arr 255 gp) 77)).alloc (.cells (arr 256 expT) 75)) w1.heap.size 77 255 gp := (Arr.new _ _ _ _).past _
  have hE : Arr ((w1.alloc (.cells (arr 255 gp) 77)).alloc (.cells (arr 256 expT) 75)) (w1.heap.size + 1) 75 256 expT := by
    have := Arr.new (w1.alloc (.cells (arr 255 gp) 77)) 75 256 expT
    rwa [show (w1.alloc (.cells (arr 255 gp) 77)).heap.size = w1.heap.size + 1 by simp] at this
  have HB2 : Hid (Below w.heap.size w ((w1.alloc (.cells (arr 255 gp) 77)).alloc (.cells (arr 256 expT) 75))) := Lib.hid ((HB1.out.alloc HB1.out.size _).alloc (by have := HB1.out.size; simp; omega) _)
  generalize World.alloc (World.alloc w1 _) _ = w2 at hA hE HB2 ⊢
  have hj : (ev a).toNat = a.toNat := by rw [ev_nat]; rfl
  have hc := hE.cell (ev a).toNat (by omega)
  rw [hj, ev_expT, ← hj] at hc
  have hL := log_lt a
  obtain ⟨L, rfl⟩ : ∃ L, L = logU a := ⟨_, rfl⟩
  obtain ⟨r, hr⟩ : ∃ r, r = N % 255 := ⟨_, rfl⟩
  have hrl : r < 255 := by omega
  have hri : (N : Int) % 255 = (r : Int) := by omega
  have hm := (log_mul (logU a) r hL hrl).1
  have hmb := (log_mul (logU a) r hL hrl).2
  rw [← hr] at HP
  clear hr hj
  generalize logU a = L at HP hc hL hm hmb
  have hg := hA.cell (L * r % 255) (Nat.mod_lt _ (by decide))
  rw [HP.out] at hg
  generalize L * r = M at hm hmb hg
  have HR := Lib.hid hg
  go_wp2_with fail
  go_ret
  exact ⟨congrArg _ (by rw [HV.out]; rfl), HB2.out⟩

/-- is the element not 0? -/
def nz (a : UInt8) : Bool := decide (a ≠ 0)
theorem nz_yes (a : UInt8) (h : a ≠ 0) : nz a = true := by simp [nz, h]
theorem nz_no : nz 0 = false := by decide
theorem nz_ev (a : UInt8) : nz a = (ev a != 0) := by
  by_cases h : a = 0
  · subst h; rw [nz_no, ev_zero]; rfl
  · have : ev a ≠ 0 := fun h' => h ((ev_eq0 a).1 h')
    rw [nz_yes a h]; simp [this]
theorem powI_254 (a : UInt8) : powI a 254 = invU a := powI_nat a 254
attribute [local irreducible] invU nz

set_option maxRecDepth 100000 in
set_option maxHeartbeats 1000000 in
theorem inv_any (a : UInt8) (w : World) :
    Calls Try.prog 48 #[.int .u8 (ev a)] w fun e w' => e = .returned (.tuple #[.int .u8 (ev (invU a)), .bool (nz a)]) ∧ Below w.heap.size w w' := by
  have HN := Lib.hid (nz_ev a)
  go_enter Try.func48, Try.ntmps48
  go_wp2_with fail
  refine (pow_any _ _ _ (by decide) (by decide)).mono ?_
  rintro e w' ⟨rfl, hb⟩
  rw [powI_254]
  have HB := Lib.hid hb
  clear hb
  go_wp2
  go_ret2
  exact ⟨by rw [HN.out]; rfl, HB.out⟩
end Go.Proofs.Ytinfjidclkgfnaa
