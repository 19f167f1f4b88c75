/-
  Plain mathematics: what begins where a frame begins.
-/
import Derived.Test.YtbbdkghkdmaolaaDoorFMath
namespace Go.Proofs.YtbbdkghkdmaolaaDoor
set_option linter.unusedSimpArgs false

theorem frm_eq (body rest : List UInt8) : frm body ++ rest = 167 :: 60 :: (be4 body.length ++ (be4 (crc (be4 body.length ++ body)) ++ (body ++ rest))) := by
  simp [frm, List.append_assoc]
theorem drop4 (n : Nat) (l : List UInt8) : (be4 n ++ l).drop 4 = l := List.drop_left' (be4_length n)
theorem take4 (n : Nat) (l : List UInt8) : (be4 n ++ l).take 4 = be4 n := List.take_left' (be4_length n)
theorem hd_frm (body rest : List UInt8) (h : body.length ≤ 65536) : hd (frm body ++ rest) = (body.length, 0) := by
  have e2 : (frm body ++ rest).drop 2 = be4 body.length ++ (be4 (crc (be4 body.length ++ body)) ++ (body ++ rest)) := by rw [frm_eq]; rfl
  have e6 : (frm body ++ rest).drop 6 = be4 (crc (be4 body.length ++ body)) ++ (body ++ rest) := by
    rw [show 6 = 2 + 4 from rfl, ← List.drop_drop, e2, drop4]
  have e10 : (frm body ++ rest).drop 10 = body ++ rest := by
    rw [show 10 = 6 + 4 from rfl, ← List.drop_drop, e6, drop4]
  have et : (frm body ++ rest).take 2 = [167, 60] := by rw [frm_eq]; rfl
  have hl : (frm body ++ rest).length = body.length + 10 + rest.length := by rw [List.length_append, frm_length]
  have hn : num4 ((frm body ++ rest).drop 2) = body.length := by rw [e2, num4_be4 _ (by omega)]
  unfold hd
  rw [if_neg (by omega), if_neg (fun h => h et), hn, if_neg (by omega), if_neg (by omega), e6, e10, e2, take4, List.take_left' rfl, num4_be4 _ (crc_lt _), if_neg (fun h => h rfl)]
theorem chk_frm (pre body rest : List UInt8) (h : body.length ≤ 65536) : chk (pre ++ (frm body ++ rest)) pre.length = (((pre.length + body.length + 10 : Nat) : Int), 0) ∧ bodyAt (pre ++ (frm body ++ rest)) pre.length = body := by
  have hd0 : hd ((pre ++ (frm body ++ rest)).drop pre.length) = (body.length, 0) := by rw [List.drop_left' rfl, hd_frm body rest h]
  have hc : chk (pre ++ (frm body ++ rest)) pre.length = (((pre.length + body.length + 10 : Nat) : Int), 0) := by
    rw [chk_nat _ _ (by simp), hd0, if_pos rfl]
    exact Prod.ext (by dsimp only; omega) rfl
  refine ⟨hc, ?_⟩
  obtain ⟨n, hn, _, _, _, hb, _⟩ := chk_ok (xs := pre ++ (frm body ++ rest)) (a := pre.length) (by rw [hc])
  obtain rfl : n = pre.length := by omega
  rw [hb, hd0, ← List.drop_drop, List.drop_left' rfl, show (frm body ++ rest).drop 10 = body ++ rest from ?_, List.take_left' rfl]
  rw [show 10 = 2 + 4 + 4 from rfl, ← List.drop_drop, ← List.drop_drop, frm_eq]
  show ((be4 _ ++ (be4 _ ++ _)).drop 4).drop 4 = _
  rw [drop4, drop4]
end Go.Proofs.YtbbdkghkdmaolaaDoor
