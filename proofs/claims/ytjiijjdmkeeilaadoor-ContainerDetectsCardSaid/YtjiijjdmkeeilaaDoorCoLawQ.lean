/-
  What a build that went well has made.
-/
import Derived.Test.YtjiijjdmkeeilaaDoorCAZ
import Derived.Test.YtjiijjdmkeeilaaDoorCAX
namespace Go.Proofs.YtjiijjdmkeeilaaDoor
open Go.RowKit
set_option linter.unusedVariables false
theorem payB_cnt {p : List UInt8} (v : Int) (hp : p.length ≤ 600) : (payB v p).length ≤ 30 := by
  unfold payB
  rw [List.length_map, List.length_range]
  rcases szP_cases v with ⟨_, e, _⟩ | ⟨_, e, _⟩ <;> (rw [e]; omega)
theorem payB_dat (v : Int) (p : List UInt8) : ∀ x ∈ payB v p, x.d.length ≤ 64 := by
  intro x hx
  unfold payB at hx
  obtain ⟨i, -, rfl⟩ := List.mem_map.1 hx
  have hl := piece_len (szP v) p i
  rcases szP_cases v with ⟨hv, e, _⟩ | ⟨hv, e, _⟩
  · rw [e] at hl ⊢
    unfold pcB
    rw [if_pos hv]
    show (_ ++ be4 _).length ≤ 64
    rw [List.length_append, hl]
    have : (be4 (crc (piece 60 p i))).length = 4 := rfl
    omega
  · rw [e] at hl ⊢
    unfold pcB
    rw [if_neg hv]
    show (piece 64 p i).length ≤ 64
    omega
/-- the blocks and the header of a build that went well -/
structure BtOk (S : Hdr) (b : List UInt8) (L : List Blk) (G : Hdr) : Prop where
  eqL : L = hbL G ++ payB S.vr b
  eqG : G = hdP S b
  v : VHdr G
  p : prtsB S.es b = true
  fit : G.Fit
  cnt : L.length ≤ 100
  dat : ∀ x ∈ L, x.d.length ≤ 64
  bl : blU G = (L.length : Int)
  hb : hbU G = ((hbL G).length : Int)
  vld : vldH G = true
  sz : G.sz = (b.length : Int)
  par : ∀ z, parH (L ++ z) = (G, ((hbL G).length : Int), 0)
  pay : ∀ z, payU (L ++ z) = (G, b, 0)
  len : G.es.length ≤ 64
theorem bld_cases {S : Hdr} {b : List UInt8} (hf : S.Fit) (hb : b.length ≤ 600) : (∃ k : Int, (k != 0) = true ∧ bldR S b = ([], .zero, k)) ∨ ∃ L G, bldR S b = (L, G, 0) ∧ BtOk S b L G := by
  rcases bldR_ok S b with e | e | ⟨e, hv, hp⟩
  · exact .inl ⟨4, rfl, e⟩
  · exact .inl ⟨8, rfl, e⟩
  · have hfit : (hdP S b).Fit := ⟨crc_lt b, hf.2⟩
    have hvl := vldH_iff.2 hv
    have hpl := payB_length S b
    refine .inr ⟨_, _, e, rfl, rfl, hv, hp, hfit, ?_, ?_, ?_, ?_, hvl, rfl, ?_, payU_back hv hf.2 hp, hv.len⟩
    · rw [List.length_append]
      have h1 := (hbL_short hv (crc_lt b) hf.2).2
      have h2 := payB_cnt S.vr hb
      omega
    · intro x hx
      rcases List.mem_append.1 hx with hx | hx
      · rw [(hbL_ok _ x hx).2]; exact Nat.le_refl _
      · exact payB_dat _ _ x hx
    · unfold blU
      rw [if_pos hvl, List.length_append, ← hpl]
      push_cast
      rfl
    · unfold hbU
      rw [if_pos hvl]
    · intro z
      rw [List.append_assoc]
      exact parH_back hv (crc_lt b) hf.2 _
end Go.Proofs.YtjiijjdmkeeilaaDoor
