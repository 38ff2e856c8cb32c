/- Plain facts: a plain macroblock in which one number is another; with one block more, or fewer, or a shorter one. -/
import Derived.Test.YtpmmnjeomdjakaaDoorMgA
namespace Go.Proofs.YtpmmnjeomdjakaaDoor
open Go.RowKit
set_option linter.unusedVariables false
set_option linter.unusedSimpArgs false

theorem errs10 {y : MV} {R a1 a2 a3 a4 a5 a6 a7 a8 a9 a10 : Int} (h1 : fixE (y.kind == 1) [y.mode] 0 3 = a1) (h2 : fixE (y.kind == 0 || y.kind == 1) [y.chroma] 0 3 = a2) (h3 : fixE (y.kind == 0) y.pr.l 0 8 = a3) (h4 : fixE (y.kind == 6) y.sb.l 0 3 = a4)
    (h5 : listE y.refs (partsI y.kind) 0 (R - 1) = a5) (h6 : mvdsP y = a6) (h7 : cbpW y = a7) (h8 : fixE (hasQ y) [y.qp] (-26) 25 = a8) (h9 : blksP y = a9) (h10 : pcmW y = a10) : errsP y R = [a1, a2, a3, a4, a5, a6, a7, a8, a9, a10] := by
  unfold errsP
  rw [h1, h2, h3, h4, h5, h6, h7, h8, h9, h10]
section
variable {K c R : Int} (k0 : 0 ≤ K) (k7 : K ≤ 7) (c0 : 0 ≤ c) (c1 : c ≤ 255) (r : 1 ≤ R)
include k0 k7 c0 c1 r
theorem pl_ten : fixE ((plainM K c).kind == 1) [(plainM K c).mode] 0 3 = 0 ∧ fixE ((plainM K c).kind == 0 || (plainM K c).kind == 1) [(plainM K c).chroma] 0 3 = 0 ∧ fixE ((plainM K c).kind == 0) (plainM K c).pr.l 0 8 = 0 ∧ fixE ((plainM K c).kind == 6) (plainM K c).sb.l 0 3 = 0 ∧
    listE (plainM K c).refs (partsI (plainM K c).kind) 0 (R - 1) = 0 ∧ mvdsP (plainM K c) = 0 ∧ cbpW (plainM K c) = 0 ∧ fixE (hasQ (plainM K c)) [(plainM K c).qp] (-26) 25 = 0 ∧ blksP (plainM K c) = 0 ∧ pcmW (plainM K c) = 0 := by
  have h := pl_errs K c R k0 k7 c0 c1 r
  unfold errsP at h
  simp only [List.cons.injEq, and_true] at h
  exact h
theorem sp_qp (n : Int) : firstE (errsP { plainM K c with qp := n } R) = fixE (hasQ (plainM K c)) [n] (-26) 25 := by
  obtain ⟨h1, h2, h3, h4, h5, h6, h7, h8, h9, h10⟩ := pl_ten k0 k7 c0 c1 r
  rw [errs10 (y := { plainM K c with qp := n }) h1 h2 h3 h4 h5 h6 h7 rfl h9 h10]
  show firstE [0, 0, 0, 0, 0, 0, 0, fixE (hasQ (plainM K c)) [n] (-26) 25, 0, 0] = _
  simp only [firstE_cons, firstE_nil, or2_zero]
  simp [or2]
theorem sp_mode (n : Int) : firstE (errsP { plainM K c with mode := n } R) = fixE (K == 1) [n] 0 3 := by
  obtain ⟨h1, h2, h3, h4, h5, h6, h7, h8, h9, h10⟩ := pl_ten k0 k7 c0 c1 r
  rw [errs10 (y := { plainM K c with mode := n }) rfl h2 h3 h4 h5 h6 h7 h8 h9 h10]
  show firstE [fixE ((plainM K c).kind == 1) [n] 0 3, 0, 0, 0, 0, 0, 0, 0, 0, 0] = _
  rw [pl_kind]
  simp only [firstE_cons, firstE_nil, or2_zero]
theorem sp_pr (q : P16) (i : Nat) (n : Int) (hi : i < 16) (hq : q.l = P16.zero.l.set i n) : firstE (errsP { plainM K c with pr := q } R) = if (K == 0) = true then (if inI n 0 8 = true then 0 else 3) else (if n = 0 then 0 else 2) := by
  obtain ⟨h1, h2, h3, h4, h5, h6, h7, h8, h9, h10⟩ := pl_ten k0 k7 c0 c1 r
  rw [errs10 (y := { plainM K c with pr := q }) h1 h2 rfl h4 h5 h6 h7 h8 h9 h10]
  show firstE [0, 0, fixE ((plainM K c).kind == 0) q.l 0 8, 0, 0, 0, 0, 0, 0, 0] = _
  rw [pl_kind, hq]
  have a8 := allI_set P16.zero.l i n 0 8 hi (by decide)
  have a0 := allI_set P16.zero.l i n 0 0 hi (by decide)
  simp only [firstE_cons, firstE_nil, or2_zero]
  unfold fixE
  rw [a8, a0, inI_z]
  simp [or2]
theorem sp_refs (i : Nat) (n : Int) (hi : i < nRef K) : firstE (errsP { plainM K c with refs := (plainM K c).refs.set i n } R) = if inI n 0 (R - 1) = true then 0 else 3 := by
  obtain ⟨h1, h2, h3, h4, h5, h6, h7, h8, h9, h10⟩ := pl_ten k0 k7 c0 c1 r
  rw [errs10 (y := { plainM K c with refs := (plainM K c).refs.set i n }) h1 h2 h3 h4 rfl h6 h7 h8 h9 h10]
  show firstE [0, 0, 0, 0, listE ((plainM K c).refs.set i n) (partsI (plainM K c).kind) 0 (R - 1), 0, 0, 0, 0, 0] = _
  rw [pl_kind, pl_refsv]
  have z := e5_zero K R k0 k7 r
  unfold listE at z ⊢
  rw [List.length_set]
  have hl : (((List.replicate (nRef K) (0 : Int)).length : Nat) : Int) = partsI K := by
    by_cases h : (((List.replicate (nRef K) (0 : Int)).length : Nat) : Int) = partsI K
    · exact h
    · rw [if_neg h] at z; omega
  rw [if_pos hl, allI_set _ i n 0 (R - 1) (by rw [List.length_replicate]; exact hi) (fun p hp => by rw [(List.mem_replicate.1 hp).2]; unfold inI; rw [decide_eq_true (by omega : 0 ≤ R - 1)]; rfl)]
  simp only [firstE_cons, firstE_nil, or2_zero]
  simp [or2]
theorem sp_mvds (i : Nat) (n : Int) (hi : i < nRef K) : firstE (errsP { plainM K c with mvds := (plainM K c).mvds.set i (n, 0) } R) = if inI n (-8192) 8192 = true then 0 else 3 := by
  obtain ⟨h1, h2, h3, h4, h5, h6, h7, h8, h9, h10⟩ := pl_ten k0 k7 c0 c1 r
  rw [errs10 (y := { plainM K c with mvds := (plainM K c).mvds.set i (n, 0) }) h1 h2 h3 h4 h5 rfl h7 h8 h9 h10]
  have e : mvdsP { plainM K c with mvds := (plainM K c).mvds.set i (n, 0) } = if inI n (-8192) 8192 = true then 0 else 3 := by
    unfold mvdsP
    show (if ((((plainM K c).mvds.set i (n, 0)).length : Nat) : Int) = (piecesN (plainM K c).kind.toNat (subN (plainM K c).sb)).1 then firstE (((plainM K c).mvds.set i (n, 0)).map mvdE) else 2) = _
    rw [List.length_set, pl_mvdsv, pl_kind, pl_sb, List.length_replicate, if_pos (pieces_zero K k0 k7)]
    have key : ∀ (m j : Nat), j < m → firstE (((List.replicate m ((0, 0) : Int × Int)).set j (n, 0)).map mvdE) = if inI n (-8192) 8192 = true then 0 else 3 := by
      intro m
      induction m with
      | zero => intro j hj; omega
      | succ m ih =>
        intro j hj
        cases j with
        | zero =>
          rw [List.replicate_succ, List.set_cons_zero, List.map_cons, firstE_cons, List.map_replicate, show mvdE (0, 0) = 0 from rfl, firstE_rep, or2_zero]
          unfold mvdE rngE
          rw [show inI ((n, (0 : Int))).2 (-8192) 8192 = true from rfl, Bool.and_true]
        | succ j =>
          rw [List.replicate_succ, List.set_cons_succ, List.map_cons, firstE_cons, show mvdE (0, 0) = 0 from rfl]
          exact ih j (by omega)
    exact key _ _ hi
  rw [e]
  simp only [firstE_cons, firstE_nil, or2_zero]
  simp [or2]
theorem blks_only (bs : List (List Int)) (e : Int) (hb : blksP { plainM K c with blocks := bs } = e) : firstE (errsP { plainM K c with blocks := bs } R) = e := by
  obtain ⟨h1, h2, h3, h4, h5, h6, h7, h8, h9, h10⟩ := pl_ten k0 k7 c0 c1 r
  rw [errs10 (y := { plainM K c with blocks := bs }) h1 h2 h3 h4 h5 h6 h7 h8 hb h10]
  simp only [firstE_cons, firstE_nil, or2_zero]
  simp [or2]
end
/-- A block of a row of zeros is another one. -/
theorem blksE_set : ∀ (L : List Cod) (k : Nat) (y : Cod) (b' : List Int), (∀ c, c ∈ L → 0 ≤ c.1 ∧ c.1 ≤ 4) → L[k]? = some y → firstE (blksE L ((zerosB L).set k b')) = listE b' (sizeI y.1).1 (-32768) 32768
  | [], k, y, b', h, hk => by simp at hk
  | c :: L, k, y, b', h, hk => by
    unfold zerosB
    cases k with
    | zero =>
      simp at hk
      subst hk
      rw [List.map_cons, List.set_cons_zero, blksE, firstE_append, firstE_blk]
      have := blksE_zeros L (fun c hc => h c (List.mem_cons_of_mem _ hc))
      unfold zerosB at this
      rw [this]
      by_cases h : listE b' (sizeI c.1).1 (-32768) 32768 = 0
      · rw [if_pos h, h]
      · rw [if_neg h]
    | succ k =>
      simp at hk
      rw [List.map_cons, List.set_cons_succ, blksE, firstE_append]
      have z := blksE_zeros [c] (fun c' hc => h c' (by simp at hc; simp [hc]))
      unfold zerosB at z
      rw [List.map_cons, List.map_nil, blksE, show blksE [] [] = [] from rfl, List.append_nil] at z
      rw [z, if_pos rfl]
      exact blksE_set L k y b' (fun c hc => h c (List.mem_cons_of_mem _ hc)) hk
theorem zerosB_at (L : List Cod) (k : Nat) (b : List Int) (h : (zerosB L)[k]? = some b) : ∃ y, L[k]? = some y ∧ b = List.replicate (sizeI y.1).1.toNat 0 := by
  unfold zerosB at h
  rw [List.getElem?_map] at h
  obtain ⟨y, hy, e⟩ := Option.map_eq_some_iff.1 h
  exact ⟨y, hy, e.symm⟩
theorem size_nat {y : Cod} (h : 0 ≤ y.1 ∧ y.1 ≤ 4) : (((sizeI y.1).1.toNat : Nat) : Int) = (sizeI y.1).1 ∧ 1 ≤ (sizeI y.1).1 := by
  obtain ⟨k, hk⟩ := Int.eq_ofNat_of_zero_le h.1
  rw [hk, sizeI_tab k (by omega)]
  have : k = 0 ∨ k = 1 ∨ k = 2 ∨ k = 3 ∨ k = 4 := by omega
  rcases this with rfl | rfl | rfl | rfl | rfl <;> decide
/-- One coefficient is another one. -/
theorem blks_spoilt (K c : Int) (k j : Nat) (b : List Int) (n : Int) (hb : (plainM K c).blocks[k]? = some b) (hj : j < b.length) : blksP { plainM K c with blocks := (plainM K c).blocks.set k (b.set j n) } = if inI n (-32768) 32768 = true then 0 else 3 := by
  have hw : whichL { plainM K c with blocks := (plainM K c).blocks.set k (b.set j n) } = blocksL K.toNat (cbpP K c).toNat := pl_which K c
  unfold blksP
  rw [hw]
  show (if ((plainM K c).blocks.set k (b.set j n)).length = _ then firstE (blksE _ ((plainM K c).blocks.set k (b.set j n))) else 2) = _
  rw [pl_blocksv] at hb ⊢
  rw [List.length_set, if_pos (zerosB_len _)]
  obtain ⟨y, hy, e⟩ := zerosB_at _ _ _ hb
  have hc := blocksL_cat _ _ y (List.mem_of_getElem? hy)
  rw [blksE_set _ k y _ (fun c hc => blocksL_cat _ _ c hc) hy]
  unfold listE
  have hl : ((b.set j n).length : Int) = (sizeI y.1).1 := by rw [List.length_set, e, List.length_replicate]; exact (size_nat hc).1
  rw [if_pos hl, allI_set b j n _ _ hj (fun p hp => by rw [e] at hp; rw [(List.mem_replicate.1 hp).2]; rfl)]
/-- A block is one coefficient shorter. -/
theorem blks_short (K c : Int) (k : Nat) (b : List Int) (hb : (plainM K c).blocks[k]? = some b) : blksP { plainM K c with blocks := (plainM K c).blocks.set k (b.drop 1) } = 2 := by
  have hw : whichL { plainM K c with blocks := (plainM K c).blocks.set k (b.drop 1) } = blocksL K.toNat (cbpP K c).toNat := pl_which K c
  unfold blksP
  rw [hw]
  show (if ((plainM K c).blocks.set k (b.drop 1)).length = _ then firstE (blksE _ ((plainM K c).blocks.set k (b.drop 1))) else 2) = _
  rw [pl_blocksv] at hb ⊢
  rw [List.length_set, if_pos (zerosB_len _)]
  obtain ⟨y, hy, e⟩ := zerosB_at _ _ _ hb
  have hc := blocksL_cat _ _ y (List.mem_of_getElem? hy)
  rw [blksE_set _ k y _ (fun c hc => blocksL_cat _ _ c hc) hy]
  unfold listE
  have hs := size_nat hc
  rw [if_neg (by rw [List.length_drop, e, List.length_replicate]; omega)]
/-- Another number of blocks. -/
theorem blks_many (K c : Int) (bs : List (List Int)) (h : bs.length ≠ (plainM K c).blocks.length) : blksP { plainM K c with blocks := bs } = 2 := by
  have hw : whichL { plainM K c with blocks := bs } = blocksL K.toNat (cbpP K c).toNat := pl_which K c
  unfold blksP
  rw [hw]
  show (if bs.length = _ then firstE (blksE _ bs) else 2) = _
  rw [pl_blocksv, zerosB_len] at h
  rw [if_neg h]
end Go.Proofs.YtpmmnjeomdjakaaDoor
