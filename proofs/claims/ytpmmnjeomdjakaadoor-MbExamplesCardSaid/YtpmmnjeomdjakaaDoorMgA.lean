/- Plain facts: what Check says of a plain macroblock, and of one in which one number, or one list, is another. -/
import Derived.Test.YtpmmnjeomdjakaaDoorMqS
import Derived.Test.YtpmmnjeomdjakaaDoorMmb21
namespace Go.Proofs.YtpmmnjeomdjakaaDoor
open Go.RowKit
set_option linter.unusedVariables false
set_option linter.unusedSimpArgs false

theorem pl_kind (K c : Int) : (plainM K c).kind = K := by unfold plainM pcmP; split <;> rfl
theorem pl_mode (K c : Int) : (plainM K c).mode = 0 := by unfold plainM pcmP; split <;> rfl
theorem pl_chroma (K c : Int) : (plainM K c).chroma = 0 := by unfold plainM pcmP; split <;> rfl
theorem pl_pr (K c : Int) : (plainM K c).pr = .zero := by unfold plainM pcmP; split <;> rfl
theorem pl_sb (K c : Int) : (plainM K c).sb = .zero := by unfold plainM pcmP; split <;> rfl
theorem pl_cbpv (K c : Int) : (plainM K c).cbp = cbpP K c := by unfold plainM pcmP; split <;> rfl
theorem pl_qp (K c : Int) : (plainM K c).qp = 0 := by unfold plainM pcmP; split <;> rfl
theorem pl_refsv (K c : Int) : (plainM K c).refs = List.replicate (nRef K) 0 := by unfold plainM pcmP; split <;> rfl
theorem pl_mvdsv (K c : Int) : (plainM K c).mvds = List.replicate (nRef K) (0, 0) := by unfold plainM pcmP; split <;> rfl
theorem pl_which (K c : Int) : whichL (plainM K c) = blocksL K.toNat (cbpP K c).toNat := by unfold whichL; rw [pl_kind, pl_cbpv]
theorem pl_blocksv (K c : Int) : (plainM K c).blocks = zerosB (blocksL K.toNat (cbpP K c).toNat) := by unfold plainM pcmP; split <;> rfl
theorem pl_pcmv (K c : Int) : ((plainM K c).pcm.size : Int) = if K = 2 then 384 else 0 := by
  unfold plainM pcmP
  by_cases h : K = 2
  · subst h
    rw [if_pos rfl]
    split
    · show ((zeroPcm.size : Nat) : Int) = 384
      decide +kernel
    · rename_i hn; exact absurd rfl hn
  · rw [if_neg h]
    split
    · rename_i hn; exact absurd hn h
    · rfl
theorem nRef_le (K : Int) : nRef K ≤ 4 := by unfold nRef; split; omega; split; omega; split <;> omega
theorem kinds8 {K : Int} (k0 : 0 ≤ K) (k7 : K ≤ 7) : K = 0 ∨ K = 1 ∨ K = 2 ∨ K = 3 ∨ K = 4 ∨ K = 5 ∨ K = 6 ∨ K = 7 := by omega
theorem allI_rep (n : Nat) (lo hi : Int) (h : inI 0 lo hi = true) : allI (List.replicate n 0) lo hi = true := by
  unfold allI
  rw [List.all_eq_true]
  intro x hx
  rw [(List.mem_replicate.1 hx).2]
  exact h
theorem allI_set (l : List Int) (i : Nat) (n lo hi : Int) (hi' : i < l.length) (h : ∀ p, p ∈ l → inI p lo hi = true) : allI (l.set i n) lo hi = inI n lo hi := by
  unfold allI
  induction l generalizing i with
  | nil => simp at hi'
  | cons x l ih =>
    cases i with
    | zero =>
      rw [List.set_cons_zero, List.all_cons]
      have : (l.all fun n => inI n lo hi) = true := by rw [List.all_eq_true]; exact fun p hp => h p (List.mem_cons_of_mem _ hp)
      rw [this, Bool.and_true]
    | succ i =>
      rw [List.set_cons_succ, List.all_cons, h x (by simp), Bool.true_and]
      exact ih i (by simpa using hi') (fun p hp => h p (List.mem_cons_of_mem _ hp))
theorem fix_zero (b : Bool) (l : List Int) (hi : Int) (hh : 0 ≤ hi) (h : ∀ p, p ∈ l → p = 0) : fixE b l 0 hi = 0 := by
  have e : ∀ m : Int, 0 ≤ m → allI l 0 m = true := fun m hm => by
    unfold allI
    rw [List.all_eq_true]
    intro p hp
    rw [h p hp]
    unfold inI
    rw [decide_eq_true hm]; rfl
  unfold fixE
  cases b
  · simp [e 0 (by omega)]
  · simp [e hi hh]
theorem cbpP_le (K c : Int) (c0 : 0 ≤ c) (c1 : c ≤ 255) : 0 ≤ cbpP K c ∧ cbpP K c ≤ 47 := by
  unfold cbpP
  split
  · split <;> omega
  · omega
theorem e5_zero (K R : Int) (k0 : 0 ≤ K) (k7 : K ≤ 7) (r : 1 ≤ R) : listE (List.replicate (nRef K) 0) (partsI K) 0 (R - 1) = 0 := by
  unfold listE
  have e : (((List.replicate (nRef K) (0 : Int)).length : Nat) : Int) = partsI K := by
    rw [List.length_replicate]
    rcases kinds8 k0 k7 with rfl | rfl | rfl | rfl | rfl | rfl | rfl | rfl <;> rfl
  rw [if_pos e, if_pos (allI_rep _ _ _ (by unfold inI; rw [decide_eq_true (by omega : 0 ≤ R - 1)]; rfl))]
theorem pieces_zero (K : Int) (k0 : 0 ≤ K) (k7 : K ≤ 7) : ((nRef K : Nat) : Int) = (piecesN K.toNat (subN .zero)).1 := by
  rcases kinds8 k0 k7 with rfl | rfl | rfl | rfl | rfl | rfl | rfl | rfl <;> decide +kernel
theorem firstE_rep (n : Nat) : firstE (List.replicate n 0) = 0 := by
  rw [firstE_zero]
  intro e he
  exact (List.mem_replicate.1 he).2
theorem blksE_zeros : ∀ L : List Cod, (∀ c, c ∈ L → 0 ≤ c.1 ∧ c.1 ≤ 4) → firstE (blksE L (zerosB L)) = 0
  | [], _ => rfl
  | c :: L, h => by
    unfold zerosB
    rw [List.map_cons, blksE, firstE_append, firstE_blk]
    have z : listE (List.replicate (sizeI c.1).1.toNat 0) (sizeI c.1).1 (-32768) 32768 = 0 := by
      unfold listE
      have hc := h c (by simp)
      have e : (((List.replicate (sizeI c.1).1.toNat (0 : Int)).length : Nat) : Int) = (sizeI c.1).1 := by
        rw [List.length_replicate]
        obtain ⟨k, hk⟩ := Int.eq_ofNat_of_zero_le hc.1
        rw [hk, sizeI_tab k (by omega)]
        have : k = 0 ∨ k = 1 ∨ k = 2 ∨ k = 3 ∨ k = 4 := by omega
        rcases this with rfl | rfl | rfl | rfl | rfl <;> rfl
      rw [if_pos e, if_pos (allI_rep _ _ _ rfl)]
    rw [z, if_pos rfl]
    exact blksE_zeros L (fun c hc => h c (List.mem_cons_of_mem _ hc))
theorem e7_zero (K c : Int) (c0 : 0 ≤ c) (c1 : c ≤ 255) (x : MV) (hk : x.kind = K) (hc : x.cbp = cbpP K c) : cbpW x = 0 := by
  unfold cbpW
  rw [hk, hc]
  by_cases h1 : K = 1
  · subst h1
    have e : cbpP 1 c = c % 3 * 16 + c / 3 % 2 * 15 := by
      unfold cbpP
      rw [if_pos (by decide), if_pos rfl]
    have hm : cbpP 1 c % 16 = 0 ∨ cbpP 1 c % 16 = 15 := by
      rw [e]
      have h2 : c / 3 % 2 = 0 ∨ c / 3 % 2 = 1 := by omega
      rcases h2 with h2 | h2
      · rw [h2]; exact .inl (by omega)
      · rw [h2]; exact .inr (by omega)
    rw [if_neg (by omega)]
    unfold fixE
    rw [if_pos (by decide)]
    have := cbpP_le 1 c c0 c1
    simp [allI, inI, this.1, this.2]
  · rw [if_neg (fun h => h1 h.1)]
    unfold fixE
    by_cases h : codedI K = true
    · rw [if_pos h]
      have := cbpP_le K c c0 c1
      simp [allI, inI, this.1, this.2]
    · rw [if_neg h]
      have : cbpP K c = 0 := by unfold cbpP; rw [if_neg h]
      rw [this]
      rfl
theorem p16z : ∀ p, p ∈ P16.zero.l → p = 0 := by decide
theorem s4z : ∀ p, p ∈ S4.zero.l → p = 0 := by decide
theorem pl_e6 (K c : Int) (k0 : 0 ≤ K) (k7 : K ≤ 7) : mvdsP (plainM K c) = 0 := by
  unfold mvdsP
  rw [pl_mvdsv, pl_kind, pl_sb, List.length_replicate, if_pos (pieces_zero K k0 k7), List.map_replicate]
  exact firstE_rep _
theorem pl_e9 (K c : Int) : blksP (plainM K c) = 0 := by
  unfold blksP
  rw [pl_which, pl_blocksv, if_pos (by simp [zerosB])]
  exact blksE_zeros _ (fun c hc => blocksL_cat _ _ c hc)
theorem pl_e10 (K c : Int) : pcmW (plainM K c) = 0 := by
  unfold pcmW
  rw [pl_pcmv, pl_kind, decide_eq_true rfl]
  rfl
/-- All ten of a plain macroblock. -/
theorem pl_errs (K c R : Int) (k0 : 0 ≤ K) (k7 : K ≤ 7) (c0 : 0 ≤ c) (c1 : c ≤ 255) (r : 1 ≤ R) : errsP (plainM K c) R = [0, 0, 0, 0, 0, 0, 0, 0, 0, 0] := by
  unfold errsP
  rw [pl_mode, pl_chroma, pl_pr, pl_sb, pl_refsv, pl_qp, pl_e6 K c k0 k7, e7_zero K c c0 c1 _ (pl_kind K c) (pl_cbpv K c), pl_e9, pl_e10, pl_kind, e5_zero K R k0 k7 r]
  rw [fix_zero _ [0] 3 (by omega) (by simp), fix_zero _ [0] 3 (by omega) (by simp), fix_zero _ _ 8 (by omega) p16z, fix_zero _ _ 3 (by omega) s4z]
  have : fixE (hasQ (plainM K c)) [0] (-26) 25 = 0 := by
    unfold fixE
    cases hasQ (plainM K c) <;> rfl
  rw [this]
/-- What Check answers, by the ten. -/
theorem check_errs (x : MV) (R : Int) (hx : MIn x) (hk : x.kind ≤ 7) (r0 : 1 ≤ R) (r1 : R ≤ 32) : checkI x false R = firstE (errsP x R) := by
  unfold checkI
  rw [if_neg (by unfold refsOk inI; simp; omega), if_neg (by unfold kindOk; simp; omega), errs_all x R hx hk]
theorem pl_in (K c : Int) (k0 : 0 ≤ K) (k7 : K ≤ 7) (c0 : 0 ≤ c) (c1 : c ≤ 255) : MIn (plainM K c) := by
  have := cbpP_le K c c0 c1
  exact ⟨by rw [pl_kind]; omega, by rw [pl_kind]; omega, by rw [pl_mode]; omega, by rw [pl_mode]; omega, by rw [pl_chroma]; omega, by rw [pl_chroma]; omega, by rw [pl_pr]; intro y hy; have := p16z y hy; omega, by rw [pl_sb]; intro y hy; have := s4z y hy; omega,
    by rw [pl_cbpv]; omega, by rw [pl_cbpv]; omega, by rw [pl_qp]; omega, by rw [pl_qp]; omega⟩
theorem zerosB_len (L : List Cod) : (zerosB L).length = L.length := by simp [zerosB]
theorem zerosB_in (L : List Cod) (h : ∀ c, c ∈ L → 0 ≤ c.1 ∧ c.1 ≤ 4) : ∀ l, l ∈ zerosB L → l.length ≤ 16 ∧ 1 ≤ l.length ∧ ∀ p, p ∈ l → p = 0 := by
  intro l hl
  unfold zerosB at hl
  obtain ⟨c, hc, rfl⟩ := List.mem_map.1 hl
  rw [List.length_replicate]
  obtain ⟨k, hk⟩ := Int.eq_ofNat_of_zero_le (h c hc).1
  have h4 := (h c hc).2
  rw [hk, sizeI_tab k (by omega)]
  have : k = 0 ∨ k = 1 ∨ k = 2 ∨ k = 3 ∨ k = 4 := by omega
  refine ⟨?_, ?_, fun p hp => (List.mem_replicate.1 hp).2⟩
  all_goals rcases this with rfl | rfl | rfl | rfl | rfl <;> decide
theorem pl_few (K c : Int) : MFew (plainM K c) := by
  refine ⟨by rw [pl_refsv, List.length_replicate]; have := nRef_le K; omega, by rw [pl_mvdsv, List.length_replicate]; have := nRef_le K; omega, ?_, ?_⟩
  · rw [pl_blocksv, zerosB_len]
    have := blocksL_len K.toNat (cbpP K c).toNat
    omega
  · rw [pl_blocksv]
    intro l hl
    have := (zerosB_in _ (fun c hc => blocksL_cat _ _ c hc) l hl).1
    omega
theorem pl_check (K c R : Int) (k0 : 0 ≤ K) (k7 : K ≤ 7) (c0 : 0 ≤ c) (c1 : c ≤ 255) (r0 : 1 ≤ R) (r1 : R ≤ 32) : checkI (plainM K c) false R = 0 := by
  rw [check_errs _ R (pl_in K c k0 k7 c0 c1) (by rw [pl_kind]; exact k7) r0 r1, pl_errs K c R k0 k7 c0 c1 r0]
  rfl
theorem pl_checkI (K c : Int) (k0 : 0 ≤ K) (k7 : K ≤ 7) (c0 : 0 ≤ c) (c1 : c ≤ 255) : (checkI (plainM K c) true 0 = 0) ↔ intraI K = true := by
  constructor
  · intro h
    have := (checkI_zero.1 h).2.1
    unfold kindOk at this
    rw [pl_kind] at this
    simpa using (Bool.and_eq_true_iff.1 this).2
  · intro h
    unfold checkI
    rw [if_neg (by unfold refsOk; decide), if_neg (by unfold kindOk; rw [pl_kind, h]; simp; omega)]
    rw [← errs_all _ 0 (pl_in K c k0 k7 c0 c1) (by rw [pl_kind]; exact k7)]
    have hn : partsI K = 0 ∧ nRef K = 0 := by
      unfold intraI at h
      have h' := of_decide_eq_true h
      rcases h' with rfl | rfl | rfl <;> exact ⟨rfl, rfl⟩
    have e1 := pl_errs K c 1 k0 k7 c0 c1 (by omega)
    have e5 : errsP (plainM K c) 0 = errsP (plainM K c) 1 := by
      unfold errsP
      rw [pl_refsv, hn.2]
      rfl
    rw [e5, e1]
    rfl
end Go.Proofs.YtpmmnjeomdjakaaDoor
